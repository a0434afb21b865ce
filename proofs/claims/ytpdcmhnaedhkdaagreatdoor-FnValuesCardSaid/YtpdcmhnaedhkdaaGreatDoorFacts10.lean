/- What is known of values, a rounding of them, and its errors. -/
import Derived.Test.YtpdcmhnaedhkdaaGreatDoorErrs
import Derived.Test.YtpdcmhnaedhkdaaGreatDoorSums
namespace Go.Proofs.YtpdcmhnaedhkdaaGreatDoor
open Go.ChangeShapes Go.WideShapes Go.ChangeAt Go.RowKit
set_option linter.unusedVariables false
theorem fl_ce (a b : Int) (hb : 1 ≤ b) : fl a b ≤ ce a b ∧ ce a b ≤ fl a b + 1 ∧ b * ce a b < a + b ∧ a ≤ b * ce a b := by
  obtain ⟨h1, h2⟩ := fl_mul (a := a) hb
  obtain ⟨h3, h4⟩ := fl_mul (a := -a) hb
  rw [ce_eq]
  have e : b * -fl (-a) b = -(b * fl (-a) b) := by rw [Int.mul_neg]
  have h5 : b * fl a b ≤ b * -fl (-a) b := by omega
  have h6 : b * -fl (-a) b < b * (fl a b + 2) := by
    have : b * (fl a b + 2) = b * fl a b + 2 * b := by rw [Int.mul_add, Int.mul_comm b 2]
    omega
  have h7 := Int.le_of_mul_le_mul_left h5 (by omega)
  have h8 := Int.lt_of_mul_lt_mul_left h6 (by omega)
  exact ⟨h7, by omega, by omega, by omega⟩
theorem ne_or (a b : Int) (hb : 1 ≤ b) : ne a b = fl a b ∨ ne a b = ce a b := by
  obtain ⟨h1, h2⟩ := fl_mul (a := a) hb
  obtain ⟨h3, h4, h5, h6⟩ := fl_ce a b hb
  have hup : ∀ q : Int, b < 2 * (a - b * fl a b) ∨ 2 * (a - b * fl a b) = b → fl a b + 1 = ce a b := by
    intro _ h
    rcases Int.lt_or_eq_of_le h3 with h7 | h7
    · omega
    · exfalso; rw [← h7] at h6; omega
  rcases Int.lt_trichotomy (2 * (a - b * fl a b)) b with h | h | h
  · exact .inl (ne_a h).symm
  · by_cases h7 : (fl a b).tmod 2 = 0
    · exact .inl (ne_b h h7).symm
    · exact .inr (by rw [← ne_c h h7, hup 0 (.inr h)])
  · exact .inr (by rw [← ne_d h, hup 0 (.inl h)])
theorem errsL_sum (g : Int) : ∀ (zs ls : List Int), ls.length = zs.length → (errsL g zs ls).sum = g * ls.sum - zs.sum := by
  intro zs ls h
  unfold errsL
  induction zs generalizing ls with
  | nil => cases ls with
    | nil => simp
    | cons y t => simp at h
  | cons x r ih => cases ls with
    | nil => simp at h
    | cons y t =>
      have := ih t (by simpa using h)
      simp only [List.zipWith_cons_cons, List.sum_cons, this, Int.mul_add]
      omega
theorem rndB_ne (g : Int) (vs : List Int) (hg : 1 ≤ g) (h : okV g vs = true) : rndB g vs (vs.map (fun z => ne z g)) = true := by
  unfold rndB
  rw [h, List.length_map, decide_eq_true (rfl : vs.length = vs.length), Bool.true_and, Bool.true_and, decide_eq_true_eq]
  intro j hj
  have e : (vs.map (fun z => ne z g)).getD j 0 = ne (vs.getD j 0) g := by simp [List.getD_eq_getElem?_getD, List.getElem?_eq_getElem hj]
  rw [e]; exact ne_or _ _ hg
theorem errs_small (g : Int) (vs rs : List Int) (hg : 1 ≤ g) (hl : rs.length = vs.length) (hv : ∀ j, j < vs.length → rs.getD j 0 = fl (vs.getD j 0) g ∨ rs.getD j 0 = ce (vs.getD j 0) g) : ∀ z ∈ errsL g vs rs, -g < z ∧ z < g := by
  intro z hz
  obtain ⟨k, hk, rfl⟩ := List.getElem_of_mem hz
  have e := errsL_get g vs rs hl k (by rw [errsL_len g vs rs hl] at hk; exact hk)
  rw [getD_get _ k hk] at e
  rw [e]
  rw [errsL_len g vs rs hl] at hk
  obtain ⟨q1, q2, q3, q4⟩ := fl_ce (vs.getD k 0) g hg
  obtain ⟨q5, q6⟩ := fl_mul (a := vs.getD k 0) hg
  rcases hv k (by omega) with e | e <;> rw [e] <;> omega
theorem sum_bd40 (zs : List Int) (hb : ∀ z ∈ zs, -1000000000 ≤ z ∧ z ≤ 1000000000) (hl : zs.length ≤ 40) : -40000000000 ≤ zs.sum ∧ zs.sum ≤ 40000000000 := by
  have h := sum_take_bd 1000000000 40 (by omega) zs hb (by omega) zs.length
  rw [List.take_length] at h; omega
end Go.Proofs.YtpdcmhnaedhkdaaGreatDoor
