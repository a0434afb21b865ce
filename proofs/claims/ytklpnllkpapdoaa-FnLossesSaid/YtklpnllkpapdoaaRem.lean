/- Greatest remainders, as mathematics: who comes before whom, ranks, and the seats that they give. -/
import Derived.Test.YtklpnllkpapdoaaQuotas
namespace Go.Proofs.Ytklpnllkpapdoaa
open Go.ChangeShapes Go.WideShapes Go.ChangeAt Go.RowKit
set_option linter.unusedVariables false
/-- The party a comes before b: its rest is greater, or as great and its index less. -/
def bef (R : List Int) (a b : Nat) : Bool := decide (R.getD b 0 < R.getD a 0) || (decide (R.getD a 0 = R.getD b 0) && decide (a < b))
theorem bef_iff {R : List Int} {a b : Nat} : bef R a b = true ↔ R.getD b 0 < R.getD a 0 ∨ (R.getD a 0 = R.getD b 0 ∧ a < b) := by simp [bef]
theorem bef_not {R : List Int} {a b : Nat} : bef R a b = false ↔ ¬ (R.getD b 0 < R.getD a 0 ∨ (R.getD a 0 = R.getD b 0 ∧ a < b)) := by rw [← bef_iff]; simp
theorem bef_irr (R : List Int) (a : Nat) : bef R a a = false := by rw [bef_not]; omega
theorem bef_tr {R : List Int} {a b c : Nat} (h1 : bef R a b = true) (h2 : bef R b c = true) : bef R a c = true := by
  rw [bef_iff] at *; omega
theorem bef_tot {R : List Int} {a b : Nat} (h : bef R a b = false) (hne : a ≠ b) : bef R b a = true := by
  rw [bef_not] at h; rw [bef_iff]; omega
theorem bef_asym {R : List Int} {a b : Nat} (h : bef R a b = true) : bef R b a = false := by rw [bef_iff] at h; rw [bef_not]; omega
/-- How many of the first n come before i. -/
def rk (R : List Int) (n i : Nat) : Nat := (List.range n).countP fun j => bef R j i
theorem countP_mono {p q : Nat → Bool} (l : List Nat) (h : ∀ x ∈ l, p x = true → q x = true) : l.countP p ≤ l.countP q := by
  induction l with
  | nil => simp
  | cons a t ih =>
    have h1 := ih (fun x hx => h x (by simp [hx]))
    simp only [List.countP_cons]
    by_cases hp : p a = true
    · rw [if_pos hp, if_pos (h a (by simp) hp)]; omega
    · rw [if_neg hp]; split <;> omega
theorem countP_lt {p q : Nat → Bool} (l : List Nat) (h : ∀ x ∈ l, p x = true → q x = true) (a : Nat) (ha : a ∈ l) (h1 : p a = false) (h2 : q a = true) : l.countP p < l.countP q := by
  induction l with
  | nil => cases ha
  | cons b t ih =>
    simp only [List.countP_cons]
    rcases List.mem_cons.1 ha with e | e
    · subst e
      have := countP_mono t (fun x hx => h x (by simp [hx]))
      rw [if_neg (by simp [h1]), if_pos h2]; omega
    · have h3 := ih (fun x hx => h x (by simp [hx])) e
      by_cases hp : p b = true
      · rw [if_pos hp, if_pos (h b (by simp) hp)]; omega
      · rw [if_neg hp]; split <;> omega
theorem rk_lt_of_bef {R : List Int} {n a b : Nat} (ha : a < n) (h : bef R a b = true) : rk R n a < rk R n b :=
  countP_lt _ (fun x _ hx => bef_tr hx h) a (List.mem_range.2 ha) (bef_irr R a) h
theorem rk_inj {R : List Int} {n a b : Nat} (ha : a < n) (hb : b < n) (h : rk R n a = rk R n b) : a = b := by
  by_cases e : a = b
  · exact e
  · exfalso
    cases h1 : bef R a b
    · have := rk_lt_of_bef hb (bef_tot h1 e); omega
    · have := rk_lt_of_bef ha h1; omega
theorem rk_bef {R : List Int} {n a b : Nat} (ha : a < n) (hb : b < n) (h : rk R n a < rk R n b) : bef R a b = true := by
  cases h1 : bef R a b
  · by_cases e : a = b
    · subst e; omega
    · have := rk_lt_of_bef hb (bef_tot h1 e); omega
  · rfl
/-- In an order of all, sorted, each stands at its rank. -/
theorem rk_at {R : List Int} {n : Nat} {p : List Nat} (hp : p.Perm (List.range n)) (hs : ∀ i j, i < j → j < n → bef R (p.getD j 0) (p.getD i 0) = false) (r : Nat) (hr : r < n) : rk R n (p.getD r 0) = r := by
  have hl : p.length = n := by rw [hp.length_eq, List.length_range]
  have hnd : p.Nodup := hp.nodup_iff.2 List.nodup_range
  have hg : ∀ i, i < n → p.getD i 0 = p[i]! := fun i hi => by simp [List.getD_eq_getElem?_getD, hl, hi]
  have hne : ∀ i j, i < j → j < n → p.getD i 0 ≠ p.getD j 0 := fun i j hij hj h => by
    rw [List.getD_eq_getElem?_getD, List.getD_eq_getElem?_getD, List.getElem?_eq_getElem (by omega), List.getElem?_eq_getElem (by omega)] at h
    have := (List.getElem_inj (h₀ := by omega) (h₁ := by omega) hnd).1 h
    omega
  have e1 : (p.take r).countP (fun j => bef R j (p.getD r 0)) = r := by
    rw [List.countP_eq_length.2]
    · rw [List.length_take]; omega
    · intro x hx
      obtain ⟨i, hi, rfl⟩ := List.getElem_of_mem hx
      rw [List.length_take] at hi
      have h1 := hs i r (by omega) hr
      have h2 := hne i r (by omega) hr
      rw [List.getElem_take]
      have e : p[i]'(by omega) = p.getD i 0 := by rw [List.getD_eq_getElem?_getD, List.getElem?_eq_getElem (by omega)]; rfl
      rw [e]
      exact bef_tot h1 (fun h => h2 h.symm)
  have e2 : (p.drop r).countP (fun j => bef R j (p.getD r 0)) = 0 := by
    rw [List.countP_eq_zero]
    intro x hx
    obtain ⟨i, hi, rfl⟩ := List.getElem_of_mem hx
    rw [List.length_drop] at hi
    rw [List.getElem_drop]
    have e : p[r + i]'(by omega) = p.getD (r + i) 0 := by rw [List.getD_eq_getElem?_getD, List.getElem?_eq_getElem (by omega)]; rfl
    rw [e]
    rcases Nat.eq_zero_or_pos i with h0 | h0
    · subst h0; rw [Nat.add_zero, bef_irr]; simp
    · rw [hs r (r + i) (by omega) (by omega)]; simp
  unfold rk
  rw [← hp.countP_eq]
  generalize p.getD r 0 = q at e1 e2 ⊢
  rw [← List.take_append_drop r p, List.countP_append, e1, e2, Nat.add_zero]
/-- There is an order of all. -/
theorem order_ex (R : List Int) (n : Nat) : ∃ p : List Nat, p.Perm (List.range n) ∧ ∀ i j, i < j → j < n → bef R (p.getD j 0) (p.getD i 0) = false := by
  refine ⟨(List.range n).mergeSort (fun a b => !bef R b a), List.mergeSort_perm _ _, fun i j hij hj => ?_⟩
  have hs := List.pairwise_mergeSort (le := fun a b => !bef R b a) (fun a b c h1 h2 => by
    simp only [Bool.not_eq_true', bef_not] at *; omega) (fun a b => by
    cases h : bef R b a
    · simp
    · simp [bef_asym h]) (List.range n)
  have hl : ((List.range n).mergeSort (fun a b => !bef R b a)).length = n := by rw [List.length_mergeSort, List.length_range]
  have := List.pairwise_iff_getElem.1 hs i j (by omega) (by omega) hij
  rw [List.getD_eq_getElem?_getD, List.getD_eq_getElem?_getD, List.getElem?_eq_getElem (by omega), List.getElem?_eq_getElem (by omega)]
  simpa using this
theorem rk_sur {R : List Int} {n m : Nat} (h : m < n) : ∃ i, i < n ∧ rk R n i = m := by
  obtain ⟨p, hp, hs⟩ := order_ex R n
  have hl : p.length = n := by rw [hp.length_eq, List.length_range]
  refine ⟨p.getD m 0, ?_, rk_at hp hs m h⟩
  have : p.getD m 0 ∈ p := by rw [List.getD_eq_getElem?_getD, List.getElem?_eq_getElem (by omega)]; exact List.getElem_mem _
  exact List.mem_range.1 (hp.mem_iff.1 this)
/-- The rests of the quotas. -/
def rests (s : Int) (zs : List Int) : List Int := zs.map fun z => (s * z) % zs.sum
/-- Quotas rounded down, and one seat more for the first m by their rests. -/
def remTo (s : Int) (zs : List Int) (m : Nat) : List Int := (List.range zs.length).map fun i => (qLow s zs).getD i 0 + if rk (rests s zs) zs.length i < m then 1 else 0
def leftN (s : Int) (zs : List Int) : Nat := (s - (qLow s zs).sum).toNat
def remS (s : Int) (zs : List Int) : List Int := remTo s zs (leftN s zs)
theorem remTo_len (s : Int) (zs : List Int) (m : Nat) : (remTo s zs m).length = zs.length := by simp [remTo]
theorem remTo_get (s : Int) (zs : List Int) (m i : Nat) (h : i < zs.length) : (remTo s zs m).getD i 0 = (qLow s zs).getD i 0 + if rk (rests s zs) zs.length i < m then 1 else 0 := by
  unfold remTo; simp [List.getD_eq_getElem?_getD, h]
theorem qLow_get (s : Int) (zs : List Int) (i : Nat) (h : i < zs.length) : (qLow s zs).getD i 0 = fl (s * zs.getD i 0) zs.sum := by
  unfold qLow; simp [List.getD_eq_getElem?_getD, h]
theorem remTo_zero (s : Int) (zs : List Int) : remTo s zs 0 = qLow s zs := by
  apply List.ext_getElem?
  intro i
  by_cases h : i < zs.length
  · have h1 := remTo_get s zs 0 i h
    rw [if_neg (by omega), Int.add_zero] at h1
    rw [List.getD_eq_getElem?_getD, List.getD_eq_getElem?_getD] at h1
    rw [List.getElem?_eq_getElem (by rw [remTo_len]; exact h), List.getElem?_eq_getElem (by simpa [qLow] using h)] at *
    simpa using h1
  · rw [List.getElem?_eq_none (by rw [remTo_len]; omega), List.getElem?_eq_none (by simp [qLow]; omega)]
/-- The next one by rank gets its seat. -/
theorem remTo_step (s : Int) (zs : List Int) (m a : Nat) (ha : a < zs.length) (hr : rk (rests s zs) zs.length a = m) : (remTo s zs m).set a ((remTo s zs m).getD a 0 + 1) = remTo s zs (m + 1) := by
  apply List.ext_getElem?
  intro i
  by_cases h : i < zs.length
  · rw [List.getElem?_set]
    by_cases e : a = i
    · subst e
      rw [if_pos rfl, if_pos (by rw [remTo_len]; exact ha)]
      have h1 := remTo_get s zs m a ha
      have h2 := remTo_get s zs (m + 1) a ha
      rw [if_neg (by omega)] at h1
      rw [if_pos (by omega)] at h2
      rw [h1]
      rw [List.getD_eq_getElem?_getD, List.getElem?_eq_getElem (by rw [remTo_len]; exact ha)] at h2
      rw [List.getElem?_eq_getElem (by rw [remTo_len]; exact ha)]
      simp only [Option.getD_some] at h2
      rw [h2]; simp
    · rw [if_neg e]
      have hne : rk (rests s zs) zs.length i ≠ m := fun he => e (rk_inj ha h (by rw [hr, he]))
      have h1 := remTo_get s zs m i h
      have h2 := remTo_get s zs (m + 1) i h
      have h3 : (remTo s zs m).getD i 0 = (remTo s zs (m + 1)).getD i 0 := by
        rw [h1, h2]
        by_cases q : rk (rests s zs) zs.length i < m
        · rw [if_pos q, if_pos (by omega)]
        · rw [if_neg q, if_neg (by omega)]
      rw [List.getD_eq_getElem?_getD, List.getD_eq_getElem?_getD, List.getElem?_eq_getElem (by rw [remTo_len]; exact h), List.getElem?_eq_getElem (by rw [remTo_len]; exact h)] at h3
      rw [List.getElem?_eq_getElem (by rw [remTo_len]; exact h), List.getElem?_eq_getElem (by rw [remTo_len]; exact h)]
      simpa using h3
  · rw [List.getElem?_eq_none (by rw [List.length_set, remTo_len]; omega), List.getElem?_eq_none (by rw [remTo_len]; omega)]
theorem low_sum (s T : Int) (hT : 1 ≤ T) : ∀ zs : List Int, T * (zs.map fun z => fl (s * z) T).sum ≤ s * zs.sum ∧ s * zs.sum ≤ T * (zs.map fun z => fl (s * z) T).sum + T * zs.length := by
  intro zs
  induction zs with
  | nil => simp
  | cons a t ih =>
    obtain ⟨h1, h2⟩ := fl_mul (a := s * a) hT
    simp only [List.map_cons, List.sum_cons, List.length_cons]
    rw [Int.mul_add, Int.mul_add, show ((t.length + 1 : Nat) : Int) = (t.length : Int) + 1 from by omega, Int.mul_add]
    omega
theorem left_bd {s : Int} {zs : List Int} (hT : 1 ≤ zs.sum) : 0 ≤ s - (qLow s zs).sum ∧ s - (qLow s zs).sum ≤ zs.length := by
  obtain ⟨h1, h2⟩ := low_sum s zs.sum hT zs
  have e : (zs.map fun z => fl (s * z) zs.sum) = qLow s zs := rfl
  rw [e] at h1 h2
  generalize (qLow s zs).sum = L at *
  generalize zs.sum = T at *
  generalize (zs.length : Int) = n at *
  constructor
  · have h3 : T * L ≤ T * s := by rw [Int.mul_comm T s]; exact h1
    have := Int.le_of_mul_le_mul_left h3 (by omega)
    omega
  · have h3 : T * s ≤ T * (L + n) := by rw [Int.mul_add, Int.mul_comm T s]; exact h2
    have := Int.le_of_mul_le_mul_left h3 (by omega)
    omega
end Go.Proofs.Ytklpnllkpapdoaa
