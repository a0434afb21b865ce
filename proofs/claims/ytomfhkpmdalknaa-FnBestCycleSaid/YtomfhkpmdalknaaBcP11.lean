/- The best cycle: the model's search, number by number, and that the floor and the ceiling are enough (pure). -/
import Derived.Test.YtomfhkpmdalknaaGreat
import Derived.Test.YtomfhkpmdalknaaDivs
namespace Go.Proofs.Ytomfhkpmdalknaa
open Go.ChangeShapes Go.WideShapes Go.ChangeAt Go.RowKit
set_option linter.unusedVariables false
/-- How far k / n is from num / den, times den and n. -/
def bcD (num den k n : Int) : Int := ab (k * den - num * n)
/-- k / n instead of what was found, if it is nearer. -/
def bcU (num den : Int) (s : Int × Int) (k n : Int) : Int × Int := if bcD num den k n * s.2 < bcD num den s.1 s.2 * n then (k, n) else s
/-- Behind the first m numbers of leap years, at n years. -/
def bcK (num den : Int) (s : Int × Int) (n : Int) : Nat → Int × Int
  | 0 => s
  | m + 1 => bcU num den (bcK num den s n m) (m : Int) n
/-- Behind the first m cycles. -/
def bcN (num den : Int) : Nat → Int × Int
  | 0 => (0, 1)
  | m + 1 => bcK num den (bcN num den m) ((m : Int) + 1) (m + 2)
theorem bcU_in {num den : Int} {s : Int × Int} {k n M : Int} (hs : 0 ≤ s.1 ∧ s.1 ≤ s.2 ∧ 1 ≤ s.2 ∧ s.2 ≤ M) (hk : 0 ≤ k ∧ k ≤ n ∧ 1 ≤ n ∧ n ≤ M) : 0 ≤ (bcU num den s k n).1 ∧ (bcU num den s k n).1 ≤ (bcU num den s k n).2 ∧ 1 ≤ (bcU num den s k n).2 ∧ (bcU num den s k n).2 ≤ M := by
  unfold bcU; split
  · exact hk
  · exact hs
theorem bcK_in {num den : Int} {s : Int × Int} {n M : Int} (hs : 0 ≤ s.1 ∧ s.1 ≤ s.2 ∧ 1 ≤ s.2 ∧ s.2 ≤ M) (hn : 1 ≤ n ∧ n ≤ M) : ∀ m : Nat, (m : Int) ≤ n + 1 → 0 ≤ (bcK num den s n m).1 ∧ (bcK num den s n m).1 ≤ (bcK num den s n m).2 ∧ 1 ≤ (bcK num den s n m).2 ∧ (bcK num den s n m).2 ≤ M := by
  intro m
  induction m with
  | zero => intro _; exact hs
  | succ m ih => intro hm; exact bcU_in (ih (by omega)) (by omega)
theorem bcN_in {num den : Int} {M : Nat} (hM : 1 ≤ M) : ∀ m : Nat, m ≤ M → 0 ≤ (bcN num den m).1 ∧ (bcN num den m).1 ≤ (bcN num den m).2 ∧ 1 ≤ (bcN num den m).2 ∧ (bcN num den m).2 ≤ M := by
  intro m
  induction m with
  | zero => intro _; exact ⟨by simp [bcN], by simp [bcN], by simp [bcN], by simp [bcN]; omega⟩
  | succ m ih => intro hm; exact bcK_in (ih (by omega)) (by omega) (m + 2) (by omega)
theorem bc_bd {num den k n : Int} (hd : 1 ≤ den ∧ den ≤ 1000) (hu : 0 ≤ num ∧ num ≤ den) (hk : 0 ≤ k ∧ k ≤ n) (hn : n ≤ 400) : (0 ≤ k * den ∧ k * den ≤ 400000) ∧ (0 ≤ num * n ∧ num * n ≤ 400000) ∧ (0 ≤ bcD num den k n ∧ bcD num den k n ≤ 400000) := by
  have m1 := Int.mul_nonneg hk.1 (show 0 ≤ den by omega)
  have m2 := Int.mul_le_mul (show k ≤ 400 by omega) hd.2 (by omega) (by omega)
  have m3 := Int.mul_nonneg hu.1 (show 0 ≤ n by omega)
  have m4 := Int.mul_le_mul (show num ≤ 1000 by omega) hn (by omega) (by omega)
  exact ⟨⟨m1, by omega⟩, ⟨m3, by omega⟩, ab_bd (by omega)⟩
/-- A distance times a number of years stays small. -/
theorem bc_bd2 {D n : Int} (hD : 0 ≤ D ∧ D ≤ 400000) (hn : 0 ≤ n ∧ n ≤ 400) : 0 ≤ D * n ∧ D * n ≤ 160000000 := by
  have m1 := Int.mul_nonneg hD.1 hn.1
  have m2 := Int.mul_le_mul hD.2 hn.2 hn.1 (by omega)
  exact ⟨m1, by omega⟩
/-- Up to the floor each number is nearer than the one before it. -/
theorem bcK_low {num den : Int} {s : Int × Int} {n : Int} (hd : 1 ≤ den) (hs : 1 ≤ s.2) (hn : 1 ≤ n) : ∀ m : Nat, (m : Int) * den ≤ num * n → bcK num den s n (m + 1) = bcU num den s (m : Int) n := by
  intro m
  induction m with
  | zero => intro _; rfl
  | succ m ih =>
    intro hm
    have e1 : ((m + 1 : Nat) : Int) * den = (m : Int) * den + den := by rw [Int.natCast_add, Int.add_mul]; simp
    have ih := ih (by omega)
    show bcU num den (bcK num den s n (m + 1)) ((m + 1 : Nat) : Int) n = _
    rw [ih]
    have d0 : bcD num den (m : Int) n = num * n - (m : Int) * den := by unfold bcD ab; split <;> omega
    have d1 : bcD num den ((m + 1 : Nat) : Int) n = num * n - ((m + 1 : Nat) : Int) * den := by unfold bcD ab; split <;> omega
    by_cases c : bcD num den (m : Int) n * s.2 < bcD num den s.1 s.2 * n
    · have h1 : bcU num den s (m : Int) n = ((m : Int), n) := by unfold bcU; rw [if_pos c]
      rw [h1]
      have hlt : bcD num den ((m + 1 : Nat) : Int) n < bcD num den (m : Int) n := by omega
      have p1 := Int.mul_lt_mul_of_pos_right hlt (show 0 < n by omega)
      have p2 := Int.mul_le_mul_of_nonneg_right (Int.le_of_lt hlt) (show 0 ≤ s.2 by omega)
      unfold bcU
      rw [if_pos p1, if_pos (by omega)]
    · have h1 : bcU num den s (m : Int) n = s := by unfold bcU; rw [if_neg c]
      rw [h1]
/-- Behind a number as near as the ceiling, none is nearer. -/
theorem bcK_high {num den : Int} {s : Int × Int} {n : Int} (hd : 1 ≤ den) (m0 : Nat) (hm0 : num * n ≤ (m0 : Int) * den) (h2 : 1 ≤ (bcK num den s n (m0 + 1)).2) (h : bcD num den (bcK num den s n (m0 + 1)).1 (bcK num den s n (m0 + 1)).2 * n ≤ bcD num den (m0 : Int) n * (bcK num den s n (m0 + 1)).2) : ∀ j : Nat, bcK num den s n (m0 + 1 + j) = bcK num den s n (m0 + 1) := by
  intro j
  induction j with
  | zero => rfl
  | succ j ih =>
    show bcU num den (bcK num den s n (m0 + 1 + j)) ((m0 + 1 + j : Nat) : Int) n = _
    rw [ih]
    have e1 : ((m0 + 1 + j : Nat) : Int) * den = (m0 : Int) * den + ((1 + j : Nat) : Int) * den := by rw [show ((m0 + 1 + j : Nat) : Int) = (m0 : Int) + ((1 + j : Nat) : Int) by omega, Int.add_mul]
    have e2 : 0 ≤ ((1 + j : Nat) : Int) * den := Int.mul_nonneg (by omega) (by omega)
    have d0 : bcD num den (m0 : Int) n = (m0 : Int) * den - num * n := by unfold bcD ab; split <;> omega
    have d1 : bcD num den ((m0 + 1 + j : Nat) : Int) n = ((m0 + 1 + j : Nat) : Int) * den - num * n := by unfold bcD ab; split <;> omega
    have p1 := Int.mul_le_mul_of_nonneg_right (show bcD num den (m0 : Int) n ≤ bcD num den ((m0 + 1 + j : Nat) : Int) n by omega) (show 0 ≤ (bcK num den s n (m0 + 1)).2 by omega)
    unfold bcU
    rw [if_neg (by omega)]
/-- The update leaves what is at least as near as what was offered. -/
theorem bcU_near {num den : Int} {s : Int × Int} {k n : Int} : bcD num den (bcU num den s k n).1 (bcU num den s k n).2 * n ≤ bcD num den k n * (bcU num den s k n).2 := by
  unfold bcU
  split
  · exact Int.le_refl _
  · show bcD num den s.1 s.2 * n ≤ bcD num den k n * s.2
    omega
/-- The floor and the ceiling are enough. -/
theorem bcK_two {num den : Int} {s : Int × Int} {n : Int} (hd : 1 ≤ den) (hu : 0 ≤ num ∧ num ≤ den) (hs : 0 ≤ s.1 ∧ s.1 ≤ s.2 ∧ 1 ≤ s.2) (n1 : 1 ≤ n) : bcK num den s n (n.toNat + 1) = bcU num den (bcU num den s (fl (num * n) den) n) (ce (num * n) den) n := by
  have hnn : 0 ≤ num * n := Int.mul_nonneg hu.1 (by omega)
  have hle : num * n ≤ n * den := by rw [Int.mul_comm n den]; exact Int.mul_le_mul_of_nonneg_right hu.2 (by omega)
  obtain ⟨f1, f2⟩ := fl_mul (a := num * n) (b := den) hd
  have f0 : 0 ≤ fl (num * n) den := Int.ediv_nonneg hnn (by omega)
  have fn : fl (num * n) den ≤ n := by
    by_cases c : fl (num * n) den ≤ n
    · exact c
    · have := Int.mul_le_mul_of_nonneg_left (show n + 1 ≤ fl (num * n) den by omega) (show 0 ≤ den by omega)
      rw [Int.mul_add, Int.mul_comm den n] at this; omega
  obtain ⟨f, hf⟩ : ∃ f : Nat, fl (num * n) den = f := ⟨(fl (num * n) den).toNat, by omega⟩
  rw [hf] at f1 f2 f0 fn ⊢
  have hl := bcK_low (s := s) (num := num) hd hs.2.2 n1 f (by rw [Int.mul_comm]; exact f1)
  have hin : ∀ m : Nat, (m : Int) ≤ n + 1 → 1 ≤ (bcK num den s n m).2 := fun m hm => (bcK_in (M := max s.2 n) ⟨hs.1, hs.2.1, hs.2.2, by omega⟩ ⟨n1, by omega⟩ m hm).2.2.1
  by_cases c : den * (f : Int) = num * n
  · -- no remainder: floor and ceiling are one
    have hce : ce (num * n) den = (f : Int) := by
      unfold ce
      rw [show -(num * n) = den * (-(f : Int)) by rw [Int.mul_neg, c], Int.mul_ediv_cancel_left _ (by omega)]; omega
    rw [hce]
    have hh := bcK_high (s := s) (num := num) (n := n) hd f (by rw [Int.mul_comm (f : Int) den, c]; exact Int.le_refl _) (hin (f + 1) (by omega)) (by rw [hl]; exact bcU_near) (n.toNat - f)
    rw [show f + 1 + (n.toNat - f) = n.toNat + 1 by omega, hl] at hh
    rw [hh]
    have h3 := bcU_near (num := num) (den := den) (s := s) (k := (f : Int)) (n := n)
    generalize bcU num den s (f : Int) n = q at *
    have hx : ¬ bcD num den (f : Int) n * q.2 < bcD num den q.1 q.2 * n := by omega
    unfold bcU
    rw [if_neg hx]
  · have hce : ce (num * n) den = ((f + 1 : Nat) : Int) := by
      have e := fl_eq (a := -(num * n)) (b := den) (q := -((f : Int) + 1)) hd (by rw [Int.mul_neg, Int.mul_add]; omega) (by rw [Int.mul_neg, Int.mul_add]; omega)
      rw [ce_eq, e]; omega
    rw [hce]
    have hfn : (f : Int) + 1 ≤ n := by
      by_cases q : (f : Int) + 1 ≤ n
      · exact q
      · have hfe : (f : Int) = n := by omega
        rw [hfe, Int.mul_comm den n] at f1 c; omega
    have hs2 : bcK num den s n (f + 1 + 1) = bcU num den (bcU num den s (f : Int) n) ((f + 1 : Nat) : Int) n := by
      show bcU num den (bcK num den s n (f + 1)) ((f + 1 : Nat) : Int) n = _
      rw [hl]
    have e9 : ((f + 1 : Nat) : Int) * den = den * (f : Int) + den := by rw [Int.natCast_add, Int.add_mul, Int.mul_comm den]; simp
    have hh := bcK_high (s := s) (num := num) (n := n) hd (f + 1) (by omega) (hin (f + 1 + 1) (by omega)) (by rw [hs2]; exact bcU_near) (n.toNat - (f + 1))
    rw [show f + 1 + 1 + (n.toNat - (f + 1)) = n.toNat + 1 by omega, hs2] at hh
    exact hh
/-- The quotients of the first m cycles: the floor and the ceiling. -/
def bcQ (num den : Int) : Nat → List (Int × Int)
  | 0 => []
  | m + 1 => bcQ num den m ++ [(fl (num * ((m : Int) + 1)) den, (m : Int) + 1), (ce (num * ((m : Int) + 1)) den, (m : Int) + 1)]
theorem bcQ_len (num den : Int) : ∀ m, (bcQ num den m).length = 2 * m := by
  intro m; induction m with
  | zero => rfl
  | succ m ih => rw [bcQ, List.length_append, ih]; simp; omega
/-- Behind the first elements of a list. -/
def bcS (num den : Int) (L : List (Int × Int)) : Nat → Int × Int
  | 0 => L.getD 0 (0, 1)
  | k + 1 => bcU num den (bcS num den L k) (L.getD (k + 1) (0, 1)).1 (L.getD (k + 1) (0, 1)).2
theorem bcQ_get (num den : Int) (m j : Nat) : ∀ d : Nat, j < 2 * m → (bcQ num den (m + d)).getD j (0, 1) = (bcQ num den m).getD j (0, 1) := by
  intro d hj
  induction d with
  | zero => rfl
  | succ d ih =>
    show (bcQ num den (m + d) ++ _).getD j (0, 1) = _
    rw [← ih, List.getD_eq_getElem?_getD, List.getD_eq_getElem?_getD, List.getElem?_append_left (by rw [bcQ_len]; omega)]
theorem bcQ_two (num den : Int) (m d : Nat) : (bcQ num den (m + 1 + d)).getD (2 * m) (0, 1) = (fl (num * ((m : Int) + 1)) den, (m : Int) + 1) ∧ (bcQ num den (m + 1 + d)).getD (2 * m + 1) (0, 1) = (ce (num * ((m : Int) + 1)) den, (m : Int) + 1) := by
  rw [bcQ_get num den (m + 1) (2 * m) d (by omega), bcQ_get num den (m + 1) (2 * m + 1) d (by omega)]
  have hl := bcQ_len num den m
  constructor
  · show (bcQ num den m ++ _).getD (2 * m) (0, 1) = _
    rw [List.getD_eq_getElem?_getD, List.getElem?_append_right (by omega), hl, Nat.sub_self]; rfl
  · show (bcQ num den m ++ _).getD (2 * m + 1) (0, 1) = _
    rw [List.getD_eq_getElem?_getD, List.getElem?_append_right (by omega), hl, show 2 * m + 1 - 2 * m = 1 by omega]; rfl
theorem bcS_bcN {num den : Int} (hd : 1 ≤ den) (hu : 0 ≤ num ∧ num ≤ den) (m d : Nat) : bcS num den (bcQ num den (m + 1 + d)) (2 * m + 1) = bcN num den (m + 1) := by
  have two : ∀ m : Nat, bcN num den (m + 1) = bcU num den (bcU num den (bcN num den m) (fl (num * ((m : Int) + 1)) den) ((m : Int) + 1)) (ce (num * ((m : Int) + 1)) den) ((m : Int) + 1) := by
    intro m
    have hin := bcN_in (num := num) (den := den) (M := m + 1) (by omega) m (by omega)
    have h := bcK_two (s := bcN num den m) (n := (m : Int) + 1) hd hu ⟨hin.1, hin.2.1, hin.2.2.1⟩ (by omega)
    rw [show ((m : Int) + 1).toNat + 1 = m + 2 by omega] at h
    exact h
  induction m generalizing d with
  | zero =>
    have h := bcQ_two num den 0 d
    show bcU num den ((bcQ num den (0 + 1 + d)).getD 0 (0, 1)) ((bcQ num den (0 + 1 + d)).getD 1 (0, 1)).1 ((bcQ num den (0 + 1 + d)).getD 1 (0, 1)).2 = _
    rw [show (bcQ num den (0 + 1 + d)).getD 0 (0, 1) = _ from h.1, show (bcQ num den (0 + 1 + d)).getD 1 (0, 1) = _ from h.2, two 0]
    congr 1
    show (fl (num * ((0 : Int) + 1)) den, (0 : Int) + 1) = bcU num den (0, 1) (fl (num * ((0 : Int) + 1)) den) ((0 : Int) + 1)
    rw [show ((0 : Int) + 1) = 1 from rfl, Int.mul_one]
    by_cases c : num = den
    · have hf : fl num den = 1 := fl_eq hd (by omega) (by omega)
      rw [hf]; unfold bcU
      rw [if_pos (by unfold bcD ab; simp only [Int.one_mul, Int.mul_one, Int.zero_mul, c]; split <;> split <;> omega)]
    · have hf : fl num den = 0 := fl_eq hd (by omega) (by omega)
      rw [hf]; unfold bcU; split <;> rfl
  | succ m ih =>
    have h := bcQ_two num den (m + 1) d
    have ih := ih (1 + d)
    rw [show m + 1 + (1 + d) = m + 1 + 1 + d by omega] at ih
    show bcU num den (bcU num den (bcS num den (bcQ num den (m + 1 + 1 + d)) (2 * m + 1)) ((bcQ num den (m + 1 + 1 + d)).getD (2 * m + 1 + 1) (0, 1)).1 ((bcQ num den (m + 1 + 1 + d)).getD (2 * m + 1 + 1) (0, 1)).2) ((bcQ num den (m + 1 + 1 + d)).getD (2 * m + 1 + 1 + 1) (0, 1)).1 ((bcQ num den (m + 1 + 1 + d)).getD (2 * m + 1 + 1 + 1) (0, 1)).2 = _
    rw [ih, show 2 * m + 1 + 1 = 2 * (m + 1) by omega, h.1, h.2, two (m + 1)]
def bcB (num den most : Int) : Bool := inB den 1 1000 && (inB num 0 den && inB most 1 400)
def bcV (num den most : Int) : Int × Int := if bcB num den most then bcN num den most.toNat else (0, 0)
end Go.Proofs.Ytomfhkpmdalknaa
