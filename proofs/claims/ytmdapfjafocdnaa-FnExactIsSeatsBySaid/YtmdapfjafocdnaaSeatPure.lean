/- The comparison of worths, as the program and as the model make it. -/
import Derived.Test.YtmdapfjafocdnaaContest
namespace Go.Proofs.Ytmdapfjafocdnaa
open Go.ChangeShapes Go.WideShapes Go.ChangeAt Go.RowKit
set_option linter.unusedVariables false
def hM (M : Int) : Int := if M = 0 then 0 else if M = 2 then 1 else 2
def nM (M v : Int) : Int := if M = 1 then v * v else v
def dM (M v k : Int) : Int := wd (nM M v) (if M = 1 then k * (k + 1) else 2 * k + hM M)
def divM (M k : Int) : Int := if M = 0 then 4 * k * k else if M = 1 then 4 * k * (k + 1) else if M = 2 then (2 * k + 1) * (2 * k + 1) else 4 * (k + 1) * (k + 1)
def cL (v w d e : Int) : Int := if v = 0 ∨ w = 0 then v else if d = 0 ∧ e = 0 then v else if d = 0 ∨ e = 0 then e else v * v * e
def cR (v w d e : Int) : Int := if v = 0 ∨ w = 0 then w else if d = 0 ∧ e = 0 then w else if d = 0 ∨ e = 0 then d else w * w * d
theorem sgn_neg {a b : Int} : sgn a b < 0 ↔ a < b := by unfold sgn; (repeat' split) <;> omega
theorem sq_lt {a b : Int} (ha : 0 ≤ a) (hb : 0 ≤ b) : a * a < b * b ↔ a < b := by
  constructor
  · intro h
    rcases Int.lt_or_le a b with h1 | h1
    · exact h1
    · have := Int.mul_le_mul h1 h1 hb ha; omega
  · intro h
    have h1 : a * a ≤ a * b := Int.mul_le_mul_of_nonneg_left (by omega) ha
    have h2 : a * b < b * b := Int.mul_lt_mul_of_pos_right h (by omega)
    omega
theorem pos_mul {a b : Int} (ha : 0 < a) (hb : 0 < b) : 0 < a * b := Int.mul_pos ha hb
theorem ring0 (v m : Int) : v * v * (4 * m * m) = v * (2 * m) * (v * (2 * m)) := by grind
theorem ring2 (v m : Int) : v * v * ((2 * m + 1) * (2 * m + 1)) = v * (2 * m + 1) * (v * (2 * m + 1)) := by grind
theorem ring3 (v m : Int) : v * v * (4 * (m + 1) * (m + 1)) = v * (2 * m + 2) * (v * (2 * m + 2)) := by grind
theorem ring1 (v m : Int) : v * v * (4 * m * (m + 1)) = 4 * (v * v * (m * (m + 1))) := by grind
theorem cmp_same (M v k w m : Int) (hM0 : 0 ≤ M) (hM3 : M ≤ 3) (v0 : 0 ≤ v) (w0 : 0 ≤ w) (k0 : 0 ≤ k) (m0 : 0 ≤ m) :
    sgn (cL v w (divM M k) (divM M m)) (cR v w (divM M k) (divM M m)) < 0 ↔ cmpW (nM M v) (dM M v k) (nM M w) (dM M w m) < 0 := by
  rw [sgn_neg]
  by_cases hv : v = 0
  · subst hv
    have e1 : nM M 0 = 0 := by unfold nM; split <;> simp
    have e2 : dM M 0 k = 1 := by unfold dM wd; rw [e1]; simp
    rw [e1, e2, cmpW, if_neg (by omega), sgn_neg, cL, cR, if_pos (.inl rfl), if_pos (.inl rfl)]
    unfold nM
    split
    · rw [Int.zero_mul, Int.mul_one]
      constructor
      · intro h; exact pos_mul h h
      · intro h
        rcases Int.lt_or_eq_of_le w0 with h1 | h1
        · exact h1
        · rw [← h1] at h; simp at h
    · rw [Int.zero_mul, Int.mul_one]
  by_cases hw : w = 0
  · subst hw
    have e1 : nM M 0 = 0 := by unfold nM; split <;> simp
    have e2 : dM M 0 m = 1 := by unfold dM wd; rw [e1]; simp
    have e3 : 0 ≤ nM M v := by unfold nM; split; · exact Int.mul_nonneg v0 v0
                               · exact v0
    rw [e1, e2, cmpW, if_neg (by omega), sgn_neg, cL, cR, if_pos (.inr rfl), if_pos (.inr rfl)]
    omega
  have hv1 : 0 < v := by omega
  have hw1 : 0 < w := by omega
  have hcL : ¬ (v = 0 ∨ w = 0) := by omega
  unfold cL cR
  rw [if_neg hcL, if_neg hcL]
  have hcase : M = 0 ∨ M = 1 ∨ M = 2 ∨ M = 3 := by omega
  rcases hcase with rfl | rfl | rfl | rfl
  · -- Adams
    have a1 : nM 0 v = v := by simp [nM]
    have a2 : nM 0 w = w := by simp [nM]
    have a3 : dM 0 v k = 2 * k := by simp [dM, wd, nM, hM, hv]
    have a4 : dM 0 w m = 2 * m := by simp [dM, wd, nM, hM, hw]
    have a5 : divM 0 k = 4 * k * k := by simp [divM]
    have a6 : divM 0 m = 4 * m * m := by simp [divM]
    rw [a1, a2, a3, a4, a5, a6, cmpW]
    by_cases hk : k = 0
    · subst hk
      by_cases hm : m = 0
      · subst hm
        rw [if_pos (by simp), if_pos (by simp), if_pos (by simp), sgn_neg]
      · have hp : 0 < 4 * m * m := pos_mul (by omega) (by omega)
        have hq : 0 < v * (2 * m) := pos_mul hv1 (by omega)
        rw [if_neg (by omega), if_pos (by simp), if_neg (by omega), if_pos (by simp), if_neg (by omega), sgn_neg]
        simp; omega
    · have hp : 0 < 4 * k * k := pos_mul (by omega) (by omega)
      by_cases hm : m = 0
      · subst hm
        have hq : 0 < w * (2 * k) := pos_mul hw1 (by omega)
        rw [if_neg (by omega), if_pos (by simp), if_neg (by omega), if_pos (by simp), if_neg (by omega), sgn_neg]
        simp; omega
      · have hp2 : 0 < 4 * m * m := pos_mul (by omega) (by omega)
        rw [if_neg (by omega), if_neg (by omega), if_neg (by omega), if_neg (by omega), if_neg (by omega), sgn_neg, ring0, ring0]
        exact sq_lt (Int.mul_nonneg v0 (by omega)) (Int.mul_nonneg w0 (by omega))
  · -- Hill
    have hvv : 0 < v * v := pos_mul hv1 hv1
    have hww : 0 < w * w := pos_mul hw1 hw1
    have a1 : nM 1 v = v * v := by simp [nM]
    have a2 : nM 1 w = w * w := by simp [nM]
    have a3 : dM 1 v k = k * (k + 1) := by simp [dM, wd, nM]; intro h; omega
    have a4 : dM 1 w m = m * (m + 1) := by simp [dM, wd, nM]; intro h; omega
    have a5 : divM 1 k = 4 * k * (k + 1) := by simp [divM]
    have a6 : divM 1 m = 4 * m * (m + 1) := by simp [divM]
    rw [a1, a2, a3, a4, a5, a6, cmpW]
    by_cases hk : k = 0
    · subst hk
      by_cases hm : m = 0
      · subst hm
        rw [if_pos (by simp), if_pos (by simp), if_pos (by simp), sgn_neg, sq_lt v0 w0]
      · have hp : 0 < 4 * m * (m + 1) := pos_mul (by omega) (by omega)
        have hp2 : 0 < m * (m + 1) := pos_mul (by omega) (by omega)
        have hq : 0 < v * v * (m * (m + 1)) := pos_mul hvv hp2
        rw [if_neg (by omega), if_pos (by simp), if_neg (by omega), if_pos (by simp), if_neg (by omega), sgn_neg]
        simp; omega
    · have hp : 0 < 4 * k * (k + 1) := pos_mul (by omega) (by omega)
      have hp2 : 0 < k * (k + 1) := pos_mul (by omega) (by omega)
      by_cases hm : m = 0
      · subst hm
        have hq : 0 < w * w * (k * (k + 1)) := pos_mul hww hp2
        rw [if_neg (by omega), if_pos (by simp), if_neg (by omega), if_pos (by simp), if_neg (by omega), sgn_neg]
        simp; omega
      · have hp3 : 0 < 4 * m * (m + 1) := pos_mul (by omega) (by omega)
        rw [if_neg (by omega), if_neg (by omega), if_neg (by omega), if_neg (by omega), if_neg (by omega), sgn_neg, ring1, ring1]
        omega
  · -- Webster
    have a1 : nM 2 v = v := by simp [nM]
    have a2 : nM 2 w = w := by simp [nM]
    have a3 : dM 2 v k = 2 * k + 1 := by simp [dM, wd, nM, hM, hv]
    have a4 : dM 2 w m = 2 * m + 1 := by simp [dM, wd, nM, hM, hw]
    have a5 : divM 2 k = (2 * k + 1) * (2 * k + 1) := by simp [divM]
    have a6 : divM 2 m = (2 * m + 1) * (2 * m + 1) := by simp [divM]
    have hp : 0 < (2 * k + 1) * (2 * k + 1) := pos_mul (by omega) (by omega)
    have hp2 : 0 < (2 * m + 1) * (2 * m + 1) := pos_mul (by omega) (by omega)
    rw [a1, a2, a3, a4, a5, a6, cmpW, if_neg (by omega), if_neg (by omega), if_neg (by omega), if_neg (by omega), if_neg (by omega), sgn_neg, ring2, ring2]
    exact sq_lt (Int.mul_nonneg v0 (by omega)) (Int.mul_nonneg w0 (by omega))
  · -- Jefferson
    have a1 : nM 3 v = v := by simp [nM]
    have a2 : nM 3 w = w := by simp [nM]
    have a3 : dM 3 v k = 2 * k + 2 := by simp [dM, wd, nM, hM, hv]
    have a4 : dM 3 w m = 2 * m + 2 := by simp [dM, wd, nM, hM, hw]
    have a5 : divM 3 k = 4 * (k + 1) * (k + 1) := by simp [divM]
    have a6 : divM 3 m = 4 * (m + 1) * (m + 1) := by simp [divM]
    have hp : 0 < 4 * (k + 1) * (k + 1) := pos_mul (by omega) (by omega)
    have hp2 : 0 < 4 * (m + 1) * (m + 1) := pos_mul (by omega) (by omega)
    rw [a1, a2, a3, a4, a5, a6, cmpW, if_neg (by omega), if_neg (by omega), if_neg (by omega), if_neg (by omega), if_neg (by omega), sgn_neg, ring3, ring3]
    exact sq_lt (Int.mul_nonneg v0 (by omega)) (Int.mul_nonneg w0 (by omega))
end Go.Proofs.Ytmdapfjafocdnaa
