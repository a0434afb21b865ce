/- Sets of points as bits: parts of a set in ascending order, how many points a set has, imbalances. Nothing here speaks of one program. -/
import Derived.Test.YtpdcmhnaedhkdaaPlain
namespace Go.Proofs.Ytpdcmhnaedhkdaa
set_option linter.unusedVariables false
theorem land_halves (x y : Nat) : x &&& y = 2 * (x / 2 &&& y / 2) + x % 2 * (y % 2) := by
  apply Nat.eq_of_testBit_eq
  intro i
  have hx := Nat.mod_two_eq_zero_or_one x
  have hy := Nat.mod_two_eq_zero_or_one y
  cases i with
  | zero =>
    rw [Nat.testBit_and, Nat.testBit_zero, Nat.testBit_zero, Nat.testBit_zero]
    generalize (x / 2 &&& y / 2) = z
    rcases hx with hx | hx <;> rcases hy with hy | hy <;> rw [hx, hy] <;> simp <;> omega
  | succ i =>
    rw [Nat.testBit_and, Nat.testBit_succ, Nat.testBit_succ, Nat.testBit_succ]
    have : (2 * (x / 2 &&& y / 2) + x % 2 * (y % 2)) / 2 = x / 2 &&& y / 2 := by
      have : x % 2 * (y % 2) ≤ 1 := by rcases hx with hx | hx <;> rcases hy with hy | hy <;> rw [hx, hy] <;> decide
      omega
    rw [this, Nat.testBit_and]
/-- p is a part of m. -/
def partB (m p : Nat) : Bool := p &&& m == p
theorem partB_iff {m p : Nat} : partB m p = true ↔ p &&& m = p := by unfold partB; simp
theorem part_le {m p : Nat} (h : p &&& m = p) : p ≤ m := by rw [← h]; exact Nat.and_le_right
theorem part_halves {m p : Nat} (h : p &&& m = p) : p / 2 &&& m / 2 = p / 2 ∧ p % 2 * (m % 2) = p % 2 := by
  have e := land_halves p m
  have hx := Nat.mod_two_eq_zero_or_one p
  have hy := Nat.mod_two_eq_zero_or_one m
  rw [h] at e
  generalize (p / 2 &&& m / 2) = z at *
  rcases hx with hx | hx <;> rcases hy with hy | hy <;> rw [hx, hy] at e ⊢ <;> omega
theorem part_comp : ∀ (n a s : Nat), a < 2 ^ n → s &&& a = s → a &&& (2 ^ n - 1 - (a - s)) = s := by
  intro n
  induction n with
  | zero => intro a s h1 h2; have h3 := part_le h2; simp at h1; subst h1; simp at h3; subst h3; rfl
  | succ n ih =>
    intro a s h1 h2
    have h3 := part_le h2
    obtain ⟨p1, p2⟩ := part_halves h2
    have h4 := part_le p1
    have h5 := ih (a / 2) (s / 2) (by rw [Nat.pow_succ] at h1; omega) p1
    have hP : 1 ≤ 2 ^ n := Nat.one_le_two_pow
    rw [Nat.pow_succ] at h1 ⊢
    rw [land_halves]
    have e1 : (2 ^ n * 2 - 1 - (a - s)) / 2 = 2 ^ n - 1 - (a / 2 - s / 2) := by
      rcases Nat.mod_two_eq_zero_or_one a with q | q <;> rcases Nat.mod_two_eq_zero_or_one s with r | r <;> rw [q, r] at p2 <;> omega
    rw [e1, h5]
    generalize 2 ^ n = P at *
    rcases Nat.mod_two_eq_zero_or_one a with q | q <;> rcases Nat.mod_two_eq_zero_or_one s with r | r <;> rw [q, r] at p2
    · rw [q]; omega
    · omega
    · have : (P * 2 - 1 - (a - s)) % 2 = 0 := by omega
      rw [q, this]; omega
    · have : (P * 2 - 1 - (a - s)) % 2 = 1 := by omega
      rw [q, this]; omega
/-- The part of m behind p: p less m, in n bits, and of that what lies in m. -/
def nxP (n m p : Nat) : Nat := m &&& (2 ^ n - (m - p))
theorem nxP_part (n m p : Nat) : nxP n m p &&& m = nxP n m p := by
  unfold nxP; rw [Nat.and_comm m, Nat.and_assoc, Nat.and_self]
theorem nxP_spec : ∀ (n m p : Nat), m < 2 ^ n → p &&& m = p → p < m → p < nxP n m p ∧ ∀ q, q &&& m = q → p < q → nxP n m p ≤ q := by
  intro n
  induction n with
  | zero => intro m p h1 h2 h3; simp at h1; omega
  | succ n ih =>
    intro m p h1 h2 h3
    obtain ⟨p1, p2⟩ := part_halves h2
    have h4 := part_le p1
    have hP : 1 ≤ 2 ^ n := Nat.one_le_two_pow
    rw [Nat.pow_succ] at h1
    have hm : m / 2 < 2 ^ n := by omega
    unfold nxP
    rw [land_halves, Nat.pow_succ]
    by_cases hc : m % 2 = p % 2
    · have e1 : (2 ^ n * 2 - (m - p)) / 2 = 2 ^ n - (m / 2 - p / 2) := by omega
      have e2 : (2 ^ n * 2 - (m - p)) % 2 = 0 := by omega
      obtain ⟨i1, i2⟩ := ih (m / 2) (p / 2) hm p1 (by omega)
      unfold nxP at i1 i2
      rw [e1, e2]
      refine ⟨by omega, fun q hq hpq => ?_⟩
      obtain ⟨q1, q2⟩ := part_halves hq
      have := i2 (q / 2) q1 (by
        rcases Nat.mod_two_eq_zero_or_one m with a | a <;> rcases Nat.mod_two_eq_zero_or_one q with b | b <;> rw [a, b] at q2 <;> omega)
      omega
    · have e0 : m % 2 = 1 ∧ p % 2 = 0 := by
        rcases Nat.mod_two_eq_zero_or_one m with a | a <;> rcases Nat.mod_two_eq_zero_or_one p with b | b <;> rw [a, b] at p2 hc <;> omega
      have e1 : (2 ^ n * 2 - (m - p)) / 2 = 2 ^ n - 1 - (m / 2 - p / 2) := by omega
      have e2 : (2 ^ n * 2 - (m - p)) % 2 = 1 := by omega
      rw [e1, e2, e0.1, part_comp n (m / 2) (p / 2) hm p1]
      exact ⟨by omega, fun q _ hpq => by omega⟩
theorem nxP_between {n m p q : Nat} (h1 : m < 2 ^ n) (h2 : p &&& m = p) (h3 : p < m) (hq : p < q) (hq2 : q < nxP n m p) : partB m q = false := by
  cases h : partB m q
  · rfl
  · have := (nxP_spec n m p h1 h2 h3).2 q (partB_iff.1 h) hq; omega
theorem nxP_le (n m p : Nat) : nxP n m p ≤ m := Nat.and_le_left
/-! ### how many points -/
def pcT (m : Nat) : Nat → Nat
  | 0 => 0
  | k + 1 => pcT m k + (m.testBit k).toNat
def pc (m : Nat) : Nat := pcT m 64
theorem pcT_top {m j : Nat} (h : m < 2 ^ j) : ∀ k, j ≤ k → pcT m k = pcT m j := by
  intro k
  induction k with
  | zero => intro h2; rw [show j = 0 by omega]
  | succ k ih =>
    intro h2
    by_cases e : j = k + 1
    · rw [e]
    · rw [pcT, ih (by omega), Nat.testBit_lt_two_pow (Nat.lt_of_lt_of_le h (Nat.pow_le_pow_right (by omega) (by omega)))]; rfl
theorem pcT_le (m k : Nat) : pcT m k ≤ k := by
  induction k with
  | zero => simp [pcT]
  | succ k ih => rw [pcT]; have := Bool.toNat_le (m.testBit k); omega
theorem pc_le (m : Nat) : pc m ≤ 64 := pcT_le m 64
theorem pcT_split (x r k : Nat) (hk : k ≤ 64) : pcT (x &&& r) k + pcT (x &&& (18446744073709551615 - r)) k = pcT x k ∨ 18446744073709551615 < r := by
  by_cases hr : 18446744073709551615 < r
  · exact .inr hr
  left
  induction k with
  | zero => rfl
  | succ k ih =>
    have ih := ih (by omega)
    rw [pcT, pcT, pcT, Nat.testBit_and, Nat.testBit_and]
    have e : (18446744073709551615 - r).testBit k = !r.testBit k := by
      have h := Nat.testBit_two_pow_sub_succ (n := 64) (x := r) (by omega) k
      rw [show (2 ^ 64 - (r + 1) : Nat) = 18446744073709551615 - r from by omega] at h
      rw [h]; simp [show k < 64 from by omega]
    rw [e]
    cases x.testBit k <;> cases r.testBit k <;> simp <;> omega
theorem pc_split (x r : Nat) (hr : r < 18446744073709551616) : pc (x &&& r) + pc (x &&& (18446744073709551615 - r)) = pc x := by
  rcases pcT_split x r 64 (Nat.le_refl _) with h | h
  · exact h
  · omega
theorem pcT_sub (x r k : Nat) : pcT (x &&& r) k ≤ pcT x k := by
  induction k with
  | zero => simp [pcT]
  | succ k ih => rw [pcT, pcT, Nat.testBit_and]; cases x.testBit k <;> cases r.testBit k <;> simp <;> omega
/-- The bits above the lowest one. -/
theorem pcT_halves (m k : Nat) : pcT m (k + 1) = m % 2 + pcT (m / 2) k := by
  induction k with
  | zero => rw [pcT, pcT, pcT, Nat.testBit_zero]; rcases Nat.mod_two_eq_zero_or_one m with h | h <;> simp [h]
  | succ k ih => rw [pcT, ih, pcT, Nat.testBit_succ]; omega
/-- The imbalance of a set, where red are red. -/
def imb (m red : Nat) : Int := 2 * (pc (m &&& red) : Int) - (pc m : Int)
theorem imb_bd (m red : Nat) : -64 ≤ imb m red ∧ imb m red ≤ 64 := by
  have h1 := pcT_sub m red 64
  have h2 := pc_le m
  unfold imb pc at *; omega
theorem imb_is (x r : Nat) (hr : r < 18446744073709551616) : (pc (x &&& r) : Int) - (pc (x &&& (18446744073709551615 - r)) : Int) = imb x r := by
  have := pc_split x r hr
  unfold imb; omega
end Go.Proofs.Ytpdcmhnaedhkdaa
