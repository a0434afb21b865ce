/- The sum of the squares of imbalances over all colourings; degrees; even common bits. Nothing here speaks of one program. -/
import Derived.Test.YtpdcmhnaedhkdaaDis10
namespace Go.Proofs.Ytpdcmhnaedhkdaa
set_option linter.unusedVariables false
def sumR (f : Nat → Int) : Nat → Int
  | 0 => 0
  | n + 1 => sumR f n + f n
theorem sumR_congr {f g : Nat → Int} : ∀ n, (∀ i, i < n → f i = g i) → sumR f n = sumR g n := by
  intro n
  induction n with
  | zero => intro _; rfl
  | succ n ih => intro h; rw [sumR, sumR, ih (fun i hi => h i (by omega)), h n (by omega)]
theorem sumR_pairs (f : Nat → Int) : ∀ n, sumR f (2 * n) = sumR (fun i => f (2 * i) + f (2 * i + 1)) n := by
  intro n
  induction n with
  | zero => rfl
  | succ n ih => rw [show 2 * (n + 1) = 2 * n + 1 + 1 from by omega, sumR, sumR, ih, sumR]; omega
theorem sumR_add (f g : Nat → Int) : ∀ n, sumR (fun i => f i + g i) n = sumR f n + sumR g n := by
  intro n
  induction n with
  | zero => rfl
  | succ n ih => rw [sumR, ih, sumR, sumR]; omega
theorem sumR_mul (c : Int) (f : Nat → Int) : ∀ n, sumR (fun i => c * f i) n = c * sumR f n := by
  intro n
  induction n with
  | zero => simp [sumR]
  | succ n ih => rw [sumR, ih, sumR, Int.mul_add]
theorem sumR_const (c : Int) : ∀ n : Nat, sumR (fun _ => c) n = n * c := by
  intro n
  induction n with
  | zero => simp [sumR]
  | succ n ih => rw [sumR, ih, show ((n + 1 : Nat) : Int) = (n : Int) + 1 from by omega, Int.add_mul]; omega
theorem sumR_bd {f : Nat → Int} {M : Int} (h : ∀ i, 0 ≤ f i ∧ f i ≤ M) : ∀ n : Nat, 0 ≤ sumR f n ∧ sumR f n ≤ n * M := by
  intro n
  induction n with
  | zero => simp [sumR]
  | succ n ih => rw [sumR, show ((n + 1 : Nat) : Int) = (n : Int) + 1 from by omega, Int.add_mul]; have := h n; omega
/-- The imbalance in n bits. -/
def imbN (n m r : Nat) : Int := 2 * (pcT (m &&& r) n : Int) - (pcT m n : Int)
theorem imbN_step (n m r : Nat) : imbN (n + 1) m r = imbN n (m / 2) (r / 2) + (m % 2 : Nat) * (2 * ((r % 2 : Nat) : Int) - 1) := by
  unfold imbN
  rw [pcT_halves, pcT_halves]
  have e := land_halves m r
  have e1 : (m &&& r) / 2 = m / 2 &&& r / 2 := by
    have : m % 2 * (r % 2) ≤ 1 := by
      rcases Nat.mod_two_eq_zero_or_one m with a | a <;> rcases Nat.mod_two_eq_zero_or_one r with b | b <;> rw [a, b] <;> decide
    omega
  have e2 : (m &&& r) % 2 = m % 2 * (r % 2) := by
    have : m % 2 * (r % 2) ≤ 1 := by
      rcases Nat.mod_two_eq_zero_or_one m with a | a <;> rcases Nat.mod_two_eq_zero_or_one r with b | b <;> rw [a, b] <;> decide
    omega
  rw [e1, e2]
  generalize pcT (m / 2 &&& r / 2) n = x
  generalize pcT (m / 2) n = y
  rcases Nat.mod_two_eq_zero_or_one m with a | a <;> rcases Nat.mod_two_eq_zero_or_one r with b | b <;> rw [a, b] <;> simp <;> omega
theorem avgN : ∀ (n m : Nat), sumR (fun r => imbN n m r * imbN n m r) (2 ^ n) = (2 ^ n : Nat) * (pcT m n : Int) := by
  intro n
  induction n with
  | zero => intro m; simp [sumR, imbN, pcT]
  | succ n ih =>
    intro m
    rw [show 2 ^ (n + 1) = 2 * 2 ^ n from by rw [Nat.pow_succ]; omega, sumR_pairs]
    have hb := Nat.mod_two_eq_zero_or_one m
    have h1 : ∀ i, imbN (n + 1) m (2 * i) * imbN (n + 1) m (2 * i) + imbN (n + 1) m (2 * i + 1) * imbN (n + 1) m (2 * i + 1) = 2 * (imbN n (m / 2) i * imbN n (m / 2) i) + 2 * ((m % 2 : Nat) : Int) := by
      intro i
      rw [imbN_step, imbN_step, show 2 * i / 2 = i from by omega, show (2 * i + 1) / 2 = i from by omega, show 2 * i % 2 = 0 from by omega, show (2 * i + 1) % 2 = 1 from by omega]
      generalize imbN n (m / 2) i = x
      rcases hb with a | a <;> rw [a] <;> simp only [Int.natCast_zero, Int.natCast_one] <;> grind
    rw [sumR_congr _ (fun i _ => h1 i), sumR_add, sumR_mul, ih (m / 2), sumR_const, pcT_halves]
    generalize pcT (m / 2) n = y
    generalize 2 ^ n = P
    rcases hb with a | a <;> rw [a] <;> push_cast <;> grind
theorem pc_top {m n : Nat} (h : m < 2 ^ n) (hn : n ≤ 64) : pc m = pcT m n := pcT_top h 64 hn
theorem imb_top {m n : Nat} (h : m < 2 ^ n) (hn : n ≤ 64) (r : Nat) : imb m r = imbN n m r := by
  unfold imb imbN
  rw [pc_top h hn, pc_top (m := m &&& r) (n := n) (Nat.lt_of_le_of_lt Nat.and_le_left h) hn]
/-- The squares of the imbalances of sets, where r are red. -/
def sqL (zs : List Int) (r : Nat) : Int := (zs.map fun z => imb z.toNat r * imb z.toNat r).sum
theorem sq_bd (m r : Nat) : 0 ≤ imb m r * imb m r ∧ imb m r * imb m r ≤ 4096 := by
  have h := imb_bd m r
  generalize imb m r = x at h
  constructor
  · rcases Int.le_total 0 x with q | q
    · exact Int.mul_nonneg q q
    · exact Int.mul_nonneg_of_nonpos_of_nonpos q q
  · have h1 : (64 - x) * (64 + x) ≥ 0 := Int.mul_nonneg (by omega) (by omega)
    have h2 : (64 - x) * (64 + x) = 4096 - x * x := by grind
    omega
theorem sqL_take (zs : List Int) (r k : Nat) (h : k < zs.length) : sqL (zs.take (k + 1)) r = sqL (zs.take k) r + imb (zs.getD k 0).toNat r * imb (zs.getD k 0).toNat r := by
  rw [take_succ_getD zs k h]; unfold sqL; rw [List.map_append, List.sum_append]; simp
theorem sqL_bd (zs : List Int) (r : Nat) : 0 ≤ sqL zs r ∧ sqL zs r ≤ 4096 * zs.length := by
  induction zs with
  | nil => simp [sqL]
  | cons a t ih =>
    have h := sq_bd a.toNat r
    have e : sqL (a :: t) r = imb a.toNat r * imb a.toNat r + sqL t r := by simp [sqL]
    rw [e, List.length_cons]; omega
def pcL (zs : List Int) : List Int := zs.map fun z => (pc z.toNat : Int)
theorem avg_sets (n : Nat) (hn : n ≤ 64) : ∀ zs : List Int, (∀ z ∈ zs, 0 ≤ z ∧ z.toNat < 2 ^ n) → sumR (sqL zs) (2 ^ n) = (2 ^ n : Nat) * (pcL zs).sum := by
  intro zs
  induction zs with
  | nil =>
    intro _
    have := sumR_const 0 (2 ^ n)
    rw [show sqL [] = fun _ => (0 : Int) from by funext r; simp [sqL], this]; simp [pcL]
  | cons a t ih =>
    intro h
    have ih := ih (fun z hz => h z (by simp [hz]))
    have ha := (h a (by simp)).2
    rw [show sqL (a :: t) = fun r => imbN n a.toNat r * imbN n a.toNat r + sqL t r from by funext r; simp only [sqL, List.map_cons, List.sum_cons]; rw [imb_top ha hn], sumR_add, ih, avgN, show (pcL (a :: t)).sum = (pc a.toNat : Int) + (pcL t).sum from by simp [pcL], Int.mul_add, pc_top ha hn]
/-! ### degrees -/
def bitI (z : Int) (t : Nat) : Int := if z.toNat.testBit t then 1 else 0
theorem bitI_bd (z : Int) (t : Nat) : 0 ≤ bitI z t ∧ bitI z t ≤ 1 := by unfold bitI; split <;> omega
def degL (zs : List Int) (t : Nat) : List Int := zs.map fun z => bitI z t
def degT (zs : List Int) : Nat → Int
  | 0 => 0
  | t + 1 => mx (degT zs t) (degL zs t).sum
theorem degL_bd (zs : List Int) (t : Nat) : 0 ≤ (degL zs t).sum ∧ (degL zs t).sum ≤ zs.length := by
  induction zs with
  | nil => simp [degL]
  | cons a u ih =>
    have h := bitI_bd a t
    have e : (degL (a :: u) t).sum = bitI a t + (degL u t).sum := by simp [degL]
    rw [e, List.length_cons]; omega
theorem degL_take (zs : List Int) (t k : Nat) (h : k < zs.length) : (degL (zs.take (k + 1)) t).sum = (degL (zs.take k) t).sum + bitI (zs.getD k 0) t := by
  rw [take_succ_getD zs k h]; unfold degL; rw [List.map_append, List.sum_append]; simp
theorem degT_bd (zs : List Int) : ∀ t, 0 ≤ degT zs t ∧ degT zs t ≤ zs.length := by
  intro t
  induction t with
  | zero => simp [degT]
  | succ t ih => rw [degT]; exact mx_bd ih (degL_bd zs t)
/-! ### even common bits -/
def hadS (j : Nat) : Nat → Nat
  | 0 => 0
  | t + 1 => if pc (t &&& j) % 2 = 0 then hadS j t ||| 2 ^ t else hadS j t
theorem hadS_lt (j : Nat) : ∀ t, hadS j t < 2 ^ t := by
  intro t
  induction t with
  | zero => simp [hadS]
  | succ t ih =>
    rw [hadS, Nat.pow_succ]
    split
    · exact Nat.or_lt_two_pow (n := t + 1) (by rw [Nat.pow_succ]; omega) (by rw [Nat.pow_succ]; have := Nat.one_le_two_pow (n := t); omega)
    · omega
def hadL (n k : Nat) : List Int := (List.range k).map fun j => (hadS j n : Int)
theorem hadL_len (n k : Nat) : (hadL n k).length = k := by simp [hadL]
theorem hadL_succ (n k : Nat) : hadL n (k + 1) = hadL n k ++ [(hadS k n : Int)] := by simp [hadL, List.range_succ]
end Go.Proofs.Ytpdcmhnaedhkdaa
