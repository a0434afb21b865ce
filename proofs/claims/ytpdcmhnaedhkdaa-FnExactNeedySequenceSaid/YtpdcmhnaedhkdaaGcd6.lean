/- Greatest common divisors by Euclid's way: the model's and the program's; the divisor of many numbers. -/
import Derived.Test.YtpdcmhnaedhkdaaGreat
import Derived.Test.YtpdcmhnaedhkdaaInts
import Derived.Deep.QuietTactic
namespace Go.Proofs.Ytpdcmhnaedhkdaa
open Go.ChangeShapes Go.WideShapes Go.ChangeAt Go.RowKit
set_option linter.unusedVariables false
theorem gcd_step (x y : Int) : Int.gcd y (x.tmod y) = Int.gcd x y := by
  unfold Int.gcd
  rw [Int.natAbs_tmod, Nat.gcd_comm, ← Nat.gcd_rec, Nat.gcd_comm]
theorem gcd_step2 (x y : Int) : Int.gcd (y.tmod x) x = Int.gcd x y := by
  rw [Int.gcd_comm, gcd_step, Int.gcd_comm]
theorem ab_nat (x : Int) : ab x = (x.natAbs : Int) := by unfold ab; split <;> omega
theorem tmod_in {x y M : Int} (hx : -M ≤ x ∧ x ≤ M) : -M ≤ x.tmod y ∧ x.tmod y ≤ M := by
  have h := Int.natAbs_tmod x y
  have h2 : x.natAbs % y.natAbs ≤ x.natAbs := Nat.mod_le _ _
  omega
theorem tmod_less {x y : Int} (hy : y ≠ 0) : (x.tmod y).natAbs < y.natAbs := by
  rw [Int.natAbs_tmod]; exact Nat.mod_lt _ (by omega)
/-- The greatest number that divides t and the first k numbers. -/
def gcdT (t : Int) (zs : List Int) (k : Nat) : Int := (zs.take k).foldl (fun g z => (Int.gcd g z : Int)) t
theorem gcdT_zero (t : Int) (zs : List Int) : gcdT t zs 0 = t := by simp [gcdT]
theorem gcdT_succ (t : Int) (zs : List Int) (k : Nat) (h : k < zs.length) : gcdT t zs (k + 1) = (Int.gcd (gcdT t zs k) (zs.getD k 0) : Int) := by
  unfold gcdT; rw [take_succ_getD zs k h, List.foldl_append]; rfl
theorem gcd_bd {g z : Int} (h : 1 ≤ g) : 1 ≤ (Int.gcd g z : Int) ∧ (Int.gcd g z : Int) ≤ g := by
  have h1 : 0 < Int.gcd g z := Nat.gcd_pos_of_pos_left _ (by omega)
  have h2 : Int.gcd g z ≤ g.natAbs := Nat.gcd_le_left _ (by omega)
  omega
theorem gcdT_bd (t : Int) (zs : List Int) (ht : 1 ≤ t) : ∀ k, k ≤ zs.length → 1 ≤ gcdT t zs k ∧ gcdT t zs k ≤ t := by
  intro k
  induction k with
  | zero => intro _; rw [gcdT_zero]; omega
  | succ k ih =>
    intro hk
    have h1 := ih (by omega)
    have h2 := gcd_bd (z := zs.getD k 0) h1.1
    rw [gcdT_succ t zs k (by omega)]; omega
theorem tdiv_in {x g M : Int} (hg : 1 ≤ g) (hx : -M ≤ x ∧ x ≤ M) : -M ≤ x.tdiv g ∧ x.tdiv g ≤ M := by
  have h : (x.tdiv g).natAbs = x.natAbs / g.natAbs := Int.natAbs_tdiv x g
  have h2 : x.natAbs / g.natAbs ≤ x.natAbs := Nat.div_le_self _ _
  rw [← h] at h2
  omega
end Go.Proofs.Ytpdcmhnaedhkdaa
