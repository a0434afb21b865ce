/- Continued fractions, numbers of balanced words: the model's look. -/
import Derived.Test.YtjklmdlkhkmfpaaDoorWd7
import Derived.Deep.LoopGhost
namespace Go.Proofs.YtjklmdlkhkmfpaaDoor
open Go.ChangeShapes Go.WideShapes Go.ChangeAt Go.RowKit Go.Deep
set_option linter.unusedVariables false
/-- The quotients of Euclid's way. -/
def contN (a b : Nat) : List Int := if h : b = 0 then [] else ((a / b : Nat) : Int) :: contN b (a % b)
termination_by b
decreasing_by exact Nat.mod_lt _ (Nat.pos_of_ne_zero h)
def contI (x y : Int) : List Int := contN x.toNat y.toNat
theorem contI_zero (x : Int) : contI x 0 = [] := by unfold contI; rw [contN]; simp
theorem contI_pos {x y : Int} (hx : 0 ≤ x) (hy : 0 < y) : contI x y = x / y :: contI y (x % y) := by
  unfold contI
  rw [contN, dif_neg (by omega)]
  have h1 : ((x.toNat / y.toNat : Nat) : Int) = x / y := by
    rw [Int.natCast_ediv, Int.toNat_of_nonneg hx, Int.toNat_of_nonneg (by omega)]
  have h2 : (x % y).toNat = x.toNat % y.toNat := by
    have : ((x.toNat % y.toNat : Nat) : Int) = x % y := by rw [Int.natCast_emod, Int.toNat_of_nonneg hx, Int.toNat_of_nonneg (by omega)]
    omega
  rw [h1, h2]
def ctB (a b : Int) : Bool := inB a 0 1000000000 && inB b 1 1000000000
def ctL (a b : Int) : List Int := if ctB a b then contI a b else []
/-- How many of the numbers 1 to k have no common divisor with i. -/
def prm (i k : Nat) : Int := ((List.range k).map fun (j : Nat) => if Int.gcd ((j : Int) + 1) i = 1 then (1 : Int) else 0).sum
theorem prm_succ (i k : Nat) : prm i (k + 1) = prm i k + (if Int.gcd ((k : Int) + 1) i = 1 then 1 else 0) := by
  unfold prm; rw [List.range_succ, List.map_append, List.sum_append]; simp
theorem prm_bd (i : Nat) : ∀ k, 0 ≤ prm i k ∧ prm i k ≤ k := by
  intro k
  induction k with
  | zero => simp [prm]
  | succ k ih => rw [prm_succ]; split <;> omega
def cnt7 (n i : Nat) : Int := 1 + ((List.range i).map fun (t : Nat) => (((n : Int) - ((t : Int) + 1)) + 1) * prm (t + 1) (t + 1)).sum
theorem cnt7_zero (n : Nat) : cnt7 n 0 = 1 := by simp [cnt7]
theorem cnt7_succ (n i : Nat) : cnt7 n (i + 1) = cnt7 n i + (((n : Int) - ((i : Int) + 1)) + 1) * prm (i + 1) (i + 1) := by
  unfold cnt7; rw [List.range_succ, List.map_append, List.sum_append]; simp; omega
theorem cnt7_bd {n : Nat} (hn : n ≤ 20) : ∀ i, i ≤ n → 1 ≤ cnt7 n i ∧ cnt7 n i ≤ 1 + 400 * (i : Int) := by
  intro i
  induction i with
  | zero => intro _; rw [cnt7_zero]; simp
  | succ i ih =>
    intro hi
    have h1 := ih (by omega)
    have h2 := prm_bd (i + 1) (i + 1)
    have e1 : 0 ≤ (((n : Int) - ((i : Int) + 1)) + 1) * prm (i + 1) (i + 1) := Int.mul_nonneg (by omega) h2.1
    have e2 : (((n : Int) - ((i : Int) + 1)) + 1) * prm (i + 1) (i + 1) ≤ 20 * 20 := Int.mul_le_mul (by omega) (by omega) h2.1 (by omega)
    rw [cnt7_succ]
    omega
def cbB (n : Int) : Bool := inB n 0 20
def cbV (n : Int) : Int := if cbB n then cnt7 n.toNat n.toNat else 0
end Go.Proofs.YtjklmdlkhkmfpaaDoor
