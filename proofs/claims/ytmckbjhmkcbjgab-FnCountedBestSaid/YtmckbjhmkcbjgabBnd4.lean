/- Bounds of sums, floors and rests: the model's side. -/
import Derived.Test.YtmckbjhmkcbjgabDivs
import Derived.Test.YtmckbjhmkcbjgabSums
namespace Go.Proofs.Ytmckbjhmkcbjgab
open Go.ChangeShapes Go.WideShapes Go.ChangeAt Go.RowKit
set_option linter.unusedVariables false
/-- The sum of values that are rounded. -/
def sumR (φ : Int → Int → Int) (g : Int) (zs : List Int) : Int := (zs.map fun z => φ z g).sum
theorem sumR_step (φ : Int → Int → Int) (g : Int) (zs : List Int) (k : Nat) (h : k < zs.length) : sumR φ g (zs.take (k + 1)) = sumR φ g (zs.take k) + φ (zs.getD k 0) g := by
  unfold sumR; rw [take_map_succ (fun z => φ z g) zs k h, List.sum_append, List.sum_cons, List.sum_nil, Int.add_zero]
theorem sumR_bd (φ : Int → Int → Int) (g : Int) (zs : List Int) (hφ : ∀ z ∈ zs, -1000001 ≤ φ z g ∧ φ z g ≤ 1000001) (k : Nat) (hk : k ≤ zs.length) : -(1000001 * (k : Int)) ≤ sumR φ g (zs.take k) ∧ sumR φ g (zs.take k) ≤ 1000001 * (k : Int) := by
  induction k with
  | zero => simp [sumR]
  | succ k ih =>
    have h1 := ih (by omega)
    have h2 := hφ _ (getD_mem zs k (by omega))
    rw [sumR_step φ g zs k (by omega)]; omega
def sbV (φ : Int → Int → Int) (g : Int) (zs : List Int) : Int := if okV g zs then sumR φ g zs else 0
end Go.Proofs.Ytmckbjhmkcbjgab
