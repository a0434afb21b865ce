/- The greatest absolute value of a list. -/
import Derived.Test.YtpdcmhnaedhkdaaVals
import Derived.Test.YtpdcmhnaedhkdaaMem
namespace Go.Proofs.Ytpdcmhnaedhkdaa
open Go.ChangeShapes Go.WideShapes Go.ChangeAt Go.RowKit
set_option linter.unusedVariables false
def ab (n : Int) : Int := if -n < n then n else -n
def mx (a b : Int) : Int := if b < a then a else b
def gr (zs : List Int) : Int := zs.foldl (fun m x => mx m (ab x)) 0
def grV (zs : List Int) : Int := if listOk zs 1000000000 then gr zs else 0
theorem gr_step (zs : List Int) (k : Nat) (h : k < zs.length) : gr (zs.take (k + 1)) = mx (gr (zs.take k)) (ab (zs.getD k 0)) := by
  rw [take_succ_getD zs k h]; unfold gr; rw [List.foldl_append]; rfl
theorem ab_bd {M n : Int} (h : -M ≤ n ∧ n ≤ M) : 0 ≤ ab n ∧ ab n ≤ M := by unfold ab; split <;> omega
theorem mx_bd {M a b : Int} (h : 0 ≤ a ∧ a ≤ M) (h2 : 0 ≤ b ∧ b ≤ M) : 0 ≤ mx a b ∧ mx a b ≤ M := by unfold mx; split <;> omega
theorem gr_bd (M : Int) (hM : 0 ≤ M) (zs : List Int) (h : ∀ z ∈ zs, -M ≤ z ∧ z ≤ M) (k : Nat) (hk : k ≤ zs.length) : 0 ≤ gr (zs.take k) ∧ gr (zs.take k) ≤ M := by
  induction k with
  | zero => simp [gr, hM]
  | succ k ih =>
    rw [gr_step zs k (by omega)]
    exact mx_bd (ih (by omega)) (ab_bd (h _ (getD_mem zs k (by omega))))
end Go.Proofs.Ytpdcmhnaedhkdaa
