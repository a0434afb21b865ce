/- The best rounding with a sum, and how many are as good: the model's side. -/
import Derived.Test.YtmckbjhmkcbjgabPut4
namespace Go.Proofs.Ytmckbjhmkcbjgab
open Go.ChangeShapes Go.WideShapes Go.ChangeAt Go.RowKit Go.Deep
set_option linter.unusedVariables false
theorem mst_ex {norm g : Int} {zs : List Int} {u : Nat} (hg : 1 ≤ g) (hu : u ≤ gtC 0 (reL g zs)) : ∃ m, IsMst norm g (reL g zs) u m ∧ m ≤ g := by
  have hp := List.mergeSort_perm (g :: 0 :: reL g zs) (fun a b => decide (b ≤ a))
  have hs : ((g :: 0 :: reL g zs).mergeSort (fun a b => decide (b ≤ a))).Pairwise fun a b => decide (b ≤ a) = true :=
    List.pairwise_mergeSort (fun a b c h1 h2 => by simp at *; omega) (fun a b => by simp; omega) _
  have hd : Desc ((g :: 0 :: reL g zs).mergeSort (fun a b => decide (b ≤ a))) := fun i j hij hj => by
    rw [List.pairwise_iff_getElem] at hs
    have := hs i j (by omega) hj hij
    rw [getD_get _ i (by omega), getD_get _ j hj]
    simpa using this
  have hr := ranks_of hg (rests_in hg zs) hu hp hd
  exact ⟨_, isMst_of (norm := norm) hg (rests_in hg zs) hr, (mostOf_nn hr).2⟩
end Go.Proofs.Ytmckbjhmkcbjgab
