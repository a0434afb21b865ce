/- Groups that are laminar: the model's side. -/
import Derived.Test.YtpdcmhnaedhkdaaVals
import Derived.Test.YtpdcmhnaedhkdaaLists
namespace Go.Proofs.Ytpdcmhnaedhkdaa
open Go.ChangeShapes Go.WideShapes Go.ChangeAt Go.RowKit
set_option linter.unusedVariables false
def hasB (zs : List Int) (n : Int) : Bool := decide (n ∈ zs)
theorem hasB_yes {zs : List Int} {n : Int} {k : Nat} (hk : k < zs.length) (h : zs.getD k 0 = n) : hasB zs n = true := by
  unfold hasB; rw [decide_eq_true_eq, ← h]; exact getD_mem zs k hk
theorem hasB_no {zs : List Int} {n : Int} (h : ∀ j, j < zs.length → zs.getD j 0 ≠ n) : hasB zs n = false := by
  unfold hasB; rw [decide_eq_false_iff_not]
  intro hm
  obtain ⟨j, hj, e⟩ := List.getElem_of_mem hm
  exact h j hj (by rw [getD_get zs j hj]; exact e)
/-- Rising numbers from lo to hi, up to place k. -/
def RisesTo (zs : List Int) (lo hi : Int) (k : Nat) : Prop := ∀ j, j < k → inB (zs.getD j 0) lo hi = true ∧ (0 < j → zs.getD (j - 1) 0 < zs.getD j 0)
open Classical in
noncomputable def risesB (zs : List Int) (lo hi : Int) : Bool := decide (RisesTo zs lo hi zs.length)
open Classical in
theorem risesB_yes {zs : List Int} {lo hi : Int} (h : RisesTo zs lo hi zs.length) : risesB zs lo hi = true := by unfold risesB; exact decide_eq_true h
theorem risesB_out {zs : List Int} {lo hi : Int} {k : Nat} (hk : k < zs.length) (h : inB (zs.getD k 0) lo hi = false) : risesB zs lo hi = false := by
  unfold risesB; rw [decide_eq_false_iff_not]; intro h2; have := (h2 k hk).1; rw [h] at this; cases this
theorem risesB_falls {zs : List Int} {lo hi : Int} {k : Nat} (hk : k < zs.length) (h0 : 0 < k) (h : zs.getD k 0 ≤ zs.getD (k - 1) 0) : risesB zs lo hi = false := by
  unfold risesB; rw [decide_eq_false_iff_not]; intro h2; have := (h2 k hk).2 h0; omega
theorem RisesTo.succ {zs : List Int} {lo hi : Int} {k : Nat} (h : RisesTo zs lo hi k) (h1 : inB (zs.getD k 0) lo hi = true) (h2 : 0 < k → zs.getD (k - 1) 0 < zs.getD k 0) : RisesTo zs lo hi (k + 1) := by
  intro j hj
  by_cases e : j = k
  · subst e; exact ⟨h1, h2⟩
  · exact h j (by omega)
end Go.Proofs.Ytpdcmhnaedhkdaa
