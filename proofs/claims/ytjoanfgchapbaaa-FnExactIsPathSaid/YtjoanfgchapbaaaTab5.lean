/- Tables: what a valid one is; the model's look at one. -/
import Derived.Test.YtjoanfgchapbaaaTabs
import Derived.Test.YtjoanfgchapbaaaInts
import Derived.BigQuiet
import Derived.Deep.LoopGhost
namespace Go.Proofs.Ytjoanfgchapbaaa
open Go.ChangeShapes Go.WideShapes Go.ChangeAt Go.RowKit Go.Deep
set_option linter.unusedVariables false
def entB (z : List Int) : Bool := z.all fun x => inB x 0 100000
def rowB (m : Nat) (z : List Int) : Bool := decide (z.length = m) && entB z
/-- A valid table. -/
def tabB (g : Int) (zss : List (List Int)) : Bool := inB g 1 1000 && (inB (zss.length : Int) 1 5 && (inB ((zss.getD 0 []).length : Int) 1 5 && zss.all (rowB (zss.getD 0 []).length)))
theorem all_take_succ {α : Type} (p : α → Bool) (L : List α) (k : Nat) (d : α) (h : k < L.length) : (L.take (k + 1)).all p = ((L.take k).all p && p (L.getD k d)) := by
  have e : L.getD k d = L[k] := by simp [List.getD_eq_getElem?_getD, h]
  rw [List.take_succ_eq_append_getElem h, e, List.all_append]; simp
theorem all_no {α : Type} {p : α → Bool} {L : List α} {k : Nat} (d : α) (h : k < L.length) (hf : p (L.getD k d) = false) : L.all p = false := by
  rw [List.all_eq_false]
  refine ⟨L[k], List.getElem_mem h, ?_⟩
  have : L.getD k d = L[k] := by simp [List.getD_eq_getElem?_getD, h]
  rw [← this, hf]; simp
theorem all_get {α : Type} {p : α → Bool} {L : List α} (h : L.all p = true) (d : α) {k : Nat} (hk : k < L.length) : p (L.getD k d) = true := by
  have : L.getD k d = L[k] := by simp [List.getD_eq_getElem?_getD, hk]
  rw [this]; exact List.all_eq_true.1 h _ (List.getElem_mem hk)
theorem tab_row {g : Int} {zss : List (List Int)} (h : tabB g zss = true) {k : Nat} (hk : k < zss.length) : (zss.getD k []).length = (zss.getD 0 []).length ∧ ∀ x ∈ zss.getD k [], 0 ≤ x ∧ x ≤ 100000 := by
  unfold tabB at h
  simp only [Bool.and_eq_true] at h
  have := all_get h.2.2.2 [] hk
  unfold rowB entB at this
  simp only [Bool.and_eq_true, decide_eq_true_eq, List.all_eq_true] at this
  exact ⟨this.1, fun x hx => inB_iff.1 (this.2 x hx)⟩
theorem tab_size {g : Int} {zss : List (List Int)} (h : tabB g zss = true) : (1 ≤ g ∧ g ≤ 1000) ∧ (1 ≤ zss.length ∧ zss.length ≤ 5) ∧ (1 ≤ (zss.getD 0 []).length ∧ (zss.getD 0 []).length ≤ 5) := by
  unfold tabB at h
  simp only [Bool.and_eq_true] at h
  have a := inB_iff.1 h.1; have b := inB_iff.1 h.2.1; have c := inB_iff.1 h.2.2.1
  exact ⟨a, by omega, by omega⟩
end Go.Proofs.Ytjoanfgchapbaaa
