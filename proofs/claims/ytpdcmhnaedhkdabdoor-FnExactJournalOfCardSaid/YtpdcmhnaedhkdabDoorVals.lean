/- Whether a list, and values, keep the limits. -/
import Derived.Test.YtpdcmhnaedhkdabDoorInts
import Derived.Test.YtpdcmhnaedhkdabDoorMem
namespace Go.Proofs.YtpdcmhnaedhkdabDoor
open Go.ChangeShapes Go.WideShapes Go.ChangeAt Go.RowKit
set_option linter.unusedVariables false

def allIn (zs : List Int) (lim : Int) : Bool := zs.all fun z => inB z (-lim) lim
def listOk (zs : List Int) (lim : Int) : Bool := decide (zs.length ≤ 40) && allIn zs lim
def okV (g : Int) (zs : List Int) : Bool := inB g 1 1000 && listOk zs 1000000
theorem allIn_take_succ (zs : List Int) (lim : Int) (k : Nat) (h : k < zs.length) : allIn (zs.take (k + 1)) lim = (allIn (zs.take k) lim && inB (zs.getD k 0) (-lim) lim) := by
  have e : zs.getD k 0 = zs[k] := by simp [List.getD_eq_getElem?_getD, h]
  rw [List.take_succ_eq_append_getElem h, e]
  unfold allIn
  rw [List.all_append]; simp
theorem allIn_false_of (zs : List Int) (lim : Int) (k : Nat) (h : k < zs.length) (hf : inB (zs.getD k 0) (-lim) lim = false) : allIn zs lim = false := by
  unfold allIn
  rw [List.all_eq_false]
  refine ⟨zs[k], List.getElem_mem h, ?_⟩
  have : zs.getD k 0 = zs[k] := by simp [List.getD_eq_getElem?_getD, h]
  rw [← this, hf]; simp
theorem okV_den {g : Int} {zs : List Int} (h : okV g zs = true) : 1 ≤ g ∧ g ≤ 1000 := by
  unfold okV at h; rw [Bool.and_eq_true, inB_iff] at h; exact h.1
theorem okV_len {g : Int} {zs : List Int} (h : okV g zs = true) : zs.length ≤ 40 := by
  unfold okV listOk at h; simp only [Bool.and_eq_true, decide_eq_true_eq] at h; exact h.2.1
theorem okV_num {g : Int} {zs : List Int} (h : okV g zs = true) : ∀ z ∈ zs, -1000000 ≤ z ∧ z ≤ 1000000 := by
  unfold okV listOk allIn at h; simp only [Bool.and_eq_true, decide_eq_true_eq, List.all_eq_true] at h
  intro z hz; exact inB_iff.1 (h.2.2 z hz)

theorem listOk_num {zs : List Int} {lim : Int} (h : listOk zs lim = true) : ∀ z ∈ zs, -lim ≤ z ∧ z ≤ lim := by
  unfold listOk allIn at h; simp only [Bool.and_eq_true, decide_eq_true_eq, List.all_eq_true] at h
  intro z hz; exact inB_iff.1 (h.2 z hz)
theorem listOk_len {zs : List Int} {lim : Int} (h : listOk zs lim = true) : zs.length ≤ 40 := by
  unfold listOk at h; simp only [Bool.and_eq_true, decide_eq_true_eq] at h; exact h.1
end Go.Proofs.YtpdcmhnaedhkdabDoor
