/- Rows of as many numbers within limits: what they are. -/
import Derived.Test.YtpdcmhnaedhkdaaDoorLists
namespace Go.Proofs.YtpdcmhnaedhkdaaDoor
open Go.ChangeShapes Go.WideShapes Go.ChangeAt Go.RowKit Go.Deep
set_option linter.unusedVariables false
def entM (most : Int) (z : List Int) : Bool := z.all fun x => inB x 0 most
def rowM (most : Int) (m : Nat) (z : List Int) : Bool := decide (z.length = m) && entM most z
/-- 1 to side rows, each of as many numbers, 1 to side, from 0 to most. -/
def gridB (side most : Int) (zss : List (List Int)) : Bool := inB (zss.length : Int) 1 side && (inB ((zss.getD 0 []).length : Int) 1 side && zss.all (rowM most (zss.getD 0 []).length))
theorem gall_get {α : Type} {p : α → Bool} {L : List α} (h : L.all p = true) (d : α) {k : Nat} (hk : k < L.length) : p (L.getD k d) = true := by
  have : L.getD k d = L[k] := by simp [List.getD_eq_getElem?_getD, hk]
  rw [this]; exact List.all_eq_true.1 h _ (List.getElem_mem hk)
theorem gall_of {α : Type} {p : α → Bool} {L : List α} (d : α) (h : ∀ k, k < L.length → p (L.getD k d) = true) : L.all p = true := by
  rw [List.all_eq_true]
  intro x hx
  obtain ⟨k, hk, rfl⟩ := List.mem_iff_getElem.1 hx
  have := h k hk
  rwa [show L.getD k d = L[k] from by simp [List.getD_eq_getElem?_getD, hk]] at this
theorem rowM_iff {most : Int} {m : Nat} {z : List Int} : rowM most m z = true ↔ z.length = m ∧ ∀ x ∈ z, 0 ≤ x ∧ x ≤ most := by
  unfold rowM entM
  simp only [Bool.and_eq_true, decide_eq_true_eq, List.all_eq_true]
  exact ⟨fun h => ⟨h.1, fun x hx => inB_iff.1 (h.2 x hx)⟩, fun h => ⟨h.1, fun x hx => inB_iff.2 (h.2 x hx)⟩⟩
theorem grid_size {side most : Int} {zss : List (List Int)} (h : gridB side most zss = true) : (1 ≤ zss.length ∧ (zss.length : Int) ≤ side) ∧ (1 ≤ (zss.getD 0 []).length ∧ ((zss.getD 0 []).length : Int) ≤ side) := by
  unfold gridB at h
  simp only [Bool.and_eq_true] at h
  have a := inB_iff.1 h.1; have b := inB_iff.1 h.2.1
  exact ⟨by omega, by omega⟩
theorem grid_row {side most : Int} {zss : List (List Int)} (h : gridB side most zss = true) {k : Nat} (hk : k < zss.length) : (zss.getD k []).length = (zss.getD 0 []).length ∧ ∀ x ∈ zss.getD k [], 0 ≤ x ∧ x ≤ most := by
  unfold gridB at h
  simp only [Bool.and_eq_true] at h
  exact rowM_iff.1 (gall_get h.2.2 [] hk)
theorem grid_of {side most : Int} {zss : List (List Int)} (m : Nat) (h1 : 1 ≤ zss.length) (h2 : (zss.length : Int) ≤ side) (h3 : 1 ≤ m) (h4 : (m : Int) ≤ side) (h : ∀ k, k < zss.length → (zss.getD k []).length = m ∧ ∀ x ∈ zss.getD k [], 0 ≤ x ∧ x ≤ most) : gridB side most zss = true := by
  have e := (h 0 (by omega)).1
  unfold gridB
  rw [inB_iff.2 ⟨by omega, h2⟩, e, inB_iff.2 ⟨by omega, h4⟩]
  exact gall_of [] (fun k hk => rowM_iff.2 (h k hk))
end Go.Proofs.YtpdcmhnaedhkdaaDoor
