/- Groups that are laminar: the model's loops. -/
import Derived.Test.YtpdcmhnaedhkdaaLam4
import Derived.Deep.LoopGhost
namespace Go.Proofs.Ytpdcmhnaedhkdaa
open Go.ChangeShapes Go.WideShapes Go.ChangeAt Go.RowKit
set_option linter.unusedVariables false
/-- How many of a's numbers b has. -/
def cnt (a b : List Int) : Nat := a.countP fun x => hasB b x
theorem cnt_take_succ (a b : List Int) (i : Nat) (h : i < a.length) : cnt (a.take (i + 1)) b = cnt (a.take i) b + (if hasB b (a.getD i 0) then 1 else 0) := by
  unfold cnt
  rw [take_succ_getD a i h, List.countP_append, List.countP_cons, List.countP_nil]; simp
theorem cnt_take_le (a b : List Int) (i : Nat) : cnt (a.take i) b ≤ i := by
  unfold cnt
  have := List.countP_le_length (p := fun x => hasB b x) (l := a.take i)
  rw [List.length_take] at this; omega
/-- Of two groups, one is a part of the other one, or they have nothing in common. -/
def fitB (a b : List Int) : Bool := !(decide (0 < cnt a b) && (decide (cnt a b < b.length) && decide (cnt a b < a.length)))
def LamTo (n : Nat) (zss : List (List Int)) (k : Nat) : Prop :=
  (∀ j, j < k → risesB (zss.getD j []) 0 ((n : Int) - 1) = true ∧ (zss.getD j []).length ≠ 0) ∧ (zss.length ≤ 12 → ∀ j, j < k → ∀ m, m < j → fitB (zss.getD m []) (zss.getD j []) = true)
open Classical in
noncomputable def lamB (n : Nat) (zss : List (List Int)) : Bool := decide (LamTo n zss zss.length ∧ zss.length ≤ 12)
open Classical in
theorem lamB_is {n : Nat} {zss : List (List Int)} (h : LamTo n zss zss.length) : lamB n zss = decide (zss.length ≤ 12) := by
  unfold lamB; simp [h]
theorem lamB_falls {n : Nat} {zss : List (List Int)} {k : Nat} (hk : k < zss.length) (h : risesB (zss.getD k []) 0 ((n : Int) - 1) = false) : lamB n zss = false := by
  unfold lamB; rw [decide_eq_false_iff_not]; intro h2; have := (h2.1.1 k hk).1; rw [h] at this; cases this
theorem lamB_empty {n : Nat} {zss : List (List Int)} {k : Nat} (hk : k < zss.length) (h : (zss.getD k []).length = 0) : lamB n zss = false := by
  unfold lamB; rw [decide_eq_false_iff_not]; intro h2; exact (h2.1.1 k hk).2 h
theorem lamB_unfit {n : Nat} {zss : List (List Int)} {k m : Nat} (hk : k < zss.length) (hm : m < k) (h : fitB (zss.getD m []) (zss.getD k []) = false) : lamB n zss = false := by
  unfold lamB; rw [decide_eq_false_iff_not]; intro h2; have := h2.1.2 h2.2 k hk m hm; rw [h] at this; cases this
theorem LamTo.succ {n : Nat} {zss : List (List Int)} {k : Nat} (h : LamTo n zss k) (h1 : risesB (zss.getD k []) 0 ((n : Int) - 1) = true) (h2 : (zss.getD k []).length ≠ 0) (h3 : zss.length ≤ 12 → ∀ m, m < k → fitB (zss.getD m []) (zss.getD k []) = true) : LamTo n zss (k + 1) := by
  refine ⟨fun j hj => ?_, fun hl j hj => ?_⟩
  · by_cases e : j = k
    · subst e; exact ⟨h1, h2⟩
    · exact h.1 j (by omega)
  · by_cases e : j = k
    · subst e; exact h3 hl
    · exact h.2 hl j (by omega)
end Go.Proofs.Ytpdcmhnaedhkdaa
