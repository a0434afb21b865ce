/- Mixtures: what a valid one is; the model's look at one. -/
import Derived.Test.YtgpnlnmljeahdabMix
import Derived.Test.YtgpnlnmljeahdabSame
import Derived.Test.YtgpnlnmljeahdabTab5
import Derived.Test.YtgpnlnmljeahdabInts
import Derived.Deep.RegionHeld3
namespace Go.Proofs.Ytgpnlnmljeahdab
open Go.ChangeShapes Go.WideShapes Go.ChangeAt Go.RowKit Go.Deep
set_option linter.unusedVariables false
def numB6 (z : List Int) : Bool := z.all fun x => inB x (-1000000) 1000000
/-- Row k is none of those ahead of it. -/
def uniqB (zss : List (List Int)) (k : Nat) : Bool := (List.range k).all fun j => !eqB (zss.getD j []) (zss.getD k [])
def mixRow (us : List Int) (zss : List (List Int)) (k : Nat) : Bool :=
  inB (us.getD k 0) 1 1000000 && (decide ((zss.getD k []).length = (zss.getD 0 []).length) && (numB6 (zss.getD k []) && uniqB zss k))
/-- A valid mixture. -/
def mixB (us : List Int) (zss : List (List Int)) : Bool :=
  inB (zss.length : Int) 1 64 && (decide (us.length = zss.length) && (decide ((zss.getD 0 []).length ≤ 40) && ((List.range zss.length).all (mixRow us zss) && decide (us.sum ≤ 1000000))))
theorem range_all_succ (p : Nat → Bool) (k : Nat) : (List.range (k + 1)).all p = ((List.range k).all p && p k) := by rw [List.range_succ, List.all_append]; simp
theorem range_all_no {p : Nat → Bool} {n k : Nat} (h : k < n) (hf : p k = false) : (List.range n).all p = false := by
  rw [List.all_eq_false]; exact ⟨k, List.mem_range.2 h, by simp [hf]⟩
theorem range_all_get {p : Nat → Bool} {n : Nat} (h : (List.range n).all p = true) {k : Nat} (hk : k < n) : p k = true := List.all_eq_true.1 h _ (List.mem_range.2 hk)
theorem mix_size {us : List Int} {zss : List (List Int)} (h : mixB us zss = true) : (1 ≤ zss.length ∧ zss.length ≤ 64) ∧ us.length = zss.length ∧ (zss.getD 0 []).length ≤ 40 ∧ us.sum ≤ 1000000 := by
  unfold mixB at h
  simp only [Bool.and_eq_true, decide_eq_true_eq] at h
  have := inB_iff.1 h.1
  exact ⟨by omega, h.2.1, h.2.2.1, h.2.2.2.2⟩
theorem mix_row {us : List Int} {zss : List (List Int)} (h : mixB us zss = true) {k : Nat} (hk : k < zss.length) : (1 ≤ us.getD k 0 ∧ us.getD k 0 ≤ 1000000) ∧ (zss.getD k []).length = (zss.getD 0 []).length ∧ ∀ x ∈ zss.getD k [], -1000000 ≤ x ∧ x ≤ 1000000 := by
  unfold mixB at h
  simp only [Bool.and_eq_true] at h
  have := range_all_get h.2.2.2.1 hk
  unfold mixRow numB6 at this
  simp only [Bool.and_eq_true, decide_eq_true_eq, List.all_eq_true] at this
  exact ⟨inB_iff.1 this.1, this.2.1, fun x hx => inB_iff.1 (this.2.2.1 x hx)⟩
theorem take_sum_bd (us : List Int) (n : Nat) (h : ∀ k, k < n → 1 ≤ us.getD k 0 ∧ us.getD k 0 ≤ 1000000) (k : Nat) (hk : k ≤ n) (hn : n ≤ us.length) : 0 ≤ (us.take k).sum ∧ (us.take k).sum ≤ 1000000 * (k : Int) := by
  induction k with
  | zero => simp
  | succ k ih =>
    have h1 := ih (by omega)
    have h2 := h k (by omega)
    rw [sum_take_succ us k (by omega)]
    omega
end Go.Proofs.Ytgpnlnmljeahdab
