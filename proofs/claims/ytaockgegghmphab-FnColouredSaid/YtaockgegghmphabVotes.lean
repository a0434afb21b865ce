/- Votes and seats: whether lists keep the limits of chapter 2. -/
import Derived.Test.YtaockgegghmphabMem
import Derived.Test.YtaockgegghmphabTot
namespace Go.Proofs.Ytaockgegghmphab
open Go.ChangeShapes Go.WideShapes Go.ChangeAt Go.RowKit
set_option linter.unusedVariables false

def allB (zs : List Int) (lo hi : Int) : Bool := zs.all fun z => inB z lo hi
def okVotes (zs : List Int) : Bool := decide (zs.length ≤ 12) && allB zs 0 1000000 && decide (0 < zs.sum)
theorem allB_take_succ (zs : List Int) (lo hi : Int) (k : Nat) (h : k < zs.length) : allB (zs.take (k + 1)) lo hi = (allB (zs.take k) lo hi && inB (zs.getD k 0) lo hi) := by
  have e : zs.getD k 0 = zs[k] := by simp [List.getD_eq_getElem?_getD, h]
  rw [List.take_succ_eq_append_getElem h, e]
  unfold allB
  rw [List.all_append]; simp
theorem allB_false_of (zs : List Int) (lo hi : Int) (k : Nat) (h : k < zs.length) (hf : inB (zs.getD k 0) lo hi = false) : allB zs lo hi = false := by
  unfold allB
  rw [List.all_eq_false]
  refine ⟨zs[k], List.getElem_mem h, ?_⟩
  have : zs.getD k 0 = zs[k] := by simp [List.getD_eq_getElem?_getD, h]
  rw [← this, hf]; simp
theorem allB_mem {zs : List Int} {lo hi : Int} (h : allB zs lo hi = true) : ∀ z ∈ zs, lo ≤ z ∧ z ≤ hi := by
  unfold allB at h; rw [List.all_eq_true] at h
  intro z hz; exact inB_iff.1 (h z hz)
theorem okVotes_len {zs : List Int} (h : okVotes zs = true) : zs.length ≤ 12 := by
  unfold okVotes at h; simp only [Bool.and_eq_true, decide_eq_true_eq] at h; exact h.1.1
theorem okVotes_num {zs : List Int} (h : okVotes zs = true) : ∀ z ∈ zs, 0 ≤ z ∧ z ≤ 1000000 := by
  unfold okVotes at h; simp only [Bool.and_eq_true, decide_eq_true_eq] at h; exact allB_mem h.1.2
theorem okVotes_sum {zs : List Int} (h : okVotes zs = true) : 0 < zs.sum ∧ zs.sum ≤ 12000000 := by
  have h1 := okVotes_len h
  have h2 := okVotes_num h
  have h3 := sum_bd 1000000 (by omega) zs (fun z hz => by have := h2 z hz; omega)
  unfold okVotes at h; simp only [Bool.and_eq_true, decide_eq_true_eq] at h
  exact ⟨h.2, by omega⟩
theorem sum_nonneg_take {zs : List Int} {hi : Int} (h : allB zs 0 hi = true) : 0 ≤ zs.sum := by
  have h2 := allB_mem h
  clear h
  induction zs with
  | nil => simp
  | cons a t ih =>
    have h3 := h2 a (by simp)
    have h4 := ih (fun z hz => h2 z (by simp [hz]))
    simp only [List.sum_cons]; omega
theorem pos_or {s x : Int} (hs : 0 ≤ s) (hx : 0 ≤ x) : (decide (0 < s) || decide (0 < x)) = decide (0 < s + x) := by
  rw [← Bool.decide_or]; exact decide_eq_decide.2 ⟨fun h => by omega, fun h => by omega⟩
theorem sum_take_nonneg {zs : List Int} {hi : Int} (k : Nat) (h : allB (zs.take k) 0 hi = true) : 0 ≤ (zs.take k).sum := sum_nonneg_take h
/-- Seats for as many parties. -/
def seatsOk (ls : List Int) (n : Nat) : Bool := decide (ls.length = n) && allB ls 0 100 && decide (ls.sum ≤ 100)
theorem seatsOk_num {ls : List Int} {n : Nat} (h : seatsOk ls n = true) : ∀ z ∈ ls, 0 ≤ z ∧ z ≤ 100 := by
  unfold seatsOk at h; simp only [Bool.and_eq_true, decide_eq_true_eq] at h; exact allB_mem h.1.2
theorem seatsOk_len {ls : List Int} {n : Nat} (h : seatsOk ls n = true) : ls.length = n := by
  unfold seatsOk at h; simp only [Bool.and_eq_true, decide_eq_true_eq] at h; exact h.1.1
theorem seatsOk_sum {ls : List Int} {n : Nat} (h : seatsOk ls n = true) : 0 ≤ ls.sum ∧ ls.sum ≤ 100 := by
  unfold seatsOk at h; simp only [Bool.and_eq_true, decide_eq_true_eq] at h
  exact ⟨sum_nonneg_take h.1.2, h.2⟩
end Go.Proofs.Ytaockgegghmphab
