/- Calendars of rules: what rules are, how many divide a year (pure). -/
import Derived.Test.YtomfhkpmdalknabGrc11
namespace Go.Proofs.Ytomfhkpmdalknab
open Go.ChangeShapes Go.WideShapes Go.ChangeAt Go.RowKit
set_option linter.unusedVariables false
def rulAt (rs : List Int) (i : Nat) : Bool := inB (rs.getD i 0) 1 400 && (decide (i = 0) || (decide (rs.getD (i - 1) 0 < rs.getD i 0) && decide (rs.getD i 0 % rs.getD (i - 1) 0 = 0)))
def rulT (rs : List Int) (k : Nat) : Bool := (List.range k).all (rulAt rs)
theorem rulT_succ (rs : List Int) (k : Nat) : rulT rs (k + 1) = (rulT rs k && rulAt rs k) := by unfold rulT; rw [List.range_succ, List.all_append]; simp
def rulB (rs : List Int) : Bool := decide (1 ≤ rs.length) && (decide (rs.length ≤ 5) && rulT rs rs.length)
theorem rulT_at {rs : List Int} {k i : Nat} (h : rulT rs k = true) (hi : i < k) : rulAt rs i = true := by
  unfold rulT at h; rw [List.all_eq_true] at h; exact h i (List.mem_range.2 hi)
theorem rulT_in {rs : List Int} {k i : Nat} (h : rulT rs k = true) (hi : i < k) : 1 ≤ rs.getD i 0 ∧ rs.getD i 0 ≤ 400 := by
  have h2 := rulT_at h hi
  unfold rulAt at h2
  rw [Bool.and_eq_true] at h2
  exact inB_iff.1 h2.1
theorem rulB_no {rs : List Int} {k : Nat} (h : k < rs.length) (hf : rulAt rs k = false) : rulB rs = false := by
  have : rulT rs rs.length = false := by unfold rulT; rw [List.all_eq_false]; exact ⟨k, List.mem_range.2 h, by rw [hf]; simp⟩
  unfold rulB; rw [this]; simp
theorem rulAt_zero (rs : List Int) : rulAt rs 0 = inB (rs.getD 0 0) 1 400 := by unfold rulAt; simp
theorem rulAt_pos {rs : List Int} {k : Nat} (h0 : 0 < k) : rulAt rs k = (inB (rs.getD k 0) 1 400 && (decide (rs.getD (k - 1) 0 < rs.getD k 0) && decide (rs.getD k 0 % rs.getD (k - 1) 0 = 0))) := by
  unfold rulAt; rw [decide_eq_false (show ¬ k = 0 by omega), Bool.false_or]
/-- As the program looks at a rule behind another one. -/
theorem rulAt_step {rs : List Int} {k : Nat} (h0 : 0 < k) (hp : 1 ≤ rs.getD (k - 1) 0) : rulAt rs k = (inB (rs.getD k 0) (rs.getD (k - 1) 0 + 1) 400 && decide (rs.getD k 0 % rs.getD (k - 1) 0 = 0)) := by
  rw [rulAt_pos h0, Bool.eq_iff_iff]
  simp only [Bool.and_eq_true, inB_iff, decide_eq_true_eq]
  omega
/-- How many of the first k rules divide a year. -/
def cntR (rs : List Int) (y : Int) (k : Nat) : Nat := (rs.take k).countP (fun r => decide (y % r = 0))
theorem cntR_succ (rs : List Int) (y : Int) (k : Nat) (h : k < rs.length) : cntR rs y (k + 1) = cntR rs y k + (if y % rs.getD k 0 = 0 then 1 else 0) := by
  unfold cntR
  rw [take_succ_getD rs k h, List.countP_append]
  by_cases c : y % rs.getD k 0 = 0
  · rw [if_pos c, List.countP_cons_of_pos (by simpa using c)]; rfl
  · rw [if_neg c, List.countP_cons_of_neg (by simpa using c)]; rfl
theorem cntR_le (rs : List Int) (y : Int) (k : Nat) : cntR rs y k ≤ rs.length := by
  unfold cntR
  exact Nat.le_trans List.countP_le_length (by rw [List.length_take]; omega)
def rlP (rs : List Int) (i : Nat) : Bool := decide (cntR rs i rs.length % 2 = 1)
def rcB (rs : List Int) (gh : Int) : Bool := rulB rs && inB gh 1 1000
def rcG (rs : List Int) (gh : Int) : Int := if rcB rs gh then rs.getD (rs.length - 1) 0 else 0
def rcH (rs : List Int) (gh : Int) : Int := if rcB rs gh then gh else 0
def rcL (rs : List Int) (gh : Int) : List Int := if rcB rs gh then pickL (rlP rs) (rs.getD (rs.length - 1) 0).toNat else []
theorem rulB_parts {rs : List Int} (h : rulB rs = true) : 1 ≤ rs.length ∧ rs.length ≤ 5 ∧ rulT rs rs.length = true := by
  unfold rulB at h; simp only [Bool.and_eq_true, decide_eq_true_eq] at h; exact h
theorem rulB_last {rs : List Int} (h : rulB rs = true) : 1 ≤ rs.getD (rs.length - 1) 0 ∧ rs.getD (rs.length - 1) 0 ≤ 400 := by
  obtain ⟨h1, h2, h3⟩ := rulB_parts h
  exact rulT_in h3 (by omega)
end Go.Proofs.Ytomfhkpmdalknab
