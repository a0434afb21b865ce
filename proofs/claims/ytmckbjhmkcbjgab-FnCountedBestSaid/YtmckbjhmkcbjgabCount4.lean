/- How many choices of places are as good (pure): over the numbers below 2^n, whose bits are a choice, the first place the highest. -/
import Derived.Test.YtmckbjhmkcbjgabSel4
namespace Go.Proofs.Ytmckbjhmkcbjgab
set_option linter.unusedVariables false
/-- The bits of a number, the highest of n first. -/
def bitsS : Nat → Nat → List Bool
  | 0, _ => []
  | n + 1, x => decide (2 ^ n ≤ x) :: bitsS n (if 2 ^ n ≤ x then x - 2 ^ n else x)
/-- A choice that keeps what must be done with each place. -/
def fitS : List Int → List Bool → Bool
  | [], [] => true
  | c :: C, s :: S => (if c = 1 then s else if c = 0 then true else !s) && fitS C S
  | _, _ => false
def goodS (C : List Int) (u : Nat) (S : List Bool) : Bool := fitS C S && decide (trues S = u)
theorem trues_cons (s : Bool) (S : List Bool) : trues (s :: S) = trues S + (if s = true then 1 else 0) := by unfold trues; rw [List.countP_cons]
theorem isC_cons (c x : Int) (L : List Int) : isC c (x :: L) = isC c L + (if x = c then 1 else 0) := by
  unfold isC; rw [List.countP_cons]; simp
theorem range_two (n : Nat) : List.range (2 ^ (n + 1)) = List.range (2 ^ n) ++ (List.range (2 ^ n)).map (2 ^ n + ·) := by
  rw [show 2 ^ (n + 1) = 2 ^ n + 2 ^ n by rw [Nat.pow_succ]; omega, List.range_add]
theorem bits_low {n x : Nat} (h : x < 2 ^ n) : bitsS (n + 1) x = false :: bitsS n x := by
  have : ¬ 2 ^ n ≤ x := by omega
  simp [bitsS, this]
theorem bits_high {n x : Nat} : bitsS (n + 1) (2 ^ n + x) = true :: bitsS n x := by
  have : 2 ^ n ≤ 2 ^ n + x := by omega
  simp [bitsS]
theorem good_false (c : Int) (C : List Int) (u : Nat) (S : List Bool) : goodS (c :: C) u (false :: S) = (decide (c ≠ 1) && goodS C u S) := by
  unfold goodS
  rw [fitS, trues_cons]
  by_cases h : c = 1
  · simp [h]
  · by_cases h0 : c = 0 <;> simp [h, h0]
theorem good_true (c : Int) (C : List Int) (u : Nat) (S : List Bool) : goodS (c :: C) u (true :: S) = (decide (c = 1 ∨ c = 0) && (decide (0 < u) && goodS C (u - 1) S)) := by
  unfold goodS
  rw [fitS, trues_cons]
  have e : decide (trues S + (if true = true then 1 else 0) = u) = (decide (0 < u) && decide (trues S = u - 1)) := by
    rw [← Bool.decide_and]; congr 1; rw [if_pos rfl]; apply propext; omega
  rw [e]
  by_cases h : c = 1
  · simp [h]
    cases fitS C S <;> cases decide (0 < u) <;> simp
  · by_cases h0 : c = 0
    · simp [h0]
      cases fitS C S <;> cases decide (0 < u) <;> simp
    · simp [h, h0]
theorem cnt_good : ∀ (C : List Int) (u : Nat), (List.range (2 ^ C.length)).countP (fun x => goodS C u (bitsS C.length x)) = if isC 1 C ≤ u then chs (isC 0 C) (u - isC 1 C) else 0
  | [], u => by
    cases u with
    | zero => simp [goodS, fitS, bitsS, trues, isC, chs, List.range_succ]
    | succ u => simp [goodS, fitS, bitsS, trues, isC, chs, List.range_succ]
  | c :: C, u => by
    have ih1 := cnt_good C u
    have ih2 := cnt_good C (u - 1)
    rw [List.length_cons, range_two, List.countP_append, List.countP_map]
    have a1 : (List.range (2 ^ C.length)).countP (fun x => goodS (c :: C) u (bitsS (C.length + 1) x)) = if c ≠ 1 then (List.range (2 ^ C.length)).countP (fun x => goodS C u (bitsS C.length x)) else 0 := by
      rw [List.countP_congr (q := fun x => decide (c ≠ 1) && goodS C u (bitsS C.length x)) (fun x hx => by rw [bits_low (List.mem_range.1 hx), good_false])]
      by_cases h : c = 1 <;> simp [h]
    have a2 : (List.range (2 ^ C.length)).countP ((fun x => goodS (c :: C) u (bitsS (C.length + 1) x)) ∘ (2 ^ C.length + ·)) = if (c = 1 ∨ c = 0) ∧ 0 < u then (List.range (2 ^ C.length)).countP (fun x => goodS C (u - 1) (bitsS C.length x)) else 0 := by
      rw [List.countP_congr (q := fun x => decide (c = 1 ∨ c = 0) && (decide (0 < u) && goodS C (u - 1) (bitsS C.length x))) (fun x hx => by simp only [Function.comp]; rw [bits_high, good_true])]
      by_cases h : c = 1 ∨ c = 0
      · by_cases hu : 0 < u <;> simp [h, hu]
      · simp [h]
    rw [a1, a2, ih1, ih2, isC_cons, isC_cons]
    by_cases h1 : c = 1
    · subst h1
      simp only [ne_eq, not_true_eq_false, if_false, true_or, true_and, if_true, show ¬ (1 : Int) = 0 by omega, Nat.add_zero, Nat.zero_add]
      by_cases hu : 0 < u
      · rw [if_pos hu]
        by_cases q : isC 1 C ≤ u - 1
        · rw [if_pos q, if_pos (by omega), show u - 1 - isC 1 C = u - (isC 1 C + 1) by omega]
        · rw [if_neg q, if_neg (by omega)]
      · rw [if_neg hu, if_neg (by omega)]
    · by_cases h0 : c = 0
      · subst h0
        simp only [ne_eq, h1, not_false_eq_true, if_true, or_true, true_and, if_false, Nat.add_zero]
        by_cases q : isC 1 C ≤ u
        · rw [if_pos q, if_pos q]
          by_cases q2 : 0 < u ∧ isC 1 C ≤ u - 1
          · rw [if_pos q2.1, if_pos q2.2]
            obtain ⟨v, hv⟩ : ∃ v, u - isC 1 C = v + 1 := ⟨u - isC 1 C - 1, by omega⟩
            rw [hv, chs, show u - 1 - isC 1 C = v by omega]; omega
          · have e : u - isC 1 C = 0 := by omega
            rw [e, chs_zero, chs_zero]
            by_cases q3 : 0 < u
            · rw [if_pos q3, if_neg (fun q4 => q2 ⟨q3, q4⟩)]
            · rw [if_neg q3]
        · rw [if_neg q, if_neg q]
          by_cases q3 : 0 < u
          · rw [if_pos q3, if_neg (by omega)]
          · rw [if_neg q3]
      · simp only [ne_eq, h1, h0, not_false_eq_true, if_true, or_self, false_and, if_false, Nat.add_zero]
end Go.Proofs.Ytmckbjhmkcbjgab
