/- Words over two letters: what they are, their heights; the model's look. -/
import Derived.Test.YtpdcmhnaedhkdaaInts
import Derived.Test.YtpdcmhnaedhkdaaMem
import Derived.Test.YtpdcmhnaedhkdaaCopyL
import Derived.Test.YtpdcmhnaedhkdaaStep
import Derived.Test.YtpdcmhnaedhkdaaGcd6
namespace Go.Proofs.Ytpdcmhnaedhkdaa
open Go.ChangeShapes Go.WideShapes Go.ChangeAt Go.RowKit Go.Deep
set_option linter.unusedVariables false
/-- The first k bytes are letters a and b. -/
def AbTo (s : ByteArray) (k : Nat) : Prop := ∀ j (h : j < s.size), j < k → (s[j]'h).toNat = 97 ∨ (s[j]'h).toNat = 98
theorem AbTo.succ {s : ByteArray} {k : Nat} (h : AbTo s k) (hk : k < s.size) (h1 : (s[k]'hk).toNat = 97 ∨ (s[k]'hk).toNat = 98) : AbTo s (k + 1) := by
  intro j hj hjk
  rcases Nat.lt_or_eq_of_le (Nat.le_of_lt_succ hjk) with h3 | h3
  · exact h j hj h3
  · subst h3; exact h1
def wdB (s : ByteArray) : Bool := decide (s.size ≤ 120 ∧ ∀ j (h : j < s.size), (s[j]'h).toNat = 97 ∨ (s[j]'h).toNat = 98)
theorem wdB_no {s : ByteArray} {k : Nat} (hk : k < s.size) (h1 : (s[k]'hk).toNat ≠ 97) (h2 : (s[k]'hk).toNat ≠ 98) : wdB s = false := by
  unfold wdB; rw [decide_eq_false_iff_not]
  rintro ⟨_, h3⟩
  have := h3 k hk; omega
theorem wdB_yes {s : ByteArray} (h : AbTo s s.size) : wdB s = decide (s.size ≤ 120) := by
  unfold wdB
  by_cases q : s.size ≤ 120
  · rw [decide_eq_true q, decide_eq_true ⟨q, fun j hj => h j hj hj⟩]
  · rw [decide_eq_false q, decide_eq_false (fun h => q h.1)]
theorem wdB_iff {s : ByteArray} : wdB s = true ↔ s.size ≤ 120 ∧ ∀ j (h : j < s.size), (s[j]'h).toNat = 97 ∨ (s[j]'h).toNat = 98 := by unfold wdB; rw [decide_eq_true_eq]
/-- How many letters b are among the first k. -/
def hgt (s : ByteArray) (k : Nat) : Int := ((List.range k).map fun j => if h : j < s.size then ((s[j]'h).toNat : Int) - 97 else 0).sum
theorem hgt_succ (s : ByteArray) (k : Nat) (h : k < s.size) : hgt s (k + 1) = hgt s k + (((s[k]'h).toNat : Int) - 97) := by
  unfold hgt; rw [List.range_succ, List.map_append, List.sum_append]; simp [h]
theorem hgt_zero (s : ByteArray) : hgt s 0 = 0 := by simp [hgt]
theorem hgt_bd {s : ByteArray} (hw : wdB s = true) : ∀ k, k ≤ s.size → 0 ≤ hgt s k ∧ hgt s k ≤ k := by
  intro k
  induction k with
  | zero => intro _; rw [hgt_zero]; simp
  | succ k ih =>
    intro hk
    have h1 := ih (by omega)
    have h2 := (wdB_iff.1 hw).2 k (by omega)
    rw [hgt_succ s k (by omega)]; omega
def hgtL (s : ByteArray) (k : Nat) : List Int := (List.range (k + 1)).map (hgt s)
theorem hgtL_len (s : ByteArray) (k : Nat) : (hgtL s k).length = k + 1 := by simp [hgtL]
theorem hgtL_succ (s : ByteArray) (k : Nat) : hgtL s (k + 1) = hgtL s k ++ [hgt s (k + 1)] := by
  unfold hgtL; rw [List.range_succ (n := k + 1), List.map_append]; rfl
theorem hgtL_get (s : ByteArray) (k j : Nat) (h : j ≤ k) : (hgtL s k).getD j 0 = hgt s j := by
  unfold hgtL; simp [List.getD_eq_getElem?_getD, show j < k + 1 by omega]
def hgtV (s : ByteArray) : List Int := if wdB s then hgtL s s.size else []
end Go.Proofs.Ytpdcmhnaedhkdaa
