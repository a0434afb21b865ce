/- Balanced words: the model's look. -/
import Derived.Test.YtpdcmhnaedhkdaaWd7
import Derived.Test.YtpdcmhnaedhkdaaGreat
import Derived.Deep.QuietTactic
import Derived.Deep.LoopGhost
namespace Go.Proofs.Ytpdcmhnaedhkdaa
open Go.ChangeShapes Go.WideShapes Go.ChangeAt Go.RowKit Go.Deep
set_option linter.unusedVariables false
def mnW (a b : Int) : Int := if a < b then a else b
def dif7 (s : ByteArray) (n i : Nat) : Int := hgt s (i + n) - hgt s i
def balN (s : ByteArray) (n : Nat) : Bool := (List.range (s.size + 1 - n)).all fun i => (List.range (s.size + 1 - n)).all fun j => decide (dif7 s n i ≤ dif7 s n j + 1)
def balT (s : ByteArray) : Bool := (List.range s.size).all fun t => balN s (t + 1)
def balB (s : ByteArray) : Bool := wdB s && balT s
theorem balN_iff {s : ByteArray} {n : Nat} : balN s n = true ↔ ∀ i j, i < s.size + 1 - n → j < s.size + 1 - n → dif7 s n i ≤ dif7 s n j + 1 := by
  unfold balN
  simp only [List.all_eq_true, List.mem_range, decide_eq_true_eq]
  exact ⟨fun h i j hi hj => h i hi j hj, fun h i hi j hj => h i j hi hj⟩
theorem rangeW_succ (p : Nat → Bool) (k : Nat) : (List.range (k + 1)).all p = ((List.range k).all p && p k) := by rw [List.range_succ, List.all_append]; simp
theorem rangeW_no {p : Nat → Bool} {n k : Nat} (h : k < n) (hf : p k = false) : (List.range n).all p = false := by
  rw [List.all_eq_false]; exact ⟨k, List.mem_range.2 h, by simp [hf]⟩
theorem hgt_step {s : ByteArray} (hw : wdB s = true) : ∀ n i, i + n ≤ s.size → 0 ≤ dif7 s n i ∧ dif7 s n i ≤ n := by
  intro n
  induction n with
  | zero => intro i hi; unfold dif7; simp
  | succ n ih =>
    intro i hi
    have h1 := ih i (by omega)
    have h2 := (wdB_iff.1 hw).2 (i + n) (by omega)
    unfold dif7 at h1 ⊢
    rw [show i + (n + 1) = (i + n) + 1 from by omega, hgt_succ s (i + n) (by omega)]
    omega
theorem l00MinW_any (a b : Int) (w : World) :
    Calls Try.prog 89 #[.int .i64 a, .int .i64 b] w fun e w' => e = .returned (.int .i64 (mnW a b)) ∧ w = w' := by
  by_cases h : a < b
  · rw [show mnW a b = a from by unfold mnW; rw [if_pos h]]
    go_enter Try.func89, Try.ntmps89
    go_wp2
    go_ret
    exact ⟨rfl, rfl⟩
  · rw [show mnW a b = b from by unfold mnW; rw [if_neg h]]
    go_enter Try.func89, Try.ntmps89
    go_wp2
    go_ret
    exact ⟨rfl, rfl⟩
end Go.Proofs.Ytpdcmhnaedhkdaa
