/- The words of at most 9 letters, each by its bits: as many are balanced as letter by letter (pure). -/
import Derived.Test.YtlkljhncpojlkabDoorCbl7
namespace Go.Proofs.YtlkljhncpojlkabDoor
open Go.ChangeShapes Go.WideShapes Go.ChangeAt Go.RowKit Go.Deep
set_option linter.unusedVariables false
def bitN7 (b i : Nat) : Nat := b / 2 ^ i % 2
def bitW7 (n b : Nat) : List Int := (List.range n).map fun i => 97 + (bitN7 b i : Int)
def bst7 (b : Nat) : Nat → St7 | 0 => ⟨[0], []⟩ | n + 1 => stp7 (bitN7 b n) (bst7 b n)
theorem bitN7_bd (b i : Nat) : bitN7 b i = 0 ∨ bitN7 b i = 1 := by unfold bitN7; omega
theorem bitW7_succ (n b : Nat) : bitW7 (n + 1) b = bitW7 n b ++ [97 + (bitN7 b n : Int)] := by
  unfold bitW7; rw [List.range_succ, List.map_append]; rfl
theorem bitW7_len (n b : Nat) : (bitW7 n b).length = n := by simp [bitW7]
theorem bst7_fit (b : Nat) : ∀ n, Fit7 (bitW7 n b) (bst7 b n) := by
  intro n
  induction n with
  | zero => exact Fit7.nil
  | succ n ih => rw [bitW7_succ]; exact ih.app _ (bitN7_bd b n)
theorem bit_bal {n : Nat} (h : n ≤ 120) (b : Nat) : balB (strOfNums (bitW7 n b)) = okS7 (bst7 b n) := (bst7_fit b n).bal (by rw [bitW7_len]; exact h)
def chkB7 : Bool := (List.range 10).all fun n => Nat.beq ((List.range (2 ^ n)).countP fun b => okS7 (bst7 b n)) (cntN7 n n)
set_option maxRecDepth 100000 in
theorem chkB7_true : chkB7 = true := by decide +kernel
theorem bit_count {n : Nat} (h : n ≤ 9) : (List.range (2 ^ n)).countP (fun b => balB (strOfNums (bitW7 n b))) = (lvlW n).length := by
  have h1 := chkB7_true
  unfold chkB7 at h1
  rw [List.all_eq_true] at h1
  have h2 := Nat.eq_of_beq_eq_true (h1 n (List.mem_range.2 (by omega)))
  rw [lvlW_count (by omega), ← h2]
  congr 1
  funext b
  exact bit_bal (by omega) b
end Go.Proofs.YtlkljhncpojlkabDoor
