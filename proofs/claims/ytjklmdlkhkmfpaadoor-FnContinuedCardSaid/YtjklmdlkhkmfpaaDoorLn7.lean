/- Words of lines, Christoffel words: the model's look. -/
import Derived.Test.YtjklmdlkhkmfpaaDoorWord
import Derived.Test.YtjklmdlkhkmfpaaDoorWd7
namespace Go.Proofs.YtjklmdlkhkmfpaaDoor
open Go.ChangeShapes Go.WideShapes Go.ChangeAt Go.RowKit Go.Deep
set_option linter.unusedVariables false
def lnB (a den shift : Int) (i : Int) : Int := if fl (i * a + shift) den < fl ((i + 1) * a + shift) den then 98 else 97
def lnN (a den shift : Int) (n : Nat) : List Int := (List.range n).map fun (i : Nat) => lnB a den shift i
theorem lnN_len (a den shift : Int) (n : Nat) : (lnN a den shift n).length = n := by simp [lnN]
theorem lnN_succ (a den shift : Int) (n : Nat) : lnN a den shift (n + 1) = lnN a den shift n ++ [lnB a den shift n] := by simp [lnN, List.range_succ]
def okLn (a den shift count : Int) : Bool := inB den 1 1000 && (inB a 0 den && (inB shift 0 (den - 1) && inB count 0 120))
def lnS (a den shift count : Int) : ByteArray := if okLn a den shift count then strOfNums (lnN a den shift count.toNat) else ByteArray.empty
theorem mul_ln {k : Nat} {a d s : Int} (hk : k ≤ 120) (h0 : 0 ≤ a) (h1 : a ≤ d) (h2 : d ≤ 1000) (h3 : 0 ≤ s) (h4 : s ≤ 1000) : (0 ≤ (k : Int) * a ∧ (k : Int) * a ≤ 120000) ∧ (0 ≤ ((k : Int) + 1) * a ∧ ((k : Int) + 1) * a ≤ 121000) := by
  have e1 : 0 ≤ (k : Int) * a := Int.mul_nonneg (by omega) h0
  have e2 : (k : Int) * a ≤ 120 * 1000 := Int.mul_le_mul (by omega) (by omega) h0 (by omega)
  have e3 : ((k : Int) + 1) * a = (k : Int) * a + a := by rw [Int.add_mul, Int.one_mul]
  rw [e3]
  omega
/-- Two numbers of a Christoffel word. -/
def chB (a b : Int) : Bool := inB a 0 60 && (inB b 0 60 && decide (Int.gcd a b = 1))
def chS (a b : Int) : ByteArray := if chB a b then strOfNums (lnN b (a + b) 0 (a + b).toNat) else ByteArray.empty
theorem chB_iff {a b : Int} : chB a b = true ↔ (0 ≤ a ∧ a ≤ 60) ∧ (0 ≤ b ∧ b ≤ 60) ∧ Int.gcd a b = 1 := by
  unfold chB; simp only [Bool.and_eq_true, inB_iff, decide_eq_true_eq]
theorem chB_pos {a b : Int} (h : chB a b = true) : 1 ≤ a + b := by
  have h1 := chB_iff.1 h
  by_cases q : a + b = 0
  · have ha : a = 0 := by omega
    have hb : b = 0 := by omega
    have := h1.2.2
    rw [ha, hb] at this
    simp at this
  · omega
end Go.Proofs.YtjklmdlkhkmfpaaDoor
