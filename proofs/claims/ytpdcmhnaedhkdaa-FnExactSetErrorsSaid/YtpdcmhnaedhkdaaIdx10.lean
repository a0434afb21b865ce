/- The index of the first element with a property; bits of an int64. -/
import Derived.Test.YtpdcmhnaedhkdaaMem
import Derived.Laws.Bits128
import Derived.Laws.BitsAllLaws
namespace Go.Proofs.Ytpdcmhnaedhkdaa
open Go.ChangeShapes Go.WideShapes Go.ChangeAt Go.RowKit
set_option linter.unusedVariables false
/-- What an index of the first element with a property is, as far as it counts. -/
def idxOkX {α : Type} (p : α → Bool) (L : List α) (r : Int) : Prop := -1 ≤ r ∧ r < 9223372036854775807 ∧ (decide (0 ≤ r) = L.any p)
theorem any_noX {α : Type} {p : α → Bool} {L : List α} {k : Nat} (d : α) (h : k < L.length) (hf : p (L.getD k d) = true) : L.any p = true := by
  rw [List.any_eq_true]
  have : L.getD k d = L[k] := by simp [List.getD_eq_getElem?_getD, h]
  exact ⟨L[k], List.getElem_mem h, by rw [← this]; exact hf⟩
theorem any_takeX {α : Type} (p : α → Bool) (L : List α) (k : Nat) (d : α) (h : k < L.length) : (L.take (k + 1)).any p = ((L.take k).any p || p (L.getD k d)) := by
  have e : L.getD k d = L[k] := by simp [List.getD_eq_getElem?_getD, h]
  rw [List.take_succ_eq_append_getElem h, e, List.any_append]; simp
theorem not_anyX {α : Type} (p : α → Bool) (L : List α) : (L.any fun x => !p x) = !L.all p := by
  induction L with
  | nil => rfl
  | cons a t ih => simp only [List.any_cons, List.all_cons, ih]; cases p a <;> rfl
theorem i64_oneX (n : Int) : bits .and .i64 n 1 = n % 2 := by
  have h1 : (BitVec.ofInt 64 1).toNat = 2 ^ 1 - 1 := by decide
  have key : (BitVec.ofInt 64 n &&& BitVec.ofInt 64 1).toNat = (n % ((2 ^ 64 : Nat) : Int)).toNat % 2 ^ 1 := by
    rw [BitVec.toNat_and, BitVec.toNat_ofInt, h1, Nat.and_two_pow_sub_one_eq_mod]
  show IntKind.i64.wrap ((BitVec.ofInt 64 n &&& BitVec.ofInt 64 1).toNat : Nat) = n % 2
  rw [key, IntKind.wrap_i64]
  omega
theorem i64_bitX (x k : Nat) : bits .and .i64 ((x : Int) / 2 ^ k) 1 = if x.testBit k then 1 else 0 := by
  have e : ((x : Int) / 2 ^ k) = ((x / 2 ^ k : Nat) : Int) := by
    rw [show ((2 : Int) ^ k) = ((2 ^ k : Nat) : Int) from by norm_cast]; exact (Int.natCast_ediv x (2 ^ k)).symm
  rw [i64_oneX, e, Nat.testBit_eq_decide_div_mod_eq]
  rcases Nat.mod_two_eq_zero_or_one (x / 2 ^ k) with q | q
  · rw [q]; simp; omega
  · rw [q]; simp; omega
theorem wrap_powX {n : Nat} (h : n ≤ 40) : IntKind.i64.wrap (2 ^ n) = ((2 ^ n : Nat) : Int) := by
  have hp : 2 ^ n < 9223372036854775808 := Nat.lt_of_le_of_lt (Nat.pow_le_pow_right (by omega) h) (by decide)
  rw [show ((2 : Int) ^ n) = ((2 ^ n : Nat) : Int) from by norm_cast]
  generalize 2 ^ n = m at *
  exact IntWalk.i64_in _ (by omega)
/-- What lies in two int64 that are not negative. -/
theorem i64_andX (a b : Nat) (ha : a < 9223372036854775808) (hb : b < 9223372036854775808) : bits .and .i64 (a : Int) (b : Int) = ((a &&& b : Nat) : Int) := by
  have e1 : (BitVec.ofInt 64 (a : Int)).toNat = a := ofInt_u64 a (by omega)
  have e2 : (BitVec.ofInt 64 (b : Int)).toNat = b := ofInt_u64 b (by omega)
  have key : (BitVec.ofInt 64 (a : Int) &&& BitVec.ofInt 64 (b : Int)).toNat = a &&& b := by rw [BitVec.toNat_and, e1, e2]
  show IntKind.i64.wrap ((BitVec.ofInt 64 (a : Int) &&& BitVec.ofInt 64 (b : Int)).toNat : Nat) = _
  rw [key]
  have h : a &&& b ≤ a := Nat.and_le_left
  exact IntWalk.i64_in _ (by omega)
theorem i64_orX (a b : Nat) (ha : a < 4611686018427387904) (hb : b < 4611686018427387904) : bits .or .i64 (a : Int) (b : Int) = ((a ||| b : Nat) : Int) := by
  have e1 : (BitVec.ofInt 64 (a : Int)).toNat = a := ofInt_u64 a (by omega)
  have e2 : (BitVec.ofInt 64 (b : Int)).toNat = b := ofInt_u64 b (by omega)
  have key : (BitVec.ofInt 64 (a : Int) ||| BitVec.ofInt 64 (b : Int)).toNat = a ||| b := by rw [BitVec.toNat_or, e1, e2]
  show IntKind.i64.wrap ((BitVec.ofInt 64 (a : Int) ||| BitVec.ofInt 64 (b : Int)).toNat : Nat) = _
  rw [key]
  have h : a ||| b < 2 ^ 62 := Nat.or_lt_two_pow (by simpa using ha) (by simpa using hb)
  exact IntWalk.i64_in _ (by omega)
end Go.Proofs.Ytpdcmhnaedhkdaa
