/- Journals: lines with their check numbers, as bytes. -/
import Derived.Test.YtpdcmhnaedhkdabDoorTx11
import Derived.Test.YtpdcmhnaedhkdabDoorSums
import Derived.Test.YtpdcmhnaedhkdabDoorJoin
namespace Go.Proofs.YtpdcmhnaedhkdabDoor
open Go.ChangeShapes Go.WideShapes Go.ChangeAt Go.RowKit Go.Deep
set_option linter.unusedVariables false
/-- What a journal has for a line with a check number. -/
def enL (c : Int) (l : List UInt8) : List UInt8 := Lib.itoa c ++ [32] ++ l ++ [10]
/-- The check number behind k lines. -/
def ckT (zs : List ByteArray) : Nat → Int
  | 0 => 0
  | k + 1 => chk (ckT zs k) (zs.getD k noT).data.toList
/-- The journal of the first k lines. -/
def jrT (zs : List ByteArray) : Nat → List UInt8
  | 0 => []
  | k + 1 => jrT zs k ++ enL (ckT zs (k + 1)) (zs.getD k noT).data.toList
/-- A line without an end inside of it. -/
def noE (s : ByteArray) : Bool := !s.data.toList.contains 10
def okJ (zs : List ByteArray) : Bool := decide ((jrT zs zs.length).length ≤ 4000) && zs.all noE
def jrV (zs : List ByteArray) : ByteArray := if okJ zs = true then bstr (jrT zs zs.length) else noT
theorem ckT_bd (zs : List ByteArray) : ∀ k, 0 ≤ ckT zs k ∧ ckT zs k < 65521
  | 0 => by simp [ckT]
  | k + 1 => chk_bd _ _ (ckT_bd zs k)
theorem itoa_ne (n : Int) : 1 ≤ (Lib.itoa n).length := by
  unfold Lib.itoa
  split
  · simp
  · rw [Lib.decDigits]; split <;> simp
theorem enL_len (c : Int) (hc : 0 ≤ c ∧ c < 65521) (l : List UInt8) : l.length + 3 ≤ (enL c l).length ∧ (enL c l).length ≤ l.length + 22 := by
  have h1 := itoa_ne c
  have h2 := itoa_len c ⟨by omega, by omega⟩
  unfold enL
  simp only [List.length_append, List.length_cons, List.length_nil]
  omega
theorem jrT_succ (zs : List ByteArray) (k : Nat) : (jrT zs (k + 1)).length = (jrT zs k).length + (enL (ckT zs (k + 1)) (zs.getD k noT).data.toList).length := by
  rw [jrT, List.length_append]
theorem jrT_mono (zs : List ByteArray) : ∀ {i j : Nat}, i ≤ j → (jrT zs i).length ≤ (jrT zs j).length := by
  intro i j h
  induction j with
  | zero => rw [Nat.le_zero.1 h]; exact Nat.le_refl _
  | succ j ih =>
    rcases Nat.lt_or_eq_of_le h with h1 | h1
    · have := ih (by omega)
      rw [jrT_succ]; omega
    · rw [h1]; exact Nat.le_refl _
theorem size_list (s : ByteArray) : s.data.toList.length = s.size := by rw [Array.length_toList]; rfl
theorem jrT_low (zs : List ByteArray) : ∀ k, k ≤ zs.length → totT (zs.take k) + 3 * k ≤ (jrT zs k).length
  | 0, _ => by simp [totT]
  | k + 1, h => by
    have h1 := jrT_low zs k (by omega)
    have h2 := totT_take_succ zs k (by omega)
    have h3 := (enL_len (ckT zs (k + 1)) (ckT_bd zs (k + 1)) (zs.getD k noT).data.toList).1
    rw [size_list] at h3
    rw [jrT_succ]; omega
theorem jrT_high (zs : List ByteArray) : ∀ k, k ≤ zs.length → (jrT zs k).length ≤ totT (zs.take k) + 22 * k
  | 0, _ => by simp [jrT]
  | k + 1, h => by
    have h1 := jrT_high zs k (by omega)
    have h2 := totT_take_succ zs k (by omega)
    have h3 := (enL_len (ckT zs (k + 1)) (ckT_bd zs (k + 1)) (zs.getD k noT).data.toList).2
    rw [size_list] at h3
    rw [jrT_succ]; omega
theorem okJ_long {zs : List ByteArray} {k : Nat} (hk : k ≤ zs.length) (h : 4000 < (jrT zs k).length) : okJ zs = false := by
  have := jrT_mono zs hk
  unfold okJ
  rw [decide_eq_false (by omega), Bool.false_and]
theorem okJ_end {zs : List ByteArray} {k : Nat} (hk : k < zs.length) (h : noE (zs.getD k noT) = false) : okJ zs = false := by
  unfold okJ
  have : zs.all noE = false := by rw [List.all_eq_false]; exact ⟨_, getT_mem zs k hk, by rw [h]; simp⟩
  rw [this, Bool.and_false]
theorem okJ_yes {zs : List ByteArray} (h1 : (jrT zs zs.length).length ≤ 4000) (h2 : ∀ k, k < zs.length → noE (zs.getD k noT) = true) : okJ zs = true := by
  unfold okJ
  rw [decide_eq_true h1, Bool.true_and, List.all_eq_true]
  intro z hz
  obtain ⟨i, hi, rfl⟩ := List.getElem_of_mem hz
  have := h2 i hi
  rw [List.getD_eq_getElem?_getD, List.getElem?_eq_getElem hi] at this
  exact this
theorem bstr_size2 (a : List UInt8) : (bstr a).size = a.length := by simp [bstr, ByteArray.size]
theorem bstr_cat2 (a b : List UInt8) : bstr a ++ bstr b = bstr (a ++ b) := by unfold bstr; rw [ByteArray.mk_append_mk]; first | done | simp
theorem bstr_of (s : ByteArray) : bstr s.data.toList = s := by unfold bstr; first | rfl | (cases s; simp)
theorem enL_cat (c : Int) (s : ByteArray) : ((⟨(Lib.itoa c).toArray⟩ : ByteArray) ++ ⟨#[32]⟩ ++ s ++ ⟨#[10]⟩ : ByteArray) = bstr (enL c s.data.toList) := by
  show bstr (Lib.itoa c) ++ bstr [32] ++ s ++ bstr [10] = _
  conv => lhs; rw [← bstr_of s]
  rw [bstr_cat2, bstr_cat2, bstr_cat2]; rfl
end Go.Proofs.YtpdcmhnaedhkdabDoor
