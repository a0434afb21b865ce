/- Heights of words that are lists of bytes (pure). -/
import Derived.Test.YtomfhkpmdalknabBl7
import Derived.Laws.BytesArg
namespace Go.Proofs.Ytomfhkpmdalknab
open Go.ChangeShapes Go.WideShapes Go.ChangeAt Go.RowKit Go.Deep
set_option linter.unusedVariables false
/-! ### the heights of a word that is a list of bytes 97 and 98 -/
def Ab7 (zs : List Int) : Prop := ∀ z ∈ zs, z = 97 ∨ z = 98
def hN7 (zs : List Int) (k : Nat) : Nat := ((zs.take k).map fun z => (z - 97).toNat).sum
theorem hN7_zero (zs : List Int) : hN7 zs 0 = 0 := by simp [hN7]
theorem hN7_succ (zs : List Int) (k : Nat) (h : k < zs.length) : hN7 zs (k + 1) = hN7 zs k + (zs[k] - 97).toNat := by
  unfold hN7; rw [List.take_succ_eq_append_getElem h, List.map_append, List.sum_append]; simp
theorem hN7_app (zs ys : List Int) (k : Nat) (h : k ≤ zs.length) : hN7 (zs ++ ys) k = hN7 zs k := by
  unfold hN7; rw [List.take_append_of_le_length h]
theorem byte7 (zs : List Int) (k : Nat) (h : k < zs.length) (ha : Ab7 zs) (hs : k < (strOfNums zs).size) : (((strOfNums zs)[k]'hs).toNat : Int) = zs[k] := by
  have e : (strOfNums zs)[k]'hs = UInt8.ofNat (zs[k]).toNat := by
    show (strOfNums zs).data[k] = _
    simp [strOfNums]
  rw [e]
  rcases ha _ (List.getElem_mem h) with q | q <;> rw [q] <;> rfl
theorem hgt_hN (zs : List Int) (ha : Ab7 zs) : ∀ k, k ≤ zs.length → hgt (strOfNums zs) k = (hN7 zs k : Int) := by
  intro k
  induction k with
  | zero => intro _; rw [hgt_zero, hN7_zero]; rfl
  | succ k ih =>
    intro hk
    have hs : k < (strOfNums zs).size := by rw [strOfNums_size]; omega
    rw [hgt_succ _ k hs, byte7 zs k (by omega) ha hs, ih (by omega), hN7_succ zs k (by omega)]
    rcases ha _ (List.getElem_mem (show k < zs.length by omega)) with q | q <;> rw [q] <;> simp
theorem wdB_ab (zs : List Int) (ha : Ab7 zs) (hl : zs.length ≤ 120) : wdB (strOfNums zs) = true := by
  rw [wdB_iff]
  refine ⟨by rw [strOfNums_size]; exact hl, fun j hj => ?_⟩
  have h1 : j < zs.length := by rw [strOfNums_size] at hj; exact hj
  have h2 := byte7 zs j h1 ha hj
  rcases ha _ (List.getElem_mem h1) with q | q <;> rw [q] at h2 <;> omega
end Go.Proofs.Ytomfhkpmdalknab
