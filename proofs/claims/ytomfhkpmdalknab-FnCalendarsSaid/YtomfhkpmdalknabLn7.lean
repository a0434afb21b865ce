/- Words of lines, Christoffel words: the model's look. -/
import Derived.Test.YtomfhkpmdalknabWord
import Derived.Test.YtomfhkpmdalknabWd7
namespace Go.Proofs.Ytomfhkpmdalknab
open Go.ChangeShapes Go.WideShapes Go.ChangeAt Go.RowKit Go.Deep
set_option linter.unusedVariables false
def lnB (a den shift : Int) (i : Int) : Int := if fl (i * a + shift) den < fl ((i + 1) * a + shift) den then 98 else 97
def lnN (a den shift : Int) (n : Nat) : List Int := (List.range n).map fun (i : Nat) => lnB a den shift i
theorem lnN_len (a den shift : Int) (n : Nat) : (lnN a den shift n).length = n := by simp [lnN]
theorem lnN_succ (a den shift : Int) (n : Nat) : lnN a den shift (n + 1) = lnN a den shift n ++ [lnB a den shift n] := by simp [lnN, List.range_succ]
def okLn (a den shift count : Int) : Bool := inB den 1 1000 && (inB a 0 den && (inB shift 0 (den - 1) && inB count 0 120))
def lnS (a den shift count : Int) : ByteArray := if okLn a den shift count then strOfNums (lnN a den shift count.toNat) else ByteArray.empty
theorem mul_ln {k : Nat} {a d s : Int} (hk : k ≤ 120) (h0 : 0 ≤ a) (h1 : a ≤ d) (h2 : d ≤ 1000) (h3 : 0 ≤ s) (h4 : s ≤ 1000) : (0 ≤ (k : Int) * a ∧ (k : Int) * a ≤ 120000) ∧ (0 ≤ ((k : Int) + 1) * a ∧ ((k : Int) + 1) * a ≤ 121000) := by
  have e1 : 0 ≤ (k : Int) * a := Int.mul_nonneg (by omega) h0
  have e2 : (k : Int) * a ≤ 120 * 1000 := Int.mul_le_mul (by omega) (by omega) h0 (by omega)
  have e3 : ((k : Int) + 1) * a = (k : Int) * a + a := by rw [Int.add_mul, Int.one_mul]
  rw [e3]
  omega
set_option maxHeartbeats 1600000 in
theorem l07Line_any (a den shift : Int) (n : Nat) (w : World) (d1 : 1 ≤ den) (d2 : den ≤ 1000) (a1 : 0 ≤ a) (a2 : a ≤ den) (s1 : 0 ≤ shift) (s2 : shift ≤ 1000) (hn : n ≤ 120) :
    Calls Try.prog 51 #[.int .i64 a, .int .i64 den, .int .i64 shift, .int .i64 n] w fun e w' => e = .returned (.string (strOfNums (lnN a den shift n))) ∧ Keep w w' := by
  have HM := Lib.hid (fun (k : Nat) (hk : k ≤ 120) => mul_ln hk a1 a2 d2 s1 s2)
  have hown0 : (w.alloc (.cells #[] 5)).ownsRow w.heap.size 5 1 (.slice (some ⟨w.heap.size, 0, none⟩) 0 0) 0 (bvals []) := by
    have := World.ownsRow_lit (base := w.heap.size) (e := 5) (size := 1) w #[] 0 (by simp) (by simp) rfl
    simpa using this
  have hbl1 : Keep w (w.alloc (.cells #[] 5)) := by go_grown
  go_enter Try.func51, Try.ntmps51
  go_wp2
  go_loopw [9, 10, 11] (fun v i _ wr => ∃ (k : Nat) (rd : Option Addr) (rc : Nat), k ≤ n ∧ i = .int .i64 k ∧ v = .slice rd k rc ∧ wr.ownsRow w.heap.size 5 1 (.slice rd k rc) k (bvals (lnN a den shift k)) ∧ Keep w wr)
    (fun _ i _ _ => n - (intOf i).toNat)
  case atStart => exact ⟨0, _, _, Nat.zero_le _, rfl, rfl, by simpa [lnN] using hown0, hbl1⟩
  case round =>
    obtain ⟨k, rd, rc, hk, rfl, rfl, hown, hbel⟩ := hrel
    by_cases hlt : k < n
    · obtain ⟨⟨m1, m2⟩, m3, m4⟩ := HM.out k (by omega)
      have HO := Lib.hid hown; clear hown
      have hsr := hbel.size
      have HKL := Lib.hid (lnN_len a den shift k)
      have c0 : -1000000000 ≤ (k : Int) * a + shift := by omega
      have c1 : (k : Int) * a + shift ≤ 1000000000 := by omega
      have c2 : -1000000000 ≤ ((k : Int) + 1) * a + shift := by omega
      have c3 : ((k : Int) + 1) * a + shift ≤ 1000000000 := by omega
      by_cases hq : fl ((k : Int) * a + shift) den < fl (((k : Int) + 1) * a + shift) den
      · have HW : Hid (bvals (lnN a den shift (k + 1)) = bvals (lnN a den shift k ++ [98])) := Lib.hid (by rw [lnN_succ]; simp [lnB, hq])
        go_wp2_with (first | (go_at_call 54; refine (l01Floor_any _ _ _ (by omega) (by omega) (by omega) (by omega)).mono ?_; rintro e w' ⟨rfl, rfl⟩) | (refine list_appB (by rfl) _ _ (by rfl) w.heap.size rd rc k _ 98 (by rfl) (row_keep HO.out (by go_grown)) HKL.out.symm wr.heap.size (by rfl) (by simp) (by rw [HKL.out]; omega) (by simp; omega) ?_; intro ad' cap' w2 hown2 hgr2; have hbel2 := below_row (Below.trans hbel (by go_grown)) (row_keep HO.out (by go_grown)) hgr2 (by simp; omega) (Nat.le_refl _)))
        go_roundw
        case rel => exact ⟨k + 1, ad', cap', by omega, by go_num, rfl, by rw [HW.out]; exact hown2, hbel2⟩
        case measure => simp [intOf]; omega
      · have HW : Hid (bvals (lnN a den shift (k + 1)) = bvals (lnN a den shift k ++ [97])) := Lib.hid (by rw [lnN_succ]; simp [lnB, hq])
        go_wp2_with (first | (go_at_call 54; refine (l01Floor_any _ _ _ (by omega) (by omega) (by omega) (by omega)).mono ?_; rintro e w' ⟨rfl, rfl⟩) | (refine list_appB (by rfl) _ _ (by rfl) w.heap.size rd rc k _ 97 (by rfl) (row_keep HO.out (by go_grown)) HKL.out.symm wr.heap.size (by rfl) (by simp) (by rw [HKL.out]; omega) (by simp; omega) ?_; intro ad' cap' w2 hown2 hgr2; have hbel2 := below_row (Below.trans hbel (by go_grown)) (row_keep HO.out (by go_grown)) hgr2 (by simp; omega) (Nat.le_refl _)))
        go_roundw
        case rel => exact ⟨k + 1, ad', cap', by omega, by go_num, rfl, by rw [HW.out]; exact hown2, hbel2⟩
        case measure => simp [intOf]; omega
    · have he : k = n := by omega
      subst he
      have hcv := conv_row wr w.heap.size rd rc k (lnN a den shift k) hown (lnN_len a den shift k)
      go_wp2
      go_ret
      exact ⟨rfl, hbel⟩
/-- Two numbers of a Christoffel word. -/
def chB (a b : Int) : Bool := inB a 0 60 && (inB b 0 60 && decide (Int.gcd a b = 1))
def chS (a b : Int) : ByteArray := if chB a b then strOfNums (lnN b (a + b) 0 (a + b).toNat) else ByteArray.empty
theorem chB_iff {a b : Int} : chB a b = true ↔ (0 ≤ a ∧ a ≤ 60) ∧ (0 ≤ b ∧ b ≤ 60) ∧ Int.gcd a b = 1 := by
  unfold chB; simp only [Bool.and_eq_true, inB_iff, decide_eq_true_eq]
theorem chB_pos {a b : Int} (h : chB a b = true) : 1 ≤ a + b := by
  have h1 := chB_iff.1 h
  by_cases q : a + b = 0
  · have ha : a = 0 := by omega
    have hb : b = 0 := by omega
    have := h1.2.2
    rw [ha, hb] at this
    simp at this
  · omega
end Go.Proofs.Ytomfhkpmdalknab
