/- Words of lines with more letters than LineWord takes; the letters as years (pure). -/
import Derived.Test.YtomfhkpmdalknabLn7
import Derived.Test.YtomfhkpmdalknabLi7
import Derived.Test.YtomfhkpmdalknabHgt7
import Derived.Test.YtomfhkpmdalknabGrc11
namespace Go.Proofs.Ytomfhkpmdalknab
open Go.ChangeShapes Go.WideShapes Go.ChangeAt Go.RowKit Go.Deep
set_option linter.unusedVariables false
theorem mul_ln4 {k : Nat} {a d s : Int} (hk : k ≤ 400) (h0 : 0 ≤ a) (h1 : a ≤ d) (h2 : d ≤ 1000) (h3 : 0 ≤ s) (h4 : s ≤ 1000) : (0 ≤ (k : Int) * a ∧ (k : Int) * a ≤ 400000) ∧ (0 ≤ ((k : Int) + 1) * a ∧ ((k : Int) + 1) * a ≤ 401000) := by
  have e1 : 0 ≤ (k : Int) * a := Int.mul_nonneg (by omega) h0
  have e2 : (k : Int) * a ≤ 400 * 1000 := Int.mul_le_mul (by omega) (by omega) h0 (by omega)
  have e3 : ((k : Int) + 1) * a = (k : Int) * a + a := by rw [Int.add_mul, Int.one_mul]
  rw [e3]
  omega
/-- A year is a leap year if its letter is the second one. -/
def evP (a den shift : Int) (i : Nat) : Bool := decide (lnB a den shift (i : Int) = 98)
theorem ev_size (a den shift : Int) (n : Nat) : (strOfNums (lnN a den shift n)).size = n := by rw [strOfNums_size, lnN_len]
theorem ev_byte (a den shift : Int) (n i : Nat) (hi : i < n) (hs : i < (strOfNums (lnN a den shift n)).size) : (((strOfNums (lnN a den shift n))[i]'hs).toNat : Int) = if evP a den shift i then 98 else 97 := by
  have hl : i < (lnN a den shift n).length := by rw [lnN_len]; exact hi
  rw [byte7 _ i hl (fun z hz => lnN_ab a den shift n z hz) hs]
  have e : (lnN a den shift n)[i] = lnB a den shift (i : Int) := by simp [lnN]
  rw [e]
  unfold evP
  rcases lnB_ab a den shift (i : Int) with q | q
  · rw [q]; rfl
  · rw [q]; rfl
def ecB (c l gh sh : Int) : Bool := inB c 1 400 && (inB l 0 c && (inB gh 1 1000 && inB sh 0 (c - 1)))
def ecG (c l gh sh : Int) : Int := if ecB c l gh sh then c else 0
def ecH (c l gh sh : Int) : Int := if ecB c l gh sh then gh else 0
def ecL (c l gh sh : Int) : List Int := if ecB c l gh sh then pickL (evP l c sh) c.toNat else []
set_option maxHeartbeats 1600000 in
theorem l07Line4_any (a den shift : Int) (n : Nat) (w : World) (d1 : 1 ≤ den) (d2 : den ≤ 1000) (a1 : 0 ≤ a) (a2 : a ≤ den) (s1 : 0 ≤ shift) (s2 : shift ≤ 1000) (hn : n ≤ 400) :
    Calls Try.prog 51 #[.int .i64 a, .int .i64 den, .int .i64 shift, .int .i64 n] w fun e w' => e = .returned (.string (strOfNums (lnN a den shift n))) ∧ Keep w w' := by
  have HM := Lib.hid (fun (k : Nat) (hk : k ≤ 400) => mul_ln4 hk a1 a2 d2 s1 s2)
  have hown0 : (w.alloc (.cells #[] 5)).ownsRow w.heap.size 5 1 (.slice (some ⟨w.heap.size, 0, none⟩) 0 0) 0 (bvals []) := by
    have := World.ownsRow_lit (base := w.heap.size) (e := 5) (size := 1) w #[] 0 (by simp) (by simp) rfl
    simpa using this
  have hbl1 : Keep w (w.alloc (.cells #[] 5)) := by go_grown
  go_enter Try.func51, Try.ntmps51
  go_wp2
  go_loopw [9, 10, 11] (fun v i _ wr => ∃ (k : Nat) (rd : Option Addr) (rc : Nat), k ≤ n ∧ i = .int .i64 k ∧ v = .slice rd k rc ∧ wr.ownsRow w.heap.size 5 1 (.slice rd k rc) k (bvals (lnN a den shift k)) ∧ Keep w wr)
    (fun _ i _ _ => n - (intOf i).toNat)
  case atStart => exact ⟨0, _, _, Nat.zero_le _, rfl, rfl, by simpa [lnN] using hown0, hbl1⟩
  case round =>
    obtain ⟨k, rd, rc, hk, rfl, rfl, hown, hbel⟩ := hrel
    by_cases hlt : k < n
    · obtain ⟨⟨m1, m2⟩, m3, m4⟩ := HM.out k (by omega)
      have HO := Lib.hid hown; clear hown
      have hsr := hbel.size
      have HKL := Lib.hid (lnN_len a den shift k)
      have c0 : -1000000000 ≤ (k : Int) * a + shift := by omega
      have c1 : (k : Int) * a + shift ≤ 1000000000 := by omega
      have c2 : -1000000000 ≤ ((k : Int) + 1) * a + shift := by omega
      have c3 : ((k : Int) + 1) * a + shift ≤ 1000000000 := by omega
      by_cases hq : fl ((k : Int) * a + shift) den < fl (((k : Int) + 1) * a + shift) den
      · have HW : Hid (bvals (lnN a den shift (k + 1)) = bvals (lnN a den shift k ++ [98])) := Lib.hid (by rw [lnN_succ]; simp [lnB, hq])
        go_wp2_with (first | (go_at_call 54; refine (l01Floor_any _ _ _ (by omega) (by omega) (by omega) (by omega)).mono ?_; rintro e w' ⟨rfl, rfl⟩) | (refine list_appB (by rfl) _ _ (by rfl) w.heap.size rd rc k _ 98 (by rfl) (row_keep HO.out (by go_grown)) HKL.out.symm wr.heap.size (by rfl) (by simp) (by rw [HKL.out]; omega) (by simp; omega) ?_; intro ad' cap' w2 hown2 hgr2; have hbel2 := below_row (Below.trans hbel (by go_grown)) (row_keep HO.out (by go_grown)) hgr2 (by simp; omega) (Nat.le_refl _)))
        go_roundw
        case rel => exact ⟨k + 1, ad', cap', by omega, by go_num, rfl, by rw [HW.out]; exact hown2, hbel2⟩
        case measure => simp [intOf]; omega
      · have HW : Hid (bvals (lnN a den shift (k + 1)) = bvals (lnN a den shift k ++ [97])) := Lib.hid (by rw [lnN_succ]; simp [lnB, hq])
        go_wp2_with (first | (go_at_call 54; refine (l01Floor_any _ _ _ (by omega) (by omega) (by omega) (by omega)).mono ?_; rintro e w' ⟨rfl, rfl⟩) | (refine list_appB (by rfl) _ _ (by rfl) w.heap.size rd rc k _ 97 (by rfl) (row_keep HO.out (by go_grown)) HKL.out.symm wr.heap.size (by rfl) (by simp) (by rw [HKL.out]; omega) (by simp; omega) ?_; intro ad' cap' w2 hown2 hgr2; have hbel2 := below_row (Below.trans hbel (by go_grown)) (row_keep HO.out (by go_grown)) hgr2 (by simp; omega) (Nat.le_refl _)))
        go_roundw
        case rel => exact ⟨k + 1, ad', cap', by omega, by go_num, rfl, by rw [HW.out]; exact hown2, hbel2⟩
        case measure => simp [intOf]; omega
    · have he : k = n := by omega
      subst he
      have hcv := conv_row wr w.heap.size rd rc k (lnN a den shift k) hown (lnN_len a den shift k)
      go_wp2
      go_ret
      exact ⟨rfl, hbel⟩
set_option maxHeartbeats 1600000 in
theorem lineWord4_any (a den shift : Int) (n : Nat) (w : World) (d1 : 1 ≤ den) (d2 : den ≤ 1000) (a1 : 0 ≤ a) (a2 : a ≤ den) (s1 : 0 ≤ shift) (s2 : shift ≤ 1000) (hn : n ≤ 400) :
    Calls Try.prog 33 #[.int .i64 a, .int .i64 den, .int .i64 shift, .int .i64 n] w fun e w' => e = .returned (.string (strOfNums (lnN a den shift n))) ∧ Keep w w' := by
  have HM := Lib.hid (fun (k : Nat) (hk : k ≤ 400) => mul_ln4 hk a1 a2 d2 s1 s2)
  have HI0 : Hid (IsBu w.heap.size w.heap.size (bvals (lnN a den shift 0)) (w.alloc (.cells #[.pointer none, .slice none 0 0] 68))) := Lib.hid (by
    refine .inl ⟨Nat.le_refl _, .slice none 0 0, by show (w.heap.push _)[w.heap.size]? = _; simp, ?_, by simp [Value.ownBlock]⟩
    have := World.ownsRow_nil (w.alloc (.cells #[.pointer none, .slice none 0 0] 68)) w.heap.size 5 1
    simpa [lnN] using this)
  have HK0 : Hid (Keep w (w.alloc (.cells #[.pointer none, .slice none 0 0] 68))) := Lib.hid (by go_grown)
  have HZ : Hid (∀ k : Nat, (lnN a den shift k).length = k) := Lib.hid (fun k => lnN_len a den shift k)
  have HU : Hid (∀ k : Nat, Lib.byteCells (numsU (lnN a den shift k)) = bvals (lnN a den shift k)) := Lib.hid (fun k => numsU_cells _ (fun z hz => by have := lnN_ab a den shift k z hz; omega))
  go_enter Try.func33, Try.ntmps33
  go_wp2
  go_loopw [10, 11, 13] (fun _ _ i wr => ∃ k : Nat, k ≤ n ∧ i = .int .i64 k ∧ Hid (IsBu w.heap.size w.heap.size (bvals (lnN a den shift k)) wr) ∧ Hid (Keep w wr)) (fun _ _ i _ => n - (intOf i).toNat)
  case atStart => exact ⟨0, Nat.zero_le _, rfl, HI0, HK0⟩
  case round =>
    obtain ⟨k, hk, rfl, HI, HK⟩ := hrel
    by_cases hlt : k < n
    · obtain ⟨⟨m1, m2⟩, m3, m4⟩ := HM.out k (by omega)
      have hsr := HK.out.size
      have HL := Lib.hid (HZ.out k)
      have e3 : ((k : Int) + 1) * a + shift = ((k : Int) * a + shift) + a := by rw [Int.add_mul, Int.one_mul]; omega
      have HG := Lib.hid (fl_grow (x := (k : Int) * a + shift) d1 a1 a2)
      rw [← e3] at HG
      clear e3
      have HA := Lib.hid (fun W => floorOf_any (((k : Int) + 1) * a + shift) den W (by omega) (by omega) (by omega) (by omega))
      have HB := Lib.hid (fun W => floorOf_any ((k : Int) * a + shift) den W (by omega) (by omega) (by omega) (by omega))
      have HFB := Lib.hid (fl_bd (a := (k : Int) * a + shift) (M := 1000000000) d1 (by omega) (by omega) (by omega))
      rcases HG.out with q | q
      · have HW : Hid (bvals (lnN a den shift (k + 1)) = bvals (lnN a den shift k) ++ [.int .u8 97]) := Lib.hid (by
          rw [lnN_succ]; simp [lnB, q])
        rw [q] at HA
        have hfb := HFB.out
        have HBY := Lib.hid (fun (W : World) (h : Keep wr W) (hI : IsBu w.heap.size w.heap.size (bvals (lnN a den shift k)) W) => bu_byte w.heap.size w.heap.size (bvals (lnN a den shift k)) 97 W hI (by rw [List.length_map, HL.out]; omega) (by have := h.size; omega))
        clear q HG HFB
        generalize fl ((k : Int) * a + shift) den = f0 at *
        have W1 : IntKind.i64.wrap (f0 - f0) = 0 := by rw [Int.sub_self]; rfl
        go_wp2_with (first | (go_at_call 44; first | (with_reducible refine (HA.out _).mono ?_; rintro e w' ⟨rfl, rfl⟩) | (with_reducible refine (HB.out _).mono ?_; rintro e w' ⟨rfl, rfl⟩)) | (go_at_call 45; refine (HBY.out _ (by go_grown) HI.out).mono ?_; rintro e w2 ⟨rfl, h2, k2⟩))
        go_roundw
        case rel => exact ⟨k + 1, by omega, by go_num, Lib.hid (.inr (by rw [HW.out]; exact h2)), Lib.hid (HK.out.trans k2)⟩
        case measure => simp [intOf]; omega
      · have HW : Hid (bvals (lnN a den shift (k + 1)) = bvals (lnN a den shift k) ++ [.int .u8 98]) := Lib.hid (by
          rw [lnN_succ]; simp [lnB, q]; omega)
        rw [q] at HA
        have hfb := HFB.out
        have HBY := Lib.hid (fun (W : World) (h : Keep wr W) (hI : IsBu w.heap.size w.heap.size (bvals (lnN a den shift k)) W) => bu_byte w.heap.size w.heap.size (bvals (lnN a den shift k)) 98 W hI (by rw [List.length_map, HL.out]; omega) (by have := h.size; omega))
        clear q HG HFB
        generalize fl ((k : Int) * a + shift) den = f0 at *
        have W1 : IntKind.i64.wrap (f0 + 1 - f0) = 1 := by rw [show f0 + 1 - f0 = 1 by omega]; rfl
        go_wp2_with (first | (go_at_call 44; first | (with_reducible refine (HA.out _).mono ?_; rintro e w' ⟨rfl, rfl⟩) | (with_reducible refine (HB.out _).mono ?_; rintro e w' ⟨rfl, rfl⟩)) | (go_at_call 45; refine (HBY.out _ (by go_grown) HI.out).mono ?_; rintro e w2 ⟨rfl, h2, k2⟩))
        go_roundw
        case rel => exact ⟨k + 1, by omega, by go_num, Lib.hid (.inr (by rw [HW.out]; exact h2)), Lib.hid (HK.out.trans k2)⟩
        case measure => simp [intOf]; omega
    · have HE := Lib.hid (show k = n by omega)
      have HS : Hid (∀ W, Keep wr W → IsBu w.heap.size w.heap.size (bvals (lnN a den shift k)) W → Calls Try.prog 46 #[.pointer (some ⟨w.heap.size, 0, none⟩)] W fun e w' => e = .returned (.string (strOfNums (lnN a den shift n))) ∧ Below w.heap.size W w') := Lib.hid (fun W h hI => by
        rw [← HU.out k] at hI
        have := Try.Builder_String_any w.heap.size w.heap.size (numsU (lnN a den shift k)) W hI (by have := HK.out.size; have := h.size; omega)
        rw [← HE.out]; exact this)
      go_wp2_with (go_at_call 46; refine (HS.out _ (by go_grown) HI.out).mono ?_; rintro e w2 ⟨rfl, k2⟩)
      go_ret
      exact ⟨rfl, HK.out.trans k2⟩
end Go.Proofs.Ytomfhkpmdalknab
