/- Words of lines, Christoffel words: the program's look. -/
import Derived.Test.YtomfhkpmdalknabLn7
import Derived.Test.YtomfhkpmdalknabBu7
namespace Go.Proofs.Ytomfhkpmdalknab
open Go.ChangeShapes Go.WideShapes Go.ChangeAt Go.RowKit Go.Deep
set_option linter.unusedVariables false
/-- The next floor is the same or the next number. -/
theorem fl_grow {x a d : Int} (h1 : 1 ≤ d) (h2 : 0 ≤ a) (h3 : a ≤ d) : fl (x + a) d = fl x d ∨ fl (x + a) d = fl x d + 1 := by
  obtain ⟨e1, e2⟩ := fl_mul (a := x) h1
  by_cases q : x + a < d * fl x d + d
  · exact .inl (fl_eq h1 (by omega) q)
  · refine .inr (fl_eq h1 ?_ ?_) <;> (rw [Int.mul_add]; omega)
def numsU (zs : List Int) : List UInt8 := zs.map fun z => UInt8.ofNat z.toNat
theorem numsU_str (zs : List Int) : (⟨(numsU zs).toArray⟩ : ByteArray) = strOfNums zs := rfl
theorem numsU_cells (zs : List Int) (h : ∀ z ∈ zs, 0 ≤ z ∧ z ≤ 255) : Lib.byteCells (numsU zs) = bvals zs := by
  unfold Lib.byteCells numsU bvals
  rw [List.map_map]
  refine List.map_congr_left fun z hz => ?_
  have := h z hz
  show Value.int .u8 ((UInt8.ofNat z.toNat).toNat : Int) = _
  congr 1
  rw [UInt8.toNat_ofNat_of_lt' (by show z.toNat < 256; omega)]
  omega
theorem lnB_ab (a den shift i : Int) : lnB a den shift i = 97 ∨ lnB a den shift i = 98 := by unfold lnB; split <;> simp
theorem lnN_ab (a den shift : Int) (n : Nat) : ∀ z ∈ lnN a den shift n, z = 97 ∨ z = 98 := by
  intro z hz
  unfold lnN at hz
  obtain ⟨i, _, rfl⟩ := List.mem_map.1 hz
  exact lnB_ab _ _ _ _
set_option maxHeartbeats 1600000 in
theorem lineWord_any (a den shift : Int) (n : Nat) (w : World) (d1 : 1 ≤ den) (d2 : den ≤ 1000) (a1 : 0 ≤ a) (a2 : a ≤ den) (s1 : 0 ≤ shift) (s2 : shift ≤ 1000) (hn : n ≤ 120) :
    Calls Try.prog 33 #[.int .i64 a, .int .i64 den, .int .i64 shift, .int .i64 n] w fun e w' => e = .returned (.string (strOfNums (lnN a den shift n))) ∧ Keep w w' := by
  have HM := Lib.hid (fun (k : Nat) (hk : k ≤ 120) => mul_ln hk a1 a2 d2 s1 s2)
  have HI0 : Hid (IsBu w.heap.size w.heap.size (bvals (lnN a den shift 0)) (w.alloc (.cells #[.pointer none, .slice none 0 0] 68))) := Lib.hid (by
    refine .inl ⟨Nat.le_refl _, .slice none 0 0, by show (w.heap.push _)[w.heap.size]? = _; simp, ?_, by simp [Value.ownBlock]⟩
    have := World.ownsRow_nil (w.alloc (.cells #[.pointer none, .slice none 0 0] 68)) w.heap.size 5 1
    simpa [lnN] using this)
  have HK0 : Hid (Keep w (w.alloc (.cells #[.pointer none, .slice none 0 0] 68))) := Lib.hid (by go_grown)
  have HZ : Hid (∀ k : Nat, (lnN a den shift k).length = k) := Lib.hid (fun k => lnN_len a den shift k)
  have HU : Hid (∀ k : Nat, Lib.byteCells (numsU (lnN a den shift k)) = bvals (lnN a den shift k)) := Lib.hid (fun k => numsU_cells _ (fun z hz => by have := lnN_ab a den shift k z hz; omega))
  go_enter Try.func33, Try.ntmps33
  go_wp2
  go_loopw [10, 11, 13] (fun _ _ i wr => ∃ k : Nat, k ≤ n ∧ i = .int .i64 k ∧ Hid (IsBu w.heap.size w.heap.size (bvals (lnN a den shift k)) wr) ∧ Hid (Keep w wr)) (fun _ _ i _ => n - (intOf i).toNat)
  case atStart => exact ⟨0, Nat.zero_le _, rfl, HI0, HK0⟩
  case round =>
    obtain ⟨k, hk, rfl, HI, HK⟩ := hrel
    by_cases hlt : k < n
    · obtain ⟨⟨m1, m2⟩, m3, m4⟩ := HM.out k (by omega)
      have hsr := HK.out.size
      have HL := Lib.hid (HZ.out k)
      have e3 : ((k : Int) + 1) * a + shift = ((k : Int) * a + shift) + a := by rw [Int.add_mul, Int.one_mul]; omega
      have HG := Lib.hid (fl_grow (x := (k : Int) * a + shift) d1 a1 a2)
      rw [← e3] at HG
      clear e3
      have HA := Lib.hid (fun W => floorOf_any (((k : Int) + 1) * a + shift) den W (by omega) (by omega) (by omega) (by omega))
      have HB := Lib.hid (fun W => floorOf_any ((k : Int) * a + shift) den W (by omega) (by omega) (by omega) (by omega))
      have HFB := Lib.hid (fl_bd (a := (k : Int) * a + shift) (M := 1000000000) d1 (by omega) (by omega) (by omega))
      rcases HG.out with q | q
      · have HW : Hid (bvals (lnN a den shift (k + 1)) = bvals (lnN a den shift k) ++ [.int .u8 97]) := Lib.hid (by
          rw [lnN_succ]; simp [lnB, q])
        rw [q] at HA
        have hfb := HFB.out
        have HBY := Lib.hid (fun (W : World) (h : Keep wr W) (hI : IsBu w.heap.size w.heap.size (bvals (lnN a den shift k)) W) => bu_byte w.heap.size w.heap.size (bvals (lnN a den shift k)) 97 W hI (by rw [List.length_map, HL.out]; omega) (by have := h.size; omega))
        clear q HG HFB
        generalize fl ((k : Int) * a + shift) den = f0 at *
        have W1 : IntKind.i64.wrap (f0 - f0) = 0 := by rw [Int.sub_self]; rfl
        go_wp2_with (first | (go_at_call 44; first | (with_reducible refine (HA.out _).mono ?_; rintro e w' ⟨rfl, rfl⟩) | (with_reducible refine (HB.out _).mono ?_; rintro e w' ⟨rfl, rfl⟩)) | (go_at_call 45; refine (HBY.out _ (by go_grown) HI.out).mono ?_; rintro e w2 ⟨rfl, h2, k2⟩))
        go_roundw
        case rel => exact ⟨k + 1, by omega, by go_num, Lib.hid (.inr (by rw [HW.out]; exact h2)), Lib.hid (HK.out.trans k2)⟩
        case measure => simp [intOf]; omega
      · have HW : Hid (bvals (lnN a den shift (k + 1)) = bvals (lnN a den shift k) ++ [.int .u8 98]) := Lib.hid (by
          rw [lnN_succ]; simp [lnB, q]; omega)
        rw [q] at HA
        have hfb := HFB.out
        have HBY := Lib.hid (fun (W : World) (h : Keep wr W) (hI : IsBu w.heap.size w.heap.size (bvals (lnN a den shift k)) W) => bu_byte w.heap.size w.heap.size (bvals (lnN a den shift k)) 98 W hI (by rw [List.length_map, HL.out]; omega) (by have := h.size; omega))
        clear q HG HFB
        generalize fl ((k : Int) * a + shift) den = f0 at *
        have W1 : IntKind.i64.wrap (f0 + 1 - f0) = 1 := by rw [show f0 + 1 - f0 = 1 by omega]; rfl
        go_wp2_with (first | (go_at_call 44; first | (with_reducible refine (HA.out _).mono ?_; rintro e w' ⟨rfl, rfl⟩) | (with_reducible refine (HB.out _).mono ?_; rintro e w' ⟨rfl, rfl⟩)) | (go_at_call 45; refine (HBY.out _ (by go_grown) HI.out).mono ?_; rintro e w2 ⟨rfl, h2, k2⟩))
        go_roundw
        case rel => exact ⟨k + 1, by omega, by go_num, Lib.hid (.inr (by rw [HW.out]; exact h2)), Lib.hid (HK.out.trans k2)⟩
        case measure => simp [intOf]; omega
    · have HE := Lib.hid (show k = n by omega)
      have HS : Hid (∀ W, Keep wr W → IsBu w.heap.size w.heap.size (bvals (lnN a den shift k)) W → Calls Try.prog 46 #[.pointer (some ⟨w.heap.size, 0, none⟩)] W fun e w' => e = .returned (.string (strOfNums (lnN a den shift n))) ∧ Below w.heap.size W w') := Lib.hid (fun W h hI => by
        rw [← HU.out k] at hI
        have := Try.Builder_String_any w.heap.size w.heap.size (numsU (lnN a den shift k)) W hI (by have := HK.out.size; have := h.size; omega)
        rw [← HE.out]; exact this)
      go_wp2_with (go_at_call 46; refine (HS.out _ (by go_grown) HI.out).mono ?_; rintro e w2 ⟨rfl, k2⟩)
      go_ret
      exact ⟨rfl, HK.out.trans k2⟩
end Go.Proofs.Ytomfhkpmdalknab
