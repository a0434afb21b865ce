/- Words of lines, Christoffel words: the model's look. -/
import Derived.Test.YtlkljhncpojlkaaWord
import Derived.Test.YtlkljhncpojlkaaWd7
namespace Go.Proofs.Ytlkljhncpojlkaa
open Go.ChangeShapes Go.WideShapes Go.ChangeAt Go.RowKit Go.Deep
set_option linter.unusedVariables false
def lnB (a den shift : Int) (i : Int) : Int := if fl (i * a + shift) den < fl ((i + 1) * a + shift) den then 98 else 97
def lnN (a den shift : Int) (n : Nat) : List Int := (List.range n).map fun (i : Nat) => lnB a den shift i
theorem lnN_len (a den shift : Int) (n : Nat) : (lnN a den shift n).length = n := by simp [lnN]
theorem lnN_succ (a den shift : Int) (n : Nat) : lnN a den shift (n + 1) = lnN a den shift n ++ [lnB a den shift n] := by simp [lnN, List.range_succ]
def okLn (a den shift count : Int) : Bool := inB den 1 1000 && (inB a 0 den && (inB shift 0 (den - 1) && inB count 0 120))
def lnS (a den shift count : Int) : ByteArray := if okLn a den shift count then strOfNums (lnN a den shift count.toNat) else ByteArray.empty
theorem mul_ln {k : Nat} {a d s : Int} (hk : k ≤ 120) (h0 : 0 ≤ a) (h1 : a ≤ d) (h2 : d ≤ 1000) (h3 : 0 ≤ s) (h4 : s ≤ 1000) : (0 ≤ (k : Int) * a ∧ (k : Int) * a ≤ 120000) ∧ (0 ≤ ((k : Int) + 1) * a ∧ ((k : Int) + 1) * a ≤ 121000) := by
  have e1 : 0 ≤ (k : Int) * a := Int.mul_nonneg (by omega) h0
  have e2 : (k : Int) * a ≤ 120 * 1000 := Int.mul_le_mul (by omega) (by omega) h0 (by omega)
  have e3 : ((k : Int) + 1) * a = (k : Int) * a + a := by rw [Int.add_mul, Int.one_mul]
  rw [e3]
  omega
set_option maxHeartbeats 1600000 in
theorem l07Line_any (a den shift : Int) (n : Nat) (w : World) (d1 : 1 ≤ den) (d2 : den ≤ 1000) (a1 : 0 ≤ a) (a2 : a ≤ den) (s1 : 0 ≤ shift) (s2 : shift ≤ 1000) (hn : n ≤ 120) :
    Calls Try.prog 26 #[.int .i64 a, .int .i64 den, .int .i64 shift, .int .i64 n] w fun e w' => e = .returned (.string (strOfNums (lnN a den shift n))) ∧ Keep w w' := by
  have HM := Lib.hid (fun (k : Nat) (hk : k ≤ 120) => mul_ln hk a1 a2 d2 s1 s2)
  have hown0 : (w.alloc (.cells #[] 5)).ownsRow w.heap.size 5 1 (.slice (some ⟨w.heap.size, 0, none⟩) 0 0) 0 (bvals []) := by
    have := World.ownsRow_lit (base := w.heap.size) (e := 5) (size := 1) w #[] 0 (by simp) (by simp) rfl
    simpa using this
  have hbl1 : Keep w (w.alloc (.cells #[] 5)) := by go_grown
  go_enter Try.func26, Try.ntmps26
  go_wp2
  go_loopw [9, 10, 11] (fun v i _ wr => ∃ (k : Nat) (rd : Option Addr) (rc : Nat), k ≤ n ∧ i = .int .i64 k ∧ v = .slice rd k rc ∧ wr.ownsRow w.heap.size 5 1 (.slice rd k rc) k (bvals (lnN a den shift k)) ∧ Keep w wr)
    (fun _ i _ _ => n - (intOf i).toNat)
  case atStart => exact ⟨0, _, _, Nat.zero_le _, rfl, rfl, by simpa [lnN] using hown0, hbl1⟩
  case round =>
    obtain ⟨k, rd, rc, hk, rfl, rfl, hown, hbel⟩ := hrel
    by_cases hlt : k < n
    · obtain ⟨⟨m1, m2⟩, m3, m4⟩ := HM.out k (by omega)
      have HO := Lib.hid hown; clear hown
      have hsr := hbel.size
      have HKL := Lib.hid (lnN_len a den shift k)
      have c0 : -1000000000 ≤ (k : Int) * a + shift := by omega
      have c1 : (k : Int) * a + shift ≤ 1000000000 := by omega
      have c2 : -1000000000 ≤ ((k : Int) + 1) * a + shift := by omega
      have c3 : ((k : Int) + 1) * a + shift ≤ 1000000000 := by omega
      by_cases hq : fl ((k : Int) * a + shift) den < fl (((k : Int) + 1) * a + shift) den
      · have HW : Hid (bvals (lnN a den shift (k + 1)) = bvals (lnN a den shift k ++ [98])) := Lib.hid (by rw [lnN_succ]; simp [lnB, hq])
        go_wp2_with (first | (go_at_call 39; refine (l01Floor_any _ _ _ (by omega) (by omega) (by omega) (by omega)).mono ?_; rintro e w' ⟨rfl, rfl⟩) | (refine list_appB (by rfl) _ _ (by rfl) w.heap.size rd rc k _ 98 (by rfl) (row_keep HO.out (by go_grown)) HKL.out.symm wr.heap.size (by rfl) (by simp) (by rw [HKL.out]; omega) (by simp; omega) ?_; intro ad' cap' w2 hown2 hgr2; have hbel2 := below_row (Below.trans hbel (by go_grown)) (row_keep HO.out (by go_grown)) hgr2 (by simp; omega) (Nat.le_refl _)))
        go_roundw
        case rel => exact ⟨k + 1, ad', cap', by omega, by go_num, rfl, by rw [HW.out]; exact hown2, hbel2⟩
        case measure => simp [intOf]; omega
      · have HW : Hid (bvals (lnN a den shift (k + 1)) = bvals (lnN a den shift k ++ [97])) := Lib.hid (by rw [lnN_succ]; simp [lnB, hq])
        go_wp2_with (first | (go_at_call 39; refine (l01Floor_any _ _ _ (by omega) (by omega) (by omega) (by omega)).mono ?_; rintro e w' ⟨rfl, rfl⟩) | (refine list_appB (by rfl) _ _ (by rfl) w.heap.size rd rc k _ 97 (by rfl) (row_keep HO.out (by go_grown)) HKL.out.symm wr.heap.size (by rfl) (by simp) (by rw [HKL.out]; omega) (by simp; omega) ?_; intro ad' cap' w2 hown2 hgr2; have hbel2 := below_row (Below.trans hbel (by go_grown)) (row_keep HO.out (by go_grown)) hgr2 (by simp; omega) (Nat.le_refl _)))
        go_roundw
        case rel => exact ⟨k + 1, ad', cap', by omega, by go_num, rfl, by rw [HW.out]; exact hown2, hbel2⟩
        case measure => simp [intOf]; omega
    · have he : k = n := by omega
      subst he
      have hcv := conv_row wr w.heap.size rd rc k (lnN a den shift k) hown (lnN_len a den shift k)
      go_wp2
      go_ret
      exact ⟨rfl, hbel⟩
set_option maxHeartbeats 800000 in
theorem specLineWord_any (a den shift count : Int) (w : World) (ua : In64 a) (ud : In64 den) (us : In64 shift) (uc : In64 count) :
    Calls Try.prog 9 #[.int .i64 a, .int .i64 den, .int .i64 shift, .int .i64 count] w fun e w' => e = .returned (.tuple #[.string (lnS a den shift count), .bool (okLn a den shift count)]) ∧ Keep w w' := by
  have hd1 := ud.1; have hd2 := ud.2
  cases hok : okLn a den shift count
  · rw [show lnS a den shift count = ByteArray.empty from by simp [lnS, hok]]
    have ho : inB den 1 1000 = false ∨ (inB den 1 1000 = true ∧ inB a 0 den = false) ∨ (inB den 1 1000 = true ∧ inB a 0 den = true ∧ inB shift 0 (den - 1) = false) ∨ (inB den 1 1000 = true ∧ inB a 0 den = true ∧ inB shift 0 (den - 1) = true ∧ inB count 0 120 = false) := by
      unfold okLn at hok
      cases h1 : inB den 1 1000 <;> cases h2 : inB a 0 den <;> cases h3 : inB shift 0 (den - 1) <;> cases h4 : inB count 0 120 <;> simp_all
    clear hok
    rcases ho with h1 | ⟨h1, h2⟩ | ⟨h1, h2, h3⟩ | ⟨h1, h2, h3, h4⟩
    · go_enter Try.func9, Try.ntmps9
      go_wp2_with (go_at_call 25; refine (l00In_any _ _ _ _).mono ?_; rw [h1]; rintro e w' ⟨rfl, rfl⟩)
      go_ret2
      exact ⟨rfl, Below.refl _ _⟩
    all_goals
      have hdb := inB_iff.1 h1
      go_enter Try.func9, Try.ntmps9
      go_wp2_with (go_at_call 25; refine (l00In_any _ _ _ _).mono ?_; rintro e w' ⟨rfl, rfl⟩)
      go_ret2
      exact ⟨rfl, Below.refl _ _⟩
  · have h := hok
    unfold okLn at h
    simp only [Bool.and_eq_true] at h
    obtain ⟨h1, h2, h3, h4⟩ := h
    obtain ⟨d1, d2⟩ := inB_iff.1 h1
    obtain ⟨a1, a2⟩ := inB_iff.1 h2
    obtain ⟨s1, s2⟩ := inB_iff.1 h3
    obtain ⟨n1, n2⟩ := inB_iff.1 h4
    rw [show lnS a den shift count = strOfNums (lnN a den shift count.toNat) from by simp [lnS, hok]]
    clear hok
    obtain ⟨n, rfl⟩ : ∃ n : Nat, count = n := ⟨count.toNat, by omega⟩
    rw [Int.toNat_natCast]
    go_enter Try.func9, Try.ntmps9
    go_wp2_with (go_at_call 25; refine (l00In_any _ _ _ _).mono ?_; rintro e w' ⟨rfl, rfl⟩)
    refine (l07Line_any a den shift n w d1 d2 a1 a2 s1 (by omega) (by omega)).mono ?_
    rintro e w1 ⟨rfl, k1⟩
    go_wp2
    go_ret2
    exact ⟨rfl, k1⟩
/-- Two numbers of a Christoffel word. -/
def chB (a b : Int) : Bool := inB a 0 60 && (inB b 0 60 && decide (Int.gcd a b = 1))
def chS (a b : Int) : ByteArray := if chB a b then strOfNums (lnN b (a + b) 0 (a + b).toNat) else ByteArray.empty
theorem chB_iff {a b : Int} : chB a b = true ↔ (0 ≤ a ∧ a ≤ 60) ∧ (0 ≤ b ∧ b ≤ 60) ∧ Int.gcd a b = 1 := by
  unfold chB; simp only [Bool.and_eq_true, inB_iff, decide_eq_true_eq]
theorem chB_pos {a b : Int} (h : chB a b = true) : 1 ≤ a + b := by
  have h1 := chB_iff.1 h
  by_cases q : a + b = 0
  · have ha : a = 0 := by omega
    have hb : b = 0 := by omega
    have := h1.2.2
    rw [ha, hb] at this
    simp at this
  · omega
theorem l07Pair_any (a b : Int) (w : World) :
    Calls Try.prog 29 #[.int .i64 a, .int .i64 b] w fun e w' => e = .returned (.bool (chB a b)) ∧ w = w' := by
  cases h1 : inB a 0 60
  · rw [show chB a b = false from by unfold chB; rw [h1]; rfl]
    go_enter Try.func29, Try.ntmps29
    go_wp2_with (go_at_call 25; refine (l00In_any _ _ _ _).mono ?_; rw [h1]; rintro e w' ⟨rfl, rfl⟩)
    go_ret
    exact ⟨rfl, rfl⟩
  cases h2 : inB b 0 60
  · rw [show chB a b = false from by unfold chB; rw [h2]; simp]
    go_enter Try.func29, Try.ntmps29
    go_wp2_with (go_at_call 25; refine (l00In_any _ _ _ _).mono ?_; rintro e w' ⟨rfl, rfl⟩)
    go_ret
    exact ⟨rfl, rfl⟩
  have hab := inB_iff.1 h1; have hbb := inB_iff.1 h2
  have HG := Lib.hid (l07Gcd_any a b w (by omega) (by omega) (by omega) (by omega))
  have HE : Hid (chB a b = decide (Int.gcd a b = 1)) := Lib.hid (by unfold chB; rw [h1, h2]; rfl)
  rw [HE.out]
  generalize Int.gcd a b = G at *
  by_cases hq : G = 1
  · have hq1 : ((G : Int) == 1) = true := by simp; omega
    have HR := Lib.hid (decide_eq_true hq)
    go_enter Try.func29, Try.ntmps29
    go_wp2_with (first | (go_at_call 25; refine (l00In_any _ _ _ _).mono ?_; rintro e w' ⟨rfl, rfl⟩) | (go_at_call 32; refine HG.out.mono ?_; rintro e w' ⟨rfl, rfl⟩))
    go_ret
    exact ⟨ret_bool HR.out.symm, rfl⟩
  · have hq1 : ((G : Int) == 1) = false := by simp; omega
    have HR := Lib.hid (decide_eq_false hq)
    go_enter Try.func29, Try.ntmps29
    go_wp2_with (first | (go_at_call 25; refine (l00In_any _ _ _ _).mono ?_; rintro e w' ⟨rfl, rfl⟩) | (go_at_call 32; refine HG.out.mono ?_; rintro e w' ⟨rfl, rfl⟩))
    go_ret
    exact ⟨ret_bool HR.out.symm, rfl⟩
theorem specChristoffelWord_any (a b : Int) (w : World) (ua : In64 a) (ub : In64 b) :
    Calls Try.prog 11 #[.int .i64 a, .int .i64 b] w fun e w' => e = .returned (.tuple #[.string (chS a b), .bool (chB a b)]) ∧ Keep w w' := by
  cases h : chB a b
  · rw [show chS a b = ByteArray.empty from by unfold chS; rw [h]; rfl]
    go_enter Try.func11, Try.ntmps11
    go_wp2_with (go_at_call 29; refine (l07Pair_any _ _ _).mono ?_; rw [h]; rintro e w' ⟨rfl, rfl⟩)
    go_ret2
    exact ⟨rfl, Below.refl _ _⟩
  · rw [show chS a b = strOfNums (lnN b (a + b) 0 (a + b).toNat) from by unfold chS; rw [h]; rfl]
    have hb := chB_iff.1 h
    have hp := chB_pos h
    obtain ⟨n, hn⟩ : ∃ n : Nat, a + b = n := ⟨(a + b).toNat, by omega⟩
    have HL := Lib.hid (l07Line_any b (a + b) 0 n w hp (by omega) hb.2.1.1 (by omega) (by omega) (by omega) (by omega))
    rw [← hn] at HL
    have HT : Hid ((a + b).toNat = n) := Lib.hid (by omega)
    rw [HT.out]
    have w1 : IntKind.i64.wrap (a + b) = a + b := IntWalk.i64_in _ (by omega)
    clear hn
    go_enter Try.func11, Try.ntmps11
    go_wp2_with (first | (go_at_call 29; refine (l07Pair_any _ _ _).mono ?_; rw [h]; rintro e w' ⟨rfl, rfl⟩) | (go_at_call 26; refine HL.out.mono ?_; rintro e w' ⟨rfl, k1⟩))
    go_ret2
    exact ⟨rfl, by assumption⟩
end Go.Proofs.Ytlkljhncpojlkaa
