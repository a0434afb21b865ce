/- What the functions of chapter 1 on plain numbers return. -/
import Derived.Test.YtmddbhpmkpbnlaaPlain
namespace Go.Proofs.Ytmddbhpmkpbnlaa
open Go.ChangeShapes Go.WideShapes Go.ChangeAt Go.RowKit
set_option linter.unusedVariables false
theorem within_any (n lo hi : Int) (w : World) :
    Calls Try.prog 53 #[.int .i64 n, .int .i64 lo, .int .i64 hi] w fun e w' => e = .returned (.bool (inB n lo hi)) ∧ w = w' := by
  go_enter Try.func53, Try.ntmps53
  go_wp2
  · go_ret
    exact ⟨by simp [inB, *], rfl⟩
  · go_ret
    exact ⟨ret_bool (by symm; rw [inB_not]; omega), rfl⟩
theorem l00In_any (n lo hi : Int) (w : World) :
    Calls Try.prog 57 #[.int .i64 n, .int .i64 lo, .int .i64 hi] w fun e w' => e = .returned (.bool (inB n lo hi)) ∧ w = w' := by
  go_enter Try.func57, Try.ntmps57
  go_wp2
  · go_ret
    exact ⟨by simp [inB, *], rfl⟩
  · go_ret
    exact ⟨ret_bool (by symm; rw [inB_not]; omega), rfl⟩
theorem floorOf_any (a b : Int) (w : World) (ha : -1000000000 ≤ a) (ha' : a ≤ 1000000000) (hb : 1 ≤ b) (hb' : b ≤ 1000000000) :
    Calls Try.prog 39 #[.int .i64 a, .int .i64 b] w fun e w' => e = .returned (.int .i64 (fl a b)) ∧ w = w' := by
  have hq := tdiv_bd hb ha ha' (by omega)
  go_enter Try.func39, Try.ntmps39
  go_wp2
  all_goals go_ret
  · refine ⟨ret_i64 ?_, rfl⟩
    exact fl_lo hb (by assumption)
  · refine ⟨ret_i64 ?_, rfl⟩
    exact fl_hi hb (by assumption)
theorem l01Floor_any (a b : Int) (w : World) (ha : -1000000000 ≤ a) (ha' : a ≤ 1000000000) (hb : 1 ≤ b) (hb' : b ≤ 1000000000) :
    Calls Try.prog 46 #[.int .i64 a, .int .i64 b] w fun e w' => e = .returned (.int .i64 (fl a b)) ∧ w = w' := by
  have hq := tdiv_bd hb ha ha' (by omega)
  have hm : -9223372036854775808 ≤ a.tdiv b * b ∧ a.tdiv b * b ≤ 9223372036854775807 := by
    have h1 := Int.mul_tdiv_add_tmod a b
    have h2 := Int.lt_tmod_of_pos a (show 0 < b by omega)
    have h3 := Int.tmod_lt_of_pos a (show 0 < b by omega)
    rw [Int.mul_comm]; omega
  obtain ⟨hm1, hm2⟩ := hm
  have hk : a.tdiv b * b = a - a.tmod b := by have h1 := Int.mul_tdiv_add_tmod a b; rw [Int.mul_comm]; omega
  have HK := Lib.hid hk; clear hk
  go_enter Try.func46, Try.ntmps46
  go_wp2
  all_goals go_ret
  · refine ⟨ret_i64 ?_, rfl⟩
    have h : a < a.tdiv b * b := by assumption
    rw [HK.out] at h
    exact fl_lo hb (by omega)
  · refine ⟨ret_i64 ?_, rfl⟩
    have h : a.tdiv b * b ≤ a := by assumption
    rw [HK.out] at h
    exact fl_hi hb (by omega)
theorem ceilingOf_any (a b : Int) (w : World) (ha : -1000000000 ≤ a) (ha' : a ≤ 1000000000) (hb : 1 ≤ b) (hb' : b ≤ 1000000000) :
    Calls Try.prog 40 #[.int .i64 a, .int .i64 b] w fun e w' => e = .returned (.int .i64 (ce a b)) ∧ w = w' := by
  have hq := fl_bd (a := -a) (M := 1000000000) hb (by omega) (by omega) (by omega)
  go_enter Try.func40, Try.ntmps40
  go_wp2_with (go_at_call 39; refine (floorOf_any _ _ _ (by omega) (by omega) hb hb').mono ?_; rintro e w' ⟨rfl, rfl⟩)
  go_ret
  exact ⟨rfl, rfl⟩
theorem l01Ceil_any (a b : Int) (w : World) (ha : -1000000000 ≤ a) (ha' : a ≤ 1000000000) (hb : 1 ≤ b) (hb' : b ≤ 1000000000) :
    Calls Try.prog 47 #[.int .i64 a, .int .i64 b] w fun e w' => e = .returned (.int .i64 (ce a b)) ∧ w = w' := by
  have hq := fl_bd (a := -a) (M := 1000000000) hb (by omega) (by omega) (by omega)
  go_enter Try.func47, Try.ntmps47
  go_wp2_with (go_at_call 46; refine (l01Floor_any _ _ _ (by omega) (by omega) hb hb').mono ?_; rintro e w' ⟨rfl, rfl⟩)
  go_ret
  exact ⟨rfl, rfl⟩
theorem nearestOf_any (a b : Int) (w : World) (ha : -1000000000 ≤ a) (ha' : a ≤ 1000000000) (hb : 1 ≤ b) (hb' : b ≤ 1000000000) :
    Calls Try.prog 41 #[.int .i64 a, .int .i64 b] w fun e w' => e = .returned (.int .i64 (ne a b)) ∧ w = w' := by
  have hq := fl_bd (a := a) (M := 1000000000) hb (by omega) (by omega) (by omega)
  obtain ⟨m1, m2⟩ := fl_mul (a := a) hb
  go_enter Try.func41, Try.ntmps41
  go_wp2_with (go_at_call 39; refine (floorOf_any _ _ _ (by omega) (by omega) hb hb').mono ?_; rintro e w' ⟨rfl, rfl⟩)
  all_goals go_ret
  · exact ⟨ret_i64 (ne_b (by assumption) (by simp_all)), rfl⟩
  · exact ⟨ret_i64 (ne_c (by assumption) (by simp_all)), rfl⟩
  · exact ⟨ret_i64 (ne_d (by omega)), rfl⟩
  · exact ⟨ret_i64 (ne_a (by omega)), rfl⟩
theorem l01Near_any (a b : Int) (w : World) (ha : -1000000000 ≤ a) (ha' : a ≤ 1000000000) (hb : 1 ≤ b) (hb' : b ≤ 1000000000) :
    Calls Try.prog 48 #[.int .i64 a, .int .i64 b] w fun e w' => e = .returned (.int .i64 (ne a b)) ∧ w = w' := by
  have hq := fl_bd (a := a) (M := 1000000000) hb (by omega) (by omega) (by omega)
  obtain ⟨m1, m2⟩ := fl_mul (a := a) hb
  have hc := Int.mul_comm b (fl a b)
  have m3 : fl a b * b ≤ a := by omega
  have m4 : a < fl a b * b + b := by omega
  have HC := Lib.hid hc; clear hc
  go_enter Try.func48, Try.ntmps48
  go_wp2_with (go_at_call 46; refine (l01Floor_any _ _ _ (by omega) (by omega) hb hb').mono ?_; rintro e w' ⟨rfl, rfl⟩)
  all_goals go_ret
  all_goals have hc := HC.out
  · exact ⟨ret_i64 (ne_c (by omega) (by simp_all)), rfl⟩
  · exact ⟨ret_i64 (ne_b (by omega) (by simp_all)), rfl⟩
  · exact ⟨ret_i64 (ne_a (by omega)), rfl⟩
  · exact ⟨ret_i64 (ne_d (by omega)), rfl⟩
theorem isRatio_any (a b : Int) (w : World) :
    Calls Try.prog 42 #[.int .i64 a, .int .i64 b] w fun e w' => e = .returned (.bool (ratio a b)) ∧ w = w' := by
  cases h : inB a (-1000000000) 1000000000
  all_goals
    go_enter Try.func42, Try.ntmps42
    go_wp2_with (go_at_call 53; refine (within_any _ _ _ _).mono ?_; rintro e w' ⟨rfl, rfl⟩)
    go_ret
    exact ⟨ret_bool (by simp [ratio, h]), rfl⟩
theorem l01Ratio_any (a b : Int) (w : World) :
    Calls Try.prog 45 #[.int .i64 a, .int .i64 b] w fun e w' => e = .returned (.bool (ratio a b)) ∧ w = w' := by
  cases h : inB a (-1000000000) 1000000000
  all_goals
    go_enter Try.func45, Try.ntmps45
    go_wp2_with (go_at_call 57; refine (l00In_any _ _ _ _).mono ?_; rintro e w' ⟨rfl, rfl⟩)
    go_ret
    exact ⟨ret_bool (by simp [ratio, h]), rfl⟩
theorem DivFloor_any (a b : Int) (w : World) :
    Calls Try.prog 14 #[.int .i64 a, .int .i64 b] w fun e w' => e = opt (ratio a b) (fl a b) ∧ w = w' := by
  cases h : ratio a b
  · rw [opt_no]
    go_enter Try.func14, Try.ntmps14
    go_wp2_with (first | (go_at_call 42; refine (isRatio_any _ _ _).mono ?_; rintro e w' ⟨rfl, rfl⟩) | go_in)
    go_ret2
    exact ⟨rfl, rfl⟩
  · rw [opt_yes]
    obtain ⟨⟨h1, h2⟩, h3, h4⟩ := ratio_iff.1 h
    go_enter Try.func14, Try.ntmps14
    go_wp2_with (first | (go_at_call 42; refine (isRatio_any _ _ _).mono ?_; rintro e w' ⟨rfl, rfl⟩) | (go_at_call 39; refine (floorOf_any _ _ _ h1 h2 h3 h4).mono ?_; rintro e w' ⟨rfl, rfl⟩) | go_in)
    go_ret2
    exact ⟨rfl, rfl⟩
theorem DivCeiling_any (a b : Int) (w : World) :
    Calls Try.prog 15 #[.int .i64 a, .int .i64 b] w fun e w' => e = opt (ratio a b) (ce a b) ∧ w = w' := by
  cases h : ratio a b
  · rw [opt_no]
    go_enter Try.func15, Try.ntmps15
    go_wp2_with (first | (go_at_call 42; refine (isRatio_any _ _ _).mono ?_; rintro e w' ⟨rfl, rfl⟩) | go_in)
    go_ret2
    exact ⟨rfl, rfl⟩
  · rw [opt_yes]
    obtain ⟨⟨h1, h2⟩, h3, h4⟩ := ratio_iff.1 h
    go_enter Try.func15, Try.ntmps15
    go_wp2_with (first | (go_at_call 42; refine (isRatio_any _ _ _).mono ?_; rintro e w' ⟨rfl, rfl⟩) | (go_at_call 40; refine (ceilingOf_any _ _ _ h1 h2 h3 h4).mono ?_; rintro e w' ⟨rfl, rfl⟩) | go_in)
    go_ret2
    exact ⟨rfl, rfl⟩
theorem DivNearest_any (a b : Int) (w : World) :
    Calls Try.prog 16 #[.int .i64 a, .int .i64 b] w fun e w' => e = opt (ratio a b) (ne a b) ∧ w = w' := by
  cases h : ratio a b
  · rw [opt_no]
    go_enter Try.func16, Try.ntmps16
    go_wp2_with (first | (go_at_call 42; refine (isRatio_any _ _ _).mono ?_; rintro e w' ⟨rfl, rfl⟩) | go_in)
    go_ret2
    exact ⟨rfl, rfl⟩
  · rw [opt_yes]
    obtain ⟨⟨h1, h2⟩, h3, h4⟩ := ratio_iff.1 h
    go_enter Try.func16, Try.ntmps16
    go_wp2_with (first | (go_at_call 42; refine (isRatio_any _ _ _).mono ?_; rintro e w' ⟨rfl, rfl⟩) | (go_at_call 41; refine (nearestOf_any _ _ _ h1 h2 h3 h4).mono ?_; rintro e w' ⟨rfl, rfl⟩) | go_in)
    go_ret2
    exact ⟨rfl, rfl⟩
theorem specDivFloor_any (a b : Int) (w : World) :
    Calls Try.prog 21 #[.int .i64 a, .int .i64 b] w fun e w' => e = opt (ratio a b) (fl a b) ∧ w = w' := by
  cases h : ratio a b
  · rw [opt_no]
    go_enter Try.func21, Try.ntmps21
    go_wp2_with (go_at_call 45; refine (l01Ratio_any _ _ _).mono ?_; rintro e w' ⟨rfl, rfl⟩)
    go_ret2
    exact ⟨rfl, rfl⟩
  · rw [opt_yes]
    obtain ⟨⟨h1, h2⟩, h3, h4⟩ := ratio_iff.1 h
    go_enter Try.func21, Try.ntmps21
    go_wp2_with (first | (go_at_call 45; refine (l01Ratio_any _ _ _).mono ?_; rintro e w' ⟨rfl, rfl⟩) | (go_at_call 46; refine (l01Floor_any _ _ _ h1 h2 h3 h4).mono ?_; rintro e w' ⟨rfl, rfl⟩))
    go_ret2
    exact ⟨rfl, rfl⟩
theorem specDivCeiling_any (a b : Int) (w : World) :
    Calls Try.prog 22 #[.int .i64 a, .int .i64 b] w fun e w' => e = opt (ratio a b) (ce a b) ∧ w = w' := by
  cases h : ratio a b
  · rw [opt_no]
    go_enter Try.func22, Try.ntmps22
    go_wp2_with (go_at_call 45; refine (l01Ratio_any _ _ _).mono ?_; rintro e w' ⟨rfl, rfl⟩)
    go_ret2
    exact ⟨rfl, rfl⟩
  · rw [opt_yes]
    obtain ⟨⟨h1, h2⟩, h3, h4⟩ := ratio_iff.1 h
    go_enter Try.func22, Try.ntmps22
    go_wp2_with (first | (go_at_call 45; refine (l01Ratio_any _ _ _).mono ?_; rintro e w' ⟨rfl, rfl⟩) | (go_at_call 47; refine (l01Ceil_any _ _ _ h1 h2 h3 h4).mono ?_; rintro e w' ⟨rfl, rfl⟩))
    go_ret2
    exact ⟨rfl, rfl⟩
theorem specDivNearest_any (a b : Int) (w : World) :
    Calls Try.prog 23 #[.int .i64 a, .int .i64 b] w fun e w' => e = opt (ratio a b) (ne a b) ∧ w = w' := by
  cases h : ratio a b
  · rw [opt_no]
    go_enter Try.func23, Try.ntmps23
    go_wp2_with (go_at_call 45; refine (l01Ratio_any _ _ _).mono ?_; rintro e w' ⟨rfl, rfl⟩)
    go_ret2
    exact ⟨rfl, rfl⟩
  · rw [opt_yes]
    obtain ⟨⟨h1, h2⟩, h3, h4⟩ := ratio_iff.1 h
    go_enter Try.func23, Try.ntmps23
    go_wp2_with (first | (go_at_call 45; refine (l01Ratio_any _ _ _).mono ?_; rintro e w' ⟨rfl, rfl⟩) | (go_at_call 48; refine (l01Near_any _ _ _ h1 h2 h3 h4).mono ?_; rintro e w' ⟨rfl, rfl⟩))
    go_ret2
    exact ⟨rfl, rfl⟩
theorem Compare64_any (x y : Int) (w : World) :
    Calls Try.prog 43 #[.int .i64 x, .int .i64 y] w fun e w' => e = .returned (.int .i64 (if x < y then -1 else if y < x then 1 else 0)) ∧ w = w' := by
  rcases Int.lt_trichotomy x y with h | h | h
  · rw [if_pos h]
    go_enter Try.func43, Try.ntmps43
    go_wp2
    go_ret
    exact ⟨rfl, rfl⟩
  · subst h
    rw [if_neg (by omega), if_neg (by omega)]
    go_enter Try.func43, Try.ntmps43
    go_wp2
    go_ret
    exact ⟨rfl, rfl⟩
  · rw [if_neg (by omega), if_pos h]
    go_enter Try.func43, Try.ntmps43
    go_wp2
    go_ret
    exact ⟨rfl, rfl⟩
theorem CompareRatios_any (a b c d : Int) (w : World) :
    Calls Try.prog 17 #[.int .i64 a, .int .i64 b, .int .i64 c, .int .i64 d] w fun e w' => e = opt (ratio a b && ratio c d) (sgn (a * d) (c * b)) ∧ w = w' := by
  cases h : ratio a b
  · rw [Bool.false_and, opt_no]
    go_enter Try.func17, Try.ntmps17
    go_wp2_with (first | (go_at_call 42; refine (isRatio_any _ _ _).mono ?_; rintro e w' ⟨rfl, rfl⟩))
    go_ret2
    exact ⟨rfl, rfl⟩
  · cases h' : ratio c d
    · rw [Bool.and_false, opt_no]
      go_enter Try.func17, Try.ntmps17
      go_wp2_with (first | (go_at_call 42; refine (isRatio_any _ _ _).mono ?_; rintro e w' ⟨rfl, rfl⟩))
      go_ret2
      exact ⟨rfl, rfl⟩
    · rw [Bool.and_true, opt_yes]
      obtain ⟨⟨h1, h2⟩, h3, h4⟩ := ratio_iff.1 h
      obtain ⟨⟨k1, k2⟩, k3, k4⟩ := ratio_iff.1 h'
      have m1 := mul_bd h1 h2 k3 k4
      have m2 := mul_bd k1 k2 h3 h4
      go_enter Try.func17, Try.ntmps17
      go_wp2_with (first | (go_at_call 42; refine (isRatio_any _ _ _).mono ?_; rintro e w' ⟨rfl, rfl⟩) | (go_at_call 43; refine (Compare64_any _ _ _).mono ?_; rintro e w' ⟨rfl, rfl⟩))
      all_goals go_ret2
      all_goals refine ⟨?_, rfl⟩
      · rw [sgn, if_pos (by assumption)]; rfl
      · rw [sgn, if_neg (by omega), if_pos (by assumption)]; rfl
      · rw [sgn, if_neg (by omega), if_neg (by omega)]; rfl
theorem l01Sign_any (n : Int) (w : World) :
    Calls Try.prog 49 #[.int .i64 n] w fun e w' => e = .returned (.int .i64 (sgn n 0)) ∧ w = w' := by
  rcases Int.lt_trichotomy n 0 with h | h | h
  · rw [sgn, if_pos h]
    go_enter Try.func49, Try.ntmps49
    go_wp2
    go_ret
    exact ⟨rfl, rfl⟩
  · subst h
    rw [sgn, if_neg (by omega), if_neg (by omega)]
    go_enter Try.func49, Try.ntmps49
    go_wp2
    go_ret
    exact ⟨rfl, rfl⟩
  · rw [sgn, if_neg (by omega), if_pos h]
    go_enter Try.func49, Try.ntmps49
    go_wp2
    go_ret
    exact ⟨rfl, rfl⟩
theorem specCompareRatios_any (a b c d : Int) (w : World) :
    Calls Try.prog 24 #[.int .i64 a, .int .i64 b, .int .i64 c, .int .i64 d] w fun e w' => e = opt (ratio a b && ratio c d) (sgn (a * d) (c * b)) ∧ w = w' := by
  cases h : ratio a b
  · rw [Bool.false_and, opt_no]
    go_enter Try.func24, Try.ntmps24
    go_wp2_with (first | (go_at_call 45; refine (l01Ratio_any _ _ _).mono ?_; rintro e w' ⟨rfl, rfl⟩))
    go_ret2
    exact ⟨rfl, rfl⟩
  · cases h' : ratio c d
    · rw [Bool.and_false, opt_no]
      go_enter Try.func24, Try.ntmps24
      go_wp2_with (first | (go_at_call 45; refine (l01Ratio_any _ _ _).mono ?_; rintro e w' ⟨rfl, rfl⟩))
      go_ret2
      exact ⟨rfl, rfl⟩
    · rw [Bool.and_true, opt_yes]
      obtain ⟨⟨h1, h2⟩, h3, h4⟩ := ratio_iff.1 h
      obtain ⟨⟨k1, k2⟩, k3, k4⟩ := ratio_iff.1 h'
      have m1 := mul_bd h1 h2 k3 k4
      have m2 := mul_bd k1 k2 h3 h4
      go_enter Try.func24, Try.ntmps24
      go_wp2_with (first | (go_at_call 45; refine (l01Ratio_any _ _ _).mono ?_; rintro e w' ⟨rfl, rfl⟩) | (go_at_call 49; refine (l01Sign_any _ _).mono ?_; rintro e w' ⟨rfl, rfl⟩))
      go_ret2
      exact ⟨by rw [sgn_sub]; rfl, rfl⟩
end Go.Proofs.Ytmddbhpmkpbnlaa
