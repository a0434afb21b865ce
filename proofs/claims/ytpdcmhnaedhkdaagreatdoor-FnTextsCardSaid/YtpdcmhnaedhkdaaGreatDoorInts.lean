/- What the functions of chapter 1 on plain numbers return. -/
import Derived.Test.YtpdcmhnaedhkdaaGreatDoorPlain
namespace Go.Proofs.YtpdcmhnaedhkdaaGreatDoor
open Go.ChangeShapes Go.WideShapes Go.ChangeAt Go.RowKit
set_option linter.unusedVariables false
theorem within_any (n lo hi : Int) (w : World) :
    Calls Tryz.prog 47 #[.int .i64 n, .int .i64 lo, .int .i64 hi] w fun e w' => e = .returned (.bool (inB n lo hi)) ∧ w = w' := by
  go_enter Tryz.func47, Tryz.ntmps47
  go_wp2
  · go_ret
    exact ⟨by simp [inB, *], rfl⟩
  · go_ret
    exact ⟨ret_bool (by symm; rw [inB_not]; omega), rfl⟩
theorem l00In_any (n lo hi : Int) (w : World) :
    Calls Tryz.prog 88 #[.int .i64 n, .int .i64 lo, .int .i64 hi] w fun e w' => e = .returned (.bool (inB n lo hi)) ∧ w = w' := by
  go_enter Tryz.func88, Tryz.ntmps88
  go_wp2
  · go_ret
    exact ⟨by simp [inB, *], rfl⟩
  · go_ret
    exact ⟨ret_bool (by symm; rw [inB_not]; omega), rfl⟩
theorem floorOf_any (a b : Int) (w : World) (ha : -1000000000 ≤ a) (ha' : a ≤ 1000000000) (hb : 1 ≤ b) (hb' : b ≤ 1000000000) :
    Calls Tryz.prog 42 #[.int .i64 a, .int .i64 b] w fun e w' => e = .returned (.int .i64 (fl a b)) ∧ w = w' := by
  have hq := tdiv_bd hb ha ha' (by omega)
  go_enter Tryz.func42, Tryz.ntmps42
  go_wp2
  all_goals go_ret
  · refine ⟨ret_i64 ?_, rfl⟩
    exact fl_lo hb (by assumption)
  · refine ⟨ret_i64 ?_, rfl⟩
    exact fl_hi hb (by assumption)
theorem l01Floor_any (a b : Int) (w : World) (ha : -1000000000 ≤ a) (ha' : a ≤ 1000000000) (hb : 1 ≤ b) (hb' : b ≤ 1000000000) :
    Calls Tryz.prog 32 #[.int .i64 a, .int .i64 b] w fun e w' => e = .returned (.int .i64 (fl a b)) ∧ w = w' := by
  have hq := tdiv_bd hb ha ha' (by omega)
  have hm : -9223372036854775808 ≤ a.tdiv b * b ∧ a.tdiv b * b ≤ 9223372036854775807 := by
    have h1 := Int.mul_tdiv_add_tmod a b
    have h2 := Int.lt_tmod_of_pos a (show 0 < b by omega)
    have h3 := Int.tmod_lt_of_pos a (show 0 < b by omega)
    rw [Int.mul_comm]; omega
  obtain ⟨hm1, hm2⟩ := hm
  have hk : a.tdiv b * b = a - a.tmod b := by have h1 := Int.mul_tdiv_add_tmod a b; rw [Int.mul_comm]; omega
  have HK := Lib.hid hk; clear hk
  go_enter Tryz.func32, Tryz.ntmps32
  go_wp2
  all_goals go_ret
  · refine ⟨ret_i64 ?_, rfl⟩
    have h : a < a.tdiv b * b := by assumption
    rw [HK.out] at h
    exact fl_lo hb (by omega)
  · refine ⟨ret_i64 ?_, rfl⟩
    have h : a.tdiv b * b ≤ a := by assumption
    rw [HK.out] at h
    exact fl_hi hb (by omega)
theorem ceilingOf_any (a b : Int) (w : World) (ha : -1000000000 ≤ a) (ha' : a ≤ 1000000000) (hb : 1 ≤ b) (hb' : b ≤ 1000000000) :
    Calls Tryz.prog 43 #[.int .i64 a, .int .i64 b] w fun e w' => e = .returned (.int .i64 (ce a b)) ∧ w = w' := by
  have hq := fl_bd (a := -a) (M := 1000000000) hb (by omega) (by omega) (by omega)
  go_enter Tryz.func43, Tryz.ntmps43
  go_wp2_with (go_at_call 42; refine (floorOf_any _ _ _ (by omega) (by omega) hb hb').mono ?_; rintro e w' ⟨rfl, rfl⟩)
  go_ret
  exact ⟨rfl, rfl⟩
theorem l01Ceil_any (a b : Int) (w : World) (ha : -1000000000 ≤ a) (ha' : a ≤ 1000000000) (hb : 1 ≤ b) (hb' : b ≤ 1000000000) :
    Calls Tryz.prog 34 #[.int .i64 a, .int .i64 b] w fun e w' => e = .returned (.int .i64 (ce a b)) ∧ w = w' := by
  have hq := fl_bd (a := -a) (M := 1000000000) hb (by omega) (by omega) (by omega)
  go_enter Tryz.func34, Tryz.ntmps34
  go_wp2_with (go_at_call 32; refine (l01Floor_any _ _ _ (by omega) (by omega) hb hb').mono ?_; rintro e w' ⟨rfl, rfl⟩)
  go_ret
  exact ⟨rfl, rfl⟩
theorem nearestOf_any (a b : Int) (w : World) (ha : -1000000000 ≤ a) (ha' : a ≤ 1000000000) (hb : 1 ≤ b) (hb' : b ≤ 1000000000) :
    Calls Tryz.prog 44 #[.int .i64 a, .int .i64 b] w fun e w' => e = .returned (.int .i64 (ne a b)) ∧ w = w' := by
  have hq := fl_bd (a := a) (M := 1000000000) hb (by omega) (by omega) (by omega)
  obtain ⟨m1, m2⟩ := fl_mul (a := a) hb
  go_enter Tryz.func44, Tryz.ntmps44
  go_wp2_with (go_at_call 42; refine (floorOf_any _ _ _ (by omega) (by omega) hb hb').mono ?_; rintro e w' ⟨rfl, rfl⟩)
  all_goals go_ret
  · exact ⟨ret_i64 (ne_b (by assumption) (by simp_all)), rfl⟩
  · exact ⟨ret_i64 (ne_c (by assumption) (by simp_all)), rfl⟩
  · exact ⟨ret_i64 (ne_d (by omega)), rfl⟩
  · exact ⟨ret_i64 (ne_a (by omega)), rfl⟩
end Go.Proofs.YtpdcmhnaedhkdaaGreatDoor
