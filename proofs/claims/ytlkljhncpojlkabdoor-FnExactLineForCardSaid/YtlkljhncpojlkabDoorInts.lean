/- What the functions of chapter 1 on plain numbers return. -/
import Derived.Test.YtlkljhncpojlkabDoorPlain
namespace Go.Proofs.YtlkljhncpojlkabDoor
open Go.ChangeShapes Go.WideShapes Go.ChangeAt Go.RowKit
set_option linter.unusedVariables false
theorem within_any (n lo hi : Int) (w : World) :
    Calls Tryd.prog 46 #[.int .i64 n, .int .i64 lo, .int .i64 hi] w fun e w' => e = .returned (.bool (inB n lo hi)) ∧ w = w' := by
  go_enter Tryd.func46, Tryd.ntmps46
  go_wp2
  · go_ret
    exact ⟨by simp [inB, *], rfl⟩
  · go_ret
    exact ⟨ret_bool (by symm; rw [inB_not]; omega), rfl⟩
theorem l00In_any (n lo hi : Int) (w : World) :
    Calls Tryd.prog 58 #[.int .i64 n, .int .i64 lo, .int .i64 hi] w fun e w' => e = .returned (.bool (inB n lo hi)) ∧ w = w' := by
  go_enter Tryd.func58, Tryd.ntmps58
  go_wp2
  · go_ret
    exact ⟨by simp [inB, *], rfl⟩
  · go_ret
    exact ⟨ret_bool (by symm; rw [inB_not]; omega), rfl⟩
theorem floorOf_any (a b : Int) (w : World) (ha : -1000000000 ≤ a) (ha' : a ≤ 1000000000) (hb : 1 ≤ b) (hb' : b ≤ 1000000000) :
    Calls Tryd.prog 49 #[.int .i64 a, .int .i64 b] w fun e w' => e = .returned (.int .i64 (fl a b)) ∧ w = w' := by
  have hq := tdiv_bd hb ha ha' (by omega)
  go_enter Tryd.func49, Tryd.ntmps49
  go_wp2
  all_goals go_ret
  · refine ⟨ret_i64 ?_, rfl⟩
    exact fl_lo hb (by assumption)
  · refine ⟨ret_i64 ?_, rfl⟩
    exact fl_hi hb (by assumption)
theorem l01Floor_any (a b : Int) (w : World) (ha : -1000000000 ≤ a) (ha' : a ≤ 1000000000) (hb : 1 ≤ b) (hb' : b ≤ 1000000000) :
    Calls Tryd.prog 66 #[.int .i64 a, .int .i64 b] w fun e w' => e = .returned (.int .i64 (fl a b)) ∧ w = w' := by
  have hq := tdiv_bd hb ha ha' (by omega)
  have hm : -9223372036854775808 ≤ a.tdiv b * b ∧ a.tdiv b * b ≤ 9223372036854775807 := by
    have h1 := Int.mul_tdiv_add_tmod a b
    have h2 := Int.lt_tmod_of_pos a (show 0 < b by omega)
    have h3 := Int.tmod_lt_of_pos a (show 0 < b by omega)
    rw [Int.mul_comm]; omega
  obtain ⟨hm1, hm2⟩ := hm
  have hk : a.tdiv b * b = a - a.tmod b := by have h1 := Int.mul_tdiv_add_tmod a b; rw [Int.mul_comm]; omega
  have HK := Lib.hid hk; clear hk
  go_enter Tryd.func66, Tryd.ntmps66
  go_wp2
  all_goals go_ret
  · refine ⟨ret_i64 ?_, rfl⟩
    have h : a < a.tdiv b * b := by assumption
    rw [HK.out] at h
    exact fl_lo hb (by omega)
  · refine ⟨ret_i64 ?_, rfl⟩
    have h : a.tdiv b * b ≤ a := by assumption
    rw [HK.out] at h
    exact fl_hi hb (by omega)
theorem isRatio_any (a b : Int) (w : World) :
    Calls Tryd.prog 70 #[.int .i64 a, .int .i64 b] w fun e w' => e = .returned (.bool (ratio a b)) ∧ w = w' := by
  cases h : inB a (-1000000000) 1000000000
  all_goals
    go_enter Tryd.func70, Tryd.ntmps70
    go_wp2_with (go_at_call 46; refine (within_any _ _ _ _).mono ?_; rintro e w' ⟨rfl, rfl⟩)
    go_ret
    exact ⟨ret_bool (by simp [ratio, h]), rfl⟩
theorem DivFloor_any (a b : Int) (w : World) :
    Calls Tryd.prog 19 #[.int .i64 a, .int .i64 b] w fun e w' => e = opt (ratio a b) (fl a b) ∧ w = w' := by
  cases h : ratio a b
  · rw [opt_no]
    go_enter Tryd.func19, Tryd.ntmps19
    go_wp2_with (first | (go_at_call 70; refine (isRatio_any _ _ _).mono ?_; rintro e w' ⟨rfl, rfl⟩) | go_in)
    go_ret2
    exact ⟨rfl, rfl⟩
  · rw [opt_yes]
    obtain ⟨⟨h1, h2⟩, h3, h4⟩ := ratio_iff.1 h
    go_enter Tryd.func19, Tryd.ntmps19
    go_wp2_with (first | (go_at_call 70; refine (isRatio_any _ _ _).mono ?_; rintro e w' ⟨rfl, rfl⟩) | (go_at_call 49; refine (floorOf_any _ _ _ h1 h2 h3 h4).mono ?_; rintro e w' ⟨rfl, rfl⟩) | go_in)
    go_ret2
    exact ⟨rfl, rfl⟩
theorem Compare64_any (x y : Int) (w : World) :
    Calls Tryd.prog 81 #[.int .i64 x, .int .i64 y] w fun e w' => e = .returned (.int .i64 (if x < y then -1 else if y < x then 1 else 0)) ∧ w = w' := by
  rcases Int.lt_trichotomy x y with h | h | h
  · rw [if_pos h]
    go_enter Tryd.func81, Tryd.ntmps81
    go_wp2
    go_ret
    exact ⟨rfl, rfl⟩
  · subst h
    rw [if_neg (by omega), if_neg (by omega)]
    go_enter Tryd.func81, Tryd.ntmps81
    go_wp2
    go_ret
    exact ⟨rfl, rfl⟩
  · rw [if_neg (by omega), if_pos h]
    go_enter Tryd.func81, Tryd.ntmps81
    go_wp2
    go_ret
    exact ⟨rfl, rfl⟩
end Go.Proofs.YtlkljhncpojlkabDoor
