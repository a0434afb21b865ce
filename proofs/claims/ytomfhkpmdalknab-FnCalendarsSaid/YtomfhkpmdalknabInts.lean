/- What the functions of chapter 1 on plain numbers return. -/
import Derived.Test.YtomfhkpmdalknabPlain
namespace Go.Proofs.Ytomfhkpmdalknab
open Go.ChangeShapes Go.WideShapes Go.ChangeAt Go.RowKit
set_option linter.unusedVariables false
theorem within_any (n lo hi : Int) (w : World) :
    Calls Try.prog 22 #[.int .i64 n, .int .i64 lo, .int .i64 hi] w fun e w' => e = .returned (.bool (inB n lo hi)) ∧ w = w' := by
  go_enter Try.func22, Try.ntmps22
  go_wp2
  · go_ret
    exact ⟨by simp [inB, *], rfl⟩
  · go_ret
    exact ⟨ret_bool (by symm; rw [inB_not]; omega), rfl⟩
theorem floorOf_any (a b : Int) (w : World) (ha : -1000000000 ≤ a) (ha' : a ≤ 1000000000) (hb : 1 ≤ b) (hb' : b ≤ 1000000000) :
    Calls Try.prog 44 #[.int .i64 a, .int .i64 b] w fun e w' => e = .returned (.int .i64 (fl a b)) ∧ w = w' := by
  have hq := tdiv_bd hb ha ha' (by omega)
  go_enter Try.func44, Try.ntmps44
  go_wp2
  all_goals go_ret
  · refine ⟨ret_i64 ?_, rfl⟩
    exact fl_lo hb (by assumption)
  · refine ⟨ret_i64 ?_, rfl⟩
    exact fl_hi hb (by assumption)
theorem l01Floor_any (a b : Int) (w : World) (ha : -1000000000 ≤ a) (ha' : a ≤ 1000000000) (hb : 1 ≤ b) (hb' : b ≤ 1000000000) :
    Calls Try.prog 54 #[.int .i64 a, .int .i64 b] w fun e w' => e = .returned (.int .i64 (fl a b)) ∧ w = w' := by
  have hq := tdiv_bd hb ha ha' (by omega)
  have hm : -9223372036854775808 ≤ a.tdiv b * b ∧ a.tdiv b * b ≤ 9223372036854775807 := by
    have h1 := Int.mul_tdiv_add_tmod a b
    have h2 := Int.lt_tmod_of_pos a (show 0 < b by omega)
    have h3 := Int.tmod_lt_of_pos a (show 0 < b by omega)
    rw [Int.mul_comm]; omega
  obtain ⟨hm1, hm2⟩ := hm
  have hk : a.tdiv b * b = a - a.tmod b := by have h1 := Int.mul_tdiv_add_tmod a b; rw [Int.mul_comm]; omega
  have HK := Lib.hid hk; clear hk
  go_enter Try.func54, Try.ntmps54
  go_wp2
  all_goals go_ret
  · refine ⟨ret_i64 ?_, rfl⟩
    have h : a < a.tdiv b * b := by assumption
    rw [HK.out] at h
    exact fl_lo hb (by omega)
  · refine ⟨ret_i64 ?_, rfl⟩
    have h : a.tdiv b * b ≤ a := by assumption
    rw [HK.out] at h
    exact fl_hi hb (by omega)
end Go.Proofs.Ytomfhkpmdalknab
