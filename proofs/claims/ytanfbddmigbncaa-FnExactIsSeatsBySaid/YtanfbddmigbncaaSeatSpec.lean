/- Whether seats can arise by a method: the model's side. -/
import Derived.Test.YtanfbddmigbncaaSeatIs
namespace Go.Proofs.Ytanfbddmigbncaa
open Go.ChangeShapes Go.WideShapes Go.ChangeAt Go.RowKit
set_option linter.unusedVariables false
set_option maxHeartbeats 1600000 in
theorem l02Cmp_any (M v k u m : Int) (w : World) (v0 : 0 ≤ v) (v1 : v ≤ 1000000) (u0 : 0 ≤ u) (u1 : u ≤ 1000000) (k0 : 0 ≤ k) (k1 : k ≤ 100) (m0 : 0 ≤ m) (m1 : m ≤ 100) :
    Calls Try.prog 74 #[.int .i64 M, .int .i64 v, .int .i64 k, .int .i64 u, .int .i64 m] w fun e w' => e = .returned (.int .i64 (sgn (cL v u (divM M k) (divM M m)) (cR v u (divM M k) (divM M m)))) ∧ w = w' := by
  obtain ⟨d0, d1⟩ := divM_bd M k k0 k1
  obtain ⟨e0, e1⟩ := divM_bd M m m0 m1
  have HD1 := Lib.hid (l02Divisor_any M k w k0 k1)
  have HD2 := Lib.hid (l02Divisor_any M m w m0 m1)
  obtain ⟨d, hd⟩ : ∃ d, d = divM M k := ⟨_, rfl⟩
  obtain ⟨e, he⟩ : ∃ e, e = divM M m := ⟨_, rfl⟩
  rw [← hd] at HD1 d0 d1
  rw [← he] at HD2 e0 e1
  rw [← hd, ← he]
  clear hd he
  have a1 : v * v ≤ 1000000 * 1000000 := Int.mul_le_mul v1 v1 v0 (by omega)
  have a2 : 0 ≤ v * v := Int.mul_nonneg v0 v0
  have a3 : v * v * e ≤ 1000000000000 * 40804 := Int.mul_le_mul (by omega) e1 e0 (by omega)
  have a4 : 0 ≤ v * v * e := Int.mul_nonneg a2 e0
  have b1 : u * u ≤ 1000000 * 1000000 := Int.mul_le_mul u1 u1 u0 (by omega)
  have b2 : 0 ≤ u * u := Int.mul_nonneg u0 u0
  have b3 : u * u * d ≤ 1000000000000 * 40804 := Int.mul_le_mul (by omega) d1 d0 (by omega)
  have b4 : 0 ≤ u * u * d := Int.mul_nonneg b2 d0
  by_cases hv : v = 0
  · have g1 : (v == 0) = true := by simp [hv]
    rw [show cL v u d e = v from by simp [cL, hv], show cR v u d e = u from by simp [cR, hv]]
    go_enter Try.func74, Try.ntmps74
    go_wp2_with (go_at_call 102; first | (refine HD1.out.mono ?_; clear HD1; rintro e w' ⟨rfl, rfl⟩) | (refine HD2.out.mono ?_; rintro e w' ⟨rfl, rfl⟩))
    all_goals go_ret
    all_goals exact ⟨ret_i64 (by unfold sgn; (repeat' split) <;> omega), rfl⟩
  have g1 : (v == 0) = false := by simp [hv]
  by_cases hu : u = 0
  · have g2 : (u == 0) = true := by simp [hu]
    rw [show cL v u d e = v from by simp [cL, hu], show cR v u d e = u from by simp [cR, hu]]
    go_enter Try.func74, Try.ntmps74
    go_wp2_with (go_at_call 102; first | (refine HD1.out.mono ?_; clear HD1; rintro e w' ⟨rfl, rfl⟩) | (refine HD2.out.mono ?_; rintro e w' ⟨rfl, rfl⟩))
    all_goals go_ret
    all_goals exact ⟨ret_i64 (by unfold sgn; (repeat' split) <;> omega), rfl⟩
  have g2 : (u == 0) = false := by simp [hu]
  by_cases hd : d = 0
  · have g3 : (d == 0) = true := by simp [hd]
    by_cases he : e = 0
    · have g4 : (e == 0) = true := by simp [he]
      rw [show cL v u d e = v from by simp [cL, hv, hu, hd, he], show cR v u d e = u from by simp [cR, hv, hu, hd, he]]
      go_enter Try.func74, Try.ntmps74
      go_wp2_with (go_at_call 102; first | (refine HD1.out.mono ?_; clear HD1; rintro e w' ⟨rfl, rfl⟩) | (refine HD2.out.mono ?_; rintro e w' ⟨rfl, rfl⟩))
      all_goals go_ret
      all_goals exact ⟨ret_i64 (by unfold sgn; (repeat' split) <;> omega), rfl⟩
    · have g4 : (e == 0) = false := by simp [he]
      rw [show cL v u d e = e from by simp [cL, hv, hu, hd, he], show cR v u d e = d from by simp [cR, hv, hu, hd, he]]
      go_enter Try.func74, Try.ntmps74
      go_wp2_with (go_at_call 102; first | (refine HD1.out.mono ?_; clear HD1; rintro e w' ⟨rfl, rfl⟩) | (refine HD2.out.mono ?_; rintro e w' ⟨rfl, rfl⟩))
      all_goals go_ret
      all_goals exact ⟨ret_i64 (by unfold sgn; (repeat' split) <;> omega), rfl⟩
  have g3 : (d == 0) = false := by simp [hd]
  by_cases he : e = 0
  · have g4 : (e == 0) = true := by simp [he]
    rw [show cL v u d e = e from by simp [cL, hv, hu, hd, he], show cR v u d e = d from by simp [cR, hv, hu, hd, he]]
    go_enter Try.func74, Try.ntmps74
    go_wp2_with (go_at_call 102; first | (refine HD1.out.mono ?_; clear HD1; rintro e w' ⟨rfl, rfl⟩) | (refine HD2.out.mono ?_; rintro e w' ⟨rfl, rfl⟩))
    all_goals go_ret
    all_goals exact ⟨ret_i64 (by unfold sgn; (repeat' split) <;> omega), rfl⟩
  · have g4 : (e == 0) = false := by simp [he]
    rw [show cL v u d e = v * v * e from by simp [cL, hv, hu, hd, he], show cR v u d e = u * u * d from by simp [cR, hv, hu, hd, he]]
    generalize hL : v * v * e = L at *
    generalize hR : u * u * d = R at *
    go_enter Try.func74, Try.ntmps74
    go_wp2_with (go_at_call 102; first | (refine HD1.out.mono ?_; clear HD1; rintro e w' ⟨rfl, rfl⟩) | (refine HD2.out.mono ?_; rintro e w' ⟨rfl, rfl⟩))
    all_goals go_ret
    all_goals exact ⟨ret_i64 (by unfold sgn; (repeat' split) <;> omega), rfl⟩
end Go.Proofs.Ytanfbddmigbncaa
