/- Whether seats can arise by a method: the program's whole, and the model's side. -/
import Derived.Test.YtanfbddmigbncaaSeatPure
import Derived.Deep.LoopGhost
namespace Go.Proofs.Ytanfbddmigbncaa
open Go.ChangeShapes Go.WideShapes Go.ChangeAt Go.RowKit
set_option linter.unusedVariables false
def isB (M : Int) (zs ls : List Int) : Bool := inB M 0 3 && okVotes zs && (seatsOk ls zs.length && allStand ls (fun p _ => nM M (zs.getD p 0)) (fun p k => dM M (zs.getD p 0) k))
theorem okVotes_pos {zs : List Int} (h : okVotes zs = true) : 1 ≤ zs.length := by
  have ht := okVotes_sum h
  rcases Nat.eq_zero_or_pos zs.length with h2 | h2
  · have := List.eq_nil_of_length_eq_zero h2; subst this; simp at ht
  · exact h2
theorem wd_bd {n d M : Int} (h0 : 0 ≤ d) (h1 : d ≤ M) (hM : 1 ≤ M) : 0 ≤ wd n d ∧ wd n d ≤ M := by unfold wd; split <;> omega
set_option maxHeartbeats 1600000 in
theorem IsSeatsBy_any (M : Int) (ad : Option Addr) (cap : Nat) (zs : List Int) (ld : Option Addr) (lcap : Nat) (ls : List Int) (w : World) (uM : In64 M) (hz : Ints w ad zs) (hl : Ints w ld ls) :
    Calls Try.prog 31 #[.int .i64 M, .slice ad zs.length cap, .slice ld ls.length lcap] w fun e w' => e = .returned (.bool (isB M zs ls)) ∧ Keep w w' := by
  cases hv : okVotes zs
  · rw [show isB M zs ls = false from by simp [isB, hv]]
    go_enter Try.func31, Try.ntmps31
    go_wp2_with fail
    refine (contestOf_bad M ad cap zs w hz hv).mono ?_
    unfold noCon
    rintro e w1 ⟨rfl, k1⟩
    go_wp2
    go_ret
    exact ⟨rfl, Keep.next k1 (by go_grown)⟩
  have h1 := okVotes_pos hv
  have h12 := okVotes_len hv
  have hn := okVotes_num hv
  by_cases m0 : M = 0
  · subst m0
    rw [show isB 0 zs ls = (seatsOk ls zs.length && allStand ls (fun p _ => zs.getD p 0) (fun p k => wd (zs.getD p 0) (2 * k + 0))) from by simp [isB, hv, inB, nM, dM, hM]]
    refine IsSeatsBy_of 0 _ _ ad cap zs ld lcap ls _ _ w hz hl h1 h12 (fun W hW => contestOf_0 ad cap zs W hW hv) (fun p k W hW hp k0 k1 => claimOfH_any 0 (by omega) (by omega) ad cap zs p k W hW hn hp k0 k1) (fun p k hp k0 k1 => ?_)
    have hx := hn _ (getD_mem zs p hp)
    have := wd_bd (n := zs.getD p 0) (d := 2 * k + 0) (M := 1001000) (by omega) (by omega) (by omega)
    exact ⟨by omega, by omega, this.1, this.2⟩
  by_cases m1 : M = 1
  · subst m1
    rw [show isB 1 zs ls = (seatsOk ls zs.length && allStand ls (fun p _ => zs.getD p 0 * zs.getD p 0) (fun p k => wd (zs.getD p 0 * zs.getD p 0) (k * (k + 1)))) from by simp [isB, hv, inB, nM, dM]]
    refine IsSeatsBy_of 1 _ _ ad cap zs ld lcap ls _ _ w hz hl h1 h12 (fun W hW => contestOf_1 ad cap zs W hW hv) (fun p k W hW hp k0 k1 => claimOfS_any ad cap zs p k W hW hn hp k0 k1) (fun p k hp k0 k1 => ?_)
    have hx := hn _ (getD_mem zs p hp)
    have e1 : zs.getD p 0 * zs.getD p 0 ≤ 1000000 * 1000000 := Int.mul_le_mul hx.2 hx.2 hx.1 (by omega)
    have e2 : 0 ≤ zs.getD p 0 * zs.getD p 0 := Int.mul_nonneg hx.1 hx.1
    have e3 : k * (k + 1) ≤ 1000 * 1001 := Int.mul_le_mul (by omega) (by omega) (by omega) (by omega)
    have e4 : 0 ≤ k * (k + 1) := Int.mul_nonneg k0 (by omega)
    have := wd_bd (n := zs.getD p 0 * zs.getD p 0) (d := k * (k + 1)) (M := 1001000) (by omega) (by omega) (by omega)
    exact ⟨by omega, by omega, this.1, this.2⟩
  by_cases m2 : M = 2
  · subst m2
    rw [show isB 2 zs ls = (seatsOk ls zs.length && allStand ls (fun p _ => zs.getD p 0) (fun p k => wd (zs.getD p 0) (2 * k + 1))) from by simp [isB, hv, inB, nM, dM, hM]]
    refine IsSeatsBy_of 2 _ _ ad cap zs ld lcap ls _ _ w hz hl h1 h12 (fun W hW => contestOf_2 ad cap zs W hW hv) (fun p k W hW hp k0 k1 => claimOfH_any 1 (by omega) (by omega) ad cap zs p k W hW hn hp k0 k1) (fun p k hp k0 k1 => ?_)
    have hx := hn _ (getD_mem zs p hp)
    have := wd_bd (n := zs.getD p 0) (d := 2 * k + 1) (M := 1001000) (by omega) (by omega) (by omega)
    exact ⟨by omega, by omega, this.1, this.2⟩
  by_cases m3 : M = 3
  · subst m3
    rw [show isB 3 zs ls = (seatsOk ls zs.length && allStand ls (fun p _ => zs.getD p 0) (fun p k => wd (zs.getD p 0) (2 * k + 2))) from by simp [isB, hv, inB, nM, dM, hM]]
    refine IsSeatsBy_of 3 _ _ ad cap zs ld lcap ls _ _ w hz hl h1 h12 (fun W hW => contestOf_3 ad cap zs W hW hv) (fun p k W hW hp k0 k1 => claimOfH_any 2 (by omega) (by omega) ad cap zs p k W hW hn hp k0 k1) (fun p k hp k0 k1 => ?_)
    have hx := hn _ (getD_mem zs p hp)
    have := wd_bd (n := zs.getD p 0) (d := 2 * k + 2) (M := 1001000) (by omega) (by omega) (by omega)
    exact ⟨by omega, by omega, this.1, this.2⟩
  rw [show isB M zs ls = false from by simp [isB, inB]; omega]
  go_enter Try.func31, Try.ntmps31
  go_wp2_with fail
  refine (contestOf_none M ad cap zs w hz hv m0 m1 m2 m3).mono ?_
  unfold noCon
  rintro e w1 ⟨rfl, k1⟩
  go_wp2
  go_ret
  exact ⟨rfl, Keep.next k1 (by go_grown)⟩
theorem l02Method_any (M : Int) (w : World) : Calls Try.prog 71 #[.int .i64 M] w fun e w' => e = .returned (.bool (inB M 0 3)) ∧ w = w' := by
  go_enter Try.func71, Try.ntmps71
  go_wp2_with (go_at_call 61; refine (l00In_any _ _ _ _).mono ?_; rintro e w' ⟨rfl, rfl⟩)
  go_ret
  exact ⟨rfl, rfl⟩
theorem divM_bd (M k : Int) (k0 : 0 ≤ k) (k1 : k ≤ 100) : 0 ≤ divM M k ∧ divM M k ≤ 40804 := by
  have a1 : k * k ≤ 100 * 100 := Int.mul_le_mul k1 k1 k0 (by omega)
  have a2 : 0 ≤ k * k := Int.mul_nonneg k0 k0
  have e1 : 4 * k * k = 4 * (k * k) := by grind
  have e2 : 4 * k * (k + 1) = 4 * (k * k) + 4 * k := by grind
  have e3 : (2 * k + 1) * (2 * k + 1) = 4 * (k * k) + 4 * k + 1 := by grind
  have e4 : 4 * (k + 1) * (k + 1) = 4 * (k * k) + 8 * k + 4 := by grind
  unfold divM
  rw [e1, e2, e3, e4]
  (repeat' split) <;> omega
theorem l02Divisor_any (M k : Int) (w : World) (k0 : 0 ≤ k) (k1 : k ≤ 100) : Calls Try.prog 102 #[.int .i64 M, .int .i64 k] w fun e w' => e = .returned (.int .i64 (divM M k)) ∧ w = w' := by
  have a1 : k * k ≤ 100 * 100 := Int.mul_le_mul k1 k1 k0 (by omega)
  have a2 : 0 ≤ k * k := Int.mul_nonneg k0 k0
  have e1 : 4 * k * k = 4 * (k * k) := by grind
  have e2 : 4 * k * (k + 1) = 4 * (k * k) + 4 * k := by grind
  have e3 : (2 * k + 1) * (2 * k + 1) = 4 * (k * k) + 4 * k + 1 := by grind
  have e4 : 4 * (k + 1) * (k + 1) = 4 * (k * k) + 8 * k + 4 := by grind
  by_cases m0 : M = 0
  · subst m0
    rw [show divM 0 k = 4 * k * k from by simp [divM]]
    go_enter Try.func102, Try.ntmps102
    go_wp2
    go_ret
    exact ⟨ret_i64 (by omega), rfl⟩
  have g0 : (M == 0) = false := by simp [m0]
  by_cases m1 : M = 1
  · subst m1
    rw [show divM 1 k = 4 * k * (k + 1) from by simp [divM]]
    go_enter Try.func102, Try.ntmps102
    go_wp2
    go_ret
    exact ⟨ret_i64 (by omega), rfl⟩
  have g1 : (M == 1) = false := by simp [m1]
  by_cases m2 : M = 2
  · subst m2
    rw [show divM 2 k = (2 * k + 1) * (2 * k + 1) from by simp [divM]]
    go_enter Try.func102, Try.ntmps102
    go_wp2
    go_ret
    exact ⟨ret_i64 (by omega), rfl⟩
  have g2 : (M == 2) = false := by simp [m2]
  rw [show divM M k = 4 * (k + 1) * (k + 1) from by simp [divM, m0, m1, m2]]
  go_enter Try.func102, Try.ntmps102
  go_wp2
  go_ret
  exact ⟨ret_i64 (by omega), rfl⟩
end Go.Proofs.Ytanfbddmigbncaa
