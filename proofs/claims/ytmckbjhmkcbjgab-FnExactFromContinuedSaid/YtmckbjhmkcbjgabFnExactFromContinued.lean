/- FromContinued answers as its model, at every slice of int64; it writes nothing of its argument. -/
import Derived.Test.YtmckbjhmkcbjgabFc7c
import Derived.Test.YtmckbjhmkcbjgabFc7s
import Derived.Deep.RegionHeld3
namespace Go.Proofs.Ytmckbjhmkcbjgab.fnExactFromContinued
open Go.ChangeShapes Go.WideShapes Go.ChangeAt Go.RowKit
open Go.ChangeMaps (open_string shut_string)
set_option linter.unusedVariables false

set_option maxHeartbeats 1600000 in
set_option maxRecDepth 100000 in
theorem walk (w : World) (a0 : Option Addr) (cap0 : Nat) (z0 : List Int) (af0 : Ints w a0 z0) :
    Calls Try.prog 6 #[.slice a0 z0.length cap0] w fun e w' => e = .returned (.bool true) ∧ Below w.heap.size w w' := by
  have K0 : Keep w w := Below.refl _ _
  have len0_ := af0.small
  by_cases big0_ : (1048576 : Int) < (z0.length : Int)
  · -- too long: nothing is asked
    go_enter Try.func6, Try.ntmps6
    go_wp2
    go_ret
    exact ⟨rfl, Keep.next K0 (by go_grown)⟩
  have fit0_ : 0 ≤ (1048576 : Int) - (z0.length : Int) := by omega
  clear big0_
  obtain ⟨r0, r1, r2, H1, H2⟩ : ∃ (r0 : Int) (r1 : Int) (r2 : Bool), Hid (∀ (W : World) (p0 : Option Addr), Ints W p0 z0 → Calls Try.prog 24 #[.slice p0 z0.length z0.length] W fun e w' => e = .returned (.tuple #[.int .i64 r0, .int .i64 r1, .bool r2]) ∧ Keep W w') ∧ Hid (∀ (W : World) (p0 : Option Addr), Ints W p0 z0 → Calls Try.prog 26 #[.slice p0 z0.length z0.length] W fun e w' => e = .returned (.tuple #[.int .i64 r0, .int .i64 r1, .bool r2]) ∧ Keep W w') :=
    ⟨_, _, _, Lib.hid (fun W p0 h0 => specFromContinued_any p0 z0.length z0 W h0 (Nat.le_refl _)), Lib.hid (fun W p0 h0 => FromContinued_any p0 z0.length z0 W h0 (Nat.le_refl _))⟩
  go_enter Try.func6, Try.ntmps6
  go_wp2_with fail
  refine (toInt64S_ex a0 cap0 z0 _ ((af0.keep K0 (Nat.le_refl _)).keep (B := _) (by go_grown) (Nat.le_refl _)) (by omega)).mono ?_
  rintro e w1 ⟨t0b, rfl, t0o, k1⟩
  have t0 : Mine w1 (w.heap.size) w1.heap.size _ _ _ := Mine.new (by go_size) t0o
  clear t0o
  have g1_ : Keep w w1 := Keep.next (by go_grown) k1
  have K1 := Keep.next K0 g1_
  have s1_ := g1_.size
  go_wp2_with fail
  refine (H1.out _ (some ⟨t0b, 0, none⟩) (t0.keep (by go_grown)).ints).mono ?_
  rintro e w2 ⟨rfl, k2⟩
  have g2_ : Keep w1 w2 := Keep.next (by go_grown) k2
  have K2 := Keep.next K1 g2_
  have s2_ := g2_.size
  replace t0 := t0.keep g2_
  go_wp2_with fail
  refine (toInt64S_ex a0 cap0 z0 _ ((af0.keep K2 (Nat.le_refl _)).keep (B := _) (by go_grown) (Nat.le_refl _)) (by omega)).mono ?_
  rintro e w3 ⟨x0b, rfl, x0o, k3⟩
  have x0 : Mine w3 (w2.heap.size) w3.heap.size _ _ _ := Mine.new (by go_size) x0o
  clear x0o
  have g3_ : Keep w2 w3 := Keep.next (by go_grown) k3
  have K3 := Keep.next K2 g3_
  have s3_ := g3_.size
  replace t0 := t0.keep g3_
  go_wp2_with fail
  refine (H2.out _ (some ⟨x0b, 0, none⟩) (x0.keep (by go_grown)).ints).mono ?_
  rintro e w4 ⟨rfl, k4⟩
  have g4_ : Keep w3 w4 := Keep.next (by go_grown) k4
  have K4 := Keep.next K3 g4_
  have s4_ := g4_.size
  replace t0 := t0.keep g4_
  replace x0 := x0.keep g4_
  go_wp2_with fail
  refine (toInt64S_ex a0 cap0 z0 _ ((af0.keep K4 (Nat.le_refl _)).keep (B := _) (by go_grown) (Nat.le_refl _)) (by omega)).mono ?_
  rintro e w5 ⟨y0b, rfl, y0o, k5⟩
  have y0 : Mine w5 (w4.heap.size) w5.heap.size _ _ _ := Mine.new (by go_size) y0o
  clear y0o
  have g5_ : Keep w4 w5 := Keep.next (by go_grown) k5
  have K5 := Keep.next K4 g5_
  have s5_ := g5_.size
  replace t0 := t0.keep g5_
  replace x0 := x0.keep g5_
  go_wp2_with fail
  refine (eqInt64S_same _ _ _ _ z0 _ (x0.keep (by go_grown)).ints (y0.keep (by go_grown)).ints).mono ?_
  rintro e w6 ⟨rfl, k6⟩
  have g6_ : Keep w5 w6 := Keep.next (by go_grown) k6
  have K6 := Keep.next K5 g6_
  have s6_ := g6_.size
  replace t0 := t0.keep g6_
  replace x0 := x0.keep g6_
  replace y0 := y0.keep g6_
  go_wp2
  go_ret
  exact ⟨rfl, Keep.next K6 (by go_grown)⟩


theorem own : ownKnob Try.prog.godebug = none := by kernel_rfl
theorem laidOut : laidOutB Try.prog = true := by kernel_rfl
set_option maxRecDepth 100000 in
theorem lifted (os : Os) (started : os.Started) (H : Type) (enc : TypeId × Value → H) :
    ReturnsInHanded {} Try.checked os 6 .any (Rows.fnExactFromContinuedSpec.pre6 enc Try.prog Try.f6 Rows.fnExactFromContinuedRow.domain false) (Rows.fnExactFromContinuedSpec.post enc Try.prog Try.f6 false true false false) := by
  refine returnsInHanded_of_change (C := Try.checked) own started (by kernel_rfl) Try.func6
    (ChangeSpec.witness6 (enc := enc) (C := Try.checked) false ⟨#[], #[.slice none 0 0], []⟩ 8 (by kernel_rfl) (by kernel_rfl) (by kernel_rfl) (by kernel_rfl)) ?_
  intro W base args ds gs before hval0 hW hcnd _
  have hval : ∀ (j : Nat) t v, Try.f6.params[j]? = some t → args[j]? = some v → Value.okWide Try.prog W .any base t v := hval0
  have hW' := hW
  obtain ⟨p, q, hA0, hV, rfl, hfz, hnd⟩ := hW
  have hA : DataW.TrodAll enc Try.prog W 0 (fun _ => true) true Try.f6.params.toList args.toList ds p := hA0
  rw [Try.params6] at hA hval
  obtain ⟨v0, vs0, d0, ds0, p0, q0, hargs, rfl, rfl, h0, r0⟩ := trodAll_cons hA
  obtain ⟨rfl, rfl, rfl⟩ := trodAll_nil r0
  obtain rfl : args = #[v0] := by cases args; simp_all
  obtain ⟨rfl, rfl⟩ := trodVars_none hV
  have k0 := h0
  have lt0 : ∀ x ∈ p0, x.block < W.heap.size := by obtain ⟨m, hm⟩ := k0; exact DataW.trod_lt m _ _ _ hm
  obtain ⟨a0, len0, cap0, rfl⟩ := okWide_slice Try.underlying24 (hval 0 24 v0 rfl rfl)
  obtain ⟨z0, e0, w0⟩ := ints_open Try.underlying24 Try.underlying2 (by kernel_rfl) h0
  subst e0
  clear hA0 hval0
  refine (walk W a0 cap0 z0 w0).mono fun e W' ⟨he, bel⟩ => ?_
  subst he
  exact ⟨_, rfl, _, _, _, [], _, [], hW', trodAll_mk1 (shut_bool Try.underlying4 _), (trodAll_cons_mk (Below.trod laidOut (by kernel_rfl) (of_decide_eq_true (by kernel_rfl)) k0 bel lt0) trodAll_mk0), rfl, bel.frame _, fun h => by cases h⟩
theorem over : Rows.fnExactFromContinuedRow.holds Try.pinned (OpenSpec.ofChange Rows.fnExactFromContinuedSpec) :=
  OpenClaim.holds_of_wide 6 Try.f6 rfl rfl rfl rfl rfl rfl rfl ⟨rfl, rfl, rfl, rfl, rfl⟩ rfl rfl rfl rfl rfl (by kernel_rfl) Try.func6 (by kernel_rfl)
    (of_decide_eq_true (by kernel_rfl)) (by unfold Func.isWrapper; first | (rw [if_pos (by decide +kernel)]; kernel_rfl) | (rw [if_neg (by decide +kernel)]; exact ⟨rfl, rfl⟩))
    (fun os started H enc _ => lifted os started H enc)
/-- THE STATEMENT. -/
theorem proved : Rows.FnExactFromContinuedSaid := over
end Go.Proofs.Ytmckbjhmkcbjgab.fnExactFromContinued
