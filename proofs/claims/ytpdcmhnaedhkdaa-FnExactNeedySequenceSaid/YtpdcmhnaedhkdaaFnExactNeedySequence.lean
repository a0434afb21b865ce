/- NeedySequence answers as its model, at every slice of int64; it writes nothing of its argument, and its answer is memory of its own. -/
import Derived.Test.YtpdcmhnaedhkdaaNdP8
import Derived.Test.YtpdcmhnaedhkdaaNyS8
import Derived.Deep.RegionHeld3
namespace Go.Proofs.Ytpdcmhnaedhkdaa.fnExactNeedySequence
open Go.ChangeShapes Go.WideShapes Go.ChangeAt Go.RowKit
open Go.ChangeMaps (open_string shut_string)
set_option linter.unusedVariables false

set_option maxHeartbeats 1600000 in
set_option maxRecDepth 100000 in
theorem walk (w : World) (a0 : Option Addr) (cap0 : Nat) (z0 : List Int) (af0 : Ints w a0 z0) :
    Calls Try.prog 4 #[.slice a0 z0.length cap0] w fun e w' => e = .returned (.bool true) ∧ Below w.heap.size w w' := by
  have K0 : Keep w w := Below.refl _ _
  have len0_ := af0.small
  by_cases big0_ : (1048576 : Int) < (z0.length : Int)
  · -- too long: nothing is asked
    go_enter Try.func4, Try.ntmps4
    go_wp2
    go_ret
    exact ⟨rfl, Keep.next K0 (by go_grown)⟩
  have fit0_ : 0 ≤ (1048576 : Int) - (z0.length : Int) := by omega
  clear big0_
  obtain ⟨r0, r1, H1, H2⟩ : ∃ (r0 : List Int) (r1 : Bool), Hid (∀ (W : World) (p0 : Option Addr) (c0 : Nat), Ints W p0 z0 → Calls Try.prog 14 #[.slice p0 z0.length c0] W fun e w' => ∃ rd0 rc0, e = .returned (.tuple #[.slice rd0 r0.length rc0, .bool r1]) ∧ Own w' W.heap.size rd0 rc0 r0 ∧ Keep W w') ∧ Hid (∀ (W : World) (p0 : Option Addr) (c0 : Nat), Ints W p0 z0 → Calls Try.prog 16 #[.slice p0 z0.length c0] W fun e w' => ∃ rd0 rc0, e = .returned (.tuple #[.slice rd0 r0.length rc0, .bool r1]) ∧ Own w' W.heap.size rd0 rc0 r0 ∧ Keep W w') :=
    ⟨_, _, Lib.hid (fun W p0 c0 h0 => specNeedySequence_any p0 c0 z0 W h0), Lib.hid (fun W p0 c0 h0 => NeedySequence_any p0 c0 z0 W h0)⟩
  go_enter Try.func4, Try.ntmps4
  go_wp2_with fail
  refine (toInt64S_ex a0 cap0 z0 _ ((af0.keep K0 (Nat.le_refl _)).keep (B := _) (by go_grown) (Nat.le_refl _)) (by omega)).mono ?_
  rintro e w1 ⟨t0b, rfl, t0o, k1⟩
  have t0 : Mine w1 (w.heap.size) w1.heap.size _ _ _ := Mine.new (by go_size) t0o
  clear t0o
  have g1_ : Keep w w1 := Keep.next (by go_grown) k1
  have K1 := Keep.next K0 g1_
  have s1_ := g1_.size
  go_wp2_with fail
  refine (H1.out _ (some ⟨t0b, 0, none⟩) z0.length (t0.keep (by go_grown)).ints).mono ?_
  rintro e w2 ⟨sd0, sc0, rfl, so0, k2⟩
  have sm0 : Mine w2 (w1.heap.size) w2.heap.size _ _ _ := Mine.new (by go_size) so0
  clear so0
  have g2_ : Keep w1 w2 := Keep.next (by go_grown) k2
  have K2 := Keep.next K1 g2_
  have s2_ := g2_.size
  replace t0 := t0.keep g2_
  go_wp2_with fail
  refine (toInt64S_ex a0 cap0 z0 _ ((af0.keep K2 (Nat.le_refl _)).keep (B := _) (by go_grown) (Nat.le_refl _)) (by omega)).mono ?_
  rintro e w3 ⟨x0b, rfl, x0o, k3⟩
  have x0 : Mine w3 (w2.heap.size) w3.heap.size _ _ _ := Mine.new (by go_size) x0o
  clear x0o
  have g3_ : Keep w2 w3 := Keep.next (by go_grown) k3
  have K3 := Keep.next K2 g3_
  have s3_ := g3_.size
  replace t0 := t0.keep g3_
  replace sm0 := sm0.keep g3_
  go_wp2_with fail
  refine (H2.out _ (some ⟨x0b, 0, none⟩) z0.length (x0.keep (by go_grown)).ints).mono ?_
  rintro e w4 ⟨gd0, gc0, rfl, go0, k4⟩
  have gm0 : Mine w4 (w3.heap.size) w4.heap.size _ _ _ := Mine.new (by go_size) go0
  clear go0
  have g4_ : Keep w3 w4 := Keep.next (by go_grown) k4
  have K4 := Keep.next K3 g4_
  have s4_ := g4_.size
  replace t0 := t0.keep g4_
  replace sm0 := sm0.keep g4_
  replace x0 := x0.keep g4_
  go_wp2_with fail
  refine (eqInt64S_same _ _ _ _ r0 _ (gm0.keep (by go_grown)).ints (sm0.keep (by go_grown)).ints).mono ?_
  rintro e w5 ⟨rfl, k5⟩
  have g5_ : Keep w4 w5 := Keep.next (by go_grown) k5
  have K5 := Keep.next K4 g5_
  have s5_ := g5_.size
  replace t0 := t0.keep g5_
  replace sm0 := sm0.keep g5_
  replace x0 := x0.keep g5_
  replace gm0 := gm0.keep g5_
  go_wp2_with fail
  refine (toInt64S_ex a0 cap0 z0 _ ((af0.keep K5 (Nat.le_refl _)).keep (B := _) (by go_grown) (Nat.le_refl _)) (by omega)).mono ?_
  rintro e w6 ⟨y0b, rfl, y0o, k6⟩
  have y0 : Mine w6 (w5.heap.size) w6.heap.size _ _ _ := Mine.new (by go_size) y0o
  clear y0o
  have g6_ : Keep w5 w6 := Keep.next (by go_grown) k6
  have K6 := Keep.next K5 g6_
  have s6_ := g6_.size
  replace t0 := t0.keep g6_
  replace sm0 := sm0.keep g6_
  replace x0 := x0.keep g6_
  replace gm0 := gm0.keep g6_
  go_wp2_with fail
  refine (eqInt64S_same _ _ _ _ z0 _ (x0.keep (by go_grown)).ints (y0.keep (by go_grown)).ints).mono ?_
  rintro e w7 ⟨rfl, k7⟩
  have g7_ : Keep w6 w7 := Keep.next (by go_grown) k7
  have K7 := Keep.next K6 g7_
  have s7_ := g7_.size
  replace t0 := t0.keep g7_
  replace sm0 := sm0.keep g7_
  replace x0 := x0.keep g7_
  replace gm0 := gm0.keep g7_
  replace y0 := y0.keep g7_
  go_wp2_with fail
  refine (markInt64S_any _ _ _ z0 (1) _ (x0.keep (by go_grown)).own (by omega) (by omega) (by omega)).mono ?_
  rintro e w8 ⟨rfl, o8, k8, _⟩
  have g8_ := grownBy_trans (keep_grown (w := w7) (by go_grown) _) k8
  replace x0 : Mine w8 _ _ _ _ _ := ⟨o8, x0.below⟩
  have K8 := below_past K7 x0 g8_ (K7).size (by omega)
  have s8_ := g8_.size
  replace t0 := t0.past x0 g8_ (by omega)
  replace sm0 := sm0.past x0 g8_ (by omega)
  replace gm0 := gm0.past x0 g8_ (by omega)
  replace y0 := y0.past x0 g8_ (by omega)
  have hk_ : 0 ≤ 1 + (z0.length : Int) := by omega
  go_wp2_with fail
  refine (eqInt64S_same _ _ _ _ r0 _ (gm0.keep (by go_grown)).ints (sm0.keep (by go_grown)).ints).mono ?_
  rintro e w9 ⟨rfl, k9⟩
  have g9_ : Keep w8 w9 := Keep.next (by go_grown) k9
  have K9 := Keep.next K8 g9_
  have s9_ := g9_.size
  replace t0 := t0.keep g9_
  replace sm0 := sm0.keep g9_
  replace x0 := x0.keep g9_
  replace gm0 := gm0.keep g9_
  replace y0 := y0.keep g9_
  have L0_ := gm0.own.2.1
  go_wp2_with fail
  refine (markInt64S_any _ _ _ r0 (1) _ (gm0.keep (by go_grown)).own (by omega) (by omega) (by omega)).mono ?_
  rintro e w10 ⟨rfl, o10, k10, _⟩
  have g10_ := grownBy_trans (keep_grown (w := w9) (by go_grown) _) k10
  replace gm0 : Mine w10 _ _ _ _ _ := ⟨o10, gm0.below⟩
  have K10 := below_past K9 gm0 g10_ (K9).size (by omega)
  have s10_ := g10_.size
  replace t0 := t0.past gm0 g10_ (by omega)
  replace sm0 := sm0.past gm0 g10_ (by omega)
  replace x0 := x0.past gm0 g10_ (by omega)
  replace y0 := y0.past gm0 g10_ (by omega)
  have hm_ : 0 ≤ 1 + (r0.length : Int) := by omega
  go_wp2_with fail
  refine (heldInt64S_any _ _ (1) r0.length _ (gm0.keep (by go_grown)).ints (by omega) (by omega) (by omega)).mono ?_
  rintro e w11 ⟨rfl, k11⟩
  have g11_ : Keep w10 w11 := Keep.next (by go_grown) k11
  have K11 := Keep.next K10 g11_
  have s11_ := g11_.size
  replace t0 := t0.keep g11_
  replace sm0 := sm0.keep g11_
  replace x0 := x0.keep g11_
  replace gm0 := gm0.keep g11_
  replace y0 := y0.keep g11_
  go_wp2_with fail
  refine (toInt64S_ex a0 cap0 z0 _ ((af0.keep K11 (Nat.le_refl _)).keep (B := _) (by go_grown) (Nat.le_refl _)) (by omega)).mono ?_
  rintro e w12 ⟨v0b, rfl, v0o, k12⟩
  have v0 : Mine w12 (w11.heap.size) w12.heap.size _ _ _ := Mine.new (by go_size) v0o
  clear v0o
  have g12_ : Keep w11 w12 := Keep.next (by go_grown) k12
  have K12 := Keep.next K11 g12_
  have s12_ := g12_.size
  replace t0 := t0.keep g12_
  replace sm0 := sm0.keep g12_
  replace x0 := x0.keep g12_
  replace gm0 := gm0.keep g12_
  replace y0 := y0.keep g12_
  go_wp2_with fail
  refine (H2.out _ (some ⟨v0b, 0, none⟩) z0.length (v0.keep (by go_grown)).ints).mono ?_
  rintro e w13 ⟨hd0, hc0, rfl, ho0, k13⟩
  have hm0 : Mine w13 (w12.heap.size) w13.heap.size _ _ _ := Mine.new (by go_size) ho0
  clear ho0
  have g13_ : Keep w12 w13 := Keep.next (by go_grown) k13
  have K13 := Keep.next K12 g13_
  have s13_ := g13_.size
  replace t0 := t0.keep g13_
  replace sm0 := sm0.keep g13_
  replace x0 := x0.keep g13_
  replace gm0 := gm0.keep g13_
  replace y0 := y0.keep g13_
  replace v0 := v0.keep g13_
  go_wp2_with fail
  refine (eqInt64S_same _ _ _ _ r0 _ (hm0.keep (by go_grown)).ints (sm0.keep (by go_grown)).ints).mono ?_
  rintro e w14 ⟨rfl, k14⟩
  have g14_ : Keep w13 w14 := Keep.next (by go_grown) k14
  have K14 := Keep.next K13 g14_
  have s14_ := g14_.size
  replace t0 := t0.keep g14_
  replace sm0 := sm0.keep g14_
  replace x0 := x0.keep g14_
  replace gm0 := gm0.keep g14_
  replace y0 := y0.keep g14_
  replace v0 := v0.keep g14_
  replace hm0 := hm0.keep g14_
  go_wp2_with fail
  refine (heldInt64S_any _ _ (1) r0.length _ (gm0.keep (by go_grown)).ints (by omega) (by omega) (by omega)).mono ?_
  rintro e w15 ⟨rfl, k15⟩
  have g15_ : Keep w14 w15 := Keep.next (by go_grown) k15
  have K15 := Keep.next K14 g15_
  have s15_ := g15_.size
  replace t0 := t0.keep g15_
  replace sm0 := sm0.keep g15_
  replace x0 := x0.keep g15_
  replace gm0 := gm0.keep g15_
  replace y0 := y0.keep g15_
  replace v0 := v0.keep g15_
  replace hm0 := hm0.keep g15_
  go_wp2
  go_ret
  exact ⟨rfl, Keep.next K15 (by go_grown)⟩


theorem own : ownKnob Try.prog.godebug = none := by kernel_rfl
theorem laidOut : laidOutB Try.prog = true := by kernel_rfl
set_option maxRecDepth 100000 in
theorem lifted (os : Os) (started : os.Started) (H : Type) (enc : TypeId × Value → H) :
    ReturnsInHanded {} Try.checked os 4 .any (Rows.fnExactNeedySequenceSpec.pre6 enc Try.prog Try.f4 Rows.fnExactNeedySequenceRow.domain false) (Rows.fnExactNeedySequenceSpec.post enc Try.prog Try.f4 false true false false) := by
  refine returnsInHanded_of_change (C := Try.checked) own started (by kernel_rfl) Try.func4
    (ChangeSpec.witness6 (enc := enc) (C := Try.checked) false ⟨#[], #[.slice none 0 0], []⟩ 8 (by kernel_rfl) (by kernel_rfl) (by kernel_rfl) (by kernel_rfl)) ?_
  intro W base args ds gs before hval0 hW hcnd _
  have hval : ∀ (j : Nat) t v, Try.f4.params[j]? = some t → args[j]? = some v → Value.okWide Try.prog W .any base t v := hval0
  have hW' := hW
  obtain ⟨p, q, hA0, hV, rfl, hfz, hnd⟩ := hW
  have hA : DataW.TrodAll enc Try.prog W 0 (fun _ => true) true Try.f4.params.toList args.toList ds p := hA0
  rw [Try.params4] at hA hval
  obtain ⟨v0, vs0, d0, ds0, p0, q0, hargs, rfl, rfl, h0, r0⟩ := trodAll_cons hA
  obtain ⟨rfl, rfl, rfl⟩ := trodAll_nil r0
  obtain rfl : args = #[v0] := by cases args; simp_all
  obtain ⟨rfl, rfl⟩ := trodVars_none hV
  have k0 := h0
  have lt0 : ∀ x ∈ p0, x.block < W.heap.size := by obtain ⟨m, hm⟩ := k0; exact DataW.trod_lt m _ _ _ hm
  obtain ⟨a0, len0, cap0, rfl⟩ := okWide_slice Try.underlying22 (hval 0 22 v0 rfl rfl)
  obtain ⟨z0, e0, w0⟩ := ints_open Try.underlying22 Try.underlying2 (by kernel_rfl) h0
  subst e0
  clear hA0 hval0
  refine (walk W a0 cap0 z0 w0).mono fun e W' ⟨he, bel⟩ => ?_
  subst he
  exact ⟨_, rfl, _, _, _, [], _, [], hW', trodAll_mk1 (shut_bool Try.underlying4 _), (trodAll_cons_mk (Below.trod laidOut (by kernel_rfl) (of_decide_eq_true (by kernel_rfl)) k0 bel lt0) trodAll_mk0), rfl, bel.frame _, fun h => by cases h⟩
theorem over : Rows.fnExactNeedySequenceRow.holds Try.pinned (OpenSpec.ofChange Rows.fnExactNeedySequenceSpec) :=
  OpenClaim.holds_of_wide 4 Try.f4 rfl rfl rfl rfl rfl rfl rfl ⟨rfl, rfl, rfl, rfl, rfl⟩ rfl rfl rfl rfl rfl (by kernel_rfl) Try.func4 (by kernel_rfl)
    (of_decide_eq_true (by kernel_rfl)) (by unfold Func.isWrapper; first | (rw [if_pos (by decide +kernel)]; kernel_rfl) | (rw [if_neg (by decide +kernel)]; exact ⟨rfl, rfl⟩))
    (fun os started H enc _ => lifted os started H enc)
/-- THE STATEMENT. -/
theorem proved : Rows.FnExactNeedySequenceSaid := over
end Go.Proofs.Ytpdcmhnaedhkdaa.fnExactNeedySequence
