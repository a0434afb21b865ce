/- WindowsOf answers as its model, at every slice of int64 and every int64; it writes nothing of its argument, and its answers are memory of their own. -/
import Derived.Test.YtmckbjhmkcbjgaaWinI8
import Derived.Deep.RegionHeld3
namespace Go.Proofs.Ytmckbjhmkcbjgaa.fnExactWindowsOf
open Go.ChangeShapes Go.WideShapes Go.ChangeAt Go.RowKit
open Go.ChangeMaps (open_string shut_string)
set_option linter.unusedVariables false

set_option maxHeartbeats 1600000 in
set_option maxRecDepth 100000 in
theorem walk (w : World) (a0 : Option Addr) (cap0 : Nat) (z0 : List Int) (af0 : Ints w a0 z0) (a1 : Int) (u1 : In64 a1) :
    Calls Try.prog 13 #[.slice a0 z0.length cap0, .int .i64 a1] w fun e w' => e = .returned (.bool true) ∧ Below w.heap.size w w' := by
  have K0 : Keep w w := Below.refl _ _
  have len0_ := af0.small
  by_cases big0_ : (1048576 : Int) < (z0.length : Int)
  · -- too long: nothing is asked
    go_enter Try.func13, Try.ntmps13
    go_wp2
    go_ret
    exact ⟨rfl, Keep.next K0 (by go_grown)⟩
  have fit0_ : 0 ≤ (1048576 : Int) - (z0.length : Int) := by omega
  clear big0_
  obtain ⟨r0, r1, r2, H1, H2⟩ : ∃ (r0 : List (List Int)) (r1 : List (List Int)) (r2 : Bool), Hid (∀ (W : World) (p0 : Option Addr) (c0 : Nat), Ints W p0 z0 → Calls Try.prog 43 #[.slice p0 z0.length c0, .int .i64 a1] W fun e w' => ∃ rd0 rc0 rA0 rC0, ∃ rd1 rc1 rA1 rC1, e = .returned (.tuple #[.slice rd0 r0.length rc0, .slice rd1 r1.length rc1, .bool r2]) ∧ OwnR w' W.heap.size rd0 rc0 rA0 rC0 r0 ∧ OwnR w' W.heap.size rd1 rc1 rA1 rC1 r1 ∧ Keep W w') ∧ Hid (∀ (W : World) (p0 : Option Addr) (c0 : Nat), Ints W p0 z0 → Calls Try.prog 44 #[.slice p0 z0.length c0, .int .i64 a1] W fun e w' => ∃ rd0 rc0 rA0 rC0, ∃ rd1 rc1 rA1 rC1, e = .returned (.tuple #[.slice rd0 r0.length rc0, .slice rd1 r1.length rc1, .bool r2]) ∧ OwnR w' W.heap.size rd0 rc0 rA0 rC0 r0 ∧ OwnR w' W.heap.size rd1 rc1 rA1 rC1 r1 ∧ (∀ k, footR rd0 rA0 r0.length k → footR rd1 rA1 r1.length k → False) ∧ Keep W w') :=
    ⟨_, _, _, Lib.hid (fun W p0 c0 h0 => specWindowsOf_any p0 c0 z0 a1 W h0 u1), Lib.hid (fun W p0 c0 h0 => WindowsOf_any p0 c0 z0 a1 W h0 u1)⟩
  go_enter Try.func13, Try.ntmps13
  go_wp2_with fail
  refine (toInt64S_ex a0 cap0 z0 _ ((af0.keep K0 (Nat.le_refl _)).keep (B := _) (by go_grown) (Nat.le_refl _)) (by omega)).mono ?_
  rintro e w1 ⟨t0b, rfl, t0o, k1⟩
  have t0 : Mine w1 (w.heap.size) w1.heap.size _ _ _ := Mine.new (by go_size) t0o
  clear t0o
  have g1_ : Keep w w1 := Keep.next (by go_grown) k1
  have K1 := Keep.next K0 g1_
  have s1_ := g1_.size
  go_wp2_with fail
  refine (H1.out _ (some ⟨t0b, 0, none⟩) z0.length (t0.keep (by go_grown)).ints).mono ?_
  rintro e w2 ⟨sd0, sc0, sA0, sC0, sd1, sc1, sA1, sC1, rfl, so0, so1, k2⟩
  have sm0 : MineR w2 (w1.heap.size) w2.heap.size _ _ _ _ _ := MineR.new (by go_size) so0
  clear so0
  have sm1 : MineR w2 (w1.heap.size) w2.heap.size _ _ _ _ _ := MineR.new (by go_size) so1
  clear so1
  have g2_ : Keep w1 w2 := Keep.next (by go_grown) k2
  have K2 := Keep.next K1 g2_
  have s2_ := g2_.size
  replace t0 := t0.keep g2_
  go_wp2_with fail
  refine (toInt64S_ex a0 cap0 z0 _ ((af0.keep K2 (Nat.le_refl _)).keep (B := _) (by go_grown) (Nat.le_refl _)) (by omega)).mono ?_
  rintro e w3 ⟨x0b, rfl, x0o, k3⟩
  have x0 : Mine w3 (w2.heap.size) w3.heap.size _ _ _ := Mine.new (by go_size) x0o
  clear x0o
  have g3_ : Keep w2 w3 := Keep.next (by go_grown) k3
  have K3 := Keep.next K2 g3_
  have s3_ := g3_.size
  replace t0 := t0.keep g3_
  replace sm0 := sm0.keep g3_
  replace sm1 := sm1.keep g3_
  go_wp2_with fail
  refine (H2.out _ (some ⟨x0b, 0, none⟩) z0.length (x0.keep (by go_grown)).ints).mono ?_
  rintro e w4 ⟨gd0, gc0, gA0, gC0, gd1, gc1, gA1, gC1, rfl, go0, go1, gap0_1, k4⟩
  have gm0 : MineR w4 (w3.heap.size) w4.heap.size _ _ _ _ _ := MineR.new (by go_size) go0
  clear go0
  have gm1 : MineR w4 (w3.heap.size) w4.heap.size _ _ _ _ _ := MineR.new (by go_size) go1
  clear go1
  have g4_ : Keep w3 w4 := Keep.next (by go_grown) k4
  have K4 := Keep.next K3 g4_
  have s4_ := g4_.size
  replace t0 := t0.keep g4_
  replace sm0 := sm0.keep g4_
  replace sm1 := sm1.keep g4_
  replace x0 := x0.keep g4_
  go_wp2_with fail
  refine (eqInt64SS_same _ _ _ _ r0 _ (gm0.keep (by go_grown)).ints (sm0.keep (by go_grown)).ints).mono ?_
  rintro e w5 ⟨rfl, k5⟩
  have g5_ : Keep w4 w5 := Keep.next (by go_grown) k5
  have K5 := Keep.next K4 g5_
  have s5_ := g5_.size
  replace t0 := t0.keep g5_
  replace sm0 := sm0.keep g5_
  replace sm1 := sm1.keep g5_
  replace x0 := x0.keep g5_
  replace gm0 := gm0.keep g5_
  replace gm1 := gm1.keep g5_
  go_wp2_with fail
  refine (eqInt64SS_same _ _ _ _ r1 _ (gm1.keep (by go_grown)).ints (sm1.keep (by go_grown)).ints).mono ?_
  rintro e w6 ⟨rfl, k6⟩
  have g6_ : Keep w5 w6 := Keep.next (by go_grown) k6
  have K6 := Keep.next K5 g6_
  have s6_ := g6_.size
  replace t0 := t0.keep g6_
  replace sm0 := sm0.keep g6_
  replace sm1 := sm1.keep g6_
  replace x0 := x0.keep g6_
  replace gm0 := gm0.keep g6_
  replace gm1 := gm1.keep g6_
  go_wp2_with fail
  refine (toInt64S_ex a0 cap0 z0 _ ((af0.keep K6 (Nat.le_refl _)).keep (B := _) (by go_grown) (Nat.le_refl _)) (by omega)).mono ?_
  rintro e w7 ⟨y0b, rfl, y0o, k7⟩
  have y0 : Mine w7 (w6.heap.size) w7.heap.size _ _ _ := Mine.new (by go_size) y0o
  clear y0o
  have g7_ : Keep w6 w7 := Keep.next (by go_grown) k7
  have K7 := Keep.next K6 g7_
  have s7_ := g7_.size
  replace t0 := t0.keep g7_
  replace sm0 := sm0.keep g7_
  replace sm1 := sm1.keep g7_
  replace x0 := x0.keep g7_
  replace gm0 := gm0.keep g7_
  replace gm1 := gm1.keep g7_
  go_wp2_with fail
  refine (eqInt64S_same _ _ _ _ z0 _ (x0.keep (by go_grown)).ints (y0.keep (by go_grown)).ints).mono ?_
  rintro e w8 ⟨rfl, k8⟩
  have g8_ : Keep w7 w8 := Keep.next (by go_grown) k8
  have K8 := Keep.next K7 g8_
  have s8_ := g8_.size
  replace t0 := t0.keep g8_
  replace sm0 := sm0.keep g8_
  replace sm1 := sm1.keep g8_
  replace x0 := x0.keep g8_
  replace gm0 := gm0.keep g8_
  replace gm1 := gm1.keep g8_
  replace y0 := y0.keep g8_
  go_wp2_with fail
  refine (markInt64S_any _ _ _ z0 (1) _ (x0.keep (by go_grown)).own (by omega) (by omega) (by omega)).mono ?_
  rintro e w9 ⟨rfl, o9, k9, _⟩
  have g9_ := grownBy_trans (keep_grown (w := w8) (by go_grown) _) k9
  replace x0 : Mine w9 _ _ _ _ _ := ⟨o9, x0.below⟩
  have K9 := below_past K8 x0 g9_ (K8).size (by omega)
  have s9_ := g9_.size
  replace t0 := t0.past x0 g9_ (by omega)
  replace sm0 := sm0.past x0 g9_ (by omega)
  replace sm1 := sm1.past x0 g9_ (by omega)
  replace gm0 := gm0.past x0 g9_ (by omega)
  replace gm1 := gm1.past x0 g9_ (by omega)
  replace y0 := y0.past x0 g9_ (by omega)
  have hk_ : 0 ≤ 1 + (z0.length : Int) := by omega
  go_wp2_with fail
  refine (eqInt64SS_same _ _ _ _ r0 _ (gm0.keep (by go_grown)).ints (sm0.keep (by go_grown)).ints).mono ?_
  rintro e w10 ⟨rfl, k10⟩
  have g10_ : Keep w9 w10 := Keep.next (by go_grown) k10
  have K10 := Keep.next K9 g10_
  have s10_ := g10_.size
  replace t0 := t0.keep g10_
  replace sm0 := sm0.keep g10_
  replace sm1 := sm1.keep g10_
  replace x0 := x0.keep g10_
  replace gm0 := gm0.keep g10_
  replace gm1 := gm1.keep g10_
  replace y0 := y0.keep g10_
  go_wp2_with fail
  refine (eqInt64SS_same _ _ _ _ r1 _ (gm1.keep (by go_grown)).ints (sm1.keep (by go_grown)).ints).mono ?_
  rintro e w11 ⟨rfl, k11⟩
  have g11_ : Keep w10 w11 := Keep.next (by go_grown) k11
  have K11 := Keep.next K10 g11_
  have s11_ := g11_.size
  replace t0 := t0.keep g11_
  replace sm0 := sm0.keep g11_
  replace sm1 := sm1.keep g11_
  replace x0 := x0.keep g11_
  replace gm0 := gm0.keep g11_
  replace gm1 := gm1.keep g11_
  replace y0 := y0.keep g11_
  have L0_ := gm0.own.all
  have L1_ := gm1.own.all
  go_wp2_with fail
  refine (markInt64SR_ex _ _ _ _ _ _ r0 (1) _ (gm0.keep (by go_grown)) (by omega) (by omega)).mono ?_
  rintro e w12 ⟨rfl, o12, wr12_, k12⟩
  have g12_ := (Span.of_keep (w := w11) (by go_grown)).trans k12
  replace gm0 := gm0.marked o12
  have K12 := below_span K11 g12_ (K11).size (by omega)
  have s12_ := g12_.size
  replace t0 := t0.span g12_ (by omega)
  replace sm0 := sm0.span g12_ (by omega)
  replace sm1 := sm1.span g12_ (by omega)
  replace x0 := x0.span g12_ (by omega)
  replace gm1 := (gm1.keep (by go_grown)).wrote wr12_ (fun k a b => gap0_1 k b a)
  replace y0 := y0.span g12_ (by omega)
  go_wp2_with fail
  refine (markInt64SR_ex _ _ _ _ _ _ r1 (1 + (tot r0 : Int)) _ (gm1.keep (by go_grown)) (by omega) (by omega)).mono ?_
  rintro e w13 ⟨rfl, o13, wr13_, k13⟩
  have g13_ := (Span.of_keep (w := w12) (by go_grown)).trans k13
  replace gm1 := gm1.marked o13
  have K13 := below_span K12 g13_ (K12).size (by omega)
  have s13_ := g13_.size
  replace t0 := t0.span g13_ (by omega)
  replace sm0 := sm0.span g13_ (by omega)
  replace sm1 := sm1.span g13_ (by omega)
  replace x0 := x0.span g13_ (by omega)
  replace gm0 := (gm0.keep (by go_grown)).wrote wr13_ (fun k a b => gap0_1 k (footS a) b)
  replace y0 := y0.span g13_ (by omega)
  have hm_ : 0 ≤ 1 + (tot r0 : Int) + (tot r1 : Int) := by omega
  go_wp2_with fail
  refine (heldInt64SS_any _ _ (1) r0 _ _ (gm0.keep (by go_grown)).ints rfl (by omega) (by omega) (by omega)).mono ?_
  rintro e w14 ⟨rfl, k14⟩
  have g14_ : Keep w13 w14 := Keep.next (by go_grown) k14
  have K14 := Keep.next K13 g14_
  have s14_ := g14_.size
  replace t0 := t0.keep g14_
  replace sm0 := sm0.keep g14_
  replace sm1 := sm1.keep g14_
  replace x0 := x0.keep g14_
  replace gm0 := gm0.keep g14_
  replace gm1 := gm1.keep g14_
  replace y0 := y0.keep g14_
  go_wp2_with fail
  refine (heldInt64SS_any _ _ (1 + (tot r0 : Int)) r1 _ _ (gm1.keep (by go_grown)).ints rfl (by omega) (by omega) (by omega)).mono ?_
  rintro e w15 ⟨rfl, k15⟩
  have g15_ : Keep w14 w15 := Keep.next (by go_grown) k15
  have K15 := Keep.next K14 g15_
  have s15_ := g15_.size
  replace t0 := t0.keep g15_
  replace sm0 := sm0.keep g15_
  replace sm1 := sm1.keep g15_
  replace x0 := x0.keep g15_
  replace gm0 := gm0.keep g15_
  replace gm1 := gm1.keep g15_
  replace y0 := y0.keep g15_
  go_wp2_with fail
  refine (toInt64S_ex a0 cap0 z0 _ ((af0.keep K15 (Nat.le_refl _)).keep (B := _) (by go_grown) (Nat.le_refl _)) (by omega)).mono ?_
  rintro e w16 ⟨v0b, rfl, v0o, k16⟩
  have v0 : Mine w16 (w15.heap.size) w16.heap.size _ _ _ := Mine.new (by go_size) v0o
  clear v0o
  have g16_ : Keep w15 w16 := Keep.next (by go_grown) k16
  have K16 := Keep.next K15 g16_
  have s16_ := g16_.size
  replace t0 := t0.keep g16_
  replace sm0 := sm0.keep g16_
  replace sm1 := sm1.keep g16_
  replace x0 := x0.keep g16_
  replace gm0 := gm0.keep g16_
  replace gm1 := gm1.keep g16_
  replace y0 := y0.keep g16_
  go_wp2_with fail
  refine (H2.out _ (some ⟨v0b, 0, none⟩) z0.length (v0.keep (by go_grown)).ints).mono ?_
  rintro e w17 ⟨hd0, hc0, hA0, hC0, hd1, hc1, hA1, hC1, rfl, ho0, ho1, hap0_1, k17⟩
  have hm0 : MineR w17 (w16.heap.size) w17.heap.size _ _ _ _ _ := MineR.new (by go_size) ho0
  clear ho0
  have hm1 : MineR w17 (w16.heap.size) w17.heap.size _ _ _ _ _ := MineR.new (by go_size) ho1
  clear ho1
  have g17_ : Keep w16 w17 := Keep.next (by go_grown) k17
  have K17 := Keep.next K16 g17_
  have s17_ := g17_.size
  replace t0 := t0.keep g17_
  replace sm0 := sm0.keep g17_
  replace sm1 := sm1.keep g17_
  replace x0 := x0.keep g17_
  replace gm0 := gm0.keep g17_
  replace gm1 := gm1.keep g17_
  replace y0 := y0.keep g17_
  replace v0 := v0.keep g17_
  go_wp2_with fail
  refine (eqInt64SS_same _ _ _ _ r0 _ (hm0.keep (by go_grown)).ints (sm0.keep (by go_grown)).ints).mono ?_
  rintro e w18 ⟨rfl, k18⟩
  have g18_ : Keep w17 w18 := Keep.next (by go_grown) k18
  have K18 := Keep.next K17 g18_
  have s18_ := g18_.size
  replace t0 := t0.keep g18_
  replace sm0 := sm0.keep g18_
  replace sm1 := sm1.keep g18_
  replace x0 := x0.keep g18_
  replace gm0 := gm0.keep g18_
  replace gm1 := gm1.keep g18_
  replace y0 := y0.keep g18_
  replace v0 := v0.keep g18_
  replace hm0 := hm0.keep g18_
  replace hm1 := hm1.keep g18_
  go_wp2_with fail
  refine (eqInt64SS_same _ _ _ _ r1 _ (hm1.keep (by go_grown)).ints (sm1.keep (by go_grown)).ints).mono ?_
  rintro e w19 ⟨rfl, k19⟩
  have g19_ : Keep w18 w19 := Keep.next (by go_grown) k19
  have K19 := Keep.next K18 g19_
  have s19_ := g19_.size
  replace t0 := t0.keep g19_
  replace sm0 := sm0.keep g19_
  replace sm1 := sm1.keep g19_
  replace x0 := x0.keep g19_
  replace gm0 := gm0.keep g19_
  replace gm1 := gm1.keep g19_
  replace y0 := y0.keep g19_
  replace v0 := v0.keep g19_
  replace hm0 := hm0.keep g19_
  replace hm1 := hm1.keep g19_
  go_wp2_with fail
  refine (heldInt64SS_any _ _ (1) r0 _ _ (gm0.keep (by go_grown)).ints rfl (by omega) (by omega) (by omega)).mono ?_
  rintro e w20 ⟨rfl, k20⟩
  have g20_ : Keep w19 w20 := Keep.next (by go_grown) k20
  have K20 := Keep.next K19 g20_
  have s20_ := g20_.size
  replace t0 := t0.keep g20_
  replace sm0 := sm0.keep g20_
  replace sm1 := sm1.keep g20_
  replace x0 := x0.keep g20_
  replace gm0 := gm0.keep g20_
  replace gm1 := gm1.keep g20_
  replace y0 := y0.keep g20_
  replace v0 := v0.keep g20_
  replace hm0 := hm0.keep g20_
  replace hm1 := hm1.keep g20_
  go_wp2_with fail
  refine (heldInt64SS_any _ _ (1 + (tot r0 : Int)) r1 _ _ (gm1.keep (by go_grown)).ints rfl (by omega) (by omega) (by omega)).mono ?_
  rintro e w21 ⟨rfl, k21⟩
  have g21_ : Keep w20 w21 := Keep.next (by go_grown) k21
  have K21 := Keep.next K20 g21_
  have s21_ := g21_.size
  replace t0 := t0.keep g21_
  replace sm0 := sm0.keep g21_
  replace sm1 := sm1.keep g21_
  replace x0 := x0.keep g21_
  replace gm0 := gm0.keep g21_
  replace gm1 := gm1.keep g21_
  replace y0 := y0.keep g21_
  replace v0 := v0.keep g21_
  replace hm0 := hm0.keep g21_
  replace hm1 := hm1.keep g21_
  go_wp2
  go_ret
  exact ⟨rfl, Keep.next K21 (by go_grown)⟩


theorem own : ownKnob Try.prog.godebug = none := by kernel_rfl
theorem laidOut : laidOutB Try.prog = true := by kernel_rfl
set_option maxRecDepth 100000 in
theorem lifted (os : Os) (started : os.Started) (H : Type) (enc : TypeId × Value → H) :
    ReturnsInHanded {} Try.checked os 13 .any (Rows.fnExactWindowsOfSpec.pre6 enc Try.prog Try.f13 Rows.fnExactWindowsOfRow.domain false) (Rows.fnExactWindowsOfSpec.post enc Try.prog Try.f13 false true false false) := by
  refine returnsInHanded_of_change (C := Try.checked) own started (by kernel_rfl) Try.func13
    (ChangeSpec.witness6 (enc := enc) (C := Try.checked) false ⟨#[], #[.slice none 0 0, .int .i64 0], []⟩ 8 (by kernel_rfl) (by kernel_rfl) (by kernel_rfl) (by kernel_rfl)) ?_
  intro W base args ds gs before hval0 hW hcnd _
  have hval : ∀ (j : Nat) t v, Try.f13.params[j]? = some t → args[j]? = some v → Value.okWide Try.prog W .any base t v := hval0
  have hW' := hW
  obtain ⟨p, q, hA0, hV, rfl, hfz, hnd⟩ := hW
  have hA : DataW.TrodAll enc Try.prog W 0 (fun _ => true) true Try.f13.params.toList args.toList ds p := hA0
  rw [Try.params13] at hA hval
  obtain ⟨v0, vs0, d0, ds0, p0, q0, hargs, rfl, rfl, h0, r0⟩ := trodAll_cons hA
  obtain ⟨v1, vs1, d1, ds1, p1, q1, rfl, rfl, rfl, h1, r1⟩ := trodAll_cons r0
  obtain ⟨rfl, rfl, rfl⟩ := trodAll_nil r1
  obtain rfl : args = #[v0, v1] := by cases args; simp_all
  obtain ⟨rfl, rfl⟩ := trodVars_none hV
  have k0 := h0
  have lt0 : ∀ x ∈ p0, x.block < W.heap.size := by obtain ⟨m, hm⟩ := k0; exact DataW.trod_lt m _ _ _ hm
  obtain ⟨a0, len0, cap0, rfl⟩ := okWide_slice Try.underlying24 (hval 0 24 v0 rfl rfl)
  obtain ⟨z0, e0, w0⟩ := ints_open Try.underlying24 Try.underlying2 (by kernel_rfl) h0
  subst e0
  have k1 := h1
  have lt1 : ∀ x ∈ p1, x.block < W.heap.size := by obtain ⟨m, hm⟩ := k1; exact DataW.trod_lt m _ _ _ hm
  obtain ⟨a1, rfl, rfl, rfl, wf1⟩ := open_int Try.underlying2 (hval 1 2 v1 rfl rfl) h1
  clear hA0 hval0
  refine (walk W a0 cap0 z0 w0 a1 (in64 wf1)).mono fun e W' ⟨he, bel⟩ => ?_
  subst he
  exact ⟨_, rfl, _, _, _, [], _, [], hW', trodAll_mk1 (shut_bool Try.underlying4 _), (trodAll_cons_mk (Below.trod laidOut (by kernel_rfl) (of_decide_eq_true (by kernel_rfl)) k0 bel lt0) (trodAll_cons_mk (shut_int Try.underlying2 wf1) trodAll_mk0)), rfl, bel.frame _, fun h => by cases h⟩
theorem over : Rows.fnExactWindowsOfRow.holds Try.pinned (OpenSpec.ofChange Rows.fnExactWindowsOfSpec) :=
  OpenClaim.holds_of_wide 13 Try.f13 rfl rfl rfl rfl rfl rfl rfl ⟨rfl, rfl, rfl, rfl, rfl⟩ rfl rfl rfl rfl rfl (by kernel_rfl) Try.func13 (by kernel_rfl)
    (of_decide_eq_true (by kernel_rfl)) (by unfold Func.isWrapper; first | (rw [if_pos (by decide +kernel)]; kernel_rfl) | (rw [if_neg (by decide +kernel)]; exact ⟨rfl, rfl⟩))
    (fun os started H enc _ => lifted os started H enc)
/-- THE STATEMENT. -/
theorem proved : Rows.FnExactWindowsOfSaid := over
end Go.Proofs.Ytmckbjhmkcbjgaa.fnExactWindowsOf
