/- ImbalancesOf answers as its model, at every system and set; it writes nothing of its arguments and owns its answer. -/
import Derived.Test.YtaockgegghmphaaImbI10
import Derived.Deep.RegionHeld3
namespace Go.Proofs.Ytaockgegghmphaa.fnExactImbalancesOf
open Go.ChangeShapes Go.WideShapes Go.ChangeAt Go.RowKit
open Go.ChangeMaps (open_string shut_string)
set_option linter.unusedVariables false

set_option maxHeartbeats 1600000 in
set_option maxRecDepth 100000 in
theorem walk (w : World) (g0 : Int) (u0 : In64 g0) (a0 : Option Addr) (cap0 : Nat) (z0 : List Int) (af0 : Ints w a0 z0) (a1 : Int) (u1 : In64 a1) :
    Calls Try.prog 4 #[.agg #[.int .i64 g0, .slice a0 z0.length cap0], .int .i64 a1] w fun e w' => e = .returned (.bool true) ∧ Below w.heap.size w w' := by
  have K0 : Keep w w := Below.refl _ _
  have len0_ := af0.small
  by_cases big0_ : (1048576 : Int) < (z0.length : Int)
  · -- too long: nothing is asked
    go_enter Try.func4, Try.ntmps4
    go_wp2_with fail
    refine (szSystem_any g0 a0 cap0 z0.length (1048576) _ (by omega) (by omega) af0.small).mono ?_
    rw [if_pos (by omega)]
    rintro e w1 ⟨rfl, k1⟩
    have g1_ : Keep w w1 := Keep.next (by go_grown) k1
    have K1 := Keep.next K0 g1_
    have s1_ := g1_.size
    have X_ : Box w1 (w.heap.size) g0 (a0) (z0.length) (cap0) := Box.keep ⟨by simp, by simp, by first | (simp; done) | (simp; omega)⟩ k1
    obtain ⟨B0a, B0b, B0l⟩ := X_
    have B0s := B0l
    go_wp2
    go_ret
    exact ⟨rfl, Keep.next K1 (by go_grown)⟩
  have fit0_ : 0 ≤ (1048576 : Int) - (z0.length : Int) := by omega
  clear big0_
  obtain ⟨r0, r1, H1, H2⟩ : ∃ (r0 : List Int) (r1 : Bool), Hid (∀ (W : World) (p0 : Option Addr) (c0 : Nat), Ints W p0 z0 → Calls Try.prog 19 #[valV g0 p0 z0.length c0, .int .i64 a1] W fun e w' => ∃ rd0 rc0, e = .returned (.tuple #[.slice rd0 r0.length rc0, .bool r1]) ∧ Own w' W.heap.size rd0 rc0 r0 ∧ Keep W w') ∧ Hid (∀ (W : World) (p0 : Option Addr) (c0 : Nat), Ints W p0 z0 → Calls Try.prog 20 #[valV g0 p0 z0.length c0, .int .i64 a1] W fun e w' => ∃ rd0 rc0, e = .returned (.tuple #[.slice rd0 r0.length rc0, .bool r1]) ∧ Own w' W.heap.size rd0 rc0 r0 ∧ Keep W w') :=
    ⟨_, _, Lib.hid (fun W p0 c0 h0 => specImbalancesOf_any g0 p0 c0 z0 a1 W h0 u1), Lib.hid (fun W p0 c0 h0 => ImbalancesOf_any g0 p0 c0 z0 a1 W h0 u1)⟩
  go_enter Try.func4, Try.ntmps4
  go_wp2_with fail
  refine (szSystem_any g0 a0 cap0 z0.length (1048576) _ (by omega) (by omega) af0.small).mono ?_
  rw [if_neg (by omega)]
  rintro e w1 ⟨rfl, k1⟩
  have g1_ : Keep w w1 := Keep.next (by go_grown) k1
  have K1 := Keep.next K0 g1_
  have s1_ := g1_.size
  have X_ : Box w1 (w.heap.size) g0 (a0) (z0.length) (cap0) := Box.keep ⟨by simp, by simp, by first | (simp; done) | (simp; omega)⟩ k1
  obtain ⟨B0a, B0b, B0l⟩ := X_
  have B0s := B0l
  go_wp2_with fail
  refine (toSystem_any g0 a0 cap0 z0 _ ((af0.keep K1 (Nat.le_refl _)).keep (B := _) (by go_grown) (Nat.le_refl _)) (by omega)).mono ?_
  rintro e w2 ⟨t0b, rfl, t0o, k2⟩
  have t0 : Mine w2 (w1.heap.size) w2.heap.size _ _ _ := Mine.new (by go_size) t0o
  clear t0o
  have g2_ : Keep w1 w2 := Keep.next (by go_grown) k2
  have K2 := Keep.next K1 g2_
  have s2_ := g2_.size
  have X_ := (Box.mk B0a B0b B0l).keep g2_
  clear B0a B0b B0l; obtain ⟨B0a, B0b, B0l⟩ := X_
  go_wp2_with fail
  refine (H1.out _ (some ⟨t0b, 0, none⟩) z0.length (t0.keep (by go_grown)).ints).mono ?_
  rintro e w3 ⟨sd0, sc0, rfl, so0, k3⟩
  have sm0 : Mine w3 (w2.heap.size) w3.heap.size _ _ _ := Mine.new (by go_size) so0
  clear so0
  have g3_ : Keep w2 w3 := Keep.next (by go_grown) k3
  have K3 := Keep.next K2 g3_
  have s3_ := g3_.size
  have X_ := (Box.mk B0a B0b B0l).keep g3_
  clear B0a B0b B0l; obtain ⟨B0a, B0b, B0l⟩ := X_
  replace t0 := t0.keep g3_
  go_wp2_with fail
  refine (toSystem_any g0 a0 cap0 z0 _ ((af0.keep K3 (Nat.le_refl _)).keep (B := _) (by go_grown) (Nat.le_refl _)) (by omega)).mono ?_
  rintro e w4 ⟨x0b, rfl, x0o, k4⟩
  have x0 : Mine w4 (w3.heap.size) w4.heap.size _ _ _ := Mine.new (by go_size) x0o
  clear x0o
  have g4_ : Keep w3 w4 := Keep.next (by go_grown) k4
  have K4 := Keep.next K3 g4_
  have s4_ := g4_.size
  have X_ := (Box.mk B0a B0b B0l).keep g4_
  clear B0a B0b B0l; obtain ⟨B0a, B0b, B0l⟩ := X_
  replace t0 := t0.keep g4_
  replace sm0 := sm0.keep g4_
  go_wp2_with fail
  refine (H2.out _ (some ⟨x0b, 0, none⟩) z0.length (x0.keep (by go_grown)).ints).mono ?_
  rintro e w5 ⟨gd0, gc0, rfl, go0, k5⟩
  have gm0 : Mine w5 (w4.heap.size + 1) w5.heap.size _ _ _ := Mine.new (by go_size) go0
  clear go0
  have g5_ : Keep w4 w5 := Keep.next (by go_grown) k5
  have K5 := Keep.next K4 g5_
  have s5_ := g5_.size
  have X_ := (Box.mk B0a B0b B0l).keep g5_
  clear B0a B0b B0l; obtain ⟨B0a, B0b, B0l⟩ := X_
  have X_ : Box w5 (w4.heap.size) g0 ((some ⟨x0b, 0, none⟩)) (z0.length) (z0.length) := Box.keep ⟨by simp, by simp, by first | (simp; done) | (simp; omega)⟩ k5
  obtain ⟨Y0a, Y0b, Y0l⟩ := X_
  have Y0s := Y0l
  replace t0 := t0.keep g5_
  replace sm0 := sm0.keep g5_
  replace x0 := x0.keep g5_
  go_wp2_with fail
  refine (eqInt64S_same _ _ _ _ r0 _ (gm0.keep (by go_grown)).ints (sm0.keep (by go_grown)).ints).mono ?_
  rintro e w6 ⟨rfl, k6⟩
  have g6_ : Keep w5 w6 := Keep.next (by go_grown) k6
  have K6 := Keep.next K5 g6_
  have s6_ := g6_.size
  have X_ := (Box.mk B0a B0b B0l).keep g6_
  clear B0a B0b B0l; obtain ⟨B0a, B0b, B0l⟩ := X_
  have X_ := (Box.mk Y0a Y0b Y0l).keep g6_
  clear Y0a Y0b Y0l; obtain ⟨Y0a, Y0b, Y0l⟩ := X_
  replace t0 := t0.keep g6_
  replace sm0 := sm0.keep g6_
  replace x0 := x0.keep g6_
  replace gm0 := gm0.keep g6_
  have HS7 : Hid (∀ w', Keep w6 w' → (w'.cell? ⟨w.heap.size, 0, none⟩ = some (.int .i64 g0) ∧ w'.cell? ⟨w.heap.size, 1, none⟩ = some (.slice a0 z0.length cap0) ∧ w'.cell? ⟨w4.heap.size, 0, none⟩ = some (.int .i64 g0) ∧ w'.cell? ⟨w4.heap.size, 1, none⟩ = some (.slice (some ⟨x0b, 0, none⟩) z0.length z0.length)) ∧ Keep w6 w') := Lib.hid (fun w' k => ⟨⟨((Box.mk B0a B0b B0l).keep k).c0, ((Box.mk B0a B0b B0l).keep k).c1, ((Box.mk Y0a Y0b Y0l).keep k).c0, ((Box.mk Y0a Y0b Y0l).keep k).c1⟩, k⟩)
  go_wp2_with fail
  go_region_held3 (fun w' => (w'.cell? ⟨w.heap.size, 0, none⟩ = some (.int .i64 g0) ∧ w'.cell? ⟨w.heap.size, 1, none⟩ = some (.slice a0 z0.length cap0) ∧ w'.cell? ⟨w4.heap.size, 0, none⟩ = some (.int .i64 g0) ∧ w'.cell? ⟨w4.heap.size, 1, none⟩ = some (.slice (some ⟨x0b, 0, none⟩) z0.length z0.length)) ∧ Keep w6 w')
    (first | exact HS7.out _ (Keep.next (Keep.next (by go_grown) k7) k8) | exact HS7.out _ (Keep.next (by go_grown) k7) | exact HS7.out _ (by go_grown))
    (first | (go_at_call 16; refine (toSystem_any g0 a0 cap0 z0 _ ((af0.keep K6 (Nat.le_refl _)).keep (B := _) (by go_grown) (Nat.le_refl _)) (by omega)).mono ?_; rintro e w7 ⟨y0b, rfl, y0o, k7⟩) | (go_at_call 18; refine (eqSystem_same g0 _ _ _ _ z0 _ (((x0.keep (by go_grown)).keep k7).ints.keep (B := _) (by go_grown) (Nat.le_refl _)) (y0o.ints.keep (B := _) (by go_grown) (Nat.le_refl _))).mono ?_; rintro e w8 ⟨rfl, k8⟩))
  have g7_ : Keep w6 w7 := Keep.next (by go_grown) k7
  have K7 := Keep.next K6 g7_
  have s7_ := g7_.size
  have X_ := (Box.mk B0a B0b B0l).keep g7_
  clear B0a B0b B0l; obtain ⟨B0a, B0b, B0l⟩ := X_
  have X_ := (Box.mk Y0a Y0b Y0l).keep g7_
  clear Y0a Y0b Y0l; obtain ⟨Y0a, Y0b, Y0l⟩ := X_
  replace t0 := t0.keep g7_
  replace sm0 := sm0.keep g7_
  replace x0 := x0.keep g7_
  replace gm0 := gm0.keep g7_
  have g8_ : Keep w7 w8 := Keep.next (by go_grown) k8
  have K8 := Keep.next K7 g8_
  have s8_ := g8_.size
  have X_ := (Box.mk B0a B0b B0l).keep g8_
  clear B0a B0b B0l; obtain ⟨B0a, B0b, B0l⟩ := X_
  have X_ := (Box.mk Y0a Y0b Y0l).keep g8_
  clear Y0a Y0b Y0l; obtain ⟨Y0a, Y0b, Y0l⟩ := X_
  replace t0 := t0.keep g8_
  replace sm0 := sm0.keep g8_
  replace x0 := x0.keep g8_
  replace gm0 := gm0.keep g8_
  go_wp2_with fail
  refine (markSystem_any _ g0 _ _ z0 (1) _ (x0.keep (by go_grown)).own (by omega) (by omega) (by omega)).mono ?_
  rintro e w9 ⟨rfl, o9, k9⟩
  have g9_ := grownBy_trans (keep_grown (w := w8) (by go_grown) _) k9
  replace x0 : Mine w9 _ _ _ _ _ := ⟨o9, x0.below⟩
  have K9 := below_past K8 x0 g9_ (K8).size (by omega)
  have s9_ := g9_.size
  have X_ := (Box.mk B0a B0b B0l).past x0 g9_ (by omega)
  clear B0a B0b B0l; obtain ⟨B0a, B0b, B0l⟩ := X_
  have X_ := (Box.mk Y0a Y0b Y0l).past x0 g9_ (by omega)
  clear Y0a Y0b Y0l; obtain ⟨Y0a, Y0b, Y0l⟩ := X_
  replace t0 := t0.past x0 g9_ (by omega)
  replace sm0 := sm0.past x0 g9_ (by omega)
  replace gm0 := gm0.past x0 g9_ (by omega)
  have hk_ : 0 ≤ 1 + (z0.length : Int) := by omega
  go_wp2_with fail
  refine (eqInt64S_same _ _ _ _ r0 _ (gm0.keep (by go_grown)).ints (sm0.keep (by go_grown)).ints).mono ?_
  rintro e w10 ⟨rfl, k10⟩
  have g10_ : Keep w9 w10 := Keep.next (by go_grown) k10
  have K10 := Keep.next K9 g10_
  have s10_ := g10_.size
  have X_ := (Box.mk B0a B0b B0l).keep g10_
  clear B0a B0b B0l; obtain ⟨B0a, B0b, B0l⟩ := X_
  have X_ := (Box.mk Y0a Y0b Y0l).keep g10_
  clear Y0a Y0b Y0l; obtain ⟨Y0a, Y0b, Y0l⟩ := X_
  replace t0 := t0.keep g10_
  replace sm0 := sm0.keep g10_
  replace x0 := x0.keep g10_
  replace gm0 := gm0.keep g10_
  have L0_ := gm0.own.2.1
  go_wp2_with fail
  refine (markInt64S_any _ _ _ r0 (1) _ (gm0.keep (by go_grown)).own (by omega) (by omega) (by omega)).mono ?_
  rintro e w11 ⟨rfl, o11, k11, _⟩
  have g11_ := grownBy_trans (keep_grown (w := w10) (by go_grown) _) k11
  replace gm0 : Mine w11 _ _ _ _ _ := ⟨o11, gm0.below⟩
  have K11 := below_past K10 gm0 g11_ (K10).size (by omega)
  have s11_ := g11_.size
  have X_ := (Box.mk B0a B0b B0l).past gm0 g11_ (by omega)
  clear B0a B0b B0l; obtain ⟨B0a, B0b, B0l⟩ := X_
  have X_ := (Box.mk Y0a Y0b Y0l).past gm0 g11_ (by omega)
  clear Y0a Y0b Y0l; obtain ⟨Y0a, Y0b, Y0l⟩ := X_
  replace t0 := t0.past gm0 g11_ (by omega)
  replace sm0 := sm0.past gm0 g11_ (by omega)
  replace x0 := x0.past gm0 g11_ (by omega)
  have hm_ : 0 ≤ 1 + (r0.length : Int) := by omega
  go_wp2_with fail
  refine (heldInt64S_any _ _ (1) r0.length _ (gm0.keep (by go_grown)).ints (by omega) (by omega) (by omega)).mono ?_
  rintro e w12 ⟨rfl, k12⟩
  have g12_ : Keep w11 w12 := Keep.next (by go_grown) k12
  have K12 := Keep.next K11 g12_
  have s12_ := g12_.size
  have X_ := (Box.mk B0a B0b B0l).keep g12_
  clear B0a B0b B0l; obtain ⟨B0a, B0b, B0l⟩ := X_
  have X_ := (Box.mk Y0a Y0b Y0l).keep g12_
  clear Y0a Y0b Y0l; obtain ⟨Y0a, Y0b, Y0l⟩ := X_
  replace t0 := t0.keep g12_
  replace sm0 := sm0.keep g12_
  replace x0 := x0.keep g12_
  replace gm0 := gm0.keep g12_
  go_wp2_with fail
  refine (toSystem_any g0 a0 cap0 z0 _ ((af0.keep K12 (Nat.le_refl _)).keep (B := _) (by go_grown) (Nat.le_refl _)) (by omega)).mono ?_
  rintro e w13 ⟨v0b, rfl, v0o, k13⟩
  have v0 : Mine w13 (w12.heap.size) w13.heap.size _ _ _ := Mine.new (by go_size) v0o
  clear v0o
  have g13_ : Keep w12 w13 := Keep.next (by go_grown) k13
  have K13 := Keep.next K12 g13_
  have s13_ := g13_.size
  have X_ := (Box.mk B0a B0b B0l).keep g13_
  clear B0a B0b B0l; obtain ⟨B0a, B0b, B0l⟩ := X_
  have X_ := (Box.mk Y0a Y0b Y0l).keep g13_
  clear Y0a Y0b Y0l; obtain ⟨Y0a, Y0b, Y0l⟩ := X_
  replace t0 := t0.keep g13_
  replace sm0 := sm0.keep g13_
  replace x0 := x0.keep g13_
  replace gm0 := gm0.keep g13_
  go_wp2_with fail
  refine (H2.out _ (some ⟨v0b, 0, none⟩) z0.length (v0.keep (by go_grown)).ints).mono ?_
  rintro e w14 ⟨hd0, hc0, rfl, ho0, k14⟩
  have hm0 : Mine w14 (w13.heap.size) w14.heap.size _ _ _ := Mine.new (by go_size) ho0
  clear ho0
  have g14_ : Keep w13 w14 := Keep.next (by go_grown) k14
  have K14 := Keep.next K13 g14_
  have s14_ := g14_.size
  have X_ := (Box.mk B0a B0b B0l).keep g14_
  clear B0a B0b B0l; obtain ⟨B0a, B0b, B0l⟩ := X_
  have X_ := (Box.mk Y0a Y0b Y0l).keep g14_
  clear Y0a Y0b Y0l; obtain ⟨Y0a, Y0b, Y0l⟩ := X_
  replace t0 := t0.keep g14_
  replace sm0 := sm0.keep g14_
  replace x0 := x0.keep g14_
  replace gm0 := gm0.keep g14_
  replace v0 := v0.keep g14_
  go_wp2_with fail
  refine (eqInt64S_same _ _ _ _ r0 _ (hm0.keep (by go_grown)).ints (sm0.keep (by go_grown)).ints).mono ?_
  rintro e w15 ⟨rfl, k15⟩
  have g15_ : Keep w14 w15 := Keep.next (by go_grown) k15
  have K15 := Keep.next K14 g15_
  have s15_ := g15_.size
  have X_ := (Box.mk B0a B0b B0l).keep g15_
  clear B0a B0b B0l; obtain ⟨B0a, B0b, B0l⟩ := X_
  have X_ := (Box.mk Y0a Y0b Y0l).keep g15_
  clear Y0a Y0b Y0l; obtain ⟨Y0a, Y0b, Y0l⟩ := X_
  replace t0 := t0.keep g15_
  replace sm0 := sm0.keep g15_
  replace x0 := x0.keep g15_
  replace gm0 := gm0.keep g15_
  replace v0 := v0.keep g15_
  replace hm0 := hm0.keep g15_
  go_wp2_with fail
  refine (heldInt64S_any _ _ (1) r0.length _ (gm0.keep (by go_grown)).ints (by omega) (by omega) (by omega)).mono ?_
  rintro e w16 ⟨rfl, k16⟩
  have g16_ : Keep w15 w16 := Keep.next (by go_grown) k16
  have K16 := Keep.next K15 g16_
  have s16_ := g16_.size
  have X_ := (Box.mk B0a B0b B0l).keep g16_
  clear B0a B0b B0l; obtain ⟨B0a, B0b, B0l⟩ := X_
  have X_ := (Box.mk Y0a Y0b Y0l).keep g16_
  clear Y0a Y0b Y0l; obtain ⟨Y0a, Y0b, Y0l⟩ := X_
  replace t0 := t0.keep g16_
  replace sm0 := sm0.keep g16_
  replace x0 := x0.keep g16_
  replace gm0 := gm0.keep g16_
  replace v0 := v0.keep g16_
  replace hm0 := hm0.keep g16_
  go_wp2
  go_ret
  exact ⟨rfl, Keep.next K16 (by go_grown)⟩


theorem own : ownKnob Try.prog.godebug = none := by kernel_rfl
theorem laidOut : laidOutB Try.prog = true := by kernel_rfl
set_option maxRecDepth 100000 in
theorem lifted (os : Os) (started : os.Started) (H : Type) (enc : TypeId × Value → H) :
    ReturnsInHanded {} Try.checked os 4 .any (Rows.fnExactImbalancesOfSpec.pre6 enc Try.prog Try.f4 Rows.fnExactImbalancesOfRow.domain false) (Rows.fnExactImbalancesOfSpec.post enc Try.prog Try.f4 false true false false) := by
  refine returnsInHanded_of_change (C := Try.checked) own started (by kernel_rfl) Try.func4
    (ChangeSpec.witness6 (enc := enc) (C := Try.checked) false ⟨#[], #[.agg #[.int .i64 0, .slice none 0 0], .int .i64 0], []⟩ 8 (by kernel_rfl) (by kernel_rfl) (by kernel_rfl) (by kernel_rfl)) ?_
  intro W base args ds gs before hval0 hW hcnd _
  have hval : ∀ (j : Nat) t v, Try.f4.params[j]? = some t → args[j]? = some v → Value.okWide Try.prog W .any base t v := hval0
  have hW' := hW
  obtain ⟨p, q, hA0, hV, rfl, hfz, hnd⟩ := hW
  have hA : DataW.TrodAll enc Try.prog W 0 (fun _ => true) true Try.f4.params.toList args.toList ds p := hA0
  rw [Try.params4] at hA hval
  obtain ⟨v0, vs0, d0, ds0, p0, q0, hargs, rfl, rfl, h0, r0⟩ := trodAll_cons hA
  obtain ⟨v1, vs1, d1, ds1, p1, q1, rfl, rfl, rfl, h1, r1⟩ := trodAll_cons r0
  obtain ⟨rfl, rfl, rfl⟩ := trodAll_nil r1
  obtain rfl : args = #[v0, v1] := by cases args; simp_all
  obtain ⟨rfl, rfl⟩ := trodVars_none hV
  have k0 := h0
  have lt0 : ∀ x ∈ p0, x.block < W.heap.size := by obtain ⟨m, hm⟩ := k0; exact DataW.trod_lt m _ _ _ hm
  obtain ⟨g0, a0, cap0, z0, rfl, u0, w0⟩ := values_open Try.underlying24 (by kernel_rfl) (by kernel_rfl) Try.underlying2 Try.underlying22 Try.underlying2 (by kernel_rfl) (hval 0 24 v0 rfl rfl) h0
  have k1 := h1
  have lt1 : ∀ x ∈ p1, x.block < W.heap.size := by obtain ⟨m, hm⟩ := k1; exact DataW.trod_lt m _ _ _ hm
  obtain ⟨a1, rfl, rfl, rfl, wf1⟩ := open_int Try.underlying2 (hval 1 2 v1 rfl rfl) h1
  clear hA0 hval0
  refine (walk W g0 u0 a0 cap0 z0 w0 a1 (in64 wf1)).mono fun e W' ⟨he, bel⟩ => ?_
  subst he
  exact ⟨_, rfl, _, _, _, [], _, [], hW', trodAll_mk1 (shut_bool Try.underlying4 _), (trodAll_cons_mk (Below.trod laidOut (by kernel_rfl) (of_decide_eq_true (by kernel_rfl)) k0 bel lt0) (trodAll_cons_mk (shut_int Try.underlying2 wf1) trodAll_mk0)), rfl, bel.frame _, fun h => by cases h⟩
theorem over : Rows.fnExactImbalancesOfRow.holds Try.pinned (OpenSpec.ofChange Rows.fnExactImbalancesOfSpec) :=
  OpenClaim.holds_of_wide 4 Try.f4 rfl rfl rfl rfl rfl rfl rfl ⟨rfl, rfl, rfl, rfl, rfl⟩ rfl rfl rfl rfl rfl (by kernel_rfl) Try.func4 (by kernel_rfl)
    (of_decide_eq_true (by kernel_rfl)) (by unfold Func.isWrapper; first | (rw [if_pos (by decide +kernel)]; kernel_rfl) | (rw [if_neg (by decide +kernel)]; exact ⟨rfl, rfl⟩))
    (fun os started H enc _ => lifted os started H enc)
/-- THE STATEMENT. -/
theorem proved : Rows.FnExactImbalancesOfSaid := over
end Go.Proofs.Ytaockgegghmphaa.fnExactImbalancesOf
