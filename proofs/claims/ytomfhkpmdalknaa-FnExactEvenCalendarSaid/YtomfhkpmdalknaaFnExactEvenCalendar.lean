/- EvenCalendar answers as its model, at all numbers, and owns its answer. -/
import Derived.Test.YtomfhkpmdalknaaEvS11
import Derived.Deep.RegionHeld3
namespace Go.Proofs.Ytomfhkpmdalknaa.fnExactEvenCalendar
open Go.ChangeShapes Go.WideShapes Go.ChangeAt Go.RowKit
open Go.ChangeMaps (open_string shut_string)
set_option linter.unusedVariables false

set_option maxHeartbeats 1600000 in
set_option maxRecDepth 100000 in
theorem walk (w : World) (a0 : Int) (u0 : In64 a0) (a1 : Int) (u1 : In64 a1) (a2 : Int) (u2 : In64 a2) (a3 : Int) (u3 : In64 a3) :
    Calls Try.prog 11 #[.int .i64 a0, .int .i64 a1, .int .i64 a2, .int .i64 a3] w fun e w' => e = .returned (.bool true) ∧ Below w.heap.size w w' := by
  have K0 : Keep w w := Below.refl _ _
  obtain ⟨rg0, rgh0, r0, r1, H1, H2⟩ : ∃ (rg0 rgh0 : Int) (r0 : List Int) (r1 : Bool), Hid (∀ (W : World), Calls Try.prog 39 #[.int .i64 a0, .int .i64 a1, .int .i64 a2, .int .i64 a3] W fun e w' => ∃ rd0 rc0, e = .returned (.tuple #[calV rg0 rgh0 rd0 r0.length rc0, .bool r1]) ∧ Own w' W.heap.size rd0 rc0 r0 ∧ Keep W w') ∧ Hid (∀ (W : World), Calls Try.prog 40 #[.int .i64 a0, .int .i64 a1, .int .i64 a2, .int .i64 a3] W fun e w' => ∃ rd0 rc0, e = .returned (.tuple #[calV rg0 rgh0 rd0 r0.length rc0, .bool r1]) ∧ Own w' W.heap.size rd0 rc0 r0 ∧ Keep W w') :=
    ⟨_, _, _, _, Lib.hid (fun W => specEvenCalendar_any a0 a1 a2 a3 W u0 u1 u2 u3), Lib.hid (fun W => EvenCalendar_any a0 a1 a2 a3 W u0 u1 u2 u3)⟩
  go_enter Try.func11, Try.ntmps11
  go_wp2_with fail
  refine (H1.out _  ).mono ?_
  rintro e w1 ⟨sd0, sc0, rfl, so0, k1⟩
  have sm0 : Mine w1 (w.heap.size) w1.heap.size _ _ _ := Mine.new (by go_size) so0
  clear so0
  have g1_ : Keep w w1 := Keep.next (by go_grown) k1
  have K1 := Keep.next K0 g1_
  have s1_ := g1_.size
  go_wp2_with fail
  refine (H2.out _  ).mono ?_
  rintro e w2 ⟨gd0, gc0, rfl, go0, k2⟩
  have gm0 : Mine w2 (w1.heap.size + 1) w2.heap.size _ _ _ := Mine.new (by go_size) go0
  clear go0
  have g2_ : Keep w1 w2 := Keep.next (by go_grown) k2
  have K2 := Keep.next K1 g2_
  have s2_ := g2_.size
  have X_ : BoxC w2 (w1.heap.size) (rg0) (rgh0) (sd0) (r0.length) (sc0) := BoxC.keep ⟨by simp, by simp, by simp, by first | (simp; done) | (simp; omega)⟩ k2
  obtain ⟨SB0a, SB0b, SB0c, SB0l⟩ := X_
  have SB0s := SB0l
  replace sm0 := sm0.keep g2_
  go_wp2_with fail
  refine (eqCalendar_same rg0 rgh0 _ _ _ _ r0 _ (gm0.keep (by go_grown)).ints (sm0.keep (by go_grown)).ints).mono ?_
  rintro e w3 ⟨rfl, k3⟩
  have g3_ : Keep w2 w3 := Keep.next (by go_grown) k3
  have K3 := Keep.next K2 g3_
  have s3_ := g3_.size
  have X_ := (BoxC.mk SB0a SB0b SB0c SB0l).keep g3_
  clear SB0a SB0b SB0c SB0l; obtain ⟨SB0a, SB0b, SB0c, SB0l⟩ := X_
  have X_ : BoxC w3 (w2.heap.size) (rg0) (rgh0) (gd0) (r0.length) (gc0) := BoxC.keep ⟨by simp, by simp, by simp, by first | (simp; done) | (simp; omega)⟩ k3
  obtain ⟨GB0a, GB0b, GB0c, GB0l⟩ := X_
  have GB0s := GB0l
  replace sm0 := sm0.keep g3_
  replace gm0 := gm0.keep g3_
  have L0_ := gm0.own.2.1
  go_wp2_with fail
  refine (markCalendar_any _ rg0 rgh0 _ _ r0 (1) _ (gm0.keep (by go_grown)).own (by omega) (by omega) (by omega)).mono ?_
  rintro e w4 ⟨rfl, o4, k4⟩
  have g4_ := grownBy_trans (keep_grown (w := w3) (by go_grown) _) k4
  replace gm0 : Mine w4 _ _ _ _ _ := ⟨o4, gm0.below⟩
  have K4 := below_past K3 gm0 g4_ (K3).size (by omega)
  have s4_ := g4_.size
  have X_ := (BoxC.mk SB0a SB0b SB0c SB0l).past gm0 g4_ (by omega)
  clear SB0a SB0b SB0c SB0l; obtain ⟨SB0a, SB0b, SB0c, SB0l⟩ := X_
  have X_ := (BoxC.mk GB0a GB0b GB0c GB0l).past gm0 g4_ (by omega)
  clear GB0a GB0b GB0c GB0l; obtain ⟨GB0a, GB0b, GB0c, GB0l⟩ := X_
  replace sm0 := sm0.past gm0 g4_ (by omega)
  have hm_ : 0 ≤ 1 + (r0.length : Int) := by omega
  go_wp2_with fail
  refine (heldCalendar_any rg0 rgh0 _ _ (1) r0.length _ (gm0.keep (by go_grown)).ints (by omega) (by omega) (by omega) (by omega)).mono ?_
  rintro e w5 ⟨rfl, k5⟩
  have g5_ : Keep w4 w5 := Keep.next (by go_grown) k5
  have K5 := Keep.next K4 g5_
  have s5_ := g5_.size
  have X_ := (BoxC.mk SB0a SB0b SB0c SB0l).keep g5_
  clear SB0a SB0b SB0c SB0l; obtain ⟨SB0a, SB0b, SB0c, SB0l⟩ := X_
  have X_ := (BoxC.mk GB0a GB0b GB0c GB0l).keep g5_
  clear GB0a GB0b GB0c GB0l; obtain ⟨GB0a, GB0b, GB0c, GB0l⟩ := X_
  replace sm0 := sm0.keep g5_
  replace gm0 := gm0.keep g5_
  go_wp2_with fail
  refine (H2.out _  ).mono ?_
  rintro e w6 ⟨hd0, hc0, rfl, ho0, k6⟩
  have hm0 : Mine w6 (w5.heap.size) w6.heap.size _ _ _ := Mine.new (by go_size) ho0
  clear ho0
  have g6_ : Keep w5 w6 := Keep.next (by go_grown) k6
  have K6 := Keep.next K5 g6_
  have s6_ := g6_.size
  have X_ := (BoxC.mk SB0a SB0b SB0c SB0l).keep g6_
  clear SB0a SB0b SB0c SB0l; obtain ⟨SB0a, SB0b, SB0c, SB0l⟩ := X_
  have X_ := (BoxC.mk GB0a GB0b GB0c GB0l).keep g6_
  clear GB0a GB0b GB0c GB0l; obtain ⟨GB0a, GB0b, GB0c, GB0l⟩ := X_
  replace sm0 := sm0.keep g6_
  replace gm0 := gm0.keep g6_
  go_wp2_with fail
  refine (eqCalendar_same rg0 rgh0 _ _ _ _ r0 _ (hm0.keep (by go_grown)).ints (sm0.keep (by go_grown)).ints).mono ?_
  rintro e w7 ⟨rfl, k7⟩
  have g7_ : Keep w6 w7 := Keep.next (by go_grown) k7
  have K7 := Keep.next K6 g7_
  have s7_ := g7_.size
  have X_ := (BoxC.mk SB0a SB0b SB0c SB0l).keep g7_
  clear SB0a SB0b SB0c SB0l; obtain ⟨SB0a, SB0b, SB0c, SB0l⟩ := X_
  have X_ := (BoxC.mk GB0a GB0b GB0c GB0l).keep g7_
  clear GB0a GB0b GB0c GB0l; obtain ⟨GB0a, GB0b, GB0c, GB0l⟩ := X_
  have X_ : BoxC w7 (w6.heap.size) (rg0) (rgh0) (hd0) (r0.length) (hc0) := BoxC.keep ⟨by simp, by simp, by simp, by first | (simp; done) | (simp; omega)⟩ k7
  obtain ⟨HB0a, HB0b, HB0c, HB0l⟩ := X_
  have HB0s := HB0l
  replace sm0 := sm0.keep g7_
  replace gm0 := gm0.keep g7_
  replace hm0 := hm0.keep g7_
  go_wp2_with fail
  refine (heldCalendar_any rg0 rgh0 _ _ (1) r0.length _ (gm0.keep (by go_grown)).ints (by omega) (by omega) (by omega) (by omega)).mono ?_
  rintro e w8 ⟨rfl, k8⟩
  have g8_ : Keep w7 w8 := Keep.next (by go_grown) k8
  have K8 := Keep.next K7 g8_
  have s8_ := g8_.size
  have X_ := (BoxC.mk SB0a SB0b SB0c SB0l).keep g8_
  clear SB0a SB0b SB0c SB0l; obtain ⟨SB0a, SB0b, SB0c, SB0l⟩ := X_
  have X_ := (BoxC.mk GB0a GB0b GB0c GB0l).keep g8_
  clear GB0a GB0b GB0c GB0l; obtain ⟨GB0a, GB0b, GB0c, GB0l⟩ := X_
  have X_ := (BoxC.mk HB0a HB0b HB0c HB0l).keep g8_
  clear HB0a HB0b HB0c HB0l; obtain ⟨HB0a, HB0b, HB0c, HB0l⟩ := X_
  replace sm0 := sm0.keep g8_
  replace gm0 := gm0.keep g8_
  replace hm0 := hm0.keep g8_
  go_wp2
  go_ret
  exact ⟨rfl, Keep.next K8 (by go_grown)⟩


theorem own : ownKnob Try.prog.godebug = none := by kernel_rfl
theorem laidOut : laidOutB Try.prog = true := by kernel_rfl
set_option maxRecDepth 100000 in
theorem lifted (os : Os) (started : os.Started) (H : Type) (enc : TypeId × Value → H) :
    ReturnsInHanded {} Try.checked os 11 .any (Rows.fnExactEvenCalendarSpec.pre6 enc Try.prog Try.f11 Rows.fnExactEvenCalendarRow.domain false) (Rows.fnExactEvenCalendarSpec.post enc Try.prog Try.f11 false true false false) := by
  refine returnsInHanded_of_change (C := Try.checked) own started (by kernel_rfl) Try.func11
    (ChangeSpec.witness6 (enc := enc) (C := Try.checked) false ⟨#[], #[.int .i64 0, .int .i64 0, .int .i64 0, .int .i64 0], []⟩ 8 (by kernel_rfl) (by kernel_rfl) (by kernel_rfl) (by kernel_rfl)) ?_
  intro W base args ds gs before hval0 hW hcnd _
  have hval : ∀ (j : Nat) t v, Try.f11.params[j]? = some t → args[j]? = some v → Value.okWide Try.prog W .any base t v := hval0
  have hW' := hW
  obtain ⟨p, q, hA0, hV, rfl, hfz, hnd⟩ := hW
  have hA : DataW.TrodAll enc Try.prog W 0 (fun _ => true) true Try.f11.params.toList args.toList ds p := hA0
  rw [Try.params11] at hA hval
  obtain ⟨v0, vs0, d0, ds0, p0, q0, hargs, rfl, rfl, h0, r0⟩ := trodAll_cons hA
  obtain ⟨v1, vs1, d1, ds1, p1, q1, rfl, rfl, rfl, h1, r1⟩ := trodAll_cons r0
  obtain ⟨v2, vs2, d2, ds2, p2, q2, rfl, rfl, rfl, h2, r2⟩ := trodAll_cons r1
  obtain ⟨v3, vs3, d3, ds3, p3, q3, rfl, rfl, rfl, h3, r3⟩ := trodAll_cons r2
  obtain ⟨rfl, rfl, rfl⟩ := trodAll_nil r3
  obtain rfl : args = #[v0, v1, v2, v3] := by cases args; simp_all
  obtain ⟨rfl, rfl⟩ := trodVars_none hV
  have k0 := h0
  have lt0 : ∀ x ∈ p0, x.block < W.heap.size := by obtain ⟨m, hm⟩ := k0; exact DataW.trod_lt m _ _ _ hm
  obtain ⟨a0, rfl, rfl, rfl, wf0⟩ := open_int Try.underlying2 (hval 0 2 v0 rfl rfl) h0
  have k1 := h1
  have lt1 : ∀ x ∈ p1, x.block < W.heap.size := by obtain ⟨m, hm⟩ := k1; exact DataW.trod_lt m _ _ _ hm
  obtain ⟨a1, rfl, rfl, rfl, wf1⟩ := open_int Try.underlying2 (hval 1 2 v1 rfl rfl) h1
  have k2 := h2
  have lt2 : ∀ x ∈ p2, x.block < W.heap.size := by obtain ⟨m, hm⟩ := k2; exact DataW.trod_lt m _ _ _ hm
  obtain ⟨a2, rfl, rfl, rfl, wf2⟩ := open_int Try.underlying2 (hval 2 2 v2 rfl rfl) h2
  have k3 := h3
  have lt3 : ∀ x ∈ p3, x.block < W.heap.size := by obtain ⟨m, hm⟩ := k3; exact DataW.trod_lt m _ _ _ hm
  obtain ⟨a3, rfl, rfl, rfl, wf3⟩ := open_int Try.underlying2 (hval 3 2 v3 rfl rfl) h3
  clear hA0 hval0
  refine (walk W a0 (in64 wf0) a1 (in64 wf1) a2 (in64 wf2) a3 (in64 wf3)).mono fun e W' ⟨he, bel⟩ => ?_
  subst he
  exact ⟨_, rfl, _, _, _, [], _, [], hW', trodAll_mk1 (shut_bool Try.underlying4 _), (trodAll_cons_mk (shut_int Try.underlying2 wf0) (trodAll_cons_mk (shut_int Try.underlying2 wf1) (trodAll_cons_mk (shut_int Try.underlying2 wf2) (trodAll_cons_mk (shut_int Try.underlying2 wf3) trodAll_mk0)))), rfl, bel.frame _, fun h => by cases h⟩
theorem over : Rows.fnExactEvenCalendarRow.holds Try.pinned (OpenSpec.ofChange Rows.fnExactEvenCalendarSpec) :=
  OpenClaim.holds_of_wide 11 Try.f11 rfl rfl rfl rfl rfl rfl rfl ⟨rfl, rfl, rfl, rfl, rfl⟩ rfl rfl rfl rfl rfl (by kernel_rfl) Try.func11 (by kernel_rfl)
    (of_decide_eq_true (by kernel_rfl)) (by unfold Func.isWrapper; first | (rw [if_pos (by decide +kernel)]; kernel_rfl) | (rw [if_neg (by decide +kernel)]; exact ⟨rfl, rfl⟩))
    (fun os started H enc _ => lifted os started H enc)
/-- THE STATEMENT. -/
theorem proved : Rows.FnExactEvenCalendarSaid := over
end Go.Proofs.Ytomfhkpmdalknaa.fnExactEvenCalendar
