/- IntervalSystem answers as its model, at every number and list of intervals, leaves its argument as it was, and owns its answer. -/
import Derived.Test.YtomfhkpmdalknaaIvlS10
import Derived.Test.YtomfhkpmdalknaaMarks
import Derived.Deep.RegionHeld3
namespace Go.Proofs.Ytomfhkpmdalknaa.fnExactIntervalSystem
open Go.ChangeShapes Go.WideShapes Go.ChangeAt Go.RowKit
open Go.ChangeMaps (open_string shut_string)
set_option linter.unusedVariables false

set_option maxHeartbeats 1600000 in
set_option maxRecDepth 100000 in
theorem walk (w : World) (a0 : Int) (u0 : In64 a0) (a1 : Option Addr) (cap1 : Nat) (z1 : List (List Int)) (af1 : Intss w a1 z1) :
    Calls Try.prog 13 #[.int .i64 a0, .slice a1 z1.length cap1] w fun e w' => e = .returned (.bool true) ∧ Below w.heap.size w w' := by
  have K0 : Keep w w := Below.refl _ _
  have len1_ := af1.small
  by_cases big1_ : (1048576 : Int) < ((z1.length : Int) + (tot z1 : Int))
  · -- too long: nothing is asked
    go_enter Try.func13, Try.ntmps13
    go_wp2_with fail
    refine (szInt64SS_ex a1 cap1 z1 (1048576) _ ((af1.keep K0 (Nat.le_refl _)).keep (B := _) (by go_grown) (Nat.le_refl _)) (by omega) (by omega)).mono ?_
    rw [if_pos (by omega)]
    rintro e w1 ⟨rfl, k1⟩
    have g1_ : Keep w w1 := Keep.next (by go_grown) k1
    have K1 := Keep.next K0 g1_
    have s1_ := g1_.size
    go_wp2
    go_ret
    exact ⟨rfl, Keep.next K1 (by go_grown)⟩
  have fit1_ : 0 ≤ (1048576 : Int) - ((z1.length : Int) + (tot z1 : Int)) := by omega
  clear big1_
  obtain ⟨rg0, r0, r1, H1, H2⟩ : ∃ (rg0 : Int) (r0 : List Int) (r1 : Bool), Hid (∀ (W : World) (p1 : Option Addr) (c1 : Nat), Intss W p1 z1 → Calls Try.prog 47 #[.int .i64 a0, .slice p1 z1.length c1] W fun e w' => ∃ rd0 rc0, e = .returned (.tuple #[valV rg0 rd0 r0.length rc0, .bool r1]) ∧ Own w' W.heap.size rd0 rc0 r0 ∧ Keep W w') ∧ Hid (∀ (W : World) (p1 : Option Addr) (c1 : Nat), Intss W p1 z1 → Calls Try.prog 49 #[.int .i64 a0, .slice p1 z1.length c1] W fun e w' => ∃ rd0 rc0, e = .returned (.tuple #[valV rg0 rd0 r0.length rc0, .bool r1]) ∧ Own w' W.heap.size rd0 rc0 r0 ∧ Keep W w') :=
    ⟨_, _, _, Lib.hid (fun W p1 c1 h1 => specIntervalSystem_any a0 p1 c1 z1 W u0 h1), Lib.hid (fun W p1 c1 h1 => IntervalSystem_any a0 p1 c1 z1 W u0 h1)⟩
  go_enter Try.func13, Try.ntmps13
  go_wp2_with fail
  refine (szInt64SS_ex a1 cap1 z1 (1048576) _ ((af1.keep K0 (Nat.le_refl _)).keep (B := _) (by go_grown) (Nat.le_refl _)) (by omega) (by omega)).mono ?_
  rw [if_neg (by omega)]
  rintro e w1 ⟨rfl, k1⟩
  have g1_ : Keep w w1 := Keep.next (by go_grown) k1
  have K1 := Keep.next K0 g1_
  have s1_ := g1_.size
  go_wp2_with fail
  refine (toInt64SS_ex a1 cap1 z1 _ ((af1.keep K1 (Nat.le_refl _)).keep (B := _) (by go_grown) (Nat.le_refl _)) (by omega) (by omega)).mono ?_
  rintro e w2 ⟨t1b, t1g, rfl, t1o, k2⟩
  have t1 : MineSS w2 (w1.heap.size) w2.heap.size _ _ _ := MineSS.new (by go_size) t1o
  clear t1o
  have g2_ : Keep w1 w2 := Keep.next (by go_grown) k2
  have K2 := Keep.next K1 g2_
  have s2_ := g2_.size
  go_wp2_with fail
  refine (H1.out _ (some ⟨t1b, 0, none⟩) z1.length (t1.keep (by go_grown)).ints).mono ?_
  rintro e w3 ⟨sd0, sc0, rfl, so0, k3⟩
  have sm0 : Mine w3 (w2.heap.size) w3.heap.size _ _ _ := Mine.new (by go_size) so0
  clear so0
  have g3_ : Keep w2 w3 := Keep.next (by go_grown) k3
  have K3 := Keep.next K2 g3_
  have s3_ := g3_.size
  replace t1 := t1.keep g3_
  go_wp2_with fail
  refine (toInt64SS_ex a1 cap1 z1 _ ((af1.keep K3 (Nat.le_refl _)).keep (B := _) (by go_grown) (Nat.le_refl _)) (by omega) (by omega)).mono ?_
  rintro e w4 ⟨x1b, x1g, rfl, x1o, k4⟩
  have x1 : MineSS w4 (w3.heap.size + 1) w4.heap.size _ _ _ := MineSS.new (by go_size) x1o
  clear x1o
  have g4_ : Keep w3 w4 := Keep.next (by go_grown) k4
  have K4 := Keep.next K3 g4_
  have s4_ := g4_.size
  have X_ : Box w4 (w3.heap.size) rg0 (sd0) (r0.length) (sc0) := Box.keep ⟨by simp, by simp, by first | (simp; done) | (simp; omega)⟩ k4
  obtain ⟨SB0a, SB0b, SB0l⟩ := X_
  have SB0s := SB0l
  replace t1 := t1.keep g4_
  replace sm0 := sm0.keep g4_
  go_wp2_with fail
  refine (H2.out _ (some ⟨x1b, 0, none⟩) z1.length (x1.keep (by go_grown)).ints).mono ?_
  rintro e w5 ⟨gd0, gc0, rfl, go0, k5⟩
  have gm0 : Mine w5 (w4.heap.size) w5.heap.size _ _ _ := Mine.new (by go_size) go0
  clear go0
  have g5_ : Keep w4 w5 := Keep.next (by go_grown) k5
  have K5 := Keep.next K4 g5_
  have s5_ := g5_.size
  have X_ := (Box.mk SB0a SB0b SB0l).keep g5_
  clear SB0a SB0b SB0l; obtain ⟨SB0a, SB0b, SB0l⟩ := X_
  replace t1 := t1.keep g5_
  replace sm0 := sm0.keep g5_
  replace x1 := x1.keep g5_
  go_wp2_with fail
  refine (eqSystem_same rg0 _ _ _ _ r0 _ (gm0.keep (by go_grown)).ints (sm0.keep (by go_grown)).ints).mono ?_
  rintro e w6 ⟨rfl, k6⟩
  have g6_ : Keep w5 w6 := Keep.next (by go_grown) k6
  have K6 := Keep.next K5 g6_
  have s6_ := g6_.size
  have X_ := (Box.mk SB0a SB0b SB0l).keep g6_
  clear SB0a SB0b SB0l; obtain ⟨SB0a, SB0b, SB0l⟩ := X_
  have X_ : Box w6 (w5.heap.size) rg0 (gd0) (r0.length) (gc0) := Box.keep ⟨by simp, by simp, by first | (simp; done) | (simp; omega)⟩ k6
  obtain ⟨GB0a, GB0b, GB0l⟩ := X_
  have GB0s := GB0l
  replace t1 := t1.keep g6_
  replace sm0 := sm0.keep g6_
  replace x1 := x1.keep g6_
  replace gm0 := gm0.keep g6_
  go_wp2_with fail
  refine (toInt64SS_ex a1 cap1 z1 _ ((af1.keep K6 (Nat.le_refl _)).keep (B := _) (by go_grown) (Nat.le_refl _)) (by omega) (by omega)).mono ?_
  rintro e w7 ⟨y1b, y1g, rfl, y1o, k7⟩
  have y1 : MineSS w7 (w6.heap.size) w7.heap.size _ _ _ := MineSS.new (by go_size) y1o
  clear y1o
  have g7_ : Keep w6 w7 := Keep.next (by go_grown) k7
  have K7 := Keep.next K6 g7_
  have s7_ := g7_.size
  have X_ := (Box.mk SB0a SB0b SB0l).keep g7_
  clear SB0a SB0b SB0l; obtain ⟨SB0a, SB0b, SB0l⟩ := X_
  have X_ := (Box.mk GB0a GB0b GB0l).keep g7_
  clear GB0a GB0b GB0l; obtain ⟨GB0a, GB0b, GB0l⟩ := X_
  replace t1 := t1.keep g7_
  replace sm0 := sm0.keep g7_
  replace x1 := x1.keep g7_
  replace gm0 := gm0.keep g7_
  go_wp2_with fail
  refine (eqInt64SS_same _ _ _ _ z1 _ (x1.keep (by go_grown)).ints (y1.keep (by go_grown)).ints).mono ?_
  rintro e w8 ⟨rfl, k8⟩
  have g8_ : Keep w7 w8 := Keep.next (by go_grown) k8
  have K8 := Keep.next K7 g8_
  have s8_ := g8_.size
  have X_ := (Box.mk SB0a SB0b SB0l).keep g8_
  clear SB0a SB0b SB0l; obtain ⟨SB0a, SB0b, SB0l⟩ := X_
  have X_ := (Box.mk GB0a GB0b GB0l).keep g8_
  clear GB0a GB0b GB0l; obtain ⟨GB0a, GB0b, GB0l⟩ := X_
  replace t1 := t1.keep g8_
  replace sm0 := sm0.keep g8_
  replace x1 := x1.keep g8_
  replace gm0 := gm0.keep g8_
  replace y1 := y1.keep g8_
  go_wp2_with fail
  refine (markInt64SS_ex _ _ _ _ z1 (1) _ (x1.keep (by go_grown)) (by omega) (by omega) (by omega)).mono ?_
  rintro e w9 ⟨rfl, o9, k9⟩
  have g9_ := (Span.of_keep (w := w8) (by go_grown)).trans k9
  replace x1 := x1.marked o9
  have K9 := below_span K8 g9_ (K8).size (by omega)
  have s9_ := g9_.size
  have X_ := (Box.mk SB0a SB0b SB0l).span g9_ (by omega)
  clear SB0a SB0b SB0l; obtain ⟨SB0a, SB0b, SB0l⟩ := X_
  have X_ := (Box.mk GB0a GB0b GB0l).span g9_ (by omega)
  clear GB0a GB0b GB0l; obtain ⟨GB0a, GB0b, GB0l⟩ := X_
  replace t1 := t1.span g9_ (by omega)
  replace sm0 := sm0.span g9_ (by omega)
  replace gm0 := gm0.span g9_ (by omega)
  replace y1 := y1.span g9_ (by omega)
  have hk_ : 0 ≤ 1 + (tot z1 : Int) := by omega
  go_wp2_with fail
  refine (eqSystem_same rg0 _ _ _ _ r0 _ (gm0.keep (by go_grown)).ints (sm0.keep (by go_grown)).ints).mono ?_
  rintro e w10 ⟨rfl, k10⟩
  have g10_ : Keep w9 w10 := Keep.next (by go_grown) k10
  have K10 := Keep.next K9 g10_
  have s10_ := g10_.size
  have X_ := (Box.mk SB0a SB0b SB0l).keep g10_
  clear SB0a SB0b SB0l; obtain ⟨SB0a, SB0b, SB0l⟩ := X_
  have X_ := (Box.mk GB0a GB0b GB0l).keep g10_
  clear GB0a GB0b GB0l; obtain ⟨GB0a, GB0b, GB0l⟩ := X_
  replace t1 := t1.keep g10_
  replace sm0 := sm0.keep g10_
  replace x1 := x1.keep g10_
  replace gm0 := gm0.keep g10_
  replace y1 := y1.keep g10_
  have L0_ := gm0.own.2.1
  go_wp2_with fail
  refine (markSystem_any _ rg0 _ _ r0 (1) _ (gm0.keep (by go_grown)).own (by omega) (by omega) (by omega)).mono ?_
  rintro e w11 ⟨rfl, o11, k11⟩
  have g11_ := grownBy_trans (keep_grown (w := w10) (by go_grown) _) k11
  replace gm0 : Mine w11 _ _ _ _ _ := ⟨o11, gm0.below⟩
  have K11 := below_past K10 gm0 g11_ (K10).size (by omega)
  have s11_ := g11_.size
  have X_ := (Box.mk SB0a SB0b SB0l).past gm0 g11_ (by omega)
  clear SB0a SB0b SB0l; obtain ⟨SB0a, SB0b, SB0l⟩ := X_
  have X_ := (Box.mk GB0a GB0b GB0l).past gm0 g11_ (by omega)
  clear GB0a GB0b GB0l; obtain ⟨GB0a, GB0b, GB0l⟩ := X_
  replace t1 := t1.past gm0 g11_ (by omega)
  replace sm0 := sm0.past gm0 g11_ (by omega)
  replace x1 := x1.past gm0 g11_ (by omega)
  replace y1 := y1.past gm0 g11_ (by omega)
  have hm_ : 0 ≤ 1 + (r0.length : Int) := by omega
  go_wp2_with fail
  refine (heldSystem_any rg0 _ _ (1) r0.length _ (gm0.keep (by go_grown)).ints (by omega) (by omega) (by omega) (by omega)).mono ?_
  rintro e w12 ⟨rfl, k12⟩
  have g12_ : Keep w11 w12 := Keep.next (by go_grown) k12
  have K12 := Keep.next K11 g12_
  have s12_ := g12_.size
  have X_ := (Box.mk SB0a SB0b SB0l).keep g12_
  clear SB0a SB0b SB0l; obtain ⟨SB0a, SB0b, SB0l⟩ := X_
  have X_ := (Box.mk GB0a GB0b GB0l).keep g12_
  clear GB0a GB0b GB0l; obtain ⟨GB0a, GB0b, GB0l⟩ := X_
  replace t1 := t1.keep g12_
  replace sm0 := sm0.keep g12_
  replace x1 := x1.keep g12_
  replace gm0 := gm0.keep g12_
  replace y1 := y1.keep g12_
  go_wp2_with fail
  refine (toInt64SS_ex a1 cap1 z1 _ ((af1.keep K12 (Nat.le_refl _)).keep (B := _) (by go_grown) (Nat.le_refl _)) (by omega) (by omega)).mono ?_
  rintro e w13 ⟨v1b, v1g, rfl, v1o, k13⟩
  have v1 : MineSS w13 (w12.heap.size) w13.heap.size _ _ _ := MineSS.new (by go_size) v1o
  clear v1o
  have g13_ : Keep w12 w13 := Keep.next (by go_grown) k13
  have K13 := Keep.next K12 g13_
  have s13_ := g13_.size
  have X_ := (Box.mk SB0a SB0b SB0l).keep g13_
  clear SB0a SB0b SB0l; obtain ⟨SB0a, SB0b, SB0l⟩ := X_
  have X_ := (Box.mk GB0a GB0b GB0l).keep g13_
  clear GB0a GB0b GB0l; obtain ⟨GB0a, GB0b, GB0l⟩ := X_
  replace t1 := t1.keep g13_
  replace sm0 := sm0.keep g13_
  replace x1 := x1.keep g13_
  replace gm0 := gm0.keep g13_
  replace y1 := y1.keep g13_
  go_wp2_with fail
  refine (H2.out _ (some ⟨v1b, 0, none⟩) z1.length (v1.keep (by go_grown)).ints).mono ?_
  rintro e w14 ⟨hd0, hc0, rfl, ho0, k14⟩
  have hm0 : Mine w14 (w13.heap.size) w14.heap.size _ _ _ := Mine.new (by go_size) ho0
  clear ho0
  have g14_ : Keep w13 w14 := Keep.next (by go_grown) k14
  have K14 := Keep.next K13 g14_
  have s14_ := g14_.size
  have X_ := (Box.mk SB0a SB0b SB0l).keep g14_
  clear SB0a SB0b SB0l; obtain ⟨SB0a, SB0b, SB0l⟩ := X_
  have X_ := (Box.mk GB0a GB0b GB0l).keep g14_
  clear GB0a GB0b GB0l; obtain ⟨GB0a, GB0b, GB0l⟩ := X_
  replace t1 := t1.keep g14_
  replace sm0 := sm0.keep g14_
  replace x1 := x1.keep g14_
  replace gm0 := gm0.keep g14_
  replace y1 := y1.keep g14_
  replace v1 := v1.keep g14_
  go_wp2_with fail
  refine (eqSystem_same rg0 _ _ _ _ r0 _ (hm0.keep (by go_grown)).ints (sm0.keep (by go_grown)).ints).mono ?_
  rintro e w15 ⟨rfl, k15⟩
  have g15_ : Keep w14 w15 := Keep.next (by go_grown) k15
  have K15 := Keep.next K14 g15_
  have s15_ := g15_.size
  have X_ := (Box.mk SB0a SB0b SB0l).keep g15_
  clear SB0a SB0b SB0l; obtain ⟨SB0a, SB0b, SB0l⟩ := X_
  have X_ := (Box.mk GB0a GB0b GB0l).keep g15_
  clear GB0a GB0b GB0l; obtain ⟨GB0a, GB0b, GB0l⟩ := X_
  have X_ : Box w15 (w14.heap.size) rg0 (hd0) (r0.length) (hc0) := Box.keep ⟨by simp, by simp, by first | (simp; done) | (simp; omega)⟩ k15
  obtain ⟨HB0a, HB0b, HB0l⟩ := X_
  have HB0s := HB0l
  replace t1 := t1.keep g15_
  replace sm0 := sm0.keep g15_
  replace x1 := x1.keep g15_
  replace gm0 := gm0.keep g15_
  replace y1 := y1.keep g15_
  replace v1 := v1.keep g15_
  replace hm0 := hm0.keep g15_
  go_wp2_with fail
  refine (heldSystem_any rg0 _ _ (1) r0.length _ (gm0.keep (by go_grown)).ints (by omega) (by omega) (by omega) (by omega)).mono ?_
  rintro e w16 ⟨rfl, k16⟩
  have g16_ : Keep w15 w16 := Keep.next (by go_grown) k16
  have K16 := Keep.next K15 g16_
  have s16_ := g16_.size
  have X_ := (Box.mk SB0a SB0b SB0l).keep g16_
  clear SB0a SB0b SB0l; obtain ⟨SB0a, SB0b, SB0l⟩ := X_
  have X_ := (Box.mk GB0a GB0b GB0l).keep g16_
  clear GB0a GB0b GB0l; obtain ⟨GB0a, GB0b, GB0l⟩ := X_
  have X_ := (Box.mk HB0a HB0b HB0l).keep g16_
  clear HB0a HB0b HB0l; obtain ⟨HB0a, HB0b, HB0l⟩ := X_
  replace t1 := t1.keep g16_
  replace sm0 := sm0.keep g16_
  replace x1 := x1.keep g16_
  replace gm0 := gm0.keep g16_
  replace y1 := y1.keep g16_
  replace v1 := v1.keep g16_
  replace hm0 := hm0.keep g16_
  go_wp2
  go_ret
  exact ⟨rfl, Keep.next K16 (by go_grown)⟩


theorem own : ownKnob Try.prog.godebug = none := by kernel_rfl
theorem laidOut : laidOutB Try.prog = true := by kernel_rfl
set_option maxRecDepth 100000 in
theorem lifted (os : Os) (started : os.Started) (H : Type) (enc : TypeId × Value → H) :
    ReturnsInHanded {} Try.checked os 13 .any (Rows.fnExactIntervalSystemSpec.pre6 enc Try.prog Try.f13 Rows.fnExactIntervalSystemRow.domain false) (Rows.fnExactIntervalSystemSpec.post enc Try.prog Try.f13 false true false false) := by
  refine returnsInHanded_of_change (C := Try.checked) own started (by kernel_rfl) Try.func13
    (ChangeSpec.witness6 (enc := enc) (C := Try.checked) false ⟨#[], #[.int .i64 0, .slice none 0 0], []⟩ 8 (by kernel_rfl) (by kernel_rfl) (by kernel_rfl) (by kernel_rfl)) ?_
  intro W base args ds gs before hval0 hW hcnd _
  have hval : ∀ (j : Nat) t v, Try.f13.params[j]? = some t → args[j]? = some v → Value.okWide Try.prog W .any base t v := hval0
  have hW' := hW
  obtain ⟨p, q, hA0, hV, rfl, hfz, hnd⟩ := hW
  have hA : DataW.TrodAll enc Try.prog W 0 (fun _ => true) true Try.f13.params.toList args.toList ds p := hA0
  rw [Try.params13] at hA hval
  obtain ⟨v0, vs0, d0, ds0, p0, q0, hargs, rfl, rfl, h0, r0⟩ := trodAll_cons hA
  obtain ⟨v1, vs1, d1, ds1, p1, q1, rfl, rfl, rfl, h1, r1⟩ := trodAll_cons r0
  obtain ⟨rfl, rfl, rfl⟩ := trodAll_nil r1
  obtain rfl : args = #[v0, v1] := by cases args; simp_all
  obtain ⟨rfl, rfl⟩ := trodVars_none hV
  have k0 := h0
  have lt0 : ∀ x ∈ p0, x.block < W.heap.size := by obtain ⟨m, hm⟩ := k0; exact DataW.trod_lt m _ _ _ hm
  obtain ⟨a0, rfl, rfl, rfl, wf0⟩ := open_int Try.underlying2 (hval 0 2 v0 rfl rfl) h0
  have k1 := h1
  have lt1 : ∀ x ∈ p1, x.block < W.heap.size := by obtain ⟨m, hm⟩ := k1; exact DataW.trod_lt m _ _ _ hm
  obtain ⟨a1, len1, cap1, rfl⟩ := okWide_slice Try.underlying63 (hval 1 63 v1 rfl rfl)
  obtain ⟨z1, e1, w1⟩ := intss_open Try.underlying63 Try.underlying22 Try.underlying2 (by kernel_rfl) (by kernel_rfl) h1
  subst e1
  clear hA0 hval0
  refine (walk W a0 (in64 wf0) a1 cap1 z1 w1).mono fun e W' ⟨he, bel⟩ => ?_
  subst he
  exact ⟨_, rfl, _, _, _, [], _, [], hW', trodAll_mk1 (shut_bool Try.underlying4 _), (trodAll_cons_mk (shut_int Try.underlying2 wf0) (trodAll_cons_mk (Below.trod laidOut (by kernel_rfl) (of_decide_eq_true (by kernel_rfl)) k1 bel lt1) trodAll_mk0)), rfl, bel.frame _, fun h => by cases h⟩
theorem over : Rows.fnExactIntervalSystemRow.holds Try.pinned (OpenSpec.ofChange Rows.fnExactIntervalSystemSpec) :=
  OpenClaim.holds_of_wide 13 Try.f13 rfl rfl rfl rfl rfl rfl rfl ⟨rfl, rfl, rfl, rfl, rfl⟩ rfl rfl rfl rfl rfl (by kernel_rfl) Try.func13 (by kernel_rfl)
    (of_decide_eq_true (by kernel_rfl)) (by unfold Func.isWrapper; first | (rw [if_pos (by decide +kernel)]; kernel_rfl) | (rw [if_neg (by decide +kernel)]; exact ⟨rfl, rfl⟩))
    (fun os started H enc _ => lifted os started H enc)
/-- THE STATEMENT. -/
theorem proved : Rows.FnExactIntervalSystemSaid := over
end Go.Proofs.Ytomfhkpmdalknaa.fnExactIntervalSystem
