/- ErrorOf answers as its model, at every argument, and writes into none of them. -/
import Derived.Test.YtmckbjhmkcbjgaaErr4
import Derived.Deep.RegionHeld3
namespace Go.Proofs.Ytmckbjhmkcbjgaa.fnExactErrorOf
open Go.ChangeShapes Go.WideShapes Go.ChangeAt Go.RowKit
open Go.ChangeMaps (open_string shut_string)
set_option linter.unusedVariables false

set_option maxHeartbeats 1600000 in
set_option maxRecDepth 100000 in
theorem walk (w : World) (g0 : Int) (u0 : In64 g0) (a0 : Option Addr) (cap0 : Nat) (z0 : List Int) (af0 : Ints w a0 z0) (a1 : Option Addr) (cap1 : Nat) (z1 : List Int) (af1 : Ints w a1 z1) (a2 : Int) (u2 : In64 a2) :
    Calls Try.prog 14 #[.agg #[.int .i64 g0, .slice a0 z0.length cap0], .slice a1 z1.length cap1, .int .i64 a2] w fun e w' => e = .returned (.bool true) ∧ Below w.heap.size w w' := by
  have K0 : Keep w w := Below.refl _ _
  have len0_ := af0.small
  have len1_ := af1.small
  by_cases big1_ : (1048576 : Int) < (z1.length : Int)
  · -- too long: nothing is asked
    go_enter Try.func14, Try.ntmps14
    go_wp2
    go_ret
    exact ⟨rfl, Keep.next K0 (by go_grown)⟩
  have fit1_ : 0 ≤ (1048576 : Int) - (z1.length : Int) := by omega
  clear big1_
  by_cases big0_ : (1048576 : Int) < (z0.length : Int)
  · -- too long: nothing is asked
    go_enter Try.func14, Try.ntmps14
    go_wp2_with fail
    refine (szValues_any g0 a0 cap0 z0.length (1048576) _ (by omega) (by omega) af0.small).mono ?_
    rw [if_pos (by omega)]
    rintro e w1 ⟨rfl, k1⟩
    have g1_ : Keep w w1 := Keep.next (by go_grown) k1
    have K1 := Keep.next K0 g1_
    have s1_ := g1_.size
    have X_ : Box w1 (w.heap.size) g0 (a0) (z0.length) (cap0) := Box.keep ⟨by simp, by simp, by first | (simp; done) | (simp; omega)⟩ k1
    obtain ⟨B0a, B0b, B0l⟩ := X_
    have B0s := B0l
    go_wp2
    go_ret
    exact ⟨rfl, Keep.next K1 (by go_grown)⟩
  have fit0_ : 0 ≤ (1048576 : Int) - (z0.length : Int) := by omega
  clear big0_
  obtain ⟨r0, r1, H1, H2⟩ : ∃ (r0 : Int) (r1 : Bool), Hid (∀ (W : World) (p0 : Option Addr) (c0 : Nat) (p1 : Option Addr) (c1 : Nat), Ints W p0 z0 → Ints W p1 z1 → Calls Try.prog 46 #[valV g0 p0 z0.length c0, .slice p1 z1.length c1, .int .i64 a2] W fun e w' => e = .returned (.tuple #[.int .i64 r0, .bool r1]) ∧ Keep W w') ∧ Hid (∀ (W : World) (p0 : Option Addr) (c0 : Nat) (p1 : Option Addr) (c1 : Nat), Ints W p0 z0 → Ints W p1 z1 → Calls Try.prog 48 #[valV g0 p0 z0.length c0, .slice p1 z1.length c1, .int .i64 a2] W fun e w' => e = .returned (.tuple #[.int .i64 r0, .bool r1]) ∧ Keep W w') :=
    ⟨_, _, Lib.hid (fun W p0 c0 p1 c1 h0 h1 => specErrorOf_any g0 p0 c0 z0 p1 c1 z1 a2 W h0 h1 u2), Lib.hid (fun W p0 c0 p1 c1 h0 h1 => ErrorOf_any g0 p0 c0 z0 p1 c1 z1 a2 W h0 h1 u2)⟩
  go_enter Try.func14, Try.ntmps14
  go_wp2_with fail
  refine (szValues_any g0 a0 cap0 z0.length (1048576) _ (by omega) (by omega) af0.small).mono ?_
  rw [if_neg (by omega)]
  rintro e w1 ⟨rfl, k1⟩
  have g1_ : Keep w w1 := Keep.next (by go_grown) k1
  have K1 := Keep.next K0 g1_
  have s1_ := g1_.size
  have X_ : Box w1 (w.heap.size) g0 (a0) (z0.length) (cap0) := Box.keep ⟨by simp, by simp, by first | (simp; done) | (simp; omega)⟩ k1
  obtain ⟨B0a, B0b, B0l⟩ := X_
  have B0s := B0l
  go_wp2_with fail
  refine (toValues_any g0 a0 cap0 z0 _ ((af0.keep K1 (Nat.le_refl _)).keep (B := _) (by go_grown) (Nat.le_refl _)) (by omega)).mono ?_
  rintro e w2 ⟨t0b, rfl, t0o, k2⟩
  have t0 : Mine w2 (w1.heap.size) w2.heap.size _ _ _ := Mine.new (by go_size) t0o
  clear t0o
  have g2_ : Keep w1 w2 := Keep.next (by go_grown) k2
  have K2 := Keep.next K1 g2_
  have s2_ := g2_.size
  have X_ := (Box.mk B0a B0b B0l).keep g2_
  clear B0a B0b B0l; obtain ⟨B0a, B0b, B0l⟩ := X_
  go_wp2_with fail
  refine (toInt64S_ex a1 cap1 z1 _ ((af1.keep K2 (Nat.le_refl _)).keep (B := _) (by go_grown) (Nat.le_refl _)) (by omega)).mono ?_
  rintro e w3 ⟨t1b, rfl, t1o, k3⟩
  have t1 : Mine w3 (w2.heap.size) w3.heap.size _ _ _ := Mine.new (by go_size) t1o
  clear t1o
  have g3_ : Keep w2 w3 := Keep.next (by go_grown) k3
  have K3 := Keep.next K2 g3_
  have s3_ := g3_.size
  have X_ := (Box.mk B0a B0b B0l).keep g3_
  clear B0a B0b B0l; obtain ⟨B0a, B0b, B0l⟩ := X_
  replace t0 := t0.keep g3_
  go_wp2_with fail
  refine (H1.out _ (some ⟨t0b, 0, none⟩) z0.length (some ⟨t1b, 0, none⟩) z1.length (t0.keep (by go_grown)).ints (t1.keep (by go_grown)).ints).mono ?_
  rintro e w4 ⟨rfl, k4⟩
  have g4_ : Keep w3 w4 := Keep.next (by go_grown) k4
  have K4 := Keep.next K3 g4_
  have s4_ := g4_.size
  have X_ := (Box.mk B0a B0b B0l).keep g4_
  clear B0a B0b B0l; obtain ⟨B0a, B0b, B0l⟩ := X_
  replace t0 := t0.keep g4_
  replace t1 := t1.keep g4_
  go_wp2_with fail
  refine (toValues_any g0 a0 cap0 z0 _ ((af0.keep K4 (Nat.le_refl _)).keep (B := _) (by go_grown) (Nat.le_refl _)) (by omega)).mono ?_
  rintro e w5 ⟨x0b, rfl, x0o, k5⟩
  have x0 : Mine w5 (w4.heap.size) w5.heap.size _ _ _ := Mine.new (by go_size) x0o
  clear x0o
  have g5_ : Keep w4 w5 := Keep.next (by go_grown) k5
  have K5 := Keep.next K4 g5_
  have s5_ := g5_.size
  have X_ := (Box.mk B0a B0b B0l).keep g5_
  clear B0a B0b B0l; obtain ⟨B0a, B0b, B0l⟩ := X_
  replace t0 := t0.keep g5_
  replace t1 := t1.keep g5_
  go_wp2_with fail
  refine (toInt64S_ex a1 cap1 z1 _ ((af1.keep K5 (Nat.le_refl _)).keep (B := _) (by go_grown) (Nat.le_refl _)) (by omega)).mono ?_
  rintro e w6 ⟨x1b, rfl, x1o, k6⟩
  have x1 : Mine w6 (w5.heap.size + 1) w6.heap.size _ _ _ := Mine.new (by go_size) x1o
  clear x1o
  have g6_ : Keep w5 w6 := Keep.next (by go_grown) k6
  have K6 := Keep.next K5 g6_
  have s6_ := g6_.size
  have X_ := (Box.mk B0a B0b B0l).keep g6_
  clear B0a B0b B0l; obtain ⟨B0a, B0b, B0l⟩ := X_
  have X_ : Box w6 (w5.heap.size) g0 ((some ⟨x0b, 0, none⟩)) (z0.length) (z0.length) := Box.keep ⟨by simp, by simp, by first | (simp; done) | (simp; omega)⟩ k6
  obtain ⟨Y0a, Y0b, Y0l⟩ := X_
  have Y0s := Y0l
  replace t0 := t0.keep g6_
  replace t1 := t1.keep g6_
  replace x0 := x0.keep g6_
  go_wp2_with fail
  refine (H2.out _ (some ⟨x0b, 0, none⟩) z0.length (some ⟨x1b, 0, none⟩) z1.length (x0.keep (by go_grown)).ints (x1.keep (by go_grown)).ints).mono ?_
  rintro e w7 ⟨rfl, k7⟩
  have g7_ : Keep w6 w7 := Keep.next (by go_grown) k7
  have K7 := Keep.next K6 g7_
  have s7_ := g7_.size
  have X_ := (Box.mk B0a B0b B0l).keep g7_
  clear B0a B0b B0l; obtain ⟨B0a, B0b, B0l⟩ := X_
  have X_ := (Box.mk Y0a Y0b Y0l).keep g7_
  clear Y0a Y0b Y0l; obtain ⟨Y0a, Y0b, Y0l⟩ := X_
  replace t0 := t0.keep g7_
  replace t1 := t1.keep g7_
  replace x0 := x0.keep g7_
  replace x1 := x1.keep g7_
  have HS8 : Hid (∀ w', Keep w7 w' → (w'.cell? ⟨w.heap.size, 0, none⟩ = some (.int .i64 g0) ∧ w'.cell? ⟨w.heap.size, 1, none⟩ = some (.slice a0 z0.length cap0) ∧ w'.cell? ⟨w5.heap.size, 0, none⟩ = some (.int .i64 g0) ∧ w'.cell? ⟨w5.heap.size, 1, none⟩ = some (.slice (some ⟨x0b, 0, none⟩) z0.length z0.length)) ∧ Keep w7 w') := Lib.hid (fun w' k => ⟨⟨((Box.mk B0a B0b B0l).keep k).c0, ((Box.mk B0a B0b B0l).keep k).c1, ((Box.mk Y0a Y0b Y0l).keep k).c0, ((Box.mk Y0a Y0b Y0l).keep k).c1⟩, k⟩)
  go_wp2_with fail
  go_region_held3 (fun w' => (w'.cell? ⟨w.heap.size, 0, none⟩ = some (.int .i64 g0) ∧ w'.cell? ⟨w.heap.size, 1, none⟩ = some (.slice a0 z0.length cap0) ∧ w'.cell? ⟨w5.heap.size, 0, none⟩ = some (.int .i64 g0) ∧ w'.cell? ⟨w5.heap.size, 1, none⟩ = some (.slice (some ⟨x0b, 0, none⟩) z0.length z0.length)) ∧ Keep w7 w')
    (first | exact HS8.out _ (Keep.next (Keep.next (by go_grown) k8) k9) | exact HS8.out _ (Keep.next (by go_grown) k8) | exact HS8.out _ (by go_grown))
    (first | (go_at_call 47; refine (toValues_any g0 a0 cap0 z0 _ ((af0.keep K7 (Nat.le_refl _)).keep (B := _) (by go_grown) (Nat.le_refl _)) (by omega)).mono ?_; rintro e w8 ⟨y0b, rfl, y0o, k8⟩) | (go_at_call 49; refine (eqValues_same g0 _ _ _ _ z0 _ (((x0.keep (by go_grown)).keep k8).ints.keep (B := _) (by go_grown) (Nat.le_refl _)) (y0o.ints.keep (B := _) (by go_grown) (Nat.le_refl _))).mono ?_; rintro e w9 ⟨rfl, k9⟩))
  have g8_ : Keep w7 w8 := Keep.next (by go_grown) k8
  have K8 := Keep.next K7 g8_
  have s8_ := g8_.size
  have X_ := (Box.mk B0a B0b B0l).keep g8_
  clear B0a B0b B0l; obtain ⟨B0a, B0b, B0l⟩ := X_
  have X_ := (Box.mk Y0a Y0b Y0l).keep g8_
  clear Y0a Y0b Y0l; obtain ⟨Y0a, Y0b, Y0l⟩ := X_
  replace t0 := t0.keep g8_
  replace t1 := t1.keep g8_
  replace x0 := x0.keep g8_
  replace x1 := x1.keep g8_
  have g9_ : Keep w8 w9 := Keep.next (by go_grown) k9
  have K9 := Keep.next K8 g9_
  have s9_ := g9_.size
  have X_ := (Box.mk B0a B0b B0l).keep g9_
  clear B0a B0b B0l; obtain ⟨B0a, B0b, B0l⟩ := X_
  have X_ := (Box.mk Y0a Y0b Y0l).keep g9_
  clear Y0a Y0b Y0l; obtain ⟨Y0a, Y0b, Y0l⟩ := X_
  replace t0 := t0.keep g9_
  replace t1 := t1.keep g9_
  replace x0 := x0.keep g9_
  replace x1 := x1.keep g9_
  go_wp2_with fail
  refine (toInt64S_ex a1 cap1 z1 _ ((af1.keep K9 (Nat.le_refl _)).keep (B := _) (by go_grown) (Nat.le_refl _)) (by omega)).mono ?_
  rintro e w10 ⟨y1b, rfl, y1o, k10⟩
  have y1 : Mine w10 (w9.heap.size) w10.heap.size _ _ _ := Mine.new (by go_size) y1o
  clear y1o
  have g10_ : Keep w9 w10 := Keep.next (by go_grown) k10
  have K10 := Keep.next K9 g10_
  have s10_ := g10_.size
  have X_ := (Box.mk B0a B0b B0l).keep g10_
  clear B0a B0b B0l; obtain ⟨B0a, B0b, B0l⟩ := X_
  have X_ := (Box.mk Y0a Y0b Y0l).keep g10_
  clear Y0a Y0b Y0l; obtain ⟨Y0a, Y0b, Y0l⟩ := X_
  replace t0 := t0.keep g10_
  replace t1 := t1.keep g10_
  replace x0 := x0.keep g10_
  replace x1 := x1.keep g10_
  go_wp2_with fail
  refine (eqInt64S_same _ _ _ _ z1 _ (x1.keep (by go_grown)).ints (y1.keep (by go_grown)).ints).mono ?_
  rintro e w11 ⟨rfl, k11⟩
  have g11_ : Keep w10 w11 := Keep.next (by go_grown) k11
  have K11 := Keep.next K10 g11_
  have s11_ := g11_.size
  have X_ := (Box.mk B0a B0b B0l).keep g11_
  clear B0a B0b B0l; obtain ⟨B0a, B0b, B0l⟩ := X_
  have X_ := (Box.mk Y0a Y0b Y0l).keep g11_
  clear Y0a Y0b Y0l; obtain ⟨Y0a, Y0b, Y0l⟩ := X_
  replace t0 := t0.keep g11_
  replace t1 := t1.keep g11_
  replace x0 := x0.keep g11_
  replace x1 := x1.keep g11_
  replace y1 := y1.keep g11_
  go_wp2
  go_ret
  exact ⟨rfl, Keep.next K11 (by go_grown)⟩


theorem own : ownKnob Try.prog.godebug = none := by kernel_rfl
theorem laidOut : laidOutB Try.prog = true := by kernel_rfl
set_option maxRecDepth 100000 in
theorem lifted (os : Os) (started : os.Started) (H : Type) (enc : TypeId × Value → H) :
    ReturnsInHanded {} Try.checked os 14 .any (Rows.fnExactErrorOfSpec.pre6 enc Try.prog Try.f14 Rows.fnExactErrorOfRow.domain false) (Rows.fnExactErrorOfSpec.post enc Try.prog Try.f14 false true false false) := by
  refine returnsInHanded_of_change (C := Try.checked) own started (by kernel_rfl) Try.func14
    (ChangeSpec.witness6 (enc := enc) (C := Try.checked) false ⟨#[], #[.agg #[.int .i64 0, .slice none 0 0], .slice none 0 0, .int .i64 0], []⟩ 8 (by kernel_rfl) (by kernel_rfl) (by kernel_rfl) (by kernel_rfl)) ?_
  intro W base args ds gs before hval0 hW hcnd _
  have hval : ∀ (j : Nat) t v, Try.f14.params[j]? = some t → args[j]? = some v → Value.okWide Try.prog W .any base t v := hval0
  have hW' := hW
  obtain ⟨p, q, hA0, hV, rfl, hfz, hnd⟩ := hW
  have hA : DataW.TrodAll enc Try.prog W 0 (fun _ => true) true Try.f14.params.toList args.toList ds p := hA0
  rw [Try.params14] at hA hval
  obtain ⟨v0, vs0, d0, ds0, p0, q0, hargs, rfl, rfl, h0, r0⟩ := trodAll_cons hA
  obtain ⟨v1, vs1, d1, ds1, p1, q1, rfl, rfl, rfl, h1, r1⟩ := trodAll_cons r0
  obtain ⟨v2, vs2, d2, ds2, p2, q2, rfl, rfl, rfl, h2, r2⟩ := trodAll_cons r1
  obtain ⟨rfl, rfl, rfl⟩ := trodAll_nil r2
  obtain rfl : args = #[v0, v1, v2] := by cases args; simp_all
  obtain ⟨rfl, rfl⟩ := trodVars_none hV
  have k0 := h0
  have lt0 : ∀ x ∈ p0, x.block < W.heap.size := by obtain ⟨m, hm⟩ := k0; exact DataW.trod_lt m _ _ _ hm
  obtain ⟨g0, a0, cap0, z0, rfl, u0, w0⟩ := values_open Try.underlying49 (by kernel_rfl) (by kernel_rfl) Try.underlying2 Try.underlying24 Try.underlying2 (by kernel_rfl) (hval 0 49 v0 rfl rfl) h0
  have k1 := h1
  have lt1 : ∀ x ∈ p1, x.block < W.heap.size := by obtain ⟨m, hm⟩ := k1; exact DataW.trod_lt m _ _ _ hm
  obtain ⟨a1, len1, cap1, rfl⟩ := okWide_slice Try.underlying24 (hval 1 24 v1 rfl rfl)
  obtain ⟨z1, e1, w1⟩ := ints_open Try.underlying24 Try.underlying2 (by kernel_rfl) h1
  subst e1
  have k2 := h2
  have lt2 : ∀ x ∈ p2, x.block < W.heap.size := by obtain ⟨m, hm⟩ := k2; exact DataW.trod_lt m _ _ _ hm
  obtain ⟨a2, rfl, rfl, rfl, wf2⟩ := open_int Try.underlying2 (hval 2 2 v2 rfl rfl) h2
  clear hA0 hval0
  refine (walk W g0 u0 a0 cap0 z0 w0 a1 cap1 z1 w1 a2 (in64 wf2)).mono fun e W' ⟨he, bel⟩ => ?_
  subst he
  exact ⟨_, rfl, _, _, _, [], _, [], hW', trodAll_mk1 (shut_bool Try.underlying4 _), (trodAll_cons_mk (Below.trod laidOut (by kernel_rfl) (of_decide_eq_true (by kernel_rfl)) k0 bel lt0) (trodAll_cons_mk (Below.trod laidOut (by kernel_rfl) (of_decide_eq_true (by kernel_rfl)) k1 bel lt1) (trodAll_cons_mk (shut_int Try.underlying2 wf2) trodAll_mk0))), rfl, bel.frame _, fun h => by cases h⟩
theorem over : Rows.fnExactErrorOfRow.holds Try.pinned (OpenSpec.ofChange Rows.fnExactErrorOfSpec) :=
  OpenClaim.holds_of_wide 14 Try.f14 rfl rfl rfl rfl rfl rfl rfl ⟨rfl, rfl, rfl, rfl, rfl⟩ rfl rfl rfl rfl rfl (by kernel_rfl) Try.func14 (by kernel_rfl)
    (of_decide_eq_true (by kernel_rfl)) (by unfold Func.isWrapper; first | (rw [if_pos (by decide +kernel)]; kernel_rfl) | (rw [if_neg (by decide +kernel)]; exact ⟨rfl, rfl⟩))
    (fun os started H enc _ => lifted os started H enc)
/-- THE STATEMENT. -/
theorem proved : Rows.FnExactErrorOfSaid := over
end Go.Proofs.Ytmckbjhmkcbjgaa.fnExactErrorOf
