/- MeanYear answers as its model, at every argument, and leaves its argument as it was. -/
import Derived.Test.YtomfhkpmdalknaaCalMeanYear
import Derived.Deep.RegionHeld3
namespace Go.Proofs.Ytomfhkpmdalknaa.fnExactMeanYear
open Go.ChangeShapes Go.WideShapes Go.ChangeAt Go.RowKit
open Go.ChangeMaps (open_string shut_string)
set_option linter.unusedVariables false

set_option maxHeartbeats 1600000 in
set_option maxRecDepth 100000 in
theorem walk (w : World) (g0 : Int) (u0 : In64 g0) (gh0 : Int) (uh0 : In64 gh0) (a0 : Option Addr) (cap0 : Nat) (z0 : List Int) (af0 : Ints w a0 z0) :
    Calls Try.prog 7 #[.agg #[.int .i64 g0, .int .i64 gh0, .slice a0 z0.length cap0]] w fun e w' => e = .returned (.bool true) ∧ Below w.heap.size w w' := by
  have K0 : Keep w w := Below.refl _ _
  have len0_ := af0.small
  by_cases big0_ : (1048576 : Int) < (z0.length : Int)
  · -- too long: nothing is asked
    go_enter Try.func7, Try.ntmps7
    go_wp2_with fail
    refine (szCalendar_any g0 gh0 a0 cap0 z0.length (1048576) _ (by omega) (by omega) af0.small).mono ?_
    rw [if_pos (by omega)]
    rintro e w1 ⟨rfl, k1⟩
    have g1_ : Keep w w1 := Keep.next (by go_grown) k1
    have K1 := Keep.next K0 g1_
    have s1_ := g1_.size
    have X_ : BoxC w1 (w.heap.size) (g0) (gh0) (a0) (z0.length) (cap0) := BoxC.keep ⟨by simp, by simp, by simp, by first | (simp; done) | (simp; omega)⟩ k1
    obtain ⟨B0a, B0b, B0c, B0l⟩ := X_
    have B0s := B0l
    go_wp2
    go_ret
    exact ⟨rfl, Keep.next K1 (by go_grown)⟩
  have fit0_ : 0 ≤ (1048576 : Int) - (z0.length : Int) := by omega
  clear big0_
  obtain ⟨r0, r1, r2, H1, H2⟩ : ∃ (r0 : Int) (r1 : Int) (r2 : Bool), Hid (∀ (W : World) (p0 : Option Addr) (c0 : Nat), Ints W p0 z0 → Calls Try.prog 26 #[calV g0 gh0 p0 z0.length c0] W fun e w' => e = .returned (.tuple #[.int .i64 r0, .int .i64 r1, .bool r2]) ∧ Keep W w') ∧ Hid (∀ (W : World) (p0 : Option Addr) (c0 : Nat), Ints W p0 z0 → Calls Try.prog 27 #[calV g0 gh0 p0 z0.length c0] W fun e w' => e = .returned (.tuple #[.int .i64 r0, .int .i64 r1, .bool r2]) ∧ Keep W w') :=
    ⟨_, _, _, Lib.hid (fun W p0 c0 h0 => specMeanYear_any g0 gh0 p0 c0 z0 W h0), Lib.hid (fun W p0 c0 h0 => MeanYear_any g0 gh0 p0 c0 z0 W h0)⟩
  go_enter Try.func7, Try.ntmps7
  go_wp2_with fail
  refine (szCalendar_any g0 gh0 a0 cap0 z0.length (1048576) _ (by omega) (by omega) af0.small).mono ?_
  rw [if_neg (by omega)]
  rintro e w1 ⟨rfl, k1⟩
  have g1_ : Keep w w1 := Keep.next (by go_grown) k1
  have K1 := Keep.next K0 g1_
  have s1_ := g1_.size
  have X_ : BoxC w1 (w.heap.size) (g0) (gh0) (a0) (z0.length) (cap0) := BoxC.keep ⟨by simp, by simp, by simp, by first | (simp; done) | (simp; omega)⟩ k1
  obtain ⟨B0a, B0b, B0c, B0l⟩ := X_
  have B0s := B0l
  go_wp2_with fail
  refine (toCalendar_any g0 gh0 a0 cap0 z0 _ ((af0.keep K1 (Nat.le_refl _)).keep (B := _) (by go_grown) (Nat.le_refl _)) (by omega)).mono ?_
  rintro e w2 ⟨t0b, rfl, t0o, k2⟩
  have t0 : Mine w2 (w1.heap.size) w2.heap.size _ _ _ := Mine.new (by go_size) t0o
  clear t0o
  have g2_ : Keep w1 w2 := Keep.next (by go_grown) k2
  have K2 := Keep.next K1 g2_
  have s2_ := g2_.size
  have X_ := (BoxC.mk B0a B0b B0c B0l).keep g2_
  clear B0a B0b B0c B0l; obtain ⟨B0a, B0b, B0c, B0l⟩ := X_
  go_wp2_with fail
  refine (H1.out _ (some ⟨t0b, 0, none⟩) z0.length (t0.keep (by go_grown)).ints).mono ?_
  rintro e w3 ⟨rfl, k3⟩
  have g3_ : Keep w2 w3 := Keep.next (by go_grown) k3
  have K3 := Keep.next K2 g3_
  have s3_ := g3_.size
  have X_ := (BoxC.mk B0a B0b B0c B0l).keep g3_
  clear B0a B0b B0c B0l; obtain ⟨B0a, B0b, B0c, B0l⟩ := X_
  replace t0 := t0.keep g3_
  go_wp2_with fail
  refine (toCalendar_any g0 gh0 a0 cap0 z0 _ ((af0.keep K3 (Nat.le_refl _)).keep (B := _) (by go_grown) (Nat.le_refl _)) (by omega)).mono ?_
  rintro e w4 ⟨x0b, rfl, x0o, k4⟩
  have x0 : Mine w4 (w3.heap.size) w4.heap.size _ _ _ := Mine.new (by go_size) x0o
  clear x0o
  have g4_ : Keep w3 w4 := Keep.next (by go_grown) k4
  have K4 := Keep.next K3 g4_
  have s4_ := g4_.size
  have X_ := (BoxC.mk B0a B0b B0c B0l).keep g4_
  clear B0a B0b B0c B0l; obtain ⟨B0a, B0b, B0c, B0l⟩ := X_
  replace t0 := t0.keep g4_
  go_wp2_with fail
  refine (H2.out _ (some ⟨x0b, 0, none⟩) z0.length (x0.keep (by go_grown)).ints).mono ?_
  rintro e w5 ⟨rfl, k5⟩
  have g5_ : Keep w4 w5 := Keep.next (by go_grown) k5
  have K5 := Keep.next K4 g5_
  have s5_ := g5_.size
  have X_ := (BoxC.mk B0a B0b B0c B0l).keep g5_
  clear B0a B0b B0c B0l; obtain ⟨B0a, B0b, B0c, B0l⟩ := X_
  have X_ : BoxC w5 (w4.heap.size) (g0) (gh0) ((some ⟨x0b, 0, none⟩)) (z0.length) (z0.length) := BoxC.keep ⟨by simp, by simp, by simp, by first | (simp; done) | (simp; omega)⟩ k5
  obtain ⟨Y0a, Y0b, Y0c, Y0l⟩ := X_
  have Y0s := Y0l
  replace t0 := t0.keep g5_
  replace x0 := x0.keep g5_
  have HS6 : Hid (∀ w', Keep w5 w' → ((w'.cell? ⟨w.heap.size, 0, none⟩ = some (.int .i64 g0) ∧ w'.cell? ⟨w.heap.size, 1, none⟩ = some (.int .i64 gh0) ∧ w'.cell? ⟨w.heap.size, 2, none⟩ = some (.slice a0 z0.length cap0)) ∧ w'.cell? ⟨w4.heap.size, 0, none⟩ = some (.int .i64 g0) ∧ w'.cell? ⟨w4.heap.size, 1, none⟩ = some (.int .i64 gh0) ∧ w'.cell? ⟨w4.heap.size, 2, none⟩ = some (.slice (some ⟨x0b, 0, none⟩) z0.length z0.length)) ∧ Keep w5 w') := Lib.hid (fun w' k => ⟨⟨⟨((BoxC.mk B0a B0b B0c B0l).keep k).c0, ((BoxC.mk B0a B0b B0c B0l).keep k).c1, ((BoxC.mk B0a B0b B0c B0l).keep k).c2⟩, ((BoxC.mk Y0a Y0b Y0c Y0l).keep k).c0, ((BoxC.mk Y0a Y0b Y0c Y0l).keep k).c1, ((BoxC.mk Y0a Y0b Y0c Y0l).keep k).c2⟩, k⟩)
  go_wp2_with fail
  go_region_held3 (fun w' => ((w'.cell? ⟨w.heap.size, 0, none⟩ = some (.int .i64 g0) ∧ w'.cell? ⟨w.heap.size, 1, none⟩ = some (.int .i64 gh0) ∧ w'.cell? ⟨w.heap.size, 2, none⟩ = some (.slice a0 z0.length cap0)) ∧ w'.cell? ⟨w4.heap.size, 0, none⟩ = some (.int .i64 g0) ∧ w'.cell? ⟨w4.heap.size, 1, none⟩ = some (.int .i64 gh0) ∧ w'.cell? ⟨w4.heap.size, 2, none⟩ = some (.slice (some ⟨x0b, 0, none⟩) z0.length z0.length)) ∧ Keep w5 w')
    (first | exact HS6.out _ (Keep.next (Keep.next (by go_grown) k6) k7) | exact HS6.out _ (Keep.next (by go_grown) k6) | exact HS6.out _ (by go_grown))
    (first | (go_at_call 17; refine (toCalendar_any g0 gh0 a0 cap0 z0 _ ((af0.keep K5 (Nat.le_refl _)).keep (B := _) (by go_grown) (Nat.le_refl _)) (by omega)).mono ?_; rintro e w6 ⟨y0b, rfl, y0o, k6⟩) | (go_at_call 19; refine (eqCalendar_same g0 gh0 _ _ _ _ z0 _ (((x0.keep (by go_grown)).keep k6).ints.keep (B := _) (by go_grown) (Nat.le_refl _)) (y0o.ints.keep (B := _) (by go_grown) (Nat.le_refl _))).mono ?_; rintro e w7 ⟨rfl, k7⟩))
  have g6_ : Keep w5 w6 := Keep.next (by go_grown) k6
  have K6 := Keep.next K5 g6_
  have s6_ := g6_.size
  have X_ := (BoxC.mk B0a B0b B0c B0l).keep g6_
  clear B0a B0b B0c B0l; obtain ⟨B0a, B0b, B0c, B0l⟩ := X_
  have X_ := (BoxC.mk Y0a Y0b Y0c Y0l).keep g6_
  clear Y0a Y0b Y0c Y0l; obtain ⟨Y0a, Y0b, Y0c, Y0l⟩ := X_
  replace t0 := t0.keep g6_
  replace x0 := x0.keep g6_
  have g7_ : Keep w6 w7 := Keep.next (by go_grown) k7
  have K7 := Keep.next K6 g7_
  have s7_ := g7_.size
  have X_ := (BoxC.mk B0a B0b B0c B0l).keep g7_
  clear B0a B0b B0c B0l; obtain ⟨B0a, B0b, B0c, B0l⟩ := X_
  have X_ := (BoxC.mk Y0a Y0b Y0c Y0l).keep g7_
  clear Y0a Y0b Y0c Y0l; obtain ⟨Y0a, Y0b, Y0c, Y0l⟩ := X_
  replace t0 := t0.keep g7_
  replace x0 := x0.keep g7_
  go_wp2
  go_ret
  exact ⟨rfl, Keep.next K7 (by go_grown)⟩


theorem own : ownKnob Try.prog.godebug = none := by kernel_rfl
theorem laidOut : laidOutB Try.prog = true := by kernel_rfl
set_option maxRecDepth 100000 in
theorem lifted (os : Os) (started : os.Started) (H : Type) (enc : TypeId × Value → H) :
    ReturnsInHanded {} Try.checked os 7 .any (Rows.fnExactMeanYearSpec.pre6 enc Try.prog Try.f7 Rows.fnExactMeanYearRow.domain false) (Rows.fnExactMeanYearSpec.post enc Try.prog Try.f7 false true false false) := by
  refine returnsInHanded_of_change (C := Try.checked) own started (by kernel_rfl) Try.func7
    (ChangeSpec.witness6 (enc := enc) (C := Try.checked) false ⟨#[], #[.agg #[.int .i64 0, .int .i64 0, .slice none 0 0]], []⟩ 8 (by kernel_rfl) (by kernel_rfl) (by kernel_rfl) (by kernel_rfl)) ?_
  intro W base args ds gs before hval0 hW hcnd _
  have hval : ∀ (j : Nat) t v, Try.f7.params[j]? = some t → args[j]? = some v → Value.okWide Try.prog W .any base t v := hval0
  have hW' := hW
  obtain ⟨p, q, hA0, hV, rfl, hfz, hnd⟩ := hW
  have hA : DataW.TrodAll enc Try.prog W 0 (fun _ => true) true Try.f7.params.toList args.toList ds p := hA0
  rw [Try.params7] at hA hval
  obtain ⟨v0, vs0, d0, ds0, p0, q0, hargs, rfl, rfl, h0, r0⟩ := trodAll_cons hA
  obtain ⟨rfl, rfl, rfl⟩ := trodAll_nil r0
  obtain rfl : args = #[v0] := by cases args; simp_all
  obtain ⟨rfl, rfl⟩ := trodVars_none hV
  have k0 := h0
  have lt0 : ∀ x ∈ p0, x.block < W.heap.size := by obtain ⟨m, hm⟩ := k0; exact DataW.trod_lt m _ _ _ hm
  obtain ⟨g0, gh0, a0, cap0, z0, rfl, u0, uh0, w0⟩ := cal_open Try.underlying24 (by kernel_rfl) (by kernel_rfl) Try.underlying2 Try.underlying22 Try.underlying2 (by kernel_rfl) (hval 0 24 v0 rfl rfl) h0
  clear hA0 hval0
  refine (walk W g0 u0 gh0 uh0 a0 cap0 z0 w0).mono fun e W' ⟨he, bel⟩ => ?_
  subst he
  exact ⟨_, rfl, _, _, _, [], _, [], hW', trodAll_mk1 (shut_bool Try.underlying4 _), (trodAll_cons_mk (Below.trod laidOut (by kernel_rfl) (of_decide_eq_true (by kernel_rfl)) k0 bel lt0) trodAll_mk0), rfl, bel.frame _, fun h => by cases h⟩
theorem over : Rows.fnExactMeanYearRow.holds Try.pinned (OpenSpec.ofChange Rows.fnExactMeanYearSpec) :=
  OpenClaim.holds_of_wide 7 Try.f7 rfl rfl rfl rfl rfl rfl rfl ⟨rfl, rfl, rfl, rfl, rfl⟩ rfl rfl rfl rfl rfl (by kernel_rfl) Try.func7 (by kernel_rfl)
    (of_decide_eq_true (by kernel_rfl)) (by unfold Func.isWrapper; first | (rw [if_pos (by decide +kernel)]; kernel_rfl) | (rw [if_neg (by decide +kernel)]; exact ⟨rfl, rfl⟩))
    (fun os started H enc _ => lifted os started H enc)
/-- THE STATEMENT. -/
theorem proved : Rows.FnExactMeanYearSaid := over
end Go.Proofs.Ytomfhkpmdalknaa.fnExactMeanYear
