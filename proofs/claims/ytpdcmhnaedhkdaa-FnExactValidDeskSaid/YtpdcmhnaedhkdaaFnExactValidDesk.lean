/- ValidDesk answers as its model, at every desk, and leaves its argument as it was. -/
import Derived.Test.YtpdcmhnaedhkdaaVdD11
import Derived.Test.YtpdcmhnaedhkdaaVdS11
import Derived.Deep.RegionHeld3
namespace Go.Proofs.Ytpdcmhnaedhkdaa.fnExactValidDesk
open Go.ChangeShapes Go.WideShapes Go.ChangeAt Go.RowKit
open Go.ChangeMaps (open_string shut_string)
set_option linter.unusedVariables false

set_option maxHeartbeats 1600000 in
set_option maxRecDepth 100000 in
theorem walk (w : World) (a0 : Option Addr) (cap0 : Nat) (z0 : List ByteArray) (af0 : Txs w a0 z0) (al0 : Option Addr) (cl0 : Nat) (zl0 : List (Int × List Int)) (afl0 : Vlw w al0 zl0) :
    Calls Try.prog 8 #[.agg #[.slice a0 z0.length cap0, .slice al0 zl0.length cl0]] w fun e w' => e = .returned (.bool true) ∧ Below w.heap.size w w' := by
  have K0 : Keep w w := Below.refl _ _
  have len0_ := af0.small
  have lenl0_ := afl0.small
  by_cases big0_ : (1048576 : Int) < ((z0.length : Int) + (totT z0 : Int) + (zl0.length : Int) + (totV zl0 : Int))
  · -- too long: nothing is asked
    go_enter Try.func8, Try.ntmps8
    go_wp2_with fail
    refine (szDesk_ex a0 cap0 z0 al0 cl0 zl0 (1048576) _ ((af0.keep K0 (Nat.le_refl _)).keep (B := _) (by go_grown) (Nat.le_refl _)) ((afl0.keep K0 (Nat.le_refl _)).keep (B := _) (by go_grown) (Nat.le_refl _)) (by omega) (by omega)).mono ?_
    rw [if_pos (by omega)]
    rintro e w1 ⟨rfl, k1⟩
    have g1_ : Keep w w1 := Keep.next (by go_grown) k1
    have K1 := Keep.next K0 g1_
    have s1_ := g1_.size
    have X_ : BoxM w1 (w.heap.size) (a0) (z0.length) (cap0) (al0) (zl0.length) (cl0) := BoxM.keep ⟨by simp, by simp, by first | (simp; done) | (simp; omega)⟩ k1
    obtain ⟨B0a, B0b, B0l⟩ := X_
    have B0s := B0l
    go_wp2
    go_ret
    exact ⟨rfl, Keep.next K1 (by go_grown)⟩
  have fit0_ : 0 ≤ (1048576 : Int) - ((z0.length : Int) + (totT z0 : Int) + (zl0.length : Int) + (totV zl0 : Int)) := by omega
  clear big0_
  obtain ⟨r0, H1, H2⟩ : ∃ (r0 : Bool), Hid (∀ (W : World) (p0 : Option Addr) (c0 : Nat) (pl0 : Option Addr) (cm0 : Nat), Txs W p0 z0 → Vlw W pl0 zl0 → Calls Try.prog 41 #[deskV p0 z0.length c0 pl0 zl0.length cm0] W fun e w' => e = .returned (.bool r0) ∧ Keep W w') ∧ Hid (∀ (W : World) (p0 : Option Addr) (c0 : Nat) (pl0 : Option Addr) (cm0 : Nat), Txs W p0 z0 → Vlw W pl0 zl0 → Calls Try.prog 43 #[deskV p0 z0.length c0 pl0 zl0.length cm0] W fun e w' => e = .returned (.bool r0) ∧ Keep W w') :=
    ⟨_, Lib.hid (fun W p0 c0 pl0 cm0 h0 hl0 => specValidDesk_any p0 c0 z0 pl0 cm0 zl0 W (h0.nms (by omega) (by omega)) (hl0.vls (by omega))), Lib.hid (fun W p0 c0 pl0 cm0 h0 hl0 => ValidDesk_any p0 c0 z0 pl0 cm0 zl0 W (h0.nms (by omega) (by omega)) (hl0.vls (by omega)))⟩
  go_enter Try.func8, Try.ntmps8
  go_wp2_with fail
  refine (szDesk_ex a0 cap0 z0 al0 cl0 zl0 (1048576) _ ((af0.keep K0 (Nat.le_refl _)).keep (B := _) (by go_grown) (Nat.le_refl _)) ((afl0.keep K0 (Nat.le_refl _)).keep (B := _) (by go_grown) (Nat.le_refl _)) (by omega) (by omega)).mono ?_
  rw [if_neg (by omega)]
  rintro e w1 ⟨rfl, k1⟩
  have g1_ : Keep w w1 := Keep.next (by go_grown) k1
  have K1 := Keep.next K0 g1_
  have s1_ := g1_.size
  have X_ : BoxM w1 (w.heap.size) (a0) (z0.length) (cap0) (al0) (zl0.length) (cl0) := BoxM.keep ⟨by simp, by simp, by first | (simp; done) | (simp; omega)⟩ k1
  obtain ⟨B0a, B0b, B0l⟩ := X_
  have B0s := B0l
  go_wp2_with fail
  refine (toDesk_ex a0 cap0 z0 al0 cl0 zl0 _ ((af0.keep K1 (Nat.le_refl _)).keep (B := _) (by go_grown) (Nat.le_refl _)) ((afl0.keep K1 (Nat.le_refl _)).keep (B := _) (by go_grown) (Nat.le_refl _)) (by omega) (by omega) (by omega)).mono ?_
  rintro e w2 ⟨t0b, t0c, rfl, t0, t0l, k2⟩
  have g2_ : Keep w1 w2 := Keep.next (by go_grown) k2
  have K2 := Keep.next K1 g2_
  have s2_ := g2_.size
  have X_ := (BoxM.mk B0a B0b B0l).keep g2_
  clear B0a B0b B0l; obtain ⟨B0a, B0b, B0l⟩ := X_
  go_wp2_with fail
  refine (H1.out _ (some ⟨t0b, 0, none⟩) z0.length (some ⟨t0c, 0, none⟩) zl0.length (t0.keep (B := _) (by go_grown) (Nat.le_refl _)) (t0l.keep (B := _) (by go_grown) (Nat.le_refl _))).mono ?_
  rintro e w3 ⟨rfl, k3⟩
  have g3_ : Keep w2 w3 := Keep.next (by go_grown) k3
  have K3 := Keep.next K2 g3_
  have s3_ := g3_.size
  have X_ := (BoxM.mk B0a B0b B0l).keep g3_
  clear B0a B0b B0l; obtain ⟨B0a, B0b, B0l⟩ := X_
  replace t0 := t0.keep g3_ (Nat.le_refl _)
  replace t0l := t0l.keep g3_ (Nat.le_refl _)
  go_wp2_with fail
  refine (toDesk_ex a0 cap0 z0 al0 cl0 zl0 _ ((af0.keep K3 (Nat.le_refl _)).keep (B := _) (by go_grown) (Nat.le_refl _)) ((afl0.keep K3 (Nat.le_refl _)).keep (B := _) (by go_grown) (Nat.le_refl _)) (by omega) (by omega) (by omega)).mono ?_
  rintro e w4 ⟨x0b, x0c, rfl, x0, x0l, k4⟩
  have g4_ : Keep w3 w4 := Keep.next (by go_grown) k4
  have K4 := Keep.next K3 g4_
  have s4_ := g4_.size
  have X_ := (BoxM.mk B0a B0b B0l).keep g4_
  clear B0a B0b B0l; obtain ⟨B0a, B0b, B0l⟩ := X_
  replace t0 := t0.keep g4_ (Nat.le_refl _)
  replace t0l := t0l.keep g4_ (Nat.le_refl _)
  go_wp2_with fail
  refine (H2.out _ (some ⟨x0b, 0, none⟩) z0.length (some ⟨x0c, 0, none⟩) zl0.length (x0.keep (B := _) (by go_grown) (Nat.le_refl _)) (x0l.keep (B := _) (by go_grown) (Nat.le_refl _))).mono ?_
  rintro e w5 ⟨rfl, k5⟩
  have g5_ : Keep w4 w5 := Keep.next (by go_grown) k5
  have K5 := Keep.next K4 g5_
  have s5_ := g5_.size
  have X_ := (BoxM.mk B0a B0b B0l).keep g5_
  clear B0a B0b B0l; obtain ⟨B0a, B0b, B0l⟩ := X_
  have X_ : BoxM w5 (w4.heap.size) ((some ⟨x0b, 0, none⟩)) (z0.length) (z0.length) ((some ⟨x0c, 0, none⟩)) (zl0.length) (zl0.length) := BoxM.keep ⟨by simp, by simp, by first | (simp; done) | (simp; omega)⟩ k5
  obtain ⟨Y0a, Y0b, Y0l⟩ := X_
  have Y0s := Y0l
  replace t0 := t0.keep g5_ (Nat.le_refl _)
  replace t0l := t0l.keep g5_ (Nat.le_refl _)
  replace x0 := x0.keep g5_ (Nat.le_refl _)
  replace x0l := x0l.keep g5_ (Nat.le_refl _)
  have HS6 : Hid (∀ w', Keep w5 w' → (w'.cell? ⟨w.heap.size, 0, none⟩ = some (.slice a0 z0.length cap0) ∧ w'.cell? ⟨w.heap.size, 1, none⟩ = some (.slice al0 zl0.length cl0) ∧ w'.cell? ⟨w4.heap.size, 0, none⟩ = some (.slice (some ⟨x0b, 0, none⟩) z0.length z0.length) ∧ w'.cell? ⟨w4.heap.size, 1, none⟩ = some (.slice (some ⟨x0c, 0, none⟩) zl0.length zl0.length)) ∧ Keep w5 w') := Lib.hid (fun w' k => ⟨⟨((BoxM.mk B0a B0b B0l).keep k).c0, ((BoxM.mk B0a B0b B0l).keep k).c1, ((BoxM.mk Y0a Y0b Y0l).keep k).c0, ((BoxM.mk Y0a Y0b Y0l).keep k).c1⟩, k⟩)
  go_wp2_with fail
  go_region_held3 (fun w' => (w'.cell? ⟨w.heap.size, 0, none⟩ = some (.slice a0 z0.length cap0) ∧ w'.cell? ⟨w.heap.size, 1, none⟩ = some (.slice al0 zl0.length cl0) ∧ w'.cell? ⟨w4.heap.size, 0, none⟩ = some (.slice (some ⟨x0b, 0, none⟩) z0.length z0.length) ∧ w'.cell? ⟨w4.heap.size, 1, none⟩ = some (.slice (some ⟨x0c, 0, none⟩) zl0.length zl0.length)) ∧ Keep w5 w')
    (first | exact HS6.out _ (Keep.next (Keep.next (by go_grown) k6) k7) | exact HS6.out _ (Keep.next (by go_grown) k6) | exact HS6.out _ (by go_grown))
    (first | (go_at_call 42; refine (toDesk_ex a0 cap0 z0 al0 cl0 zl0 _ ((af0.keep K5 (Nat.le_refl _)).keep (B := _) (by go_grown) (Nat.le_refl _)) ((afl0.keep K5 (Nat.le_refl _)).keep (B := _) (by go_grown) (Nat.le_refl _)) (by omega) (by omega) (by omega)).mono ?_; rintro e w6 ⟨y0b, y0c, rfl, y0o, y0p, k6⟩) | (go_at_call 44; refine (eqDesk_same _ _ _ _ z0 _ _ _ _ zl0 _ (((x0.keep (B := _) (by go_grown) (Nat.le_refl _)).keep k6 (Nat.le_refl _)).keep (B := _) (by go_grown) (Nat.le_refl _)) (y0o.keep (B := _) (by go_grown) (Nat.le_refl _)) (((x0l.keep (B := _) (by go_grown) (Nat.le_refl _)).keep k6 (Nat.le_refl _)).keep (B := _) (by go_grown) (Nat.le_refl _)) (y0p.keep (B := _) (by go_grown) (Nat.le_refl _))).mono ?_; rintro e w7 ⟨rfl, k7⟩))
  have g6_ : Keep w5 w6 := Keep.next (by go_grown) k6
  have K6 := Keep.next K5 g6_
  have s6_ := g6_.size
  have X_ := (BoxM.mk B0a B0b B0l).keep g6_
  clear B0a B0b B0l; obtain ⟨B0a, B0b, B0l⟩ := X_
  have X_ := (BoxM.mk Y0a Y0b Y0l).keep g6_
  clear Y0a Y0b Y0l; obtain ⟨Y0a, Y0b, Y0l⟩ := X_
  replace t0 := t0.keep g6_ (Nat.le_refl _)
  replace t0l := t0l.keep g6_ (Nat.le_refl _)
  replace x0 := x0.keep g6_ (Nat.le_refl _)
  replace x0l := x0l.keep g6_ (Nat.le_refl _)
  have g7_ : Keep w6 w7 := Keep.next (by go_grown) k7
  have K7 := Keep.next K6 g7_
  have s7_ := g7_.size
  have X_ := (BoxM.mk B0a B0b B0l).keep g7_
  clear B0a B0b B0l; obtain ⟨B0a, B0b, B0l⟩ := X_
  have X_ := (BoxM.mk Y0a Y0b Y0l).keep g7_
  clear Y0a Y0b Y0l; obtain ⟨Y0a, Y0b, Y0l⟩ := X_
  replace t0 := t0.keep g7_ (Nat.le_refl _)
  replace t0l := t0l.keep g7_ (Nat.le_refl _)
  replace x0 := x0.keep g7_ (Nat.le_refl _)
  replace x0l := x0l.keep g7_ (Nat.le_refl _)
  go_wp2
  go_ret
  exact ⟨rfl, Keep.next K7 (by go_grown)⟩

theorem own : ownKnob Try.prog.godebug = none := by kernel_rfl
theorem laidOut : laidOutB Try.prog = true := by kernel_rfl
set_option maxRecDepth 100000 in
theorem lifted (os : Os) (started : os.Started) (H : Type) (enc : TypeId × Value → H) :
    ReturnsInHanded {} Try.checked os 8 .any (Rows.fnExactValidDeskSpec.pre6 enc Try.prog Try.f8 Rows.fnExactValidDeskRow.domain false) (Rows.fnExactValidDeskSpec.post enc Try.prog Try.f8 false true false false) := by
  refine returnsInHanded_of_change (C := Try.checked) own started (by kernel_rfl) Try.func8
    (ChangeSpec.witness6 (enc := enc) (C := Try.checked) false ⟨#[], #[.agg #[.slice none 0 0, .slice none 0 0]], []⟩ 8 (by kernel_rfl) (by kernel_rfl) (by kernel_rfl) (by kernel_rfl)) ?_
  intro W base args ds gs before hval0 hW hcnd _
  have hval : ∀ (j : Nat) t v, Try.f8.params[j]? = some t → args[j]? = some v → Value.okWide Try.prog W .any base t v := hval0
  have hW' := hW
  obtain ⟨p, q, hA0, hV, rfl, hfz, hnd⟩ := hW
  have hA : DataW.TrodAll enc Try.prog W 0 (fun _ => true) true Try.f8.params.toList args.toList ds p := hA0
  rw [Try.params8] at hA hval
  obtain ⟨v0, vs0, d0, ds0, p0, q0, hargs, rfl, rfl, h0, r0⟩ := trodAll_cons hA
  obtain ⟨rfl, rfl, rfl⟩ := trodAll_nil r0
  obtain rfl : args = #[v0] := by cases args; simp_all
  obtain ⟨rfl, rfl⟩ := trodVars_none hV
  have k0 := h0
  have lt0 : ∀ x ∈ p0, x.block < W.heap.size := by obtain ⟨m, hm⟩ := k0; exact DataW.trod_lt m _ _ _ hm
  obtain ⟨a0, cap0, z0, al0, cl0, zl0, rfl, w0, wl0⟩ := desk_open Try.underlying67 (by kernel_rfl) (by kernel_rfl) Try.underlying64 Try.underlying9 (by kernel_rfl) Try.underlying65 Try.underlying51 (by kernel_rfl) rfl rfl (by kernel_rfl) (by kernel_rfl) Try.underlying2 Try.underlying22 Try.underlying2 (by kernel_rfl) (hval 0 67 v0 rfl rfl) h0
  clear hA0 hval0
  refine (walk W a0 cap0 z0 w0 al0 cl0 zl0 wl0).mono fun e W' ⟨he, bel⟩ => ?_
  subst he
  exact ⟨_, rfl, _, _, _, [], _, [], hW', trodAll_mk1 (shut_bool Try.underlying4 _), (trodAll_cons_mk (Below.trod laidOut (by kernel_rfl) (of_decide_eq_true (by kernel_rfl)) k0 bel lt0) trodAll_mk0), rfl, bel.frame _, fun h => by cases h⟩
theorem over : Rows.fnExactValidDeskRow.holds Try.pinned (OpenSpec.ofChange Rows.fnExactValidDeskSpec) :=
  OpenClaim.holds_of_wide 8 Try.f8 rfl rfl rfl rfl rfl rfl rfl ⟨rfl, rfl, rfl, rfl, rfl⟩ rfl rfl rfl rfl rfl (by kernel_rfl) Try.func8 (by kernel_rfl)
    (of_decide_eq_true (by kernel_rfl)) (by unfold Func.isWrapper; first | (rw [if_pos (by decide +kernel)]; kernel_rfl) | (rw [if_neg (by decide +kernel)]; exact ⟨rfl, rfl⟩))
    (fun os started H enc _ => lifted os started H enc)
/-- THE STATEMENT. -/
theorem proved : Rows.FnExactValidDeskSaid := over
end Go.Proofs.Ytpdcmhnaedhkdaa.fnExactValidDesk
