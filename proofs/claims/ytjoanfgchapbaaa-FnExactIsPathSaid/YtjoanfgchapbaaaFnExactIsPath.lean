/- IsPath answers as its model, at every picture and every slice of slices of int64; it writes nothing of its arguments. -/
import Derived.Test.YtjoanfgchapbaaaPthI
import Derived.Test.YtjoanfgchapbaaaPthS
import Derived.Test.YtjoanfgchapbaaaPics
import Derived.Deep.RegionHeld3
namespace Go.Proofs.Ytjoanfgchapbaaa.fnExactIsPath
open Go.ChangeShapes Go.WideShapes Go.ChangeAt Go.RowKit Go.Deep
open Go.ChangeMaps (open_string shut_string)
set_option linter.unusedVariables false

set_option maxHeartbeats 1600000 in
set_option maxRecDepth 100000 in
theorem walk (w : World) (a0 : Option Addr) (cap0 : Nat) (z0 : List (List Int)) (af0 : Intss w a0 z0) (a1 : Option Addr) (cap1 : Nat) (z1 : List (List Int)) (af1 : Intss w a1 z1) :
    Calls Try.prog 12 #[.agg #[.slice a0 z0.length cap0], .slice a1 z1.length cap1] w fun e w' => e = .returned (.bool true) ∧ Below w.heap.size w w' := by
  have K0 : Keep w w := Below.refl _ _
  have len0_ := af0.small
  have len1_ := af1.small
  by_cases big0_ : (1048576 : Int) < ((z0.length : Int) + (tot z0 : Int))
  · -- too long: nothing is asked
    go_enter Try.func12, Try.ntmps12
    go_wp2_with fail
    refine (szPicture_ex a0 cap0 z0 (1048576) _ ((af0.keep K0 (Nat.le_refl _)).keep (B := _) (by go_grown) (Nat.le_refl _)) (by omega) (by omega)).mono ?_
    rw [if_pos (by omega)]
    rintro e w1 ⟨rfl, k1⟩
    have g1_ : Keep w w1 := Keep.next (by go_grown) k1
    have K1 := Keep.next K0 g1_
    have s1_ := g1_.size
    have X_ : BoxP w1 (w.heap.size) (a0) (z0.length) (cap0) := BoxP.keep ⟨by simp, by simp, by first | (simp; done) | (simp; omega)⟩ k1
    obtain ⟨B0a, B0b, B0l⟩ := X_
    have B0s := B0l
    go_wp2
    go_ret
    exact ⟨rfl, Keep.next K1 (by go_grown)⟩
  have fit0_ : 0 ≤ (1048576 : Int) - ((z0.length : Int) + (tot z0 : Int)) := by omega
  clear big0_
  by_cases big1_ : (1048576 : Int) - (z0.length : Int) - (tot z0 : Int) < ((z1.length : Int) + (tot z1 : Int))
  · -- too long: nothing is asked
    go_enter Try.func12, Try.ntmps12
    go_wp2_with fail
    refine (szPicture_ex a0 cap0 z0 (1048576) _ ((af0.keep K0 (Nat.le_refl _)).keep (B := _) (by go_grown) (Nat.le_refl _)) (by omega) (by omega)).mono ?_
    rw [if_neg (by omega)]
    rintro e w1 ⟨rfl, k1⟩
    have g1_ : Keep w w1 := Keep.next (by go_grown) k1
    have K1 := Keep.next K0 g1_
    have s1_ := g1_.size
    have X_ : BoxP w1 (w.heap.size) (a0) (z0.length) (cap0) := BoxP.keep ⟨by simp, by simp, by first | (simp; done) | (simp; omega)⟩ k1
    obtain ⟨B0a, B0b, B0l⟩ := X_
    have B0s := B0l
    go_wp2_with fail
    refine (szInt64SS_ex a1 cap1 z1 (1048576 - (z0.length : Int) - (tot z0 : Int)) _ ((af1.keep K1 (Nat.le_refl _)).keep (B := _) (by go_grown) (Nat.le_refl _)) (by omega) (by omega)).mono ?_
    rw [if_pos (by omega)]
    rintro e w2 ⟨rfl, k2⟩
    have g2_ : Keep w1 w2 := Keep.next (by go_grown) k2
    have K2 := Keep.next K1 g2_
    have s2_ := g2_.size
    have X_ := (BoxP.mk B0a B0b B0l).keep g2_
    clear B0a B0b B0l; obtain ⟨B0a, B0b, B0l⟩ := X_
    go_wp2
    go_ret
    exact ⟨rfl, Keep.next K2 (by go_grown)⟩
  have fit1_ : 0 ≤ (1048576 : Int) - (z0.length : Int) - (tot z0 : Int) - ((z1.length : Int) + (tot z1 : Int)) := by omega
  clear big1_
  obtain ⟨r0, H1, H2⟩ : ∃ (r0 : Bool), Hid (∀ (W : World) (p0 : Option Addr) (c0 : Nat) (p1 : Option Addr) (c1 : Nat), Intss W p0 z0 → Intss W p1 z1 → Calls Try.prog 47 #[picV p0 z0.length c0, .slice p1 z1.length c1] W fun e w' => e = .returned (.bool r0) ∧ Keep W w') ∧ Hid (∀ (W : World) (p0 : Option Addr) (c0 : Nat) (p1 : Option Addr) (c1 : Nat), Intss W p0 z0 → Intss W p1 z1 → Calls Try.prog 48 #[picV p0 z0.length c0, .slice p1 z1.length c1] W fun e w' => e = .returned (.bool r0) ∧ Keep W w') :=
    ⟨_, Lib.hid (fun W p0 c0 p1 c1 h0 h1 => specIsPath_any p0 c0 z0 p1 c1 z1 W h0 h1), Lib.hid (fun W p0 c0 p1 c1 h0 h1 => IsPath_any p0 c0 z0 p1 c1 z1 W h0 h1)⟩
  go_enter Try.func12, Try.ntmps12
  go_wp2_with fail
  refine (szPicture_ex a0 cap0 z0 (1048576) _ ((af0.keep K0 (Nat.le_refl _)).keep (B := _) (by go_grown) (Nat.le_refl _)) (by omega) (by omega)).mono ?_
  rw [if_neg (by omega)]
  rintro e w1 ⟨rfl, k1⟩
  have g1_ : Keep w w1 := Keep.next (by go_grown) k1
  have K1 := Keep.next K0 g1_
  have s1_ := g1_.size
  have X_ : BoxP w1 (w.heap.size) (a0) (z0.length) (cap0) := BoxP.keep ⟨by simp, by simp, by first | (simp; done) | (simp; omega)⟩ k1
  obtain ⟨B0a, B0b, B0l⟩ := X_
  have B0s := B0l
  go_wp2_with fail
  refine (szInt64SS_ex a1 cap1 z1 (1048576 - (z0.length : Int) - (tot z0 : Int)) _ ((af1.keep K1 (Nat.le_refl _)).keep (B := _) (by go_grown) (Nat.le_refl _)) (by omega) (by omega)).mono ?_
  rw [if_neg (by omega)]
  rintro e w2 ⟨rfl, k2⟩
  have g2_ : Keep w1 w2 := Keep.next (by go_grown) k2
  have K2 := Keep.next K1 g2_
  have s2_ := g2_.size
  have X_ := (BoxP.mk B0a B0b B0l).keep g2_
  clear B0a B0b B0l; obtain ⟨B0a, B0b, B0l⟩ := X_
  go_wp2_with fail
  refine (toPicture_ex a0 cap0 z0 _ ((af0.keep K2 (Nat.le_refl _)).keep (B := _) (by go_grown) (Nat.le_refl _)) (by omega) (by omega)).mono ?_
  rintro e w3 ⟨t0b, t0g, rfl, t0o, k3⟩
  have t0 : MineSS w3 (w2.heap.size) w3.heap.size _ _ _ := MineSS.new (by go_size) t0o
  clear t0o
  have g3_ : Keep w2 w3 := Keep.next (by go_grown) k3
  have K3 := Keep.next K2 g3_
  have s3_ := g3_.size
  have X_ := (BoxP.mk B0a B0b B0l).keep g3_
  clear B0a B0b B0l; obtain ⟨B0a, B0b, B0l⟩ := X_
  go_wp2_with fail
  refine (toInt64SS_ex a1 cap1 z1 _ ((af1.keep K3 (Nat.le_refl _)).keep (B := _) (by go_grown) (Nat.le_refl _)) (by omega) (by omega)).mono ?_
  rintro e w4 ⟨t1b, t1g, rfl, t1o, k4⟩
  have t1 : MineSS w4 (w3.heap.size) w4.heap.size _ _ _ := MineSS.new (by go_size) t1o
  clear t1o
  have g4_ : Keep w3 w4 := Keep.next (by go_grown) k4
  have K4 := Keep.next K3 g4_
  have s4_ := g4_.size
  have X_ := (BoxP.mk B0a B0b B0l).keep g4_
  clear B0a B0b B0l; obtain ⟨B0a, B0b, B0l⟩ := X_
  replace t0 := t0.keep g4_
  go_wp2_with fail
  refine (H1.out _ (some ⟨t0b, 0, none⟩) z0.length (some ⟨t1b, 0, none⟩) z1.length (t0.keep (by go_grown)).ints (t1.keep (by go_grown)).ints).mono ?_
  rintro e w5 ⟨rfl, k5⟩
  have g5_ : Keep w4 w5 := Keep.next (by go_grown) k5
  have K5 := Keep.next K4 g5_
  have s5_ := g5_.size
  have X_ := (BoxP.mk B0a B0b B0l).keep g5_
  clear B0a B0b B0l; obtain ⟨B0a, B0b, B0l⟩ := X_
  replace t0 := t0.keep g5_
  replace t1 := t1.keep g5_
  go_wp2_with fail
  refine (toPicture_ex a0 cap0 z0 _ ((af0.keep K5 (Nat.le_refl _)).keep (B := _) (by go_grown) (Nat.le_refl _)) (by omega) (by omega)).mono ?_
  rintro e w6 ⟨x0b, x0g, rfl, x0o, k6⟩
  have x0 : MineSS w6 (w5.heap.size) w6.heap.size _ _ _ := MineSS.new (by go_size) x0o
  clear x0o
  have g6_ : Keep w5 w6 := Keep.next (by go_grown) k6
  have K6 := Keep.next K5 g6_
  have s6_ := g6_.size
  have X_ := (BoxP.mk B0a B0b B0l).keep g6_
  clear B0a B0b B0l; obtain ⟨B0a, B0b, B0l⟩ := X_
  replace t0 := t0.keep g6_
  replace t1 := t1.keep g6_
  go_wp2_with fail
  refine (toInt64SS_ex a1 cap1 z1 _ ((af1.keep K6 (Nat.le_refl _)).keep (B := _) (by go_grown) (Nat.le_refl _)) (by omega) (by omega)).mono ?_
  rintro e w7 ⟨x1b, x1g, rfl, x1o, k7⟩
  have x1 : MineSS w7 (w6.heap.size + 1) w7.heap.size _ _ _ := MineSS.new (by go_size) x1o
  clear x1o
  have g7_ : Keep w6 w7 := Keep.next (by go_grown) k7
  have K7 := Keep.next K6 g7_
  have s7_ := g7_.size
  have X_ := (BoxP.mk B0a B0b B0l).keep g7_
  clear B0a B0b B0l; obtain ⟨B0a, B0b, B0l⟩ := X_
  have X_ : BoxP w7 (w6.heap.size) ((some ⟨x0b, 0, none⟩)) (z0.length) (z0.length) := BoxP.keep ⟨by simp, by simp, by first | (simp; done) | (simp; omega)⟩ k7
  obtain ⟨Y0a, Y0b, Y0l⟩ := X_
  have Y0s := Y0l
  replace t0 := t0.keep g7_
  replace t1 := t1.keep g7_
  replace x0 := x0.keep g7_
  go_wp2_with fail
  refine (H2.out _ (some ⟨x0b, 0, none⟩) z0.length (some ⟨x1b, 0, none⟩) z1.length (x0.keep (by go_grown)).ints (x1.keep (by go_grown)).ints).mono ?_
  rintro e w8 ⟨rfl, k8⟩
  have g8_ : Keep w7 w8 := Keep.next (by go_grown) k8
  have K8 := Keep.next K7 g8_
  have s8_ := g8_.size
  have X_ := (BoxP.mk B0a B0b B0l).keep g8_
  clear B0a B0b B0l; obtain ⟨B0a, B0b, B0l⟩ := X_
  have X_ := (BoxP.mk Y0a Y0b Y0l).keep g8_
  clear Y0a Y0b Y0l; obtain ⟨Y0a, Y0b, Y0l⟩ := X_
  replace t0 := t0.keep g8_
  replace t1 := t1.keep g8_
  replace x0 := x0.keep g8_
  replace x1 := x1.keep g8_
  have HS9 : Hid (∀ w', Keep w8 w' → (w'.cell? ⟨w.heap.size, 0, none⟩ = some (.slice a0 z0.length cap0) ∧ w'.cell? ⟨w.heap.size, 0, none⟩ = some (.slice a0 z0.length cap0) ∧ w'.cell? ⟨w6.heap.size, 0, none⟩ = some (.slice (some ⟨x0b, 0, none⟩) z0.length z0.length) ∧ w'.cell? ⟨w6.heap.size, 0, none⟩ = some (.slice (some ⟨x0b, 0, none⟩) z0.length z0.length)) ∧ Keep w8 w') := Lib.hid (fun w' k => ⟨⟨((BoxP.mk B0a B0b B0l).keep k).c0, ((BoxP.mk B0a B0b B0l).keep k).c1, ((BoxP.mk Y0a Y0b Y0l).keep k).c0, ((BoxP.mk Y0a Y0b Y0l).keep k).c1⟩, k⟩)
  go_wp2_with fail
  go_region_held3 (fun w' => (w'.cell? ⟨w.heap.size, 0, none⟩ = some (.slice a0 z0.length cap0) ∧ w'.cell? ⟨w.heap.size, 0, none⟩ = some (.slice a0 z0.length cap0) ∧ w'.cell? ⟨w6.heap.size, 0, none⟩ = some (.slice (some ⟨x0b, 0, none⟩) z0.length z0.length) ∧ w'.cell? ⟨w6.heap.size, 0, none⟩ = some (.slice (some ⟨x0b, 0, none⟩) z0.length z0.length)) ∧ Keep w8 w')
    (first | exact HS9.out _ (Keep.next (Keep.next (by go_grown) k9) k10) | exact HS9.out _ (Keep.next (by go_grown) k9) | exact HS9.out _ (by go_grown))
    (first | (go_at_call 17; refine (toPicture_ex a0 cap0 z0 _ ((af0.keep K8 (Nat.le_refl _)).keep (B := _) (by go_grown) (Nat.le_refl _)) (by omega) (by omega)).mono ?_; rintro e w9 ⟨y0b, y0g, rfl, y0o, k9⟩) | (go_at_call 19; refine (eqPicture_same _ _ _ _ z0 _ (((x0.keep (by go_grown)).keep k9).ints.keep (B := _) (by go_grown) (Nat.le_refl _)) (y0o.2.ints.keep (B := _) (by go_grown) (Nat.le_refl _))).mono ?_; rintro e w10 ⟨rfl, k10⟩))
  have g9_ : Keep w8 w9 := Keep.next (by go_grown) k9
  have K9 := Keep.next K8 g9_
  have s9_ := g9_.size
  have X_ := (BoxP.mk B0a B0b B0l).keep g9_
  clear B0a B0b B0l; obtain ⟨B0a, B0b, B0l⟩ := X_
  have X_ := (BoxP.mk Y0a Y0b Y0l).keep g9_
  clear Y0a Y0b Y0l; obtain ⟨Y0a, Y0b, Y0l⟩ := X_
  replace t0 := t0.keep g9_
  replace t1 := t1.keep g9_
  replace x0 := x0.keep g9_
  replace x1 := x1.keep g9_
  have g10_ : Keep w9 w10 := Keep.next (by go_grown) k10
  have K10 := Keep.next K9 g10_
  have s10_ := g10_.size
  have X_ := (BoxP.mk B0a B0b B0l).keep g10_
  clear B0a B0b B0l; obtain ⟨B0a, B0b, B0l⟩ := X_
  have X_ := (BoxP.mk Y0a Y0b Y0l).keep g10_
  clear Y0a Y0b Y0l; obtain ⟨Y0a, Y0b, Y0l⟩ := X_
  replace t0 := t0.keep g10_
  replace t1 := t1.keep g10_
  replace x0 := x0.keep g10_
  replace x1 := x1.keep g10_
  go_wp2_with fail
  refine (toInt64SS_ex a1 cap1 z1 _ ((af1.keep K10 (Nat.le_refl _)).keep (B := _) (by go_grown) (Nat.le_refl _)) (by omega) (by omega)).mono ?_
  rintro e w11 ⟨y1b, y1g, rfl, y1o, k11⟩
  have y1 : MineSS w11 (w10.heap.size) w11.heap.size _ _ _ := MineSS.new (by go_size) y1o
  clear y1o
  have g11_ : Keep w10 w11 := Keep.next (by go_grown) k11
  have K11 := Keep.next K10 g11_
  have s11_ := g11_.size
  have X_ := (BoxP.mk B0a B0b B0l).keep g11_
  clear B0a B0b B0l; obtain ⟨B0a, B0b, B0l⟩ := X_
  have X_ := (BoxP.mk Y0a Y0b Y0l).keep g11_
  clear Y0a Y0b Y0l; obtain ⟨Y0a, Y0b, Y0l⟩ := X_
  replace t0 := t0.keep g11_
  replace t1 := t1.keep g11_
  replace x0 := x0.keep g11_
  replace x1 := x1.keep g11_
  go_wp2_with fail
  refine (eqInt64SS_same _ _ _ _ z1 _ (x1.keep (by go_grown)).ints (y1.keep (by go_grown)).ints).mono ?_
  rintro e w12 ⟨rfl, k12⟩
  have g12_ : Keep w11 w12 := Keep.next (by go_grown) k12
  have K12 := Keep.next K11 g12_
  have s12_ := g12_.size
  have X_ := (BoxP.mk B0a B0b B0l).keep g12_
  clear B0a B0b B0l; obtain ⟨B0a, B0b, B0l⟩ := X_
  have X_ := (BoxP.mk Y0a Y0b Y0l).keep g12_
  clear Y0a Y0b Y0l; obtain ⟨Y0a, Y0b, Y0l⟩ := X_
  replace t0 := t0.keep g12_
  replace t1 := t1.keep g12_
  replace x0 := x0.keep g12_
  replace x1 := x1.keep g12_
  replace y1 := y1.keep g12_
  go_wp2
  go_ret
  exact ⟨rfl, Keep.next K12 (by go_grown)⟩


theorem own : ownKnob Try.prog.godebug = none := by kernel_rfl
theorem laidOut : laidOutB Try.prog = true := by kernel_rfl
set_option maxRecDepth 100000 in
theorem lifted (os : Os) (started : os.Started) (H : Type) (enc : TypeId × Value → H) :
    ReturnsInHanded {} Try.checked os 12 .any (Rows.fnExactIsPathSpec.pre6 enc Try.prog Try.f12 Rows.fnExactIsPathRow.domain false) (Rows.fnExactIsPathSpec.post enc Try.prog Try.f12 false true false false) := by
  refine returnsInHanded_of_change (C := Try.checked) own started (by kernel_rfl) Try.func12
    (ChangeSpec.witness6 (enc := enc) (C := Try.checked) false ⟨#[], #[.agg #[.slice none 0 0], .slice none 0 0], []⟩ 8 (by kernel_rfl) (by kernel_rfl) (by kernel_rfl) (by kernel_rfl)) ?_
  intro W base args ds gs before hval0 hW hcnd _
  have hval : ∀ (j : Nat) t v, Try.f12.params[j]? = some t → args[j]? = some v → Value.okWide Try.prog W .any base t v := hval0
  have hW' := hW
  obtain ⟨p, q, hA0, hV, rfl, hfz, hnd⟩ := hW
  have hA : DataW.TrodAll enc Try.prog W 0 (fun _ => true) true Try.f12.params.toList args.toList ds p := hA0
  rw [Try.params12] at hA hval
  obtain ⟨v0, vs0, d0, ds0, p0, q0, hargs, rfl, rfl, h0, r0⟩ := trodAll_cons hA
  obtain ⟨v1, vs1, d1, ds1, p1, q1, rfl, rfl, rfl, h1, r1⟩ := trodAll_cons r0
  obtain ⟨rfl, rfl, rfl⟩ := trodAll_nil r1
  obtain rfl : args = #[v0, v1] := by cases args; simp_all
  obtain ⟨rfl, rfl⟩ := trodVars_none hV
  have k0 := h0
  have lt0 : ∀ x ∈ p0, x.block < W.heap.size := by obtain ⟨m, hm⟩ := k0; exact DataW.trod_lt m _ _ _ hm
  obtain ⟨a0, cap0, z0, rfl, w0⟩ := pic_open Try.underlying24 (by kernel_rfl) (by kernel_rfl) Try.underlying22 Try.underlying69 Try.underlying2 (by kernel_rfl) (by kernel_rfl) (hval 0 24 v0 rfl rfl) h0
  have k1 := h1
  have lt1 : ∀ x ∈ p1, x.block < W.heap.size := by obtain ⟨m, hm⟩ := k1; exact DataW.trod_lt m _ _ _ hm
  obtain ⟨a1, len1, cap1, rfl⟩ := okWide_slice Try.underlying22 (hval 1 22 v1 rfl rfl)
  obtain ⟨z1, e1, w1⟩ := intss_open Try.underlying22 Try.underlying69 Try.underlying2 (by kernel_rfl) (by kernel_rfl) h1
  subst e1
  clear hA0 hval0
  refine (walk W a0 cap0 z0 w0 a1 cap1 z1 w1).mono fun e W' ⟨he, bel⟩ => ?_
  subst he
  exact ⟨_, rfl, _, _, _, [], _, [], hW', trodAll_mk1 (shut_bool Try.underlying4 _), (trodAll_cons_mk (Below.trod laidOut (by kernel_rfl) (of_decide_eq_true (by kernel_rfl)) k0 bel lt0) (trodAll_cons_mk (Below.trod laidOut (by kernel_rfl) (of_decide_eq_true (by kernel_rfl)) k1 bel lt1) trodAll_mk0)), rfl, bel.frame _, fun h => by cases h⟩
theorem over : Rows.fnExactIsPathRow.holds Try.pinned (OpenSpec.ofChange Rows.fnExactIsPathSpec) :=
  OpenClaim.holds_of_wide 12 Try.f12 rfl rfl rfl rfl rfl rfl rfl ⟨rfl, rfl, rfl, rfl, rfl⟩ rfl rfl rfl rfl rfl (by kernel_rfl) Try.func12 (by kernel_rfl)
    (of_decide_eq_true (by kernel_rfl)) (by unfold Func.isWrapper; first | (rw [if_pos (by decide +kernel)]; kernel_rfl) | (rw [if_neg (by decide +kernel)]; exact ⟨rfl, rfl⟩))
    (fun os started H enc _ => lifted os started H enc)
/-- THE STATEMENT. -/
theorem proved : Rows.FnExactIsPathSaid := over
end Go.Proofs.Ytjoanfgchapbaaa.fnExactIsPath
