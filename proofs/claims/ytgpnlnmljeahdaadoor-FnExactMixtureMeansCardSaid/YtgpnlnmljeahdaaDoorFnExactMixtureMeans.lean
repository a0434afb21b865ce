/- MixtureMeans answers as its model, at every struct of a slice of int64 and a slice of slices of int64; it writes into none of them; the tables of the library that it reads are tied to the program's text. -/
import Derived.Test.YtgpnlnmljeahdaaDoorCards
import Derived.Test.YtgpnlnmljeahdaaDoorTie
import Derived.Test.YtgpnlnmljeahdaaDoorMean6
import Derived.Test.YtgpnlnmljeahdaaDoorMeanJ
import Derived.Test.YtgpnlnmljeahdaaDoorMixM
import Derived.Deep.RegionHeld3
import Derived.Deep.DeepHandedRow
namespace Go.Proofs.YtgpnlnmljeahdaaDoor.fnExactMixtureMeans
open Go.ChangeShapes Go.WideShapes Go.ChangeAt Go.RowKit Go.Deep
open Go.ChangeMaps (open_string shut_string)
set_option linter.unusedVariables false

theorem laidMet_tail {P : Program} {x : String × DataW Unit} {rest : List (String × DataW Unit)} {W : World} (h : laidMet P (x :: rest) W) : laidMet P rest W := by
  obtain ⟨ps, ⟨g', t', cs, fuel, p, q, hg', ht', hvar, hd, hr, he⟩, hnd, hall⟩ := h
  subst he
  exact ⟨q, hr, (List.nodup_append.1 hnd).2.1, fun b off hb => hall b off (List.mem_append_right _ hb)⟩
theorem table {W : World} (h : laidMetH Tryd.prog Rows.fnExactMixtureMeansRow.laid W) : Pows W := by
  have h3 : laidMet Tryd.prog [("internal/strconv.uint64pow10", Rows.laid_internal_strconv_uint64pow10)] W := laidMet_tail (laidMet_tail h)
  exact Lib.tabIs_of_head (rest := []) gPowJ (t := 183) (e := 114) (n := 20) (by kernel_rfl) (by kernel_rfl) (by kernel_rfl) (by kernel_rfl) (by kernel_rfl) h3

set_option maxHeartbeats 1600000 in
set_option maxRecDepth 100000 in
theorem walk (w : World) (hL : laidMetH Tryd.prog Rows.fnExactMixtureMeansRow.laid w) (a0 : Option Addr) (cap0 : Nat) (z0 : List Int) (af0 : Ints w a0 z0) (al0 : Option Addr) (cl0 : Nat) (zl0 : List (List Int)) (afl0 : Intss w al0 zl0) :
    Calls Tryd.prog 9 #[.agg #[.slice a0 z0.length cap0, .slice al0 zl0.length cl0]] w fun e w' => e = .returned (.bool true) ∧ Below w.heap.size w w' := by
  have HP_ := Lib.hid (table hL)
  clear hL
  have K0 : Keep w w := Below.refl _ _
  have len0_ := af0.small
  have lenl0_ := afl0.small
  by_cases big0_ : (1048576 : Int) < ((z0.length : Int) + (zl0.length : Int) + (tot zl0 : Int))
  · -- too long: nothing is asked
    go_enter Tryd.func9, Tryd.ntmps9
    go_wp2_with fail
    refine (szMixture_ex a0 cap0 z0 al0 cl0 zl0 (1048576) _ ((af0.keep K0 (Nat.le_refl _)).keep (B := _) (by go_grown) (Nat.le_refl _)) ((afl0.keep K0 (Nat.le_refl _)).keep (B := _) (by go_grown) (Nat.le_refl _)) (by omega) (by omega)).mono ?_
    rw [if_pos (by omega)]
    rintro e w1 ⟨rfl, k1⟩
    have g1_ : Keep w w1 := Keep.next (by go_grown) k1
    have K1 := Keep.next K0 g1_
    have s1_ := g1_.size
    have X_ : BoxM w1 (w.heap.size) (a0) (z0.length) (cap0) (al0) (zl0.length) (cl0) := BoxM.keep ⟨by simp, by simp, by first | (simp; done) | (simp; omega)⟩ k1
    obtain ⟨B0a, B0b, B0l⟩ := X_
    have B0s := B0l
    go_wp2
    go_ret
    exact ⟨rfl, Keep.next K1 (by go_grown)⟩
  have fit0_ : 0 ≤ (1048576 : Int) - ((z0.length : Int) + (zl0.length : Int) + (tot zl0 : Int)) := by omega
  clear big0_
  obtain ⟨rg0, r0, r1, H1, H2⟩ : ∃ (rg0 : Int) (r0 : List Int) (r1 : Bool), Hid (∀ (W : World) (p0 : Option Addr) (c0 : Nat) (pl0 : Option Addr) (cm0 : Nat), Ints W p0 z0 → Intss W pl0 zl0 → Calls Tryd.prog 31 #[mixV p0 z0.length c0 pl0 zl0.length cm0] W fun e w' => ∃ rd0 rc0, e = .returned (.tuple #[valV rg0 rd0 r0.length rc0, .bool r1]) ∧ Own w' W.heap.size rd0 rc0 r0 ∧ Keep W w') ∧ Hid (∀ (W : World) (p0 : Option Addr) (c0 : Nat) (pl0 : Option Addr) (cm0 : Nat), Ints W p0 z0 → Intss W pl0 zl0 → Pows W → Calls Tryd.prog 30 #[mixV p0 z0.length c0 pl0 zl0.length cm0] W fun e w' => ∃ rd0 rc0, e = .returned (.tuple #[valV rg0 rd0 r0.length rc0, .bool r1]) ∧ Own w' W.heap.size rd0 rc0 r0 ∧ Keep W w') :=
    ⟨_, _, _, Lib.hid (fun W p0 c0 pl0 cm0 h0 hl0 => specMixtureMeans_any p0 c0 z0 pl0 cm0 zl0 W h0 hl0), Lib.hid (fun W p0 c0 pl0 cm0 h0 hl0 hp_ => MixtureMeans_any p0 c0 z0 pl0 cm0 zl0 W h0 hl0 hp_)⟩
  go_enter Tryd.func9, Tryd.ntmps9
  go_wp2_with fail
  refine (szMixture_ex a0 cap0 z0 al0 cl0 zl0 (1048576) _ ((af0.keep K0 (Nat.le_refl _)).keep (B := _) (by go_grown) (Nat.le_refl _)) ((afl0.keep K0 (Nat.le_refl _)).keep (B := _) (by go_grown) (Nat.le_refl _)) (by omega) (by omega)).mono ?_
  rw [if_neg (by omega)]
  rintro e w1 ⟨rfl, k1⟩
  have g1_ : Keep w w1 := Keep.next (by go_grown) k1
  have K1 := Keep.next K0 g1_
  have s1_ := g1_.size
  have X_ : BoxM w1 (w.heap.size) (a0) (z0.length) (cap0) (al0) (zl0.length) (cl0) := BoxM.keep ⟨by simp, by simp, by first | (simp; done) | (simp; omega)⟩ k1
  obtain ⟨B0a, B0b, B0l⟩ := X_
  have B0s := B0l
  go_wp2_with fail
  refine (toMixture_ex a0 cap0 z0 al0 cl0 zl0 _ ((af0.keep K1 (Nat.le_refl _)).keep (B := _) (by go_grown) (Nat.le_refl _)) ((afl0.keep K1 (Nat.le_refl _)).keep (B := _) (by go_grown) (Nat.le_refl _)) (by omega) (by omega) (by omega)).mono ?_
  rintro e w2 ⟨t0b, t0c, t0g, t0mid, rfl, t0o, t0p, ⟨t0m1, t0m2⟩, k2⟩
  have t0m3 : w1.heap.size ≤ t0mid := Nat.le_trans (by go_size) t0m1
  have t0 : Mine w2 (w1.heap.size) t0mid _ _ _ := Mine.lower (by go_size) t0o
  have t0l : MineSS w2 t0mid w2.heap.size _ _ _ := t0p
  clear t0o t0p t0m1
  have g2_ : Keep w1 w2 := Keep.next (by go_grown) k2
  have K2 := Keep.next K1 g2_
  have s2_ := g2_.size
  have X_ := (BoxM.mk B0a B0b B0l).keep g2_
  clear B0a B0b B0l; obtain ⟨B0a, B0b, B0l⟩ := X_
  go_wp2_with fail
  refine (H1.out _ (some ⟨t0b, 0, none⟩) z0.length (some ⟨t0c, 0, none⟩) zl0.length (t0.keep (by go_grown)).ints (t0l.keep (by go_grown)).ints).mono ?_
  rintro e w3 ⟨sd0, sc0, rfl, so0, k3⟩
  have sm0 : Mine w3 (w2.heap.size) w3.heap.size _ _ _ := Mine.new (by go_size) so0
  clear so0
  have g3_ : Keep w2 w3 := Keep.next (by go_grown) k3
  have K3 := Keep.next K2 g3_
  have s3_ := g3_.size
  have X_ := (BoxM.mk B0a B0b B0l).keep g3_
  clear B0a B0b B0l; obtain ⟨B0a, B0b, B0l⟩ := X_
  replace t0 := t0.keep g3_
  replace t0l := t0l.keep g3_
  go_wp2_with fail
  refine (toMixture_ex a0 cap0 z0 al0 cl0 zl0 _ ((af0.keep K3 (Nat.le_refl _)).keep (B := _) (by go_grown) (Nat.le_refl _)) ((afl0.keep K3 (Nat.le_refl _)).keep (B := _) (by go_grown) (Nat.le_refl _)) (by omega) (by omega) (by omega)).mono ?_
  rintro e w4 ⟨x0b, x0c, x0g, x0mid, rfl, x0o, x0p, ⟨x0m1, x0m2⟩, k4⟩
  have x0m3 : w3.heap.size + 1 ≤ x0mid := Nat.le_trans (by go_size) x0m1
  have x0 : Mine w4 (w3.heap.size + 1) x0mid _ _ _ := Mine.lower (by go_size) x0o
  have x0l : MineSS w4 x0mid w4.heap.size _ _ _ := x0p
  clear x0o x0p x0m1
  have g4_ : Keep w3 w4 := Keep.next (by go_grown) k4
  have K4 := Keep.next K3 g4_
  have s4_ := g4_.size
  have X_ := (BoxM.mk B0a B0b B0l).keep g4_
  clear B0a B0b B0l; obtain ⟨B0a, B0b, B0l⟩ := X_
  have X_ : Box w4 (w3.heap.size) rg0 (sd0) (r0.length) (sc0) := Box.keep ⟨by simp, by simp, by first | (simp; done) | (simp; omega)⟩ k4
  obtain ⟨SB0a, SB0b, SB0l⟩ := X_
  have SB0s := SB0l
  replace t0 := t0.keep g4_
  replace t0l := t0l.keep g4_
  replace sm0 := sm0.keep g4_
  go_wp2_with fail
  refine (H2.out _ (some ⟨x0b, 0, none⟩) z0.length (some ⟨x0c, 0, none⟩) zl0.length (x0.keep (by go_grown)).ints (x0l.keep (by go_grown)).ints (HP_.out.keep (Keep.next K4 (by go_grown)))).mono ?_
  rintro e w5 ⟨gd0, gc0, rfl, go0, k5⟩
  have gm0 : Mine w5 (w4.heap.size + 1) w5.heap.size _ _ _ := Mine.new (by go_size) go0
  clear go0
  have g5_ : Keep w4 w5 := Keep.next (by go_grown) k5
  have K5 := Keep.next K4 g5_
  have s5_ := g5_.size
  have X_ := (BoxM.mk B0a B0b B0l).keep g5_
  clear B0a B0b B0l; obtain ⟨B0a, B0b, B0l⟩ := X_
  have X_ := (Box.mk SB0a SB0b SB0l).keep g5_
  clear SB0a SB0b SB0l; obtain ⟨SB0a, SB0b, SB0l⟩ := X_
  have X_ : BoxM w5 (w4.heap.size) ((some ⟨x0b, 0, none⟩)) (z0.length) (z0.length) ((some ⟨x0c, 0, none⟩)) (zl0.length) (zl0.length) := BoxM.keep ⟨by simp, by simp, by first | (simp; done) | (simp; omega)⟩ k5
  obtain ⟨Y0a, Y0b, Y0l⟩ := X_
  have Y0s := Y0l
  replace t0 := t0.keep g5_
  replace t0l := t0l.keep g5_
  replace sm0 := sm0.keep g5_
  replace x0 := x0.keep g5_
  replace x0l := x0l.keep g5_
  go_wp2_with fail
  refine (eqValues_same rg0 _ _ _ _ r0 _ (gm0.keep (by go_grown)).ints (sm0.keep (by go_grown)).ints).mono ?_
  rintro e w6 ⟨rfl, k6⟩
  have g6_ : Keep w5 w6 := Keep.next (by go_grown) k6
  have K6 := Keep.next K5 g6_
  have s6_ := g6_.size
  have X_ := (BoxM.mk B0a B0b B0l).keep g6_
  clear B0a B0b B0l; obtain ⟨B0a, B0b, B0l⟩ := X_
  have X_ := (Box.mk SB0a SB0b SB0l).keep g6_
  clear SB0a SB0b SB0l; obtain ⟨SB0a, SB0b, SB0l⟩ := X_
  have X_ := (BoxM.mk Y0a Y0b Y0l).keep g6_
  clear Y0a Y0b Y0l; obtain ⟨Y0a, Y0b, Y0l⟩ := X_
  have X_ : Box w6 (w5.heap.size) rg0 (gd0) (r0.length) (gc0) := Box.keep ⟨by simp, by simp, by first | (simp; done) | (simp; omega)⟩ k6
  obtain ⟨GB0a, GB0b, GB0l⟩ := X_
  have GB0s := GB0l
  replace t0 := t0.keep g6_
  replace t0l := t0l.keep g6_
  replace sm0 := sm0.keep g6_
  replace x0 := x0.keep g6_
  replace x0l := x0l.keep g6_
  replace gm0 := gm0.keep g6_
  have HS7 : Hid (∀ w', Keep w6 w' → (w'.cell? ⟨w.heap.size, 0, none⟩ = some (.slice a0 z0.length cap0) ∧ w'.cell? ⟨w.heap.size, 1, none⟩ = some (.slice al0 zl0.length cl0) ∧ w'.cell? ⟨w4.heap.size, 0, none⟩ = some (.slice (some ⟨x0b, 0, none⟩) z0.length z0.length) ∧ w'.cell? ⟨w4.heap.size, 1, none⟩ = some (.slice (some ⟨x0c, 0, none⟩) zl0.length zl0.length)) ∧ Keep w6 w') := Lib.hid (fun w' k => ⟨⟨((BoxM.mk B0a B0b B0l).keep k).c0, ((BoxM.mk B0a B0b B0l).keep k).c1, ((BoxM.mk Y0a Y0b Y0l).keep k).c0, ((BoxM.mk Y0a Y0b Y0l).keep k).c1⟩, k⟩)
  go_wp2_with fail
  go_region_held3 (fun w' => (w'.cell? ⟨w.heap.size, 0, none⟩ = some (.slice a0 z0.length cap0) ∧ w'.cell? ⟨w.heap.size, 1, none⟩ = some (.slice al0 zl0.length cl0) ∧ w'.cell? ⟨w4.heap.size, 0, none⟩ = some (.slice (some ⟨x0b, 0, none⟩) z0.length z0.length) ∧ w'.cell? ⟨w4.heap.size, 1, none⟩ = some (.slice (some ⟨x0c, 0, none⟩) zl0.length zl0.length)) ∧ Keep w6 w')
    (first | exact HS7.out _ (Keep.next (Keep.next (by go_grown) k7) k8) | exact HS7.out _ (Keep.next (by go_grown) k7) | exact HS7.out _ (by go_grown))
    (first | (go_at_call 38; refine (toMixture_ex a0 cap0 z0 al0 cl0 zl0 _ ((af0.keep K6 (Nat.le_refl _)).keep (B := _) (by go_grown) (Nat.le_refl _)) ((afl0.keep K6 (Nat.le_refl _)).keep (B := _) (by go_grown) (Nat.le_refl _)) (by omega) (by omega) (by omega)).mono ?_; rintro e w7 ⟨y0b, y0c, y0g, y0mid, rfl, y0o, y0p, _, k7⟩) | (go_at_call 39; refine (eqMixture_same _ _ _ _ z0 _ _ _ _ zl0 _ (((x0.keep (by go_grown)).keep k7).ints.keep (B := _) (by go_grown) (Nat.le_refl _)) (y0o.ints.keep (B := _) (by go_grown) (Nat.le_refl _)) (((x0l.keep (by go_grown)).keep k7).ints.keep (B := _) (by go_grown) (Nat.le_refl _)) (y0p.ints.keep (B := _) (by go_grown) (Nat.le_refl _))).mono ?_; rintro e w8 ⟨rfl, k8⟩))
  have g7_ : Keep w6 w7 := Keep.next (by go_grown) k7
  have K7 := Keep.next K6 g7_
  have s7_ := g7_.size
  have X_ := (BoxM.mk B0a B0b B0l).keep g7_
  clear B0a B0b B0l; obtain ⟨B0a, B0b, B0l⟩ := X_
  have X_ := (Box.mk SB0a SB0b SB0l).keep g7_
  clear SB0a SB0b SB0l; obtain ⟨SB0a, SB0b, SB0l⟩ := X_
  have X_ := (BoxM.mk Y0a Y0b Y0l).keep g7_
  clear Y0a Y0b Y0l; obtain ⟨Y0a, Y0b, Y0l⟩ := X_
  have X_ := (Box.mk GB0a GB0b GB0l).keep g7_
  clear GB0a GB0b GB0l; obtain ⟨GB0a, GB0b, GB0l⟩ := X_
  replace t0 := t0.keep g7_
  replace t0l := t0l.keep g7_
  replace sm0 := sm0.keep g7_
  replace x0 := x0.keep g7_
  replace x0l := x0l.keep g7_
  replace gm0 := gm0.keep g7_
  have g8_ : Keep w7 w8 := Keep.next (by go_grown) k8
  have K8 := Keep.next K7 g8_
  have s8_ := g8_.size
  have X_ := (BoxM.mk B0a B0b B0l).keep g8_
  clear B0a B0b B0l; obtain ⟨B0a, B0b, B0l⟩ := X_
  have X_ := (Box.mk SB0a SB0b SB0l).keep g8_
  clear SB0a SB0b SB0l; obtain ⟨SB0a, SB0b, SB0l⟩ := X_
  have X_ := (BoxM.mk Y0a Y0b Y0l).keep g8_
  clear Y0a Y0b Y0l; obtain ⟨Y0a, Y0b, Y0l⟩ := X_
  have X_ := (Box.mk GB0a GB0b GB0l).keep g8_
  clear GB0a GB0b GB0l; obtain ⟨GB0a, GB0b, GB0l⟩ := X_
  replace t0 := t0.keep g8_
  replace t0l := t0l.keep g8_
  replace sm0 := sm0.keep g8_
  replace x0 := x0.keep g8_
  replace x0l := x0l.keep g8_
  replace gm0 := gm0.keep g8_
  go_wp2_with fail
  refine (markMixture_ex _ _ _ _ _ _ z0 zl0 (1) _ (x0.keep (by go_grown)) (x0l.keep (by go_grown)) (by first | go_size | (simp; omega) | omega) (by omega) (by omega) (by omega) (by omega)).mono ?_
  rintro e w9 ⟨rfl, ⟨o9, ol9⟩, k9⟩
  have g9_ := (Span.of_keep (w := w8) (by go_grown)).trans k9
  replace x0 : Mine w9 _ _ _ _ _ := ⟨o9, x0.below⟩
  replace x0l := x0l.marked ol9
  have K9 := below_span K8 g9_ (K8).size (by omega)
  have s9_ := g9_.size
  have X_ := (BoxM.mk B0a B0b B0l).span g9_ (by omega)
  clear B0a B0b B0l; obtain ⟨B0a, B0b, B0l⟩ := X_
  have X_ := (Box.mk SB0a SB0b SB0l).span g9_ (by omega)
  clear SB0a SB0b SB0l; obtain ⟨SB0a, SB0b, SB0l⟩ := X_
  have X_ := (BoxM.mk Y0a Y0b Y0l).span g9_ (by omega)
  clear Y0a Y0b Y0l; obtain ⟨Y0a, Y0b, Y0l⟩ := X_
  have X_ := (Box.mk GB0a GB0b GB0l).span g9_ (by omega)
  clear GB0a GB0b GB0l; obtain ⟨GB0a, GB0b, GB0l⟩ := X_
  replace t0 := t0.span g9_ (by omega)
  replace t0l := t0l.span g9_ (by omega)
  replace sm0 := sm0.span g9_ (by omega)
  replace gm0 := gm0.span g9_ (by omega)
  have hk_ : 0 ≤ 1 + (z0.length : Int) + (tot zl0 : Int) := by omega
  go_wp2_with fail
  refine (eqValues_same rg0 _ _ _ _ r0 _ (gm0.keep (by go_grown)).ints (sm0.keep (by go_grown)).ints).mono ?_
  rintro e w10 ⟨rfl, k10⟩
  have g10_ : Keep w9 w10 := Keep.next (by go_grown) k10
  have K10 := Keep.next K9 g10_
  have s10_ := g10_.size
  have X_ := (BoxM.mk B0a B0b B0l).keep g10_
  clear B0a B0b B0l; obtain ⟨B0a, B0b, B0l⟩ := X_
  have X_ := (Box.mk SB0a SB0b SB0l).keep g10_
  clear SB0a SB0b SB0l; obtain ⟨SB0a, SB0b, SB0l⟩ := X_
  have X_ := (BoxM.mk Y0a Y0b Y0l).keep g10_
  clear Y0a Y0b Y0l; obtain ⟨Y0a, Y0b, Y0l⟩ := X_
  have X_ := (Box.mk GB0a GB0b GB0l).keep g10_
  clear GB0a GB0b GB0l; obtain ⟨GB0a, GB0b, GB0l⟩ := X_
  replace t0 := t0.keep g10_
  replace t0l := t0l.keep g10_
  replace sm0 := sm0.keep g10_
  replace x0 := x0.keep g10_
  replace x0l := x0l.keep g10_
  replace gm0 := gm0.keep g10_
  have L0_ := gm0.own.2.1
  go_wp2_with fail
  refine (markValues_any _ rg0 _ _ r0 (1) _ (gm0.keep (by go_grown)).own (by omega) (by omega) (by omega)).mono ?_
  rintro e w11 ⟨rfl, o11, k11⟩
  have g11_ := grownBy_trans (keep_grown (w := w10) (by go_grown) _) k11
  replace gm0 : Mine w11 _ _ _ _ _ := ⟨o11, gm0.below⟩
  have K11 := below_past K10 gm0 g11_ (K10).size (by omega)
  have s11_ := g11_.size
  have X_ := (BoxM.mk B0a B0b B0l).past gm0 g11_ (by omega)
  clear B0a B0b B0l; obtain ⟨B0a, B0b, B0l⟩ := X_
  have X_ := (Box.mk SB0a SB0b SB0l).past gm0 g11_ (by omega)
  clear SB0a SB0b SB0l; obtain ⟨SB0a, SB0b, SB0l⟩ := X_
  have X_ := (BoxM.mk Y0a Y0b Y0l).past gm0 g11_ (by omega)
  clear Y0a Y0b Y0l; obtain ⟨Y0a, Y0b, Y0l⟩ := X_
  have X_ := (Box.mk GB0a GB0b GB0l).past gm0 g11_ (by omega)
  clear GB0a GB0b GB0l; obtain ⟨GB0a, GB0b, GB0l⟩ := X_
  replace t0 := t0.past gm0 g11_ (by omega)
  replace t0l := t0l.past gm0 g11_ (by omega)
  replace sm0 := sm0.past gm0 g11_ (by omega)
  replace x0 := x0.past gm0 g11_ (by omega)
  replace x0l := x0l.past gm0 g11_ (by omega)
  have hm_ : 0 ≤ 1 + (r0.length : Int) := by omega
  go_wp2_with fail
  refine (heldValues_any rg0 _ _ (1) r0.length _ (gm0.keep (by go_grown)).ints (by omega) (by omega) (by omega) (by omega)).mono ?_
  rintro e w12 ⟨rfl, k12⟩
  have g12_ : Keep w11 w12 := Keep.next (by go_grown) k12
  have K12 := Keep.next K11 g12_
  have s12_ := g12_.size
  have X_ := (BoxM.mk B0a B0b B0l).keep g12_
  clear B0a B0b B0l; obtain ⟨B0a, B0b, B0l⟩ := X_
  have X_ := (Box.mk SB0a SB0b SB0l).keep g12_
  clear SB0a SB0b SB0l; obtain ⟨SB0a, SB0b, SB0l⟩ := X_
  have X_ := (BoxM.mk Y0a Y0b Y0l).keep g12_
  clear Y0a Y0b Y0l; obtain ⟨Y0a, Y0b, Y0l⟩ := X_
  have X_ := (Box.mk GB0a GB0b GB0l).keep g12_
  clear GB0a GB0b GB0l; obtain ⟨GB0a, GB0b, GB0l⟩ := X_
  replace t0 := t0.keep g12_
  replace t0l := t0l.keep g12_
  replace sm0 := sm0.keep g12_
  replace x0 := x0.keep g12_
  replace x0l := x0l.keep g12_
  replace gm0 := gm0.keep g12_
  go_wp2_with fail
  refine (toMixture_ex a0 cap0 z0 al0 cl0 zl0 _ ((af0.keep K12 (Nat.le_refl _)).keep (B := _) (by go_grown) (Nat.le_refl _)) ((afl0.keep K12 (Nat.le_refl _)).keep (B := _) (by go_grown) (Nat.le_refl _)) (by omega) (by omega) (by omega)).mono ?_
  rintro e w13 ⟨v0b, v0c, v0g, v0mid, rfl, v0o, v0p, ⟨v0m1, v0m2⟩, k13⟩
  have v0m3 : w12.heap.size ≤ v0mid := Nat.le_trans (by go_size) v0m1
  have v0 : Mine w13 (w12.heap.size) v0mid _ _ _ := Mine.lower (by go_size) v0o
  have v0l : MineSS w13 v0mid w13.heap.size _ _ _ := v0p
  clear v0o v0p v0m1
  have g13_ : Keep w12 w13 := Keep.next (by go_grown) k13
  have K13 := Keep.next K12 g13_
  have s13_ := g13_.size
  have X_ := (BoxM.mk B0a B0b B0l).keep g13_
  clear B0a B0b B0l; obtain ⟨B0a, B0b, B0l⟩ := X_
  have X_ := (Box.mk SB0a SB0b SB0l).keep g13_
  clear SB0a SB0b SB0l; obtain ⟨SB0a, SB0b, SB0l⟩ := X_
  have X_ := (BoxM.mk Y0a Y0b Y0l).keep g13_
  clear Y0a Y0b Y0l; obtain ⟨Y0a, Y0b, Y0l⟩ := X_
  have X_ := (Box.mk GB0a GB0b GB0l).keep g13_
  clear GB0a GB0b GB0l; obtain ⟨GB0a, GB0b, GB0l⟩ := X_
  replace t0 := t0.keep g13_
  replace t0l := t0l.keep g13_
  replace sm0 := sm0.keep g13_
  replace x0 := x0.keep g13_
  replace x0l := x0l.keep g13_
  replace gm0 := gm0.keep g13_
  go_wp2_with fail
  refine (H2.out _ (some ⟨v0b, 0, none⟩) z0.length (some ⟨v0c, 0, none⟩) zl0.length (v0.keep (by go_grown)).ints (v0l.keep (by go_grown)).ints (HP_.out.keep (Keep.next K13 (by go_grown)))).mono ?_
  rintro e w14 ⟨hd0, hc0, rfl, ho0, k14⟩
  have hm0 : Mine w14 (w13.heap.size) w14.heap.size _ _ _ := Mine.new (by go_size) ho0
  clear ho0
  have g14_ : Keep w13 w14 := Keep.next (by go_grown) k14
  have K14 := Keep.next K13 g14_
  have s14_ := g14_.size
  have X_ := (BoxM.mk B0a B0b B0l).keep g14_
  clear B0a B0b B0l; obtain ⟨B0a, B0b, B0l⟩ := X_
  have X_ := (Box.mk SB0a SB0b SB0l).keep g14_
  clear SB0a SB0b SB0l; obtain ⟨SB0a, SB0b, SB0l⟩ := X_
  have X_ := (BoxM.mk Y0a Y0b Y0l).keep g14_
  clear Y0a Y0b Y0l; obtain ⟨Y0a, Y0b, Y0l⟩ := X_
  have X_ := (Box.mk GB0a GB0b GB0l).keep g14_
  clear GB0a GB0b GB0l; obtain ⟨GB0a, GB0b, GB0l⟩ := X_
  replace t0 := t0.keep g14_
  replace t0l := t0l.keep g14_
  replace sm0 := sm0.keep g14_
  replace x0 := x0.keep g14_
  replace x0l := x0l.keep g14_
  replace gm0 := gm0.keep g14_
  replace v0 := v0.keep g14_
  replace v0l := v0l.keep g14_
  go_wp2_with fail
  refine (eqValues_same rg0 _ _ _ _ r0 _ (hm0.keep (by go_grown)).ints (sm0.keep (by go_grown)).ints).mono ?_
  rintro e w15 ⟨rfl, k15⟩
  have g15_ : Keep w14 w15 := Keep.next (by go_grown) k15
  have K15 := Keep.next K14 g15_
  have s15_ := g15_.size
  have X_ := (BoxM.mk B0a B0b B0l).keep g15_
  clear B0a B0b B0l; obtain ⟨B0a, B0b, B0l⟩ := X_
  have X_ := (Box.mk SB0a SB0b SB0l).keep g15_
  clear SB0a SB0b SB0l; obtain ⟨SB0a, SB0b, SB0l⟩ := X_
  have X_ := (BoxM.mk Y0a Y0b Y0l).keep g15_
  clear Y0a Y0b Y0l; obtain ⟨Y0a, Y0b, Y0l⟩ := X_
  have X_ := (Box.mk GB0a GB0b GB0l).keep g15_
  clear GB0a GB0b GB0l; obtain ⟨GB0a, GB0b, GB0l⟩ := X_
  have X_ : Box w15 (w14.heap.size) rg0 (hd0) (r0.length) (hc0) := Box.keep ⟨by simp, by simp, by first | (simp; done) | (simp; omega)⟩ k15
  obtain ⟨HB0a, HB0b, HB0l⟩ := X_
  have HB0s := HB0l
  replace t0 := t0.keep g15_
  replace t0l := t0l.keep g15_
  replace sm0 := sm0.keep g15_
  replace x0 := x0.keep g15_
  replace x0l := x0l.keep g15_
  replace gm0 := gm0.keep g15_
  replace v0 := v0.keep g15_
  replace v0l := v0l.keep g15_
  replace hm0 := hm0.keep g15_
  go_wp2_with fail
  refine (heldValues_any rg0 _ _ (1) r0.length _ (gm0.keep (by go_grown)).ints (by omega) (by omega) (by omega) (by omega)).mono ?_
  rintro e w16 ⟨rfl, k16⟩
  have g16_ : Keep w15 w16 := Keep.next (by go_grown) k16
  have K16 := Keep.next K15 g16_
  have s16_ := g16_.size
  have X_ := (BoxM.mk B0a B0b B0l).keep g16_
  clear B0a B0b B0l; obtain ⟨B0a, B0b, B0l⟩ := X_
  have X_ := (Box.mk SB0a SB0b SB0l).keep g16_
  clear SB0a SB0b SB0l; obtain ⟨SB0a, SB0b, SB0l⟩ := X_
  have X_ := (BoxM.mk Y0a Y0b Y0l).keep g16_
  clear Y0a Y0b Y0l; obtain ⟨Y0a, Y0b, Y0l⟩ := X_
  have X_ := (Box.mk GB0a GB0b GB0l).keep g16_
  clear GB0a GB0b GB0l; obtain ⟨GB0a, GB0b, GB0l⟩ := X_
  have X_ := (Box.mk HB0a HB0b HB0l).keep g16_
  clear HB0a HB0b HB0l; obtain ⟨HB0a, HB0b, HB0l⟩ := X_
  replace t0 := t0.keep g16_
  replace t0l := t0l.keep g16_
  replace sm0 := sm0.keep g16_
  replace x0 := x0.keep g16_
  replace x0l := x0l.keep g16_
  replace gm0 := gm0.keep g16_
  replace v0 := v0.keep g16_
  replace v0l := v0l.keep g16_
  replace hm0 := hm0.keep g16_
  go_wp2
  go_ret
  exact ⟨rfl, Keep.next K16 (by go_grown)⟩


theorem own : ownKnob Tryd.prog.godebug = none := by kernel_rfl
theorem laidOut : laidOutB Tryd.prog = true := by kernel_rfl
set_option maxRecDepth 100000 in
theorem contract (H : Type) (enc : TypeId × Value → H) (W : World) (base : Nat) (args : Array Value) (ds gs : List (DataW H)) (before : List MemPlace)
    (hval0 : ∀ (j : Nat) t v, Tryd.f9.params[j]? = some t → args[j]? = some v → Value.okWide Tryd.prog W .any base t v)
    (hW : DataW.Whole enc Tryd.prog Tryd.f9.params.toList Rows.fnExactMixtureMeansSpec.vars false W args.toList ds gs before) (hL : laidMetH Tryd.prog Rows.fnExactMixtureMeansRow.laid W) :
    Calls Tryd.prog 9 args W fun e W' => ∃ v, e = .returned v ∧ Rows.fnExactMixtureMeansSpec.post enc Tryd.prog Tryd.f9 false true false false W args v W' := by
  have hval : ∀ (j : Nat) t v, Tryd.f9.params[j]? = some t → args[j]? = some v → Value.okWide Tryd.prog W .any base t v := hval0
  have hW' := hW
  obtain ⟨p, q, hA0, hV, rfl, hfz, hnd⟩ := hW
  have hA : DataW.TrodAll enc Tryd.prog W 0 (fun _ => true) true Tryd.f9.params.toList args.toList ds p := hA0
  rw [Tryd.params9] at hA hval
  obtain ⟨v0, vs0, d0, ds0, p0, q0, hargs, rfl, rfl, h0, r0⟩ := trodAll_cons hA
  obtain ⟨rfl, rfl, rfl⟩ := trodAll_nil r0
  obtain rfl : args = #[v0] := by cases args; simp_all
  obtain ⟨rfl, rfl⟩ := trodVars_none hV
  have k0 := h0
  have lt0 : ∀ x ∈ p0, x.block < W.heap.size := by obtain ⟨m, hm⟩ := k0; exact DataW.trod_lt m _ _ _ hm
  obtain ⟨a0, cap0, z0, al0, cl0, zl0, rfl, w0, wl0⟩ := mix_open Tryd.underlying54 (by kernel_rfl) (by kernel_rfl) Tryd.underlying24 Tryd.underlying2 (by kernel_rfl) Tryd.underlying29 Tryd.underlying24 Tryd.underlying2 (by kernel_rfl) (by kernel_rfl) (hval 0 54 v0 rfl rfl) h0
  clear hA0 hval0
  refine (walk W hL a0 cap0 z0 w0 al0 cl0 zl0 wl0).mono fun e W' ⟨he, bel⟩ => ?_
  subst he
  exact ⟨_, rfl, _, _, _, [], _, [], hW', trodAll_mk1 (shut_bool Tryd.underlying4 _), (trodAll_cons_mk (Below.trod laidOut (by kernel_rfl) (of_decide_eq_true (by kernel_rfl)) k0 bel lt0) trodAll_mk0), rfl, bel.frame _, fun h => by cases h⟩
/-- A variable's cells, laid. -/
def layTab (cs : Array Value) : Obj → Obj
  | .cells _ t frozen => .cells cs t frozen
  | o => o
noncomputable def low : Nat := (World.holding Tryd.prog default ⟨#[], #[], []⟩).heap.size
noncomputable def laidWorld (os : Os) : World :=
  { World.holding Tryd.prog os ⟨#[], #[], []⟩ with heap := ((((World.holding Tryd.prog os ⟨#[], #[], []⟩).heap.modify 2 (layTab #[.int .u8 0, .int .u8 1, .int .u8 28, .int .u8 2, .int .u8 29, .int .u8 14, .int .u8 24, .int .u8 3, .int .u8 30, .int .u8 22, .int .u8 20, .int .u8 15, .int .u8 25, .int .u8 17, .int .u8 4, .int .u8 8, .int .u8 31, .int .u8 27, .int .u8 13, .int .u8 23, .int .u8 21, .int .u8 19, .int .u8 16, .int .u8 7, .int .u8 26, .int .u8 12, .int .u8 18, .int .u8 6, .int .u8 11, .int .u8 5, .int .u8 10, .int .u8 9])).modify 3 (layTab #[.int .u8 0, .int .u8 1, .int .u8 56, .int .u8 2, .int .u8 57, .int .u8 49, .int .u8 28, .int .u8 3, .int .u8 61, .int .u8 58, .int .u8 42, .int .u8 50, .int .u8 38, .int .u8 29, .int .u8 17, .int .u8 4, .int .u8 62, .int .u8 47, .int .u8 59, .int .u8 36, .int .u8 45, .int .u8 43, .int .u8 51, .int .u8 22, .int .u8 53, .int .u8 39, .int .u8 33, .int .u8 30, .int .u8 24, .int .u8 18, .int .u8 12, .int .u8 5, .int .u8 63, .int .u8 55, .int .u8 48, .int .u8 27, .int .u8 60, .int .u8 41, .int .u8 37, .int .u8 16, .int .u8 46, .int .u8 35, .int .u8 44, .int .u8 21, .int .u8 52, .int .u8 32, .int .u8 23, .int .u8 11, .int .u8 54, .int .u8 26, .int .u8 40, .int .u8 15, .int .u8 34, .int .u8 20, .int .u8 31, .int .u8 10, .int .u8 25, .int .u8 14, .int .u8 19, .int .u8 9, .int .u8 13, .int .u8 8, .int .u8 7, .int .u8 6])).modify 1 (layTab #[.int .u64 1, .int .u64 10, .int .u64 100, .int .u64 1000, .int .u64 10000, .int .u64 100000, .int .u64 1000000, .int .u64 10000000, .int .u64 100000000, .int .u64 1000000000, .int .u64 10000000000, .int .u64 100000000000, .int .u64 1000000000000, .int .u64 10000000000000, .int .u64 100000000000000, .int .u64 1000000000000000, .int .u64 10000000000000000, .int .u64 100000000000000000, .int .u64 1000000000000000000, .int .u64 10000000000000000000])) }
theorem laid_met (os : Os) : laidMetH Tryd.prog Rows.fnExactMixtureMeansRow.laid ((laidWorld os).forCall (fun _ _ => 0) ⟨#[], #[.agg #[.slice none 0 0, .slice none 0 0]], []⟩).memory :=
  (laidMet_of_run' 8 (by kernel_rfl) (by kernel_rfl) : laidMet Tryd.prog Rows.fnExactMixtureMeansRow.laid _)
theorem reads (os : Os) {H : Type} (enc : TypeId × Value → H) : ∃ places, DataW.whole enc Tryd.prog ((laidWorld os).forCall (fun _ _ => 0) ⟨#[], #[.agg #[.slice none 0 0, .slice none 0 0]], []⟩).memory Tryd.f9.params.toList Rows.fnExactMixtureMeansSpec.vars false (#[.agg #[.slice none 0 0, .slice none 0 0]] : Array Value).toList 8 = some ([.agg [.nil, .nil]], [], places) :=
  ⟨[], by kernel_rfl⟩
set_option maxRecDepth 100000 in
theorem lifted (os : Os) (started : os.Started) (H : Type) (enc : TypeId × Value → H) (F : Stop.Interp) :
    ReturnsInHanded {} Tryd.checked os 9 .any ((OpenSpec.ofChange Rows.fnExactMixtureMeansSpec).preRow enc Tryd.prog Tryd.f9 Rows.fnExactMixtureMeansRow.domain false Rows.fnExactMixtureMeansRow.laid) (((OpenSpec.ofChange Rows.fnExactMixtureMeansSpec).at F).post enc Tryd.prog Tryd.f9 false true false false) := by
  obtain ⟨places, hx⟩ := reads os enc
  refine returnsInHanded_of_row (C := Tryd.checked) (s := OpenSpec.ofChange Rows.fnExactMixtureMeansSpec) own started (by kernel_rfl) Tryd.func9
    (witness_row_at (enc := enc) (C := Tryd.checked) false (laidWorld os) #[.agg #[.slice none 0 0, .slice none 0 0]] rfl (by kernel_rfl) (by kernel_rfl) (by kernel_rfl)
      (OpenSpec.preRow_of_cond 8 hx (by kernel_rfl) (fun k hk => by cases hk) (by kernel_rfl) (laid_met os))) ?_
  intro W base args ds gs before hval hW _ _ _ hL hS _
  exact contract H enc W base args ds gs before hval hW hL
theorem said : Rows.FnExactMixtureMeansSaid :=
  OpenClaim.holds_of_cond 9 Tryd.f9 rfl rfl rfl rfl rfl rfl rfl ⟨rfl, rfl, rfl, rfl, rfl⟩ rfl rfl rfl rfl rfl (by kernel_rfl) Tryd.func9 (by kernel_rfl)
    (of_decide_eq_true (by kernel_rfl)) (by unfold Func.isWrapper; first | (rw [if_pos (by decide +kernel)]; kernel_rfl) | (rw [if_neg (by decide +kernel)]; exact ⟨rfl, rfl⟩))
    (fun os started H enc _ F => by rw [OpenClaim.pre_eq_preRow]; exact lifted os started H enc F)
theorem plain (f : FuncId) (fn : Func) (hf : Tryd.pinned.checked.prog.funcNamed "loop.example/g01129/laws.FnExactMixtureMeans" = some f) (hfn : Tryd.pinned.checked.prog.funcs[f]? = some fn) :
    false = Tryd.pinned.checked.prog.looks [] ∧ ∀ (j : Nat) t, fn.params[j]? = some t → Tryd.pinned.checked.prog.wantsStandIn t = false := by
  obtain rfl : f = 9 := Option.some.inj ((show Tryd.prog.funcNamed "loop.example/g01129/laws.FnExactMixtureMeans" = some 9 by kernel_rfl).symm.trans hf) |>.symm
  obtain rfl : fn = Tryd.f9 := (Option.some.inj (Tryd.func9.symm.trans hfn)).symm
  refine ⟨by kernel_rfl, fun j t ht => ?_⟩
  rw [Tryd.params9] at ht
  have hm := Array.mem_of_getElem? ht
  simp only [List.mem_toArray, List.mem_cons, List.not_mem_nil, or_false] at hm
  subst hm
  exact (show Tryd.prog.wantsStandIn 54 = false by kernel_rfl)
/-- THE STATEMENT. -/
theorem proved : Rows.FnExactMixtureMeansCardSaid :=
  Claim7.holds_tied_plain_at .later [] _ _ _ _ said (fun _ h => by cases h) (by kernel_rfl) (fun _ h => by cases h) fnExactMixtureMeans_row_tie rfl ⟨rfl, rfl⟩ (by kernel_rfl) rfl plain (by kernel_rfl)
end Go.Proofs.YtgpnlnmljeahdaaDoor.fnExactMixtureMeans
