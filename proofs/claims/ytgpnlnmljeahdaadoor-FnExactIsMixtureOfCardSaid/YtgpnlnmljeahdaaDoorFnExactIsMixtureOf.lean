/- IsMixtureOf answers as its model, at every struct of a slice of int64 and a slice of slices of int64, and every struct of an int64 and a slice of int64; it writes into none of them; the tables of the library that it reads are tied to the program's text. -/
import Derived.Test.YtgpnlnmljeahdaaDoorCards
import Derived.Test.YtgpnlnmljeahdaaDoorTie
import Derived.Test.YtgpnlnmljeahdaaDoorIsMx6
import Derived.Test.YtgpnlnmljeahdaaDoorIsMxJ
import Derived.Test.YtgpnlnmljeahdaaDoorMixM
import Derived.Deep.RegionHeld3
import Derived.Deep.DeepHandedRow
namespace Go.Proofs.YtgpnlnmljeahdaaDoor.fnExactIsMixtureOf
open Go.ChangeShapes Go.WideShapes Go.ChangeAt Go.RowKit Go.Deep
open Go.ChangeMaps (open_string shut_string)
set_option linter.unusedVariables false

theorem laidMet_tail {P : Program} {x : String × DataW Unit} {rest : List (String × DataW Unit)} {W : World} (h : laidMet P (x :: rest) W) : laidMet P rest W := by
  obtain ⟨ps, ⟨g', t', cs, fuel, p, q, hg', ht', hvar, hd, hr, he⟩, hnd, hall⟩ := h
  subst he
  exact ⟨q, hr, (List.nodup_append.1 hnd).2.1, fun b off hb => hall b off (List.mem_append_right _ hb)⟩
theorem table {W : World} (h : laidMetH Tryd.prog Rows.fnExactIsMixtureOfRow.laid W) : Pows W := by
  have h3 : laidMet Tryd.prog [("internal/strconv.uint64pow10", Rows.laid_internal_strconv_uint64pow10)] W := laidMet_tail (laidMet_tail h)
  exact Lib.tabIs_of_head (rest := []) gPowJ (t := 183) (e := 114) (n := 20) (by kernel_rfl) (by kernel_rfl) (by kernel_rfl) (by kernel_rfl) (by kernel_rfl) h3

set_option maxHeartbeats 1600000 in
set_option maxRecDepth 100000 in
theorem walk (w : World) (hL : laidMetH Tryd.prog Rows.fnExactIsMixtureOfRow.laid w) (a0 : Option Addr) (cap0 : Nat) (z0 : List Int) (af0 : Ints w a0 z0) (al0 : Option Addr) (cl0 : Nat) (zl0 : List (List Int)) (afl0 : Intss w al0 zl0) (g1 : Int) (u1 : In64 g1) (a1 : Option Addr) (cap1 : Nat) (z1 : List Int) (af1 : Ints w a1 z1) :
    Calls Tryd.prog 8 #[.agg #[.slice a0 z0.length cap0, .slice al0 zl0.length cl0], .agg #[.int .i64 g1, .slice a1 z1.length cap1]] w fun e w' => e = .returned (.bool true) ∧ Below w.heap.size w w' := by
  have HP_ := Lib.hid (table hL)
  clear hL
  have K0 : Keep w w := Below.refl _ _
  have len0_ := af0.small
  have lenl0_ := afl0.small
  have len1_ := af1.small
  by_cases big0_ : (1048576 : Int) < ((z0.length : Int) + (zl0.length : Int) + (tot zl0 : Int))
  · -- too long: nothing is asked
    go_enter Tryd.func8, Tryd.ntmps8
    go_wp2_with fail
    refine (szMixture_ex a0 cap0 z0 al0 cl0 zl0 (1048576) _ ((af0.keep K0 (Nat.le_refl _)).keep (B := _) (by go_grown) (Nat.le_refl _)) ((afl0.keep K0 (Nat.le_refl _)).keep (B := _) (by go_grown) (Nat.le_refl _)) (by omega) (by omega)).mono ?_
    rw [if_pos (by omega)]
    rintro e w1 ⟨rfl, k1⟩
    have g1_ : Keep w w1 := Keep.next (by go_grown) k1
    have K1 := Keep.next K0 g1_
    have s1_ := g1_.size
    have X_ : BoxM w1 (w.heap.size) (a0) (z0.length) (cap0) (al0) (zl0.length) (cl0) := BoxM.keep ⟨by simp, by simp, by first | (simp; done) | (simp; omega)⟩ k1
    obtain ⟨B0a, B0b, B0l⟩ := X_
    have B0s := B0l
    have X_ : Box w1 (w.heap.size + 1) g1 (a1) (z1.length) (cap1) := Box.keep ⟨by simp, by simp, by first | (simp; done) | (simp; omega)⟩ k1
    obtain ⟨B1a, B1b, B1l⟩ := X_
    have B1s := B1l
    go_wp2
    go_ret
    exact ⟨rfl, Keep.next K1 (by go_grown)⟩
  have fit0_ : 0 ≤ (1048576 : Int) - ((z0.length : Int) + (zl0.length : Int) + (tot zl0 : Int)) := by omega
  clear big0_
  by_cases big1_ : (1048576 : Int) - (z0.length : Int) - (zl0.length : Int) - (tot zl0 : Int) < (z1.length : Int)
  · -- too long: nothing is asked
    go_enter Tryd.func8, Tryd.ntmps8
    go_wp2_with fail
    refine (szMixture_ex a0 cap0 z0 al0 cl0 zl0 (1048576) _ ((af0.keep K0 (Nat.le_refl _)).keep (B := _) (by go_grown) (Nat.le_refl _)) ((afl0.keep K0 (Nat.le_refl _)).keep (B := _) (by go_grown) (Nat.le_refl _)) (by omega) (by omega)).mono ?_
    rw [if_neg (by omega)]
    rintro e w1 ⟨rfl, k1⟩
    have g1_ : Keep w w1 := Keep.next (by go_grown) k1
    have K1 := Keep.next K0 g1_
    have s1_ := g1_.size
    have X_ : BoxM w1 (w.heap.size) (a0) (z0.length) (cap0) (al0) (zl0.length) (cl0) := BoxM.keep ⟨by simp, by simp, by first | (simp; done) | (simp; omega)⟩ k1
    obtain ⟨B0a, B0b, B0l⟩ := X_
    have B0s := B0l
    have X_ : Box w1 (w.heap.size + 1) g1 (a1) (z1.length) (cap1) := Box.keep ⟨by simp, by simp, by first | (simp; done) | (simp; omega)⟩ k1
    obtain ⟨B1a, B1b, B1l⟩ := X_
    have B1s := B1l
    go_wp2_with fail
    refine (szValues_any g1 a1 cap1 z1.length (1048576 - (z0.length : Int) - (zl0.length : Int) - (tot zl0 : Int)) _ (by omega) (by omega) af1.small).mono ?_
    rw [if_pos (by omega)]
    rintro e w2 ⟨rfl, k2⟩
    have g2_ : Keep w1 w2 := Keep.next (by go_grown) k2
    have K2 := Keep.next K1 g2_
    have s2_ := g2_.size
    have X_ := (BoxM.mk B0a B0b B0l).keep g2_
    clear B0a B0b B0l; obtain ⟨B0a, B0b, B0l⟩ := X_
    have X_ := (Box.mk B1a B1b B1l).keep g2_
    clear B1a B1b B1l; obtain ⟨B1a, B1b, B1l⟩ := X_
    go_wp2
    go_ret
    exact ⟨rfl, Keep.next K2 (by go_grown)⟩
  have fit1_ : 0 ≤ (1048576 : Int) - (z0.length : Int) - (zl0.length : Int) - (tot zl0 : Int) - (z1.length : Int) := by omega
  clear big1_
  obtain ⟨r0, H1, H2⟩ : ∃ (r0 : Bool), Hid (∀ (W : World) (p0 : Option Addr) (c0 : Nat) (pl0 : Option Addr) (cm0 : Nat) (p1 : Option Addr) (c1 : Nat), Ints W p0 z0 → Intss W pl0 zl0 → Ints W p1 z1 → Calls Tryd.prog 41 #[mixV p0 z0.length c0 pl0 zl0.length cm0, valV g1 p1 z1.length c1] W fun e w' => e = .returned (.bool r0) ∧ Keep W w') ∧ Hid (∀ (W : World) (p0 : Option Addr) (c0 : Nat) (pl0 : Option Addr) (cm0 : Nat) (p1 : Option Addr) (c1 : Nat), Ints W p0 z0 → Intss W pl0 zl0 → Ints W p1 z1 → Pows W → Calls Tryd.prog 22 #[mixV p0 z0.length c0 pl0 zl0.length cm0, valV g1 p1 z1.length c1] W fun e w' => e = .returned (.bool r0) ∧ Keep W w') :=
    ⟨_, Lib.hid (fun W p0 c0 pl0 cm0 p1 c1 h0 hl0 h1 => specIsMixtureOf_any p0 c0 z0 pl0 cm0 zl0 g1 p1 c1 z1 W h0 hl0 h1), Lib.hid (fun W p0 c0 pl0 cm0 p1 c1 h0 hl0 h1 hp_ => IsMixtureOf_any p0 c0 z0 pl0 cm0 zl0 g1 p1 c1 z1 W h0 hl0 h1 hp_)⟩
  go_enter Tryd.func8, Tryd.ntmps8
  go_wp2_with fail
  refine (szMixture_ex a0 cap0 z0 al0 cl0 zl0 (1048576) _ ((af0.keep K0 (Nat.le_refl _)).keep (B := _) (by go_grown) (Nat.le_refl _)) ((afl0.keep K0 (Nat.le_refl _)).keep (B := _) (by go_grown) (Nat.le_refl _)) (by omega) (by omega)).mono ?_
  rw [if_neg (by omega)]
  rintro e w1 ⟨rfl, k1⟩
  have g1_ : Keep w w1 := Keep.next (by go_grown) k1
  have K1 := Keep.next K0 g1_
  have s1_ := g1_.size
  have X_ : BoxM w1 (w.heap.size) (a0) (z0.length) (cap0) (al0) (zl0.length) (cl0) := BoxM.keep ⟨by simp, by simp, by first | (simp; done) | (simp; omega)⟩ k1
  obtain ⟨B0a, B0b, B0l⟩ := X_
  have B0s := B0l
  have X_ : Box w1 (w.heap.size + 1) g1 (a1) (z1.length) (cap1) := Box.keep ⟨by simp, by simp, by first | (simp; done) | (simp; omega)⟩ k1
  obtain ⟨B1a, B1b, B1l⟩ := X_
  have B1s := B1l
  go_wp2_with fail
  refine (szValues_any g1 a1 cap1 z1.length (1048576 - (z0.length : Int) - (zl0.length : Int) - (tot zl0 : Int)) _ (by omega) (by omega) af1.small).mono ?_
  rw [if_neg (by omega)]
  rintro e w2 ⟨rfl, k2⟩
  have g2_ : Keep w1 w2 := Keep.next (by go_grown) k2
  have K2 := Keep.next K1 g2_
  have s2_ := g2_.size
  have X_ := (BoxM.mk B0a B0b B0l).keep g2_
  clear B0a B0b B0l; obtain ⟨B0a, B0b, B0l⟩ := X_
  have X_ := (Box.mk B1a B1b B1l).keep g2_
  clear B1a B1b B1l; obtain ⟨B1a, B1b, B1l⟩ := X_
  have HS0_ : Hid (∀ w', Keep w2 w' → ((w'.cell? ⟨w.heap.size, 0, none⟩ = some (.slice a0 z0.length cap0) ∧ w'.cell? ⟨w.heap.size, 1, none⟩ = some (.slice al0 zl0.length cl0)) ∧ (w'.cell? ⟨w.heap.size + 1, 0, none⟩ = some (.int .i64 g1) ∧ w'.cell? ⟨w.heap.size + 1, 1, none⟩ = some (.slice a1 z1.length cap1))) ∧ Keep w2 w') := Lib.hid (fun w' k => ⟨⟨⟨((BoxM.mk B0a B0b B0l).keep k).c0, ((BoxM.mk B0a B0b B0l).keep k).c1⟩, ⟨((Box.mk B1a B1b B1l).keep k).c0, ((Box.mk B1a B1b B1l).keep k).c1⟩⟩, k⟩)
  go_wp2_with fail
  go_region_held3 (fun w' => ((w'.cell? ⟨w.heap.size, 0, none⟩ = some (.slice a0 z0.length cap0) ∧ w'.cell? ⟨w.heap.size, 1, none⟩ = some (.slice al0 zl0.length cl0)) ∧ (w'.cell? ⟨w.heap.size + 1, 0, none⟩ = some (.int .i64 g1) ∧ w'.cell? ⟨w.heap.size + 1, 1, none⟩ = some (.slice a1 z1.length cap1))) ∧ Keep w2 w')
    (first | exact HS0_.out _ (Keep.next (Keep.next (Keep.next (by go_grown) k3) k4) k5) | exact HS0_.out _ (Keep.next (Keep.next (by go_grown) k3) k4) | exact HS0_.out _ (Keep.next (by go_grown) k3) | exact HS0_.out _ (by go_grown))
    (first | (go_at_call 38; refine (toMixture_ex a0 cap0 z0 al0 cl0 zl0 _ ((af0.keep K2 (Nat.le_refl _)).keep (by go_grown) (Nat.le_refl _)) ((afl0.keep K2 (Nat.le_refl _)).keep (by go_grown) (Nat.le_refl _)) (by omega) (by omega) (by omega)).mono ?_; rintro e w3 ⟨t0b, t0c, t0g, t0mid, rfl, t0o, t0p, ⟨t0m1, t0m2⟩, k3⟩) | (go_at_call 42; refine (toValues_any g1 a1 cap1 z1 _ ((af1.keep K2 (Nat.le_refl _)).keep (Keep.next (by go_grown) k3) (Nat.le_refl _)) (by omega)).mono ?_; rintro e w4 ⟨t1b, rfl, t1o, k4⟩) | (go_at_call 41; refine (H1.out _ (some ⟨t0b, 0, none⟩) z0.length (some ⟨t0c, 0, none⟩) zl0.length (some ⟨t1b, 0, none⟩) z1.length (t0o.keep k4).ints (t0p.keep k4).ints (t1o).ints).mono ?_; rintro e w5 ⟨rfl, k5⟩))
  have t0m3 : w2.heap.size ≤ t0mid := Nat.le_trans (by go_size) t0m1
  have t0 : Mine w3 (w2.heap.size) t0mid _ _ _ := Mine.lower (by go_size) t0o
  have t0l : MineSS w3 t0mid w3.heap.size _ _ _ := t0p
  clear t0o t0p t0m1
  have g3_ : Keep w2 w3 := Keep.next (by go_grown) k3
  have K3 := Keep.next K2 g3_
  have s3_ := g3_.size
  have X_ := (BoxM.mk B0a B0b B0l).keep g3_
  clear B0a B0b B0l; obtain ⟨B0a, B0b, B0l⟩ := X_
  have X_ := (Box.mk B1a B1b B1l).keep g3_
  clear B1a B1b B1l; obtain ⟨B1a, B1b, B1l⟩ := X_
  have t1 : Mine w4 (w3.heap.size) w4.heap.size _ _ _ := Mine.new (by go_size) t1o
  clear t1o
  have g4_ : Keep w3 w4 := Keep.next (by go_grown) k4
  have K4 := Keep.next K3 g4_
  have s4_ := g4_.size
  have X_ := (BoxM.mk B0a B0b B0l).keep g4_
  clear B0a B0b B0l; obtain ⟨B0a, B0b, B0l⟩ := X_
  have X_ := (Box.mk B1a B1b B1l).keep g4_
  clear B1a B1b B1l; obtain ⟨B1a, B1b, B1l⟩ := X_
  replace t0 := t0.keep g4_
  replace t0l := t0l.keep g4_
  have g5_ : Keep w4 w5 := Keep.next (by go_grown) k5
  have K5 := Keep.next K4 g5_
  have s5_ := g5_.size
  have X_ := (BoxM.mk B0a B0b B0l).keep g5_
  clear B0a B0b B0l; obtain ⟨B0a, B0b, B0l⟩ := X_
  have X_ := (Box.mk B1a B1b B1l).keep g5_
  clear B1a B1b B1l; obtain ⟨B1a, B1b, B1l⟩ := X_
  replace t0 := t0.keep g5_
  replace t0l := t0l.keep g5_
  replace t1 := t1.keep g5_
  go_wp2_with fail
  refine (toMixture_ex a0 cap0 z0 al0 cl0 zl0 _ ((af0.keep K5 (Nat.le_refl _)).keep (B := _) (by go_grown) (Nat.le_refl _)) ((afl0.keep K5 (Nat.le_refl _)).keep (B := _) (by go_grown) (Nat.le_refl _)) (by omega) (by omega) (by omega)).mono ?_
  rintro e w6 ⟨x0b, x0c, x0g, x0mid, rfl, x0o, x0p, ⟨x0m1, x0m2⟩, k6⟩
  have x0m3 : w5.heap.size ≤ x0mid := Nat.le_trans (by go_size) x0m1
  have x0 : Mine w6 (w5.heap.size) x0mid _ _ _ := Mine.lower (by go_size) x0o
  have x0l : MineSS w6 x0mid w6.heap.size _ _ _ := x0p
  clear x0o x0p x0m1
  have g6_ : Keep w5 w6 := Keep.next (by go_grown) k6
  have K6 := Keep.next K5 g6_
  have s6_ := g6_.size
  have X_ := (BoxM.mk B0a B0b B0l).keep g6_
  clear B0a B0b B0l; obtain ⟨B0a, B0b, B0l⟩ := X_
  have X_ := (Box.mk B1a B1b B1l).keep g6_
  clear B1a B1b B1l; obtain ⟨B1a, B1b, B1l⟩ := X_
  replace t0 := t0.keep g6_
  replace t0l := t0l.keep g6_
  replace t1 := t1.keep g6_
  go_wp2_with fail
  refine (toValues_any g1 a1 cap1 z1 _ ((af1.keep K6 (Nat.le_refl _)).keep (B := _) (by go_grown) (Nat.le_refl _)) (by omega)).mono ?_
  rintro e w7 ⟨x1b, rfl, x1o, k7⟩
  have x1 : Mine w7 (w6.heap.size + 1) w7.heap.size _ _ _ := Mine.new (by go_size) x1o
  clear x1o
  have g7_ : Keep w6 w7 := Keep.next (by go_grown) k7
  have K7 := Keep.next K6 g7_
  have s7_ := g7_.size
  have X_ := (BoxM.mk B0a B0b B0l).keep g7_
  clear B0a B0b B0l; obtain ⟨B0a, B0b, B0l⟩ := X_
  have X_ := (Box.mk B1a B1b B1l).keep g7_
  clear B1a B1b B1l; obtain ⟨B1a, B1b, B1l⟩ := X_
  have X_ : BoxM w7 (w6.heap.size) ((some ⟨x0b, 0, none⟩)) (z0.length) (z0.length) ((some ⟨x0c, 0, none⟩)) (zl0.length) (zl0.length) := BoxM.keep ⟨by simp, by simp, by first | (simp; done) | (simp; omega)⟩ k7
  obtain ⟨Y0a, Y0b, Y0l⟩ := X_
  have Y0s := Y0l
  replace t0 := t0.keep g7_
  replace t0l := t0l.keep g7_
  replace t1 := t1.keep g7_
  replace x0 := x0.keep g7_
  replace x0l := x0l.keep g7_
  go_wp2_with fail
  refine (H2.out _ (some ⟨x0b, 0, none⟩) z0.length (some ⟨x0c, 0, none⟩) zl0.length (some ⟨x1b, 0, none⟩) z1.length (x0.keep (by go_grown)).ints (x0l.keep (by go_grown)).ints (x1.keep (by go_grown)).ints (HP_.out.keep (Keep.next K7 (by go_grown)))).mono ?_
  rintro e w8 ⟨rfl, k8⟩
  have g8_ : Keep w7 w8 := Keep.next (by go_grown) k8
  have K8 := Keep.next K7 g8_
  have s8_ := g8_.size
  have X_ := (BoxM.mk B0a B0b B0l).keep g8_
  clear B0a B0b B0l; obtain ⟨B0a, B0b, B0l⟩ := X_
  have X_ := (Box.mk B1a B1b B1l).keep g8_
  clear B1a B1b B1l; obtain ⟨B1a, B1b, B1l⟩ := X_
  have X_ := (BoxM.mk Y0a Y0b Y0l).keep g8_
  clear Y0a Y0b Y0l; obtain ⟨Y0a, Y0b, Y0l⟩ := X_
  have X_ : Box w8 (w7.heap.size) g1 ((some ⟨x1b, 0, none⟩)) (z1.length) (z1.length) := Box.keep ⟨by simp, by simp, by first | (simp; done) | (simp; omega)⟩ k8
  obtain ⟨Y1a, Y1b, Y1l⟩ := X_
  have Y1s := Y1l
  replace t0 := t0.keep g8_
  replace t0l := t0l.keep g8_
  replace t1 := t1.keep g8_
  replace x0 := x0.keep g8_
  replace x0l := x0l.keep g8_
  replace x1 := x1.keep g8_
  have HS9 : Hid (∀ w', Keep w8 w' → (w'.cell? ⟨w.heap.size, 0, none⟩ = some (.slice a0 z0.length cap0) ∧ w'.cell? ⟨w.heap.size, 1, none⟩ = some (.slice al0 zl0.length cl0) ∧ w'.cell? ⟨w6.heap.size, 0, none⟩ = some (.slice (some ⟨x0b, 0, none⟩) z0.length z0.length) ∧ w'.cell? ⟨w6.heap.size, 1, none⟩ = some (.slice (some ⟨x0c, 0, none⟩) zl0.length zl0.length)) ∧ Keep w8 w') := Lib.hid (fun w' k => ⟨⟨((BoxM.mk B0a B0b B0l).keep k).c0, ((BoxM.mk B0a B0b B0l).keep k).c1, ((BoxM.mk Y0a Y0b Y0l).keep k).c0, ((BoxM.mk Y0a Y0b Y0l).keep k).c1⟩, k⟩)
  go_wp2_with fail
  go_region_held3 (fun w' => (w'.cell? ⟨w.heap.size, 0, none⟩ = some (.slice a0 z0.length cap0) ∧ w'.cell? ⟨w.heap.size, 1, none⟩ = some (.slice al0 zl0.length cl0) ∧ w'.cell? ⟨w6.heap.size, 0, none⟩ = some (.slice (some ⟨x0b, 0, none⟩) z0.length z0.length) ∧ w'.cell? ⟨w6.heap.size, 1, none⟩ = some (.slice (some ⟨x0c, 0, none⟩) zl0.length zl0.length)) ∧ Keep w8 w')
    (first | exact HS9.out _ (Keep.next (Keep.next (by go_grown) k9) k10) | exact HS9.out _ (Keep.next (by go_grown) k9) | exact HS9.out _ (by go_grown))
    (first | (go_at_call 38; refine (toMixture_ex a0 cap0 z0 al0 cl0 zl0 _ ((af0.keep K8 (Nat.le_refl _)).keep (B := _) (by go_grown) (Nat.le_refl _)) ((afl0.keep K8 (Nat.le_refl _)).keep (B := _) (by go_grown) (Nat.le_refl _)) (by omega) (by omega) (by omega)).mono ?_; rintro e w9 ⟨y0b, y0c, y0g, y0mid, rfl, y0o, y0p, _, k9⟩) | (go_at_call 39; refine (eqMixture_same _ _ _ _ z0 _ _ _ _ zl0 _ (((x0.keep (by go_grown)).keep k9).ints.keep (B := _) (by go_grown) (Nat.le_refl _)) (y0o.ints.keep (B := _) (by go_grown) (Nat.le_refl _)) (((x0l.keep (by go_grown)).keep k9).ints.keep (B := _) (by go_grown) (Nat.le_refl _)) (y0p.ints.keep (B := _) (by go_grown) (Nat.le_refl _))).mono ?_; rintro e w10 ⟨rfl, k10⟩))
  have g9_ : Keep w8 w9 := Keep.next (by go_grown) k9
  have K9 := Keep.next K8 g9_
  have s9_ := g9_.size
  have X_ := (BoxM.mk B0a B0b B0l).keep g9_
  clear B0a B0b B0l; obtain ⟨B0a, B0b, B0l⟩ := X_
  have X_ := (Box.mk B1a B1b B1l).keep g9_
  clear B1a B1b B1l; obtain ⟨B1a, B1b, B1l⟩ := X_
  have X_ := (BoxM.mk Y0a Y0b Y0l).keep g9_
  clear Y0a Y0b Y0l; obtain ⟨Y0a, Y0b, Y0l⟩ := X_
  have X_ := (Box.mk Y1a Y1b Y1l).keep g9_
  clear Y1a Y1b Y1l; obtain ⟨Y1a, Y1b, Y1l⟩ := X_
  replace t0 := t0.keep g9_
  replace t0l := t0l.keep g9_
  replace t1 := t1.keep g9_
  replace x0 := x0.keep g9_
  replace x0l := x0l.keep g9_
  replace x1 := x1.keep g9_
  have g10_ : Keep w9 w10 := Keep.next (by go_grown) k10
  have K10 := Keep.next K9 g10_
  have s10_ := g10_.size
  have X_ := (BoxM.mk B0a B0b B0l).keep g10_
  clear B0a B0b B0l; obtain ⟨B0a, B0b, B0l⟩ := X_
  have X_ := (Box.mk B1a B1b B1l).keep g10_
  clear B1a B1b B1l; obtain ⟨B1a, B1b, B1l⟩ := X_
  have X_ := (BoxM.mk Y0a Y0b Y0l).keep g10_
  clear Y0a Y0b Y0l; obtain ⟨Y0a, Y0b, Y0l⟩ := X_
  have X_ := (Box.mk Y1a Y1b Y1l).keep g10_
  clear Y1a Y1b Y1l; obtain ⟨Y1a, Y1b, Y1l⟩ := X_
  replace t0 := t0.keep g10_
  replace t0l := t0l.keep g10_
  replace t1 := t1.keep g10_
  replace x0 := x0.keep g10_
  replace x0l := x0l.keep g10_
  replace x1 := x1.keep g10_
  have HS11 : Hid (∀ w', Keep w10 w' → (w'.cell? ⟨w.heap.size + 1, 0, none⟩ = some (.int .i64 g1) ∧ w'.cell? ⟨w.heap.size + 1, 1, none⟩ = some (.slice a1 z1.length cap1) ∧ w'.cell? ⟨w7.heap.size, 0, none⟩ = some (.int .i64 g1) ∧ w'.cell? ⟨w7.heap.size, 1, none⟩ = some (.slice (some ⟨x1b, 0, none⟩) z1.length z1.length)) ∧ Keep w10 w') := Lib.hid (fun w' k => ⟨⟨((Box.mk B1a B1b B1l).keep k).c0, ((Box.mk B1a B1b B1l).keep k).c1, ((Box.mk Y1a Y1b Y1l).keep k).c0, ((Box.mk Y1a Y1b Y1l).keep k).c1⟩, k⟩)
  go_wp2_with fail
  go_region_held3 (fun w' => (w'.cell? ⟨w.heap.size + 1, 0, none⟩ = some (.int .i64 g1) ∧ w'.cell? ⟨w.heap.size + 1, 1, none⟩ = some (.slice a1 z1.length cap1) ∧ w'.cell? ⟨w7.heap.size, 0, none⟩ = some (.int .i64 g1) ∧ w'.cell? ⟨w7.heap.size, 1, none⟩ = some (.slice (some ⟨x1b, 0, none⟩) z1.length z1.length)) ∧ Keep w10 w')
    (first | exact HS11.out _ (Keep.next (Keep.next (by go_grown) k11) k12) | exact HS11.out _ (Keep.next (by go_grown) k11) | exact HS11.out _ (by go_grown))
    (first | (go_at_call 42; refine (toValues_any g1 a1 cap1 z1 _ ((af1.keep K10 (Nat.le_refl _)).keep (B := _) (by go_grown) (Nat.le_refl _)) (by omega)).mono ?_; rintro e w11 ⟨y1b, rfl, y1o, k11⟩) | (go_at_call 43; refine (eqValues_same g1 _ _ _ _ z1 _ (((x1.keep (by go_grown)).keep k11).ints.keep (B := _) (by go_grown) (Nat.le_refl _)) (y1o.ints.keep (B := _) (by go_grown) (Nat.le_refl _))).mono ?_; rintro e w12 ⟨rfl, k12⟩))
  have g11_ : Keep w10 w11 := Keep.next (by go_grown) k11
  have K11 := Keep.next K10 g11_
  have s11_ := g11_.size
  have X_ := (BoxM.mk B0a B0b B0l).keep g11_
  clear B0a B0b B0l; obtain ⟨B0a, B0b, B0l⟩ := X_
  have X_ := (Box.mk B1a B1b B1l).keep g11_
  clear B1a B1b B1l; obtain ⟨B1a, B1b, B1l⟩ := X_
  have X_ := (BoxM.mk Y0a Y0b Y0l).keep g11_
  clear Y0a Y0b Y0l; obtain ⟨Y0a, Y0b, Y0l⟩ := X_
  have X_ := (Box.mk Y1a Y1b Y1l).keep g11_
  clear Y1a Y1b Y1l; obtain ⟨Y1a, Y1b, Y1l⟩ := X_
  replace t0 := t0.keep g11_
  replace t0l := t0l.keep g11_
  replace t1 := t1.keep g11_
  replace x0 := x0.keep g11_
  replace x0l := x0l.keep g11_
  replace x1 := x1.keep g11_
  have g12_ : Keep w11 w12 := Keep.next (by go_grown) k12
  have K12 := Keep.next K11 g12_
  have s12_ := g12_.size
  have X_ := (BoxM.mk B0a B0b B0l).keep g12_
  clear B0a B0b B0l; obtain ⟨B0a, B0b, B0l⟩ := X_
  have X_ := (Box.mk B1a B1b B1l).keep g12_
  clear B1a B1b B1l; obtain ⟨B1a, B1b, B1l⟩ := X_
  have X_ := (BoxM.mk Y0a Y0b Y0l).keep g12_
  clear Y0a Y0b Y0l; obtain ⟨Y0a, Y0b, Y0l⟩ := X_
  have X_ := (Box.mk Y1a Y1b Y1l).keep g12_
  clear Y1a Y1b Y1l; obtain ⟨Y1a, Y1b, Y1l⟩ := X_
  replace t0 := t0.keep g12_
  replace t0l := t0l.keep g12_
  replace t1 := t1.keep g12_
  replace x0 := x0.keep g12_
  replace x0l := x0l.keep g12_
  replace x1 := x1.keep g12_
  go_wp2
  go_ret
  exact ⟨rfl, Keep.next K12 (by go_grown)⟩


theorem own : ownKnob Tryd.prog.godebug = none := by kernel_rfl
theorem laidOut : laidOutB Tryd.prog = true := by kernel_rfl
set_option maxRecDepth 100000 in
theorem contract (H : Type) (enc : TypeId × Value → H) (W : World) (base : Nat) (args : Array Value) (ds gs : List (DataW H)) (before : List MemPlace)
    (hval0 : ∀ (j : Nat) t v, Tryd.f8.params[j]? = some t → args[j]? = some v → Value.okWide Tryd.prog W .any base t v)
    (hW : DataW.Whole enc Tryd.prog Tryd.f8.params.toList Rows.fnExactIsMixtureOfSpec.vars false W args.toList ds gs before) (hL : laidMetH Tryd.prog Rows.fnExactIsMixtureOfRow.laid W) :
    Calls Tryd.prog 8 args W fun e W' => ∃ v, e = .returned v ∧ Rows.fnExactIsMixtureOfSpec.post enc Tryd.prog Tryd.f8 false true false false W args v W' := by
  have hval : ∀ (j : Nat) t v, Tryd.f8.params[j]? = some t → args[j]? = some v → Value.okWide Tryd.prog W .any base t v := hval0
  have hW' := hW
  obtain ⟨p, q, hA0, hV, rfl, hfz, hnd⟩ := hW
  have hA : DataW.TrodAll enc Tryd.prog W 0 (fun _ => true) true Tryd.f8.params.toList args.toList ds p := hA0
  rw [Tryd.params8] at hA hval
  obtain ⟨v0, vs0, d0, ds0, p0, q0, hargs, rfl, rfl, h0, r0⟩ := trodAll_cons hA
  obtain ⟨v1, vs1, d1, ds1, p1, q1, rfl, rfl, rfl, h1, r1⟩ := trodAll_cons r0
  obtain ⟨rfl, rfl, rfl⟩ := trodAll_nil r1
  obtain rfl : args = #[v0, v1] := by cases args; simp_all
  obtain ⟨rfl, rfl⟩ := trodVars_none hV
  have k0 := h0
  have lt0 : ∀ x ∈ p0, x.block < W.heap.size := by obtain ⟨m, hm⟩ := k0; exact DataW.trod_lt m _ _ _ hm
  obtain ⟨a0, cap0, z0, al0, cl0, zl0, rfl, w0, wl0⟩ := mix_open Tryd.underlying54 (by kernel_rfl) (by kernel_rfl) Tryd.underlying24 Tryd.underlying2 (by kernel_rfl) Tryd.underlying29 Tryd.underlying24 Tryd.underlying2 (by kernel_rfl) (by kernel_rfl) (hval 0 54 v0 rfl rfl) h0
  have k1 := h1
  have lt1 : ∀ x ∈ p1, x.block < W.heap.size := by obtain ⟨m, hm⟩ := k1; exact DataW.trod_lt m _ _ _ hm
  obtain ⟨g1, a1, cap1, z1, rfl, u1, w1⟩ := values_open Tryd.underlying59 (by kernel_rfl) (by kernel_rfl) Tryd.underlying2 Tryd.underlying24 Tryd.underlying2 (by kernel_rfl) (hval 1 59 v1 rfl rfl) h1
  clear hA0 hval0
  refine (walk W hL a0 cap0 z0 w0 al0 cl0 zl0 wl0 g1 u1 a1 cap1 z1 w1).mono fun e W' ⟨he, bel⟩ => ?_
  subst he
  exact ⟨_, rfl, _, _, _, [], _, [], hW', trodAll_mk1 (shut_bool Tryd.underlying4 _), (trodAll_cons_mk (Below.trod laidOut (by kernel_rfl) (of_decide_eq_true (by kernel_rfl)) k0 bel lt0) (trodAll_cons_mk (Below.trod laidOut (by kernel_rfl) (of_decide_eq_true (by kernel_rfl)) k1 bel lt1) trodAll_mk0)), rfl, bel.frame _, fun h => by cases h⟩
/-- A variable's cells, laid. -/
def layTab (cs : Array Value) : Obj → Obj
  | .cells _ t frozen => .cells cs t frozen
  | o => o
noncomputable def low : Nat := (World.holding Tryd.prog default ⟨#[], #[], []⟩).heap.size
noncomputable def laidWorld (os : Os) : World :=
  { World.holding Tryd.prog os ⟨#[], #[], []⟩ with heap := ((((World.holding Tryd.prog os ⟨#[], #[], []⟩).heap.modify 2 (layTab #[.int .u8 0, .int .u8 1, .int .u8 28, .int .u8 2, .int .u8 29, .int .u8 14, .int .u8 24, .int .u8 3, .int .u8 30, .int .u8 22, .int .u8 20, .int .u8 15, .int .u8 25, .int .u8 17, .int .u8 4, .int .u8 8, .int .u8 31, .int .u8 27, .int .u8 13, .int .u8 23, .int .u8 21, .int .u8 19, .int .u8 16, .int .u8 7, .int .u8 26, .int .u8 12, .int .u8 18, .int .u8 6, .int .u8 11, .int .u8 5, .int .u8 10, .int .u8 9])).modify 3 (layTab #[.int .u8 0, .int .u8 1, .int .u8 56, .int .u8 2, .int .u8 57, .int .u8 49, .int .u8 28, .int .u8 3, .int .u8 61, .int .u8 58, .int .u8 42, .int .u8 50, .int .u8 38, .int .u8 29, .int .u8 17, .int .u8 4, .int .u8 62, .int .u8 47, .int .u8 59, .int .u8 36, .int .u8 45, .int .u8 43, .int .u8 51, .int .u8 22, .int .u8 53, .int .u8 39, .int .u8 33, .int .u8 30, .int .u8 24, .int .u8 18, .int .u8 12, .int .u8 5, .int .u8 63, .int .u8 55, .int .u8 48, .int .u8 27, .int .u8 60, .int .u8 41, .int .u8 37, .int .u8 16, .int .u8 46, .int .u8 35, .int .u8 44, .int .u8 21, .int .u8 52, .int .u8 32, .int .u8 23, .int .u8 11, .int .u8 54, .int .u8 26, .int .u8 40, .int .u8 15, .int .u8 34, .int .u8 20, .int .u8 31, .int .u8 10, .int .u8 25, .int .u8 14, .int .u8 19, .int .u8 9, .int .u8 13, .int .u8 8, .int .u8 7, .int .u8 6])).modify 1 (layTab #[.int .u64 1, .int .u64 10, .int .u64 100, .int .u64 1000, .int .u64 10000, .int .u64 100000, .int .u64 1000000, .int .u64 10000000, .int .u64 100000000, .int .u64 1000000000, .int .u64 10000000000, .int .u64 100000000000, .int .u64 1000000000000, .int .u64 10000000000000, .int .u64 100000000000000, .int .u64 1000000000000000, .int .u64 10000000000000000, .int .u64 100000000000000000, .int .u64 1000000000000000000, .int .u64 10000000000000000000])) }
theorem laid_met (os : Os) : laidMetH Tryd.prog Rows.fnExactIsMixtureOfRow.laid ((laidWorld os).forCall (fun _ _ => 0) ⟨#[], #[.agg #[.slice none 0 0, .slice none 0 0], .agg #[.int .i64 0, .slice none 0 0]], []⟩).memory :=
  (laidMet_of_run' 8 (by kernel_rfl) (by kernel_rfl) : laidMet Tryd.prog Rows.fnExactIsMixtureOfRow.laid _)
theorem reads (os : Os) {H : Type} (enc : TypeId × Value → H) : ∃ places, DataW.whole enc Tryd.prog ((laidWorld os).forCall (fun _ _ => 0) ⟨#[], #[.agg #[.slice none 0 0, .slice none 0 0], .agg #[.int .i64 0, .slice none 0 0]], []⟩).memory Tryd.f8.params.toList Rows.fnExactIsMixtureOfSpec.vars false (#[.agg #[.slice none 0 0, .slice none 0 0], .agg #[.int .i64 0, .slice none 0 0]] : Array Value).toList 8 = some ([.agg [.nil, .nil], .agg [.lit (.int .i64 0), .nil]], [], places) :=
  ⟨[], by kernel_rfl⟩
set_option maxRecDepth 100000 in
theorem lifted (os : Os) (started : os.Started) (H : Type) (enc : TypeId × Value → H) (F : Stop.Interp) :
    ReturnsInHanded {} Tryd.checked os 8 .any ((OpenSpec.ofChange Rows.fnExactIsMixtureOfSpec).preRow enc Tryd.prog Tryd.f8 Rows.fnExactIsMixtureOfRow.domain false Rows.fnExactIsMixtureOfRow.laid) (((OpenSpec.ofChange Rows.fnExactIsMixtureOfSpec).at F).post enc Tryd.prog Tryd.f8 false true false false) := by
  obtain ⟨places, hx⟩ := reads os enc
  refine returnsInHanded_of_row (C := Tryd.checked) (s := OpenSpec.ofChange Rows.fnExactIsMixtureOfSpec) own started (by kernel_rfl) Tryd.func8
    (witness_row_at (enc := enc) (C := Tryd.checked) false (laidWorld os) #[.agg #[.slice none 0 0, .slice none 0 0], .agg #[.int .i64 0, .slice none 0 0]] rfl (by kernel_rfl) (by kernel_rfl) (by kernel_rfl)
      (OpenSpec.preRow_of_cond 8 hx (by kernel_rfl) (fun k hk => by cases hk) (by kernel_rfl) (laid_met os))) ?_
  intro W base args ds gs before hval hW _ _ _ hL hS _
  exact contract H enc W base args ds gs before hval hW hL
theorem said : Rows.FnExactIsMixtureOfSaid :=
  OpenClaim.holds_of_cond 8 Tryd.f8 rfl rfl rfl rfl rfl rfl rfl ⟨rfl, rfl, rfl, rfl, rfl⟩ rfl rfl rfl rfl rfl (by kernel_rfl) Tryd.func8 (by kernel_rfl)
    (of_decide_eq_true (by kernel_rfl)) (by unfold Func.isWrapper; first | (rw [if_pos (by decide +kernel)]; kernel_rfl) | (rw [if_neg (by decide +kernel)]; exact ⟨rfl, rfl⟩))
    (fun os started H enc _ F => by rw [OpenClaim.pre_eq_preRow]; exact lifted os started H enc F)
theorem plain (f : FuncId) (fn : Func) (hf : Tryd.pinned.checked.prog.funcNamed "loop.example/g01129/laws.FnExactIsMixtureOf" = some f) (hfn : Tryd.pinned.checked.prog.funcs[f]? = some fn) :
    false = Tryd.pinned.checked.prog.looks [] ∧ ∀ (j : Nat) t, fn.params[j]? = some t → Tryd.pinned.checked.prog.wantsStandIn t = false := by
  obtain rfl : f = 8 := Option.some.inj ((show Tryd.prog.funcNamed "loop.example/g01129/laws.FnExactIsMixtureOf" = some 8 by kernel_rfl).symm.trans hf) |>.symm
  obtain rfl : fn = Tryd.f8 := (Option.some.inj (Tryd.func8.symm.trans hfn)).symm
  refine ⟨by kernel_rfl, fun j t ht => ?_⟩
  rw [Tryd.params8] at ht
  have hm := Array.mem_of_getElem? ht
  simp only [List.mem_toArray, List.mem_cons, List.not_mem_nil, or_false] at hm
  rcases hm with rfl | rfl
  · exact (show Tryd.prog.wantsStandIn 54 = false by kernel_rfl)
  · exact (show Tryd.prog.wantsStandIn 59 = false by kernel_rfl)
/-- THE STATEMENT. -/
theorem proved : Rows.FnExactIsMixtureOfCardSaid :=
  Claim7.holds_tied_plain_at .later [] _ _ _ _ said (fun _ h => by cases h) (by kernel_rfl) (fun _ h => by cases h) fnExactIsMixtureOf_row_tie rfl ⟨rfl, rfl⟩ (by kernel_rfl) rfl plain (by kernel_rfl)
end Go.Proofs.YtgpnlnmljeahdaaDoor.fnExactIsMixtureOf
