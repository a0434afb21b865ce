/- IsMarginRounding answers as its model, at every struct of an int64 and a slice of slices of int64, every two slices of int64 and every slice of slices of int64, and writes into none of them. -/
import Derived.Test.YtjoanfgchapbaabMar5
import Derived.Test.YtjoanfgchapbaabMarI
import Derived.Deep.RegionHeld3
namespace Go.Proofs.Ytjoanfgchapbaab.fnExactIsMarginRounding
open Go.ChangeShapes Go.WideShapes Go.ChangeAt Go.RowKit Go.Deep
open Go.ChangeMaps (open_string shut_string)
set_option linter.unusedVariables false

set_option maxHeartbeats 1600000 in
set_option maxRecDepth 100000 in
theorem walk (w : World) (g0 : Int) (u0 : In64 g0) (a0 : Option Addr) (cap0 : Nat) (z0 : List (List Int)) (af0 : Intss w a0 z0) (a1 : Option Addr) (cap1 : Nat) (z1 : List Int) (af1 : Ints w a1 z1) (a2 : Option Addr) (cap2 : Nat) (z2 : List Int) (af2 : Ints w a2 z2) (a3 : Option Addr) (cap3 : Nat) (z3 : List (List Int)) (af3 : Intss w a3 z3) :
    Calls Try.prog 11 #[.agg #[.int .i64 g0, .slice a0 z0.length cap0], .slice a1 z1.length cap1, .slice a2 z2.length cap2, .slice a3 z3.length cap3] w fun e w' => e = .returned (.bool true) ∧ Below w.heap.size w w' := by
  have K0 : Keep w w := Below.refl _ _
  have len0_ := af0.small
  have len1_ := af1.small
  have len2_ := af2.small
  have len3_ := af3.small
  by_cases big1_ : (1048576 : Int) < (z1.length : Int)
  · -- too long: nothing is asked
    go_enter Try.func11, Try.ntmps11
    go_wp2
    go_ret
    exact ⟨rfl, Keep.next K0 (by go_grown)⟩
  have fit1_ : 0 ≤ (1048576 : Int) - (z1.length : Int) := by omega
  clear big1_
  by_cases big2_ : (1048576 : Int) < (z2.length : Int)
  · -- too long: nothing is asked
    go_enter Try.func11, Try.ntmps11
    go_wp2
    go_ret
    exact ⟨rfl, Keep.next K0 (by go_grown)⟩
  have fit2_ : 0 ≤ (1048576 : Int) - (z2.length : Int) := by omega
  clear big2_
  by_cases big0_ : (1048576 : Int) < ((z0.length : Int) + (tot z0 : Int))
  · -- too long: nothing is asked
    go_enter Try.func11, Try.ntmps11
    go_wp2_with fail
    refine (szTable_ex g0 a0 cap0 z0 (1048576) _ ((af0.keep K0 (Nat.le_refl _)).keep (B := _) (by go_grown) (Nat.le_refl _)) (by omega) (by omega)).mono ?_
    rw [if_pos (by omega)]
    rintro e w1 ⟨rfl, k1⟩
    have g1_ : Keep w w1 := Keep.next (by go_grown) k1
    have K1 := Keep.next K0 g1_
    have s1_ := g1_.size
    have X_ : Box w1 (w.heap.size) g0 (a0) (z0.length) (cap0) := Box.keep ⟨by simp, by simp, by first | (simp; done) | (simp; omega)⟩ k1
    obtain ⟨B0a, B0b, B0l⟩ := X_
    have B0s := B0l
    go_wp2
    go_ret
    exact ⟨rfl, Keep.next K1 (by go_grown)⟩
  have fit0_ : 0 ≤ (1048576 : Int) - ((z0.length : Int) + (tot z0 : Int)) := by omega
  clear big0_
  by_cases big3_ : (1048576 : Int) - (z0.length : Int) - (tot z0 : Int) < ((z3.length : Int) + (tot z3 : Int))
  · -- too long: nothing is asked
    go_enter Try.func11, Try.ntmps11
    go_wp2_with fail
    refine (szTable_ex g0 a0 cap0 z0 (1048576) _ ((af0.keep K0 (Nat.le_refl _)).keep (B := _) (by go_grown) (Nat.le_refl _)) (by omega) (by omega)).mono ?_
    rw [if_neg (by omega)]
    rintro e w1 ⟨rfl, k1⟩
    have g1_ : Keep w w1 := Keep.next (by go_grown) k1
    have K1 := Keep.next K0 g1_
    have s1_ := g1_.size
    have X_ : Box w1 (w.heap.size) g0 (a0) (z0.length) (cap0) := Box.keep ⟨by simp, by simp, by first | (simp; done) | (simp; omega)⟩ k1
    obtain ⟨B0a, B0b, B0l⟩ := X_
    have B0s := B0l
    go_wp2_with fail
    refine (szInt64SS_ex a3 cap3 z3 (1048576 - (z0.length : Int) - (tot z0 : Int)) _ ((af3.keep K1 (Nat.le_refl _)).keep (B := _) (by go_grown) (Nat.le_refl _)) (by omega) (by omega)).mono ?_
    rw [if_pos (by omega)]
    rintro e w2 ⟨rfl, k2⟩
    have g2_ : Keep w1 w2 := Keep.next (by go_grown) k2
    have K2 := Keep.next K1 g2_
    have s2_ := g2_.size
    have X_ := (Box.mk B0a B0b B0l).keep g2_
    clear B0a B0b B0l; obtain ⟨B0a, B0b, B0l⟩ := X_
    go_wp2
    go_ret
    exact ⟨rfl, Keep.next K2 (by go_grown)⟩
  have fit3_ : 0 ≤ (1048576 : Int) - (z0.length : Int) - (tot z0 : Int) - ((z3.length : Int) + (tot z3 : Int)) := by omega
  clear big3_
  obtain ⟨r0, H1, H2⟩ : ∃ (r0 : Bool), Hid (∀ (W : World) (p0 : Option Addr) (c0 : Nat) (p1 : Option Addr) (c1 : Nat) (p2 : Option Addr) (c2 : Nat) (p3 : Option Addr) (c3 : Nat), Intss W p0 z0 → Ints W p1 z1 → Ints W p2 z2 → Intss W p3 z3 → Calls Try.prog 48 #[valV g0 p0 z0.length c0, .slice p1 z1.length c1, .slice p2 z2.length c2, .slice p3 z3.length c3] W fun e w' => e = .returned (.bool r0) ∧ Keep W w') ∧ Hid (∀ (W : World) (p0 : Option Addr) (c0 : Nat) (p1 : Option Addr) (c1 : Nat) (p2 : Option Addr) (c2 : Nat) (p3 : Option Addr) (c3 : Nat), Intss W p0 z0 → Ints W p1 z1 → Ints W p2 z2 → Intss W p3 z3 → Calls Try.prog 50 #[valV g0 p0 z0.length c0, .slice p1 z1.length c1, .slice p2 z2.length c2, .slice p3 z3.length c3] W fun e w' => e = .returned (.bool r0) ∧ Keep W w') :=
    ⟨_, Lib.hid (fun W p0 c0 p1 c1 p2 c2 p3 c3 h0 h1 h2 h3 => specIsMarginRounding_any g0 p0 c0 z0 p1 c1 z1 p2 c2 z2 p3 c3 z3 W h0 h1 h2 h3), Lib.hid (fun W p0 c0 p1 c1 p2 c2 p3 c3 h0 h1 h2 h3 => IsMarginRounding_any g0 p0 c0 z0 p1 c1 z1 p2 c2 z2 p3 c3 z3 W h0 h1 h2 h3)⟩
  go_enter Try.func11, Try.ntmps11
  go_wp2_with fail
  refine (szTable_ex g0 a0 cap0 z0 (1048576) _ ((af0.keep K0 (Nat.le_refl _)).keep (B := _) (by go_grown) (Nat.le_refl _)) (by omega) (by omega)).mono ?_
  rw [if_neg (by omega)]
  rintro e w1 ⟨rfl, k1⟩
  have g1_ : Keep w w1 := Keep.next (by go_grown) k1
  have K1 := Keep.next K0 g1_
  have s1_ := g1_.size
  have X_ : Box w1 (w.heap.size) g0 (a0) (z0.length) (cap0) := Box.keep ⟨by simp, by simp, by first | (simp; done) | (simp; omega)⟩ k1
  obtain ⟨B0a, B0b, B0l⟩ := X_
  have B0s := B0l
  go_wp2_with fail
  refine (szInt64SS_ex a3 cap3 z3 (1048576 - (z0.length : Int) - (tot z0 : Int)) _ ((af3.keep K1 (Nat.le_refl _)).keep (B := _) (by go_grown) (Nat.le_refl _)) (by omega) (by omega)).mono ?_
  rw [if_neg (by omega)]
  rintro e w2 ⟨rfl, k2⟩
  have g2_ : Keep w1 w2 := Keep.next (by go_grown) k2
  have K2 := Keep.next K1 g2_
  have s2_ := g2_.size
  have X_ := (Box.mk B0a B0b B0l).keep g2_
  clear B0a B0b B0l; obtain ⟨B0a, B0b, B0l⟩ := X_
  go_wp2_with fail
  refine (toTable_ex g0 a0 cap0 z0 _ ((af0.keep K2 (Nat.le_refl _)).keep (B := _) (by go_grown) (Nat.le_refl _)) (by omega) (by omega)).mono ?_
  rintro e w3 ⟨t0b, t0g, rfl, t0o, k3⟩
  have t0 : MineSS w3 (w2.heap.size) w3.heap.size _ _ _ := MineSS.new (by go_size) t0o
  clear t0o
  have g3_ : Keep w2 w3 := Keep.next (by go_grown) k3
  have K3 := Keep.next K2 g3_
  have s3_ := g3_.size
  have X_ := (Box.mk B0a B0b B0l).keep g3_
  clear B0a B0b B0l; obtain ⟨B0a, B0b, B0l⟩ := X_
  go_wp2_with fail
  refine (toInt64S_ex a1 cap1 z1 _ ((af1.keep K3 (Nat.le_refl _)).keep (B := _) (by go_grown) (Nat.le_refl _)) (by omega)).mono ?_
  rintro e w4 ⟨t1b, rfl, t1o, k4⟩
  have t1 : Mine w4 (w3.heap.size) w4.heap.size _ _ _ := Mine.new (by go_size) t1o
  clear t1o
  have g4_ : Keep w3 w4 := Keep.next (by go_grown) k4
  have K4 := Keep.next K3 g4_
  have s4_ := g4_.size
  have X_ := (Box.mk B0a B0b B0l).keep g4_
  clear B0a B0b B0l; obtain ⟨B0a, B0b, B0l⟩ := X_
  replace t0 := t0.keep g4_
  go_wp2_with fail
  refine (toInt64S_ex a2 cap2 z2 _ ((af2.keep K4 (Nat.le_refl _)).keep (B := _) (by go_grown) (Nat.le_refl _)) (by omega)).mono ?_
  rintro e w5 ⟨t2b, rfl, t2o, k5⟩
  have t2 : Mine w5 (w4.heap.size) w5.heap.size _ _ _ := Mine.new (by go_size) t2o
  clear t2o
  have g5_ : Keep w4 w5 := Keep.next (by go_grown) k5
  have K5 := Keep.next K4 g5_
  have s5_ := g5_.size
  have X_ := (Box.mk B0a B0b B0l).keep g5_
  clear B0a B0b B0l; obtain ⟨B0a, B0b, B0l⟩ := X_
  replace t0 := t0.keep g5_
  replace t1 := t1.keep g5_
  go_wp2_with fail
  refine (toInt64SS_ex a3 cap3 z3 _ ((af3.keep K5 (Nat.le_refl _)).keep (B := _) (by go_grown) (Nat.le_refl _)) (by omega) (by omega)).mono ?_
  rintro e w6 ⟨t3b, t3g, rfl, t3o, k6⟩
  have t3 : MineSS w6 (w5.heap.size) w6.heap.size _ _ _ := MineSS.new (by go_size) t3o
  clear t3o
  have g6_ : Keep w5 w6 := Keep.next (by go_grown) k6
  have K6 := Keep.next K5 g6_
  have s6_ := g6_.size
  have X_ := (Box.mk B0a B0b B0l).keep g6_
  clear B0a B0b B0l; obtain ⟨B0a, B0b, B0l⟩ := X_
  replace t0 := t0.keep g6_
  replace t1 := t1.keep g6_
  replace t2 := t2.keep g6_
  go_wp2_with fail
  refine (H1.out _ (some ⟨t0b, 0, none⟩) z0.length (some ⟨t1b, 0, none⟩) z1.length (some ⟨t2b, 0, none⟩) z2.length (some ⟨t3b, 0, none⟩) z3.length (t0.keep (by go_grown)).ints (t1.keep (by go_grown)).ints (t2.keep (by go_grown)).ints (t3.keep (by go_grown)).ints).mono ?_
  rintro e w7 ⟨rfl, k7⟩
  have g7_ : Keep w6 w7 := Keep.next (by go_grown) k7
  have K7 := Keep.next K6 g7_
  have s7_ := g7_.size
  have X_ := (Box.mk B0a B0b B0l).keep g7_
  clear B0a B0b B0l; obtain ⟨B0a, B0b, B0l⟩ := X_
  replace t0 := t0.keep g7_
  replace t1 := t1.keep g7_
  replace t2 := t2.keep g7_
  replace t3 := t3.keep g7_
  go_wp2_with fail
  refine (toTable_ex g0 a0 cap0 z0 _ ((af0.keep K7 (Nat.le_refl _)).keep (B := _) (by go_grown) (Nat.le_refl _)) (by omega) (by omega)).mono ?_
  rintro e w8 ⟨x0b, x0g, rfl, x0o, k8⟩
  have x0 : MineSS w8 (w7.heap.size) w8.heap.size _ _ _ := MineSS.new (by go_size) x0o
  clear x0o
  have g8_ : Keep w7 w8 := Keep.next (by go_grown) k8
  have K8 := Keep.next K7 g8_
  have s8_ := g8_.size
  have X_ := (Box.mk B0a B0b B0l).keep g8_
  clear B0a B0b B0l; obtain ⟨B0a, B0b, B0l⟩ := X_
  replace t0 := t0.keep g8_
  replace t1 := t1.keep g8_
  replace t2 := t2.keep g8_
  replace t3 := t3.keep g8_
  go_wp2_with fail
  refine (toInt64S_ex a1 cap1 z1 _ ((af1.keep K8 (Nat.le_refl _)).keep (B := _) (by go_grown) (Nat.le_refl _)) (by omega)).mono ?_
  rintro e w9 ⟨x1b, rfl, x1o, k9⟩
  have x1 : Mine w9 (w8.heap.size + 1) w9.heap.size _ _ _ := Mine.new (by go_size) x1o
  clear x1o
  have g9_ : Keep w8 w9 := Keep.next (by go_grown) k9
  have K9 := Keep.next K8 g9_
  have s9_ := g9_.size
  have X_ := (Box.mk B0a B0b B0l).keep g9_
  clear B0a B0b B0l; obtain ⟨B0a, B0b, B0l⟩ := X_
  have X_ : Box w9 (w8.heap.size) g0 ((some ⟨x0b, 0, none⟩)) (z0.length) (z0.length) := Box.keep ⟨by simp, by simp, by first | (simp; done) | (simp; omega)⟩ k9
  obtain ⟨Y0a, Y0b, Y0l⟩ := X_
  have Y0s := Y0l
  replace t0 := t0.keep g9_
  replace t1 := t1.keep g9_
  replace t2 := t2.keep g9_
  replace t3 := t3.keep g9_
  replace x0 := x0.keep g9_
  go_wp2_with fail
  refine (toInt64S_ex a2 cap2 z2 _ ((af2.keep K9 (Nat.le_refl _)).keep (B := _) (by go_grown) (Nat.le_refl _)) (by omega)).mono ?_
  rintro e w10 ⟨x2b, rfl, x2o, k10⟩
  have x2 : Mine w10 (w9.heap.size) w10.heap.size _ _ _ := Mine.new (by go_size) x2o
  clear x2o
  have g10_ : Keep w9 w10 := Keep.next (by go_grown) k10
  have K10 := Keep.next K9 g10_
  have s10_ := g10_.size
  have X_ := (Box.mk B0a B0b B0l).keep g10_
  clear B0a B0b B0l; obtain ⟨B0a, B0b, B0l⟩ := X_
  have X_ := (Box.mk Y0a Y0b Y0l).keep g10_
  clear Y0a Y0b Y0l; obtain ⟨Y0a, Y0b, Y0l⟩ := X_
  replace t0 := t0.keep g10_
  replace t1 := t1.keep g10_
  replace t2 := t2.keep g10_
  replace t3 := t3.keep g10_
  replace x0 := x0.keep g10_
  replace x1 := x1.keep g10_
  go_wp2_with fail
  refine (toInt64SS_ex a3 cap3 z3 _ ((af3.keep K10 (Nat.le_refl _)).keep (B := _) (by go_grown) (Nat.le_refl _)) (by omega) (by omega)).mono ?_
  rintro e w11 ⟨x3b, x3g, rfl, x3o, k11⟩
  have x3 : MineSS w11 (w10.heap.size) w11.heap.size _ _ _ := MineSS.new (by go_size) x3o
  clear x3o
  have g11_ : Keep w10 w11 := Keep.next (by go_grown) k11
  have K11 := Keep.next K10 g11_
  have s11_ := g11_.size
  have X_ := (Box.mk B0a B0b B0l).keep g11_
  clear B0a B0b B0l; obtain ⟨B0a, B0b, B0l⟩ := X_
  have X_ := (Box.mk Y0a Y0b Y0l).keep g11_
  clear Y0a Y0b Y0l; obtain ⟨Y0a, Y0b, Y0l⟩ := X_
  replace t0 := t0.keep g11_
  replace t1 := t1.keep g11_
  replace t2 := t2.keep g11_
  replace t3 := t3.keep g11_
  replace x0 := x0.keep g11_
  replace x1 := x1.keep g11_
  replace x2 := x2.keep g11_
  go_wp2_with fail
  refine (H2.out _ (some ⟨x0b, 0, none⟩) z0.length (some ⟨x1b, 0, none⟩) z1.length (some ⟨x2b, 0, none⟩) z2.length (some ⟨x3b, 0, none⟩) z3.length (x0.keep (by go_grown)).ints (x1.keep (by go_grown)).ints (x2.keep (by go_grown)).ints (x3.keep (by go_grown)).ints).mono ?_
  rintro e w12 ⟨rfl, k12⟩
  have g12_ : Keep w11 w12 := Keep.next (by go_grown) k12
  have K12 := Keep.next K11 g12_
  have s12_ := g12_.size
  have X_ := (Box.mk B0a B0b B0l).keep g12_
  clear B0a B0b B0l; obtain ⟨B0a, B0b, B0l⟩ := X_
  have X_ := (Box.mk Y0a Y0b Y0l).keep g12_
  clear Y0a Y0b Y0l; obtain ⟨Y0a, Y0b, Y0l⟩ := X_
  replace t0 := t0.keep g12_
  replace t1 := t1.keep g12_
  replace t2 := t2.keep g12_
  replace t3 := t3.keep g12_
  replace x0 := x0.keep g12_
  replace x1 := x1.keep g12_
  replace x2 := x2.keep g12_
  replace x3 := x3.keep g12_
  have HS13 : Hid (∀ w', Keep w12 w' → (w'.cell? ⟨w.heap.size, 0, none⟩ = some (.int .i64 g0) ∧ w'.cell? ⟨w.heap.size, 1, none⟩ = some (.slice a0 z0.length cap0) ∧ w'.cell? ⟨w8.heap.size, 0, none⟩ = some (.int .i64 g0) ∧ w'.cell? ⟨w8.heap.size, 1, none⟩ = some (.slice (some ⟨x0b, 0, none⟩) z0.length z0.length)) ∧ Keep w12 w') := Lib.hid (fun w' k => ⟨⟨((Box.mk B0a B0b B0l).keep k).c0, ((Box.mk B0a B0b B0l).keep k).c1, ((Box.mk Y0a Y0b Y0l).keep k).c0, ((Box.mk Y0a Y0b Y0l).keep k).c1⟩, k⟩)
  go_wp2_with fail
  go_region_held3 (fun w' => (w'.cell? ⟨w.heap.size, 0, none⟩ = some (.int .i64 g0) ∧ w'.cell? ⟨w.heap.size, 1, none⟩ = some (.slice a0 z0.length cap0) ∧ w'.cell? ⟨w8.heap.size, 0, none⟩ = some (.int .i64 g0) ∧ w'.cell? ⟨w8.heap.size, 1, none⟩ = some (.slice (some ⟨x0b, 0, none⟩) z0.length z0.length)) ∧ Keep w12 w')
    (first | exact HS13.out _ (Keep.next (Keep.next (by go_grown) k13) k14) | exact HS13.out _ (Keep.next (by go_grown) k13) | exact HS13.out _ (by go_grown))
    (first | (go_at_call 32; refine (toTable_ex g0 a0 cap0 z0 _ ((af0.keep K12 (Nat.le_refl _)).keep (B := _) (by go_grown) (Nat.le_refl _)) (by omega) (by omega)).mono ?_; rintro e w13 ⟨y0b, y0g, rfl, y0o, k13⟩) | (go_at_call 34; refine (eqTable_same g0 _ _ _ _ z0 _ (((x0.keep (by go_grown)).keep k13).ints.keep (B := _) (by go_grown) (Nat.le_refl _)) (y0o.2.ints.keep (B := _) (by go_grown) (Nat.le_refl _))).mono ?_; rintro e w14 ⟨rfl, k14⟩))
  have g13_ : Keep w12 w13 := Keep.next (by go_grown) k13
  have K13 := Keep.next K12 g13_
  have s13_ := g13_.size
  have X_ := (Box.mk B0a B0b B0l).keep g13_
  clear B0a B0b B0l; obtain ⟨B0a, B0b, B0l⟩ := X_
  have X_ := (Box.mk Y0a Y0b Y0l).keep g13_
  clear Y0a Y0b Y0l; obtain ⟨Y0a, Y0b, Y0l⟩ := X_
  replace t0 := t0.keep g13_
  replace t1 := t1.keep g13_
  replace t2 := t2.keep g13_
  replace t3 := t3.keep g13_
  replace x0 := x0.keep g13_
  replace x1 := x1.keep g13_
  replace x2 := x2.keep g13_
  replace x3 := x3.keep g13_
  have g14_ : Keep w13 w14 := Keep.next (by go_grown) k14
  have K14 := Keep.next K13 g14_
  have s14_ := g14_.size
  have X_ := (Box.mk B0a B0b B0l).keep g14_
  clear B0a B0b B0l; obtain ⟨B0a, B0b, B0l⟩ := X_
  have X_ := (Box.mk Y0a Y0b Y0l).keep g14_
  clear Y0a Y0b Y0l; obtain ⟨Y0a, Y0b, Y0l⟩ := X_
  replace t0 := t0.keep g14_
  replace t1 := t1.keep g14_
  replace t2 := t2.keep g14_
  replace t3 := t3.keep g14_
  replace x0 := x0.keep g14_
  replace x1 := x1.keep g14_
  replace x2 := x2.keep g14_
  replace x3 := x3.keep g14_
  go_wp2_with fail
  refine (toInt64S_ex a1 cap1 z1 _ ((af1.keep K14 (Nat.le_refl _)).keep (B := _) (by go_grown) (Nat.le_refl _)) (by omega)).mono ?_
  rintro e w15 ⟨y1b, rfl, y1o, k15⟩
  have y1 : Mine w15 (w14.heap.size) w15.heap.size _ _ _ := Mine.new (by go_size) y1o
  clear y1o
  have g15_ : Keep w14 w15 := Keep.next (by go_grown) k15
  have K15 := Keep.next K14 g15_
  have s15_ := g15_.size
  have X_ := (Box.mk B0a B0b B0l).keep g15_
  clear B0a B0b B0l; obtain ⟨B0a, B0b, B0l⟩ := X_
  have X_ := (Box.mk Y0a Y0b Y0l).keep g15_
  clear Y0a Y0b Y0l; obtain ⟨Y0a, Y0b, Y0l⟩ := X_
  replace t0 := t0.keep g15_
  replace t1 := t1.keep g15_
  replace t2 := t2.keep g15_
  replace t3 := t3.keep g15_
  replace x0 := x0.keep g15_
  replace x1 := x1.keep g15_
  replace x2 := x2.keep g15_
  replace x3 := x3.keep g15_
  go_wp2_with fail
  refine (eqInt64S_same _ _ _ _ z1 _ (x1.keep (by go_grown)).ints (y1.keep (by go_grown)).ints).mono ?_
  rintro e w16 ⟨rfl, k16⟩
  have g16_ : Keep w15 w16 := Keep.next (by go_grown) k16
  have K16 := Keep.next K15 g16_
  have s16_ := g16_.size
  have X_ := (Box.mk B0a B0b B0l).keep g16_
  clear B0a B0b B0l; obtain ⟨B0a, B0b, B0l⟩ := X_
  have X_ := (Box.mk Y0a Y0b Y0l).keep g16_
  clear Y0a Y0b Y0l; obtain ⟨Y0a, Y0b, Y0l⟩ := X_
  replace t0 := t0.keep g16_
  replace t1 := t1.keep g16_
  replace t2 := t2.keep g16_
  replace t3 := t3.keep g16_
  replace x0 := x0.keep g16_
  replace x1 := x1.keep g16_
  replace x2 := x2.keep g16_
  replace x3 := x3.keep g16_
  replace y1 := y1.keep g16_
  go_wp2_with fail
  refine (toInt64S_ex a2 cap2 z2 _ ((af2.keep K16 (Nat.le_refl _)).keep (B := _) (by go_grown) (Nat.le_refl _)) (by omega)).mono ?_
  rintro e w17 ⟨y2b, rfl, y2o, k17⟩
  have y2 : Mine w17 (w16.heap.size) w17.heap.size _ _ _ := Mine.new (by go_size) y2o
  clear y2o
  have g17_ : Keep w16 w17 := Keep.next (by go_grown) k17
  have K17 := Keep.next K16 g17_
  have s17_ := g17_.size
  have X_ := (Box.mk B0a B0b B0l).keep g17_
  clear B0a B0b B0l; obtain ⟨B0a, B0b, B0l⟩ := X_
  have X_ := (Box.mk Y0a Y0b Y0l).keep g17_
  clear Y0a Y0b Y0l; obtain ⟨Y0a, Y0b, Y0l⟩ := X_
  replace t0 := t0.keep g17_
  replace t1 := t1.keep g17_
  replace t2 := t2.keep g17_
  replace t3 := t3.keep g17_
  replace x0 := x0.keep g17_
  replace x1 := x1.keep g17_
  replace x2 := x2.keep g17_
  replace x3 := x3.keep g17_
  replace y1 := y1.keep g17_
  go_wp2_with fail
  refine (eqInt64S_same _ _ _ _ z2 _ (x2.keep (by go_grown)).ints (y2.keep (by go_grown)).ints).mono ?_
  rintro e w18 ⟨rfl, k18⟩
  have g18_ : Keep w17 w18 := Keep.next (by go_grown) k18
  have K18 := Keep.next K17 g18_
  have s18_ := g18_.size
  have X_ := (Box.mk B0a B0b B0l).keep g18_
  clear B0a B0b B0l; obtain ⟨B0a, B0b, B0l⟩ := X_
  have X_ := (Box.mk Y0a Y0b Y0l).keep g18_
  clear Y0a Y0b Y0l; obtain ⟨Y0a, Y0b, Y0l⟩ := X_
  replace t0 := t0.keep g18_
  replace t1 := t1.keep g18_
  replace t2 := t2.keep g18_
  replace t3 := t3.keep g18_
  replace x0 := x0.keep g18_
  replace x1 := x1.keep g18_
  replace x2 := x2.keep g18_
  replace x3 := x3.keep g18_
  replace y1 := y1.keep g18_
  replace y2 := y2.keep g18_
  go_wp2_with fail
  refine (toInt64SS_ex a3 cap3 z3 _ ((af3.keep K18 (Nat.le_refl _)).keep (B := _) (by go_grown) (Nat.le_refl _)) (by omega) (by omega)).mono ?_
  rintro e w19 ⟨y3b, y3g, rfl, y3o, k19⟩
  have y3 : MineSS w19 (w18.heap.size) w19.heap.size _ _ _ := MineSS.new (by go_size) y3o
  clear y3o
  have g19_ : Keep w18 w19 := Keep.next (by go_grown) k19
  have K19 := Keep.next K18 g19_
  have s19_ := g19_.size
  have X_ := (Box.mk B0a B0b B0l).keep g19_
  clear B0a B0b B0l; obtain ⟨B0a, B0b, B0l⟩ := X_
  have X_ := (Box.mk Y0a Y0b Y0l).keep g19_
  clear Y0a Y0b Y0l; obtain ⟨Y0a, Y0b, Y0l⟩ := X_
  replace t0 := t0.keep g19_
  replace t1 := t1.keep g19_
  replace t2 := t2.keep g19_
  replace t3 := t3.keep g19_
  replace x0 := x0.keep g19_
  replace x1 := x1.keep g19_
  replace x2 := x2.keep g19_
  replace x3 := x3.keep g19_
  replace y1 := y1.keep g19_
  replace y2 := y2.keep g19_
  go_wp2_with fail
  refine (eqInt64SS_same _ _ _ _ z3 _ (x3.keep (by go_grown)).ints (y3.keep (by go_grown)).ints).mono ?_
  rintro e w20 ⟨rfl, k20⟩
  have g20_ : Keep w19 w20 := Keep.next (by go_grown) k20
  have K20 := Keep.next K19 g20_
  have s20_ := g20_.size
  have X_ := (Box.mk B0a B0b B0l).keep g20_
  clear B0a B0b B0l; obtain ⟨B0a, B0b, B0l⟩ := X_
  have X_ := (Box.mk Y0a Y0b Y0l).keep g20_
  clear Y0a Y0b Y0l; obtain ⟨Y0a, Y0b, Y0l⟩ := X_
  replace t0 := t0.keep g20_
  replace t1 := t1.keep g20_
  replace t2 := t2.keep g20_
  replace t3 := t3.keep g20_
  replace x0 := x0.keep g20_
  replace x1 := x1.keep g20_
  replace x2 := x2.keep g20_
  replace x3 := x3.keep g20_
  replace y1 := y1.keep g20_
  replace y2 := y2.keep g20_
  replace y3 := y3.keep g20_
  go_wp2
  go_ret
  exact ⟨rfl, Keep.next K20 (by go_grown)⟩


theorem own : ownKnob Try.prog.godebug = none := by kernel_rfl
theorem laidOut : laidOutB Try.prog = true := by kernel_rfl
set_option maxRecDepth 100000 in
theorem lifted (os : Os) (started : os.Started) (H : Type) (enc : TypeId × Value → H) :
    ReturnsInHanded {} Try.checked os 11 .any (Rows.fnExactIsMarginRoundingSpec.pre6 enc Try.prog Try.f11 Rows.fnExactIsMarginRoundingRow.domain false) (Rows.fnExactIsMarginRoundingSpec.post enc Try.prog Try.f11 false true false false) := by
  refine returnsInHanded_of_change (C := Try.checked) own started (by kernel_rfl) Try.func11
    (ChangeSpec.witness6 (enc := enc) (C := Try.checked) false ⟨#[], #[.agg #[.int .i64 0, .slice none 0 0], .slice none 0 0, .slice none 0 0, .slice none 0 0], []⟩ 8 (by kernel_rfl) (by kernel_rfl) (by kernel_rfl) (by kernel_rfl)) ?_
  intro W base args ds gs before hval0 hW hcnd _
  have hval : ∀ (j : Nat) t v, Try.f11.params[j]? = some t → args[j]? = some v → Value.okWide Try.prog W .any base t v := hval0
  have hW' := hW
  obtain ⟨p, q, hA0, hV, rfl, hfz, hnd⟩ := hW
  have hA : DataW.TrodAll enc Try.prog W 0 (fun _ => true) true Try.f11.params.toList args.toList ds p := hA0
  rw [Try.params11] at hA hval
  obtain ⟨v0, vs0, d0, ds0, p0, q0, hargs, rfl, rfl, h0, r0⟩ := trodAll_cons hA
  obtain ⟨v1, vs1, d1, ds1, p1, q1, rfl, rfl, rfl, h1, r1⟩ := trodAll_cons r0
  obtain ⟨v2, vs2, d2, ds2, p2, q2, rfl, rfl, rfl, h2, r2⟩ := trodAll_cons r1
  obtain ⟨v3, vs3, d3, ds3, p3, q3, rfl, rfl, rfl, h3, r3⟩ := trodAll_cons r2
  obtain ⟨rfl, rfl, rfl⟩ := trodAll_nil r3
  obtain rfl : args = #[v0, v1, v2, v3] := by cases args; simp_all
  obtain ⟨rfl, rfl⟩ := trodVars_none hV
  have k0 := h0
  have lt0 : ∀ x ∈ p0, x.block < W.heap.size := by obtain ⟨m, hm⟩ := k0; exact DataW.trod_lt m _ _ _ hm
  obtain ⟨g0, a0, cap0, z0, rfl, u0, w0⟩ := tables_open Try.underlying46 (by kernel_rfl) (by kernel_rfl) Try.underlying2 Try.underlying25 Try.underlying32 Try.underlying2 (by kernel_rfl) (by kernel_rfl) (hval 0 46 v0 rfl rfl) h0
  have k1 := h1
  have lt1 : ∀ x ∈ p1, x.block < W.heap.size := by obtain ⟨m, hm⟩ := k1; exact DataW.trod_lt m _ _ _ hm
  obtain ⟨a1, len1, cap1, rfl⟩ := okWide_slice Try.underlying32 (hval 1 32 v1 rfl rfl)
  obtain ⟨z1, e1, w1⟩ := ints_open Try.underlying32 Try.underlying2 (by kernel_rfl) h1
  subst e1
  have k2 := h2
  have lt2 : ∀ x ∈ p2, x.block < W.heap.size := by obtain ⟨m, hm⟩ := k2; exact DataW.trod_lt m _ _ _ hm
  obtain ⟨a2, len2, cap2, rfl⟩ := okWide_slice Try.underlying32 (hval 2 32 v2 rfl rfl)
  obtain ⟨z2, e2, w2⟩ := ints_open Try.underlying32 Try.underlying2 (by kernel_rfl) h2
  subst e2
  have k3 := h3
  have lt3 : ∀ x ∈ p3, x.block < W.heap.size := by obtain ⟨m, hm⟩ := k3; exact DataW.trod_lt m _ _ _ hm
  obtain ⟨a3, len3, cap3, rfl⟩ := okWide_slice Try.underlying25 (hval 3 25 v3 rfl rfl)
  obtain ⟨z3, e3, w3⟩ := intss_open Try.underlying25 Try.underlying32 Try.underlying2 (by kernel_rfl) (by kernel_rfl) h3
  subst e3
  clear hA0 hval0
  refine (walk W g0 u0 a0 cap0 z0 w0 a1 cap1 z1 w1 a2 cap2 z2 w2 a3 cap3 z3 w3).mono fun e W' ⟨he, bel⟩ => ?_
  subst he
  exact ⟨_, rfl, _, _, _, [], _, [], hW', trodAll_mk1 (shut_bool Try.underlying4 _), (trodAll_cons_mk (Below.trod laidOut (by kernel_rfl) (of_decide_eq_true (by kernel_rfl)) k0 bel lt0) (trodAll_cons_mk (Below.trod laidOut (by kernel_rfl) (of_decide_eq_true (by kernel_rfl)) k1 bel lt1) (trodAll_cons_mk (Below.trod laidOut (by kernel_rfl) (of_decide_eq_true (by kernel_rfl)) k2 bel lt2) (trodAll_cons_mk (Below.trod laidOut (by kernel_rfl) (of_decide_eq_true (by kernel_rfl)) k3 bel lt3) trodAll_mk0)))), rfl, bel.frame _, fun h => by cases h⟩
theorem over : Rows.fnExactIsMarginRoundingRow.holds Try.pinned (OpenSpec.ofChange Rows.fnExactIsMarginRoundingSpec) :=
  OpenClaim.holds_of_wide 11 Try.f11 rfl rfl rfl rfl rfl rfl rfl ⟨rfl, rfl, rfl, rfl, rfl⟩ rfl rfl rfl rfl rfl (by kernel_rfl) Try.func11 (by kernel_rfl)
    (of_decide_eq_true (by kernel_rfl)) (by unfold Func.isWrapper; first | (rw [if_pos (by decide +kernel)]; kernel_rfl) | (rw [if_neg (by decide +kernel)]; exact ⟨rfl, rfl⟩))
    (fun os started H enc _ => lifted os started H enc)
/-- THE STATEMENT. -/
theorem proved : Rows.FnExactIsMarginRoundingSaid := over
end Go.Proofs.Ytjoanfgchapbaab.fnExactIsMarginRounding
