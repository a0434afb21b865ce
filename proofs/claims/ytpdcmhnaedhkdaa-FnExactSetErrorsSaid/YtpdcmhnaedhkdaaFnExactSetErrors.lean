/- SetErrors answers as its model, at every system, values and list; it writes nothing of its arguments and owns its answer. -/
import Derived.Test.YtpdcmhnaedhkdaaSeI10
import Derived.Test.YtpdcmhnaedhkdaaSeS10
import Derived.Deep.RegionHeld3
namespace Go.Proofs.Ytpdcmhnaedhkdaa.fnExactSetErrors
open Go.ChangeShapes Go.WideShapes Go.ChangeAt Go.RowKit
open Go.ChangeMaps (open_string shut_string)
set_option linter.unusedVariables false

set_option maxHeartbeats 1600000 in
set_option maxRecDepth 100000 in
theorem walk (w : World) (g0 : Int) (u0 : In64 g0) (a0 : Option Addr) (cap0 : Nat) (z0 : List Int) (af0 : Ints w a0 z0) (g1 : Int) (u1 : In64 g1) (a1 : Option Addr) (cap1 : Nat) (z1 : List Int) (af1 : Ints w a1 z1) (a2 : Option Addr) (cap2 : Nat) (z2 : List Int) (af2 : Ints w a2 z2) :
    Calls Try.prog 7 #[.agg #[.int .i64 g0, .slice a0 z0.length cap0], .agg #[.int .i64 g1, .slice a1 z1.length cap1], .slice a2 z2.length cap2] w fun e w' => e = .returned (.bool true) ∧ Below w.heap.size w w' := by
  have K0 : Keep w w := Below.refl _ _
  have len0_ := af0.small
  have len1_ := af1.small
  have len2_ := af2.small
  by_cases big2_ : (1048576 : Int) < (z2.length : Int)
  · -- too long: nothing is asked
    go_enter Try.func7, Try.ntmps7
    go_wp2
    go_ret
    exact ⟨rfl, Keep.next K0 (by go_grown)⟩
  have fit2_ : 0 ≤ (1048576 : Int) - (z2.length : Int) := by omega
  clear big2_
  by_cases big0_ : (1048576 : Int) < (z0.length : Int)
  · -- too long: nothing is asked
    go_enter Try.func7, Try.ntmps7
    go_wp2_with fail
    refine (szSystem_any g0 a0 cap0 z0.length (1048576) _ (by omega) (by omega) af0.small).mono ?_
    rw [if_pos (by omega)]
    rintro e w1 ⟨rfl, k1⟩
    have g1_ : Keep w w1 := Keep.next (by go_grown) k1
    have K1 := Keep.next K0 g1_
    have s1_ := g1_.size
    have X_ : Box w1 (w.heap.size) g0 (a0) (z0.length) (cap0) := Box.keep ⟨by simp, by simp, by first | (simp; done) | (simp; omega)⟩ k1
    obtain ⟨B0a, B0b, B0l⟩ := X_
    have B0s := B0l
    have X_ : Box w1 (w.heap.size + 1) g1 (a1) (z1.length) (cap1) := Box.keep ⟨by simp, by simp, by first | (simp; done) | (simp; omega)⟩ k1
    obtain ⟨B1a, B1b, B1l⟩ := X_
    have B1s := B1l
    go_wp2
    go_ret
    exact ⟨rfl, Keep.next K1 (by go_grown)⟩
  have fit0_ : 0 ≤ (1048576 : Int) - (z0.length : Int) := by omega
  clear big0_
  by_cases big1_ : (1048576 : Int) - (z0.length : Int) < (z1.length : Int)
  · -- too long: nothing is asked
    go_enter Try.func7, Try.ntmps7
    go_wp2_with fail
    refine (szSystem_any g0 a0 cap0 z0.length (1048576) _ (by omega) (by omega) af0.small).mono ?_
    rw [if_neg (by omega)]
    rintro e w1 ⟨rfl, k1⟩
    have g1_ : Keep w w1 := Keep.next (by go_grown) k1
    have K1 := Keep.next K0 g1_
    have s1_ := g1_.size
    have X_ : Box w1 (w.heap.size) g0 (a0) (z0.length) (cap0) := Box.keep ⟨by simp, by simp, by first | (simp; done) | (simp; omega)⟩ k1
    obtain ⟨B0a, B0b, B0l⟩ := X_
    have B0s := B0l
    have X_ : Box w1 (w.heap.size + 1) g1 (a1) (z1.length) (cap1) := Box.keep ⟨by simp, by simp, by first | (simp; done) | (simp; omega)⟩ k1
    obtain ⟨B1a, B1b, B1l⟩ := X_
    have B1s := B1l
    go_wp2_with fail
    refine (szValues_any g1 a1 cap1 z1.length (1048576 - (z0.length : Int)) _ (by omega) (by omega) af1.small).mono ?_
    rw [if_pos (by omega)]
    rintro e w2 ⟨rfl, k2⟩
    have g2_ : Keep w1 w2 := Keep.next (by go_grown) k2
    have K2 := Keep.next K1 g2_
    have s2_ := g2_.size
    have X_ := (Box.mk B0a B0b B0l).keep g2_
    clear B0a B0b B0l; obtain ⟨B0a, B0b, B0l⟩ := X_
    have X_ := (Box.mk B1a B1b B1l).keep g2_
    clear B1a B1b B1l; obtain ⟨B1a, B1b, B1l⟩ := X_
    go_wp2
    go_ret
    exact ⟨rfl, Keep.next K2 (by go_grown)⟩
  have fit1_ : 0 ≤ (1048576 : Int) - (z0.length : Int) - (z1.length : Int) := by omega
  clear big1_
  obtain ⟨r0, r1, H1, H2⟩ : ∃ (r0 : List Int) (r1 : Bool), Hid (∀ (W : World) (p0 : Option Addr) (c0 : Nat) (p1 : Option Addr) (c1 : Nat) (p2 : Option Addr) (c2 : Nat), Ints W p0 z0 → Ints W p1 z1 → Ints W p2 z2 → Calls Try.prog 32 #[valV g0 p0 z0.length c0, valV g1 p1 z1.length c1, .slice p2 z2.length c2] W fun e w' => ∃ rd0 rc0, e = .returned (.tuple #[.slice rd0 r0.length rc0, .bool r1]) ∧ Own w' W.heap.size rd0 rc0 r0 ∧ Keep W w') ∧ Hid (∀ (W : World) (p0 : Option Addr) (c0 : Nat) (p1 : Option Addr) (c1 : Nat) (p2 : Option Addr) (c2 : Nat), Ints W p0 z0 → Ints W p1 z1 → Ints W p2 z2 → Calls Try.prog 35 #[valV g0 p0 z0.length c0, valV g1 p1 z1.length c1, .slice p2 z2.length c2] W fun e w' => ∃ rd0 rc0, e = .returned (.tuple #[.slice rd0 r0.length rc0, .bool r1]) ∧ Own w' W.heap.size rd0 rc0 r0 ∧ Keep W w') :=
    ⟨_, _, Lib.hid (fun W p0 c0 p1 c1 p2 c2 h0 h1 h2 => specSetErrors_any g0 p0 c0 z0 g1 p1 c1 z1 p2 c2 z2 W h0 h1 h2), Lib.hid (fun W p0 c0 p1 c1 p2 c2 h0 h1 h2 => SetErrors_any g0 p0 c0 z0 g1 p1 c1 z1 p2 c2 z2 W h0 h1 h2)⟩
  go_enter Try.func7, Try.ntmps7
  go_wp2_with fail
  refine (szSystem_any g0 a0 cap0 z0.length (1048576) _ (by omega) (by omega) af0.small).mono ?_
  rw [if_neg (by omega)]
  rintro e w1 ⟨rfl, k1⟩
  have g1_ : Keep w w1 := Keep.next (by go_grown) k1
  have K1 := Keep.next K0 g1_
  have s1_ := g1_.size
  have X_ : Box w1 (w.heap.size) g0 (a0) (z0.length) (cap0) := Box.keep ⟨by simp, by simp, by first | (simp; done) | (simp; omega)⟩ k1
  obtain ⟨B0a, B0b, B0l⟩ := X_
  have B0s := B0l
  have X_ : Box w1 (w.heap.size + 1) g1 (a1) (z1.length) (cap1) := Box.keep ⟨by simp, by simp, by first | (simp; done) | (simp; omega)⟩ k1
  obtain ⟨B1a, B1b, B1l⟩ := X_
  have B1s := B1l
  go_wp2_with fail
  refine (szValues_any g1 a1 cap1 z1.length (1048576 - (z0.length : Int)) _ (by omega) (by omega) af1.small).mono ?_
  rw [if_neg (by omega)]
  rintro e w2 ⟨rfl, k2⟩
  have g2_ : Keep w1 w2 := Keep.next (by go_grown) k2
  have K2 := Keep.next K1 g2_
  have s2_ := g2_.size
  have X_ := (Box.mk B0a B0b B0l).keep g2_
  clear B0a B0b B0l; obtain ⟨B0a, B0b, B0l⟩ := X_
  have X_ := (Box.mk B1a B1b B1l).keep g2_
  clear B1a B1b B1l; obtain ⟨B1a, B1b, B1l⟩ := X_
  have HSs0_ : Hid (∀ w', Keep w2 w' → ((w'.cell? ⟨w.heap.size, 0, none⟩ = some (.int .i64 g0) ∧ w'.cell? ⟨w.heap.size, 1, none⟩ = some (.slice a0 z0.length cap0)) ∧ (w'.cell? ⟨w.heap.size + 1, 0, none⟩ = some (.int .i64 g1) ∧ w'.cell? ⟨w.heap.size + 1, 1, none⟩ = some (.slice a1 z1.length cap1))) ∧ Keep w2 w') := Lib.hid (fun w' k => ⟨⟨⟨((Box.mk B0a B0b B0l).keep k).c0, ((Box.mk B0a B0b B0l).keep k).c1⟩, ⟨((Box.mk B1a B1b B1l).keep k).c0, ((Box.mk B1a B1b B1l).keep k).c1⟩⟩, k⟩)
  go_wp2_with fail
  go_region_held3 (fun w' => ((w'.cell? ⟨w.heap.size, 0, none⟩ = some (.int .i64 g0) ∧ w'.cell? ⟨w.heap.size, 1, none⟩ = some (.slice a0 z0.length cap0)) ∧ (w'.cell? ⟨w.heap.size + 1, 0, none⟩ = some (.int .i64 g1) ∧ w'.cell? ⟨w.heap.size + 1, 1, none⟩ = some (.slice a1 z1.length cap1))) ∧ Keep w2 w')
    (first | exact HSs0_.out _ (Keep.next (Keep.next (Keep.next (Keep.next (by go_grown) k3) k4) k5) k6) | exact HSs0_.out _ (Keep.next (Keep.next (Keep.next (by go_grown) k3) k4) k5) | exact HSs0_.out _ (Keep.next (Keep.next (by go_grown) k3) k4) | exact HSs0_.out _ (Keep.next (by go_grown) k3) | exact HSs0_.out _ (by go_grown))
    (first | (go_at_call 33; refine (toSystem_any g0 a0 cap0 z0 _ ((af0.keep K2 (Nat.le_refl _)).keep (by go_grown) (Nat.le_refl _)) (by omega)).mono ?_; rintro e w3 ⟨t0b, rfl, t0o, k3⟩) | (go_at_call 34; refine (toValues_any g1 a1 cap1 z1 _ ((af1.keep K2 (Nat.le_refl _)).keep (Keep.next (by go_grown) k3) (Nat.le_refl _)) (by omega)).mono ?_; rintro e w4 ⟨t1b, rfl, t1o, k4⟩) | (go_at_call 15; refine (toInt64S_ex a2 cap2 z2 _ ((af2.keep K2 (Nat.le_refl _)).keep (Keep.next (Keep.next (by go_grown) k3) k4) (Nat.le_refl _)) (by omega)).mono ?_; rintro e w5 ⟨t2b, rfl, t2o, k5⟩) | (go_at_call 32; refine (H1.out _ (some ⟨t0b, 0, none⟩) z0.length (some ⟨t1b, 0, none⟩) z1.length (some ⟨t2b, 0, none⟩) z2.length ((t0o.keep k4).keep k5).ints (t1o.keep k5).ints t2o.ints).mono ?_; rintro e w6 ⟨sd0, sc0, rfl, so0, k6⟩))
  have t0 : Mine w3 (w2.heap.size) w3.heap.size _ _ _ := Mine.new (by go_size) t0o
  clear t0o
  have g3_ : Keep w2 w3 := Keep.next (by go_grown) k3
  have K3 := Keep.next K2 g3_
  have s3_ := g3_.size
  have X_ := (Box.mk B0a B0b B0l).keep g3_
  clear B0a B0b B0l; obtain ⟨B0a, B0b, B0l⟩ := X_
  have X_ := (Box.mk B1a B1b B1l).keep g3_
  clear B1a B1b B1l; obtain ⟨B1a, B1b, B1l⟩ := X_
  have t1 : Mine w4 (w3.heap.size) w4.heap.size _ _ _ := Mine.new (by go_size) t1o
  clear t1o
  have g4_ : Keep w3 w4 := Keep.next (by go_grown) k4
  have K4 := Keep.next K3 g4_
  have s4_ := g4_.size
  have X_ := (Box.mk B0a B0b B0l).keep g4_
  clear B0a B0b B0l; obtain ⟨B0a, B0b, B0l⟩ := X_
  have X_ := (Box.mk B1a B1b B1l).keep g4_
  clear B1a B1b B1l; obtain ⟨B1a, B1b, B1l⟩ := X_
  replace t0 := t0.keep g4_
  have t2 : Mine w5 (w4.heap.size) w5.heap.size _ _ _ := Mine.new (by go_size) t2o
  clear t2o
  have g5_ : Keep w4 w5 := Keep.next (by go_grown) k5
  have K5 := Keep.next K4 g5_
  have s5_ := g5_.size
  have X_ := (Box.mk B0a B0b B0l).keep g5_
  clear B0a B0b B0l; obtain ⟨B0a, B0b, B0l⟩ := X_
  have X_ := (Box.mk B1a B1b B1l).keep g5_
  clear B1a B1b B1l; obtain ⟨B1a, B1b, B1l⟩ := X_
  replace t0 := t0.keep g5_
  replace t1 := t1.keep g5_
  have sm0 : Mine w6 (w5.heap.size) w6.heap.size _ _ _ := Mine.new (by go_size) so0
  clear so0
  have g6_ : Keep w5 w6 := Keep.next (by go_grown) k6
  have K6 := Keep.next K5 g6_
  have s6_ := g6_.size
  have X_ := (Box.mk B0a B0b B0l).keep g6_
  clear B0a B0b B0l; obtain ⟨B0a, B0b, B0l⟩ := X_
  have X_ := (Box.mk B1a B1b B1l).keep g6_
  clear B1a B1b B1l; obtain ⟨B1a, B1b, B1l⟩ := X_
  replace t0 := t0.keep g6_
  replace t1 := t1.keep g6_
  replace t2 := t2.keep g6_
  go_wp2_with fail
  refine (toSystem_any g0 a0 cap0 z0 _ ((af0.keep K6 (Nat.le_refl _)).keep (B := _) (by go_grown) (Nat.le_refl _)) (by omega)).mono ?_
  rintro e w7 ⟨x0b, rfl, x0o, k7⟩
  have x0 : Mine w7 (w6.heap.size) w7.heap.size _ _ _ := Mine.new (by go_size) x0o
  clear x0o
  have g7_ : Keep w6 w7 := Keep.next (by go_grown) k7
  have K7 := Keep.next K6 g7_
  have s7_ := g7_.size
  have X_ := (Box.mk B0a B0b B0l).keep g7_
  clear B0a B0b B0l; obtain ⟨B0a, B0b, B0l⟩ := X_
  have X_ := (Box.mk B1a B1b B1l).keep g7_
  clear B1a B1b B1l; obtain ⟨B1a, B1b, B1l⟩ := X_
  replace t0 := t0.keep g7_
  replace t1 := t1.keep g7_
  replace t2 := t2.keep g7_
  replace sm0 := sm0.keep g7_
  go_wp2_with fail
  refine (toValues_any g1 a1 cap1 z1 _ ((af1.keep K7 (Nat.le_refl _)).keep (B := _) (by go_grown) (Nat.le_refl _)) (by omega)).mono ?_
  rintro e w8 ⟨x1b, rfl, x1o, k8⟩
  have x1 : Mine w8 (w7.heap.size + 1) w8.heap.size _ _ _ := Mine.new (by go_size) x1o
  clear x1o
  have g8_ : Keep w7 w8 := Keep.next (by go_grown) k8
  have K8 := Keep.next K7 g8_
  have s8_ := g8_.size
  have X_ := (Box.mk B0a B0b B0l).keep g8_
  clear B0a B0b B0l; obtain ⟨B0a, B0b, B0l⟩ := X_
  have X_ := (Box.mk B1a B1b B1l).keep g8_
  clear B1a B1b B1l; obtain ⟨B1a, B1b, B1l⟩ := X_
  have X_ : Box w8 (w7.heap.size) g0 ((some ⟨x0b, 0, none⟩)) (z0.length) (z0.length) := Box.keep ⟨by simp, by simp, by first | (simp; done) | (simp; omega)⟩ k8
  obtain ⟨Y0a, Y0b, Y0l⟩ := X_
  have Y0s := Y0l
  replace t0 := t0.keep g8_
  replace t1 := t1.keep g8_
  replace t2 := t2.keep g8_
  replace sm0 := sm0.keep g8_
  replace x0 := x0.keep g8_
  go_wp2_with fail
  refine (toInt64S_ex a2 cap2 z2 _ ((af2.keep K8 (Nat.le_refl _)).keep (B := _) (by go_grown) (Nat.le_refl _)) (by omega)).mono ?_
  rintro e w9 ⟨x2b, rfl, x2o, k9⟩
  have x2 : Mine w9 (w8.heap.size + 1) w9.heap.size _ _ _ := Mine.new (by go_size) x2o
  clear x2o
  have g9_ : Keep w8 w9 := Keep.next (by go_grown) k9
  have K9 := Keep.next K8 g9_
  have s9_ := g9_.size
  have X_ := (Box.mk B0a B0b B0l).keep g9_
  clear B0a B0b B0l; obtain ⟨B0a, B0b, B0l⟩ := X_
  have X_ := (Box.mk B1a B1b B1l).keep g9_
  clear B1a B1b B1l; obtain ⟨B1a, B1b, B1l⟩ := X_
  have X_ := (Box.mk Y0a Y0b Y0l).keep g9_
  clear Y0a Y0b Y0l; obtain ⟨Y0a, Y0b, Y0l⟩ := X_
  have X_ : Box w9 (w8.heap.size) g1 ((some ⟨x1b, 0, none⟩)) (z1.length) (z1.length) := Box.keep ⟨by simp, by simp, by first | (simp; done) | (simp; omega)⟩ k9
  obtain ⟨Y1a, Y1b, Y1l⟩ := X_
  have Y1s := Y1l
  replace t0 := t0.keep g9_
  replace t1 := t1.keep g9_
  replace t2 := t2.keep g9_
  replace sm0 := sm0.keep g9_
  replace x0 := x0.keep g9_
  replace x1 := x1.keep g9_
  go_wp2_with fail
  refine (H2.out _ (some ⟨x0b, 0, none⟩) z0.length (some ⟨x1b, 0, none⟩) z1.length (some ⟨x2b, 0, none⟩) z2.length (x0.keep (by go_grown)).ints (x1.keep (by go_grown)).ints (x2.keep (by go_grown)).ints).mono ?_
  rintro e w10 ⟨gd0, gc0, rfl, go0, k10⟩
  have gm0 : Mine w10 (w9.heap.size) w10.heap.size _ _ _ := Mine.new (by go_size) go0
  clear go0
  have g10_ : Keep w9 w10 := Keep.next (by go_grown) k10
  have K10 := Keep.next K9 g10_
  have s10_ := g10_.size
  have X_ := (Box.mk B0a B0b B0l).keep g10_
  clear B0a B0b B0l; obtain ⟨B0a, B0b, B0l⟩ := X_
  have X_ := (Box.mk B1a B1b B1l).keep g10_
  clear B1a B1b B1l; obtain ⟨B1a, B1b, B1l⟩ := X_
  have X_ := (Box.mk Y0a Y0b Y0l).keep g10_
  clear Y0a Y0b Y0l; obtain ⟨Y0a, Y0b, Y0l⟩ := X_
  have X_ := (Box.mk Y1a Y1b Y1l).keep g10_
  clear Y1a Y1b Y1l; obtain ⟨Y1a, Y1b, Y1l⟩ := X_
  replace t0 := t0.keep g10_
  replace t1 := t1.keep g10_
  replace t2 := t2.keep g10_
  replace sm0 := sm0.keep g10_
  replace x0 := x0.keep g10_
  replace x1 := x1.keep g10_
  replace x2 := x2.keep g10_
  go_wp2_with fail
  refine (eqInt64S_same _ _ _ _ r0 _ (gm0.keep (by go_grown)).ints (sm0.keep (by go_grown)).ints).mono ?_
  rintro e w11 ⟨rfl, k11⟩
  have g11_ : Keep w10 w11 := Keep.next (by go_grown) k11
  have K11 := Keep.next K10 g11_
  have s11_ := g11_.size
  have X_ := (Box.mk B0a B0b B0l).keep g11_
  clear B0a B0b B0l; obtain ⟨B0a, B0b, B0l⟩ := X_
  have X_ := (Box.mk B1a B1b B1l).keep g11_
  clear B1a B1b B1l; obtain ⟨B1a, B1b, B1l⟩ := X_
  have X_ := (Box.mk Y0a Y0b Y0l).keep g11_
  clear Y0a Y0b Y0l; obtain ⟨Y0a, Y0b, Y0l⟩ := X_
  have X_ := (Box.mk Y1a Y1b Y1l).keep g11_
  clear Y1a Y1b Y1l; obtain ⟨Y1a, Y1b, Y1l⟩ := X_
  replace t0 := t0.keep g11_
  replace t1 := t1.keep g11_
  replace t2 := t2.keep g11_
  replace sm0 := sm0.keep g11_
  replace x0 := x0.keep g11_
  replace x1 := x1.keep g11_
  replace x2 := x2.keep g11_
  replace gm0 := gm0.keep g11_
  have HS12 : Hid (∀ w', Keep w11 w' → (w'.cell? ⟨w.heap.size, 0, none⟩ = some (.int .i64 g0) ∧ w'.cell? ⟨w.heap.size, 1, none⟩ = some (.slice a0 z0.length cap0) ∧ w'.cell? ⟨w7.heap.size, 0, none⟩ = some (.int .i64 g0) ∧ w'.cell? ⟨w7.heap.size, 1, none⟩ = some (.slice (some ⟨x0b, 0, none⟩) z0.length z0.length)) ∧ Keep w11 w') := Lib.hid (fun w' k => ⟨⟨((Box.mk B0a B0b B0l).keep k).c0, ((Box.mk B0a B0b B0l).keep k).c1, ((Box.mk Y0a Y0b Y0l).keep k).c0, ((Box.mk Y0a Y0b Y0l).keep k).c1⟩, k⟩)
  go_wp2_with fail
  go_region_held3 (fun w' => (w'.cell? ⟨w.heap.size, 0, none⟩ = some (.int .i64 g0) ∧ w'.cell? ⟨w.heap.size, 1, none⟩ = some (.slice a0 z0.length cap0) ∧ w'.cell? ⟨w7.heap.size, 0, none⟩ = some (.int .i64 g0) ∧ w'.cell? ⟨w7.heap.size, 1, none⟩ = some (.slice (some ⟨x0b, 0, none⟩) z0.length z0.length)) ∧ Keep w11 w')
    (first | exact HS12.out _ (Keep.next (Keep.next (by go_grown) k12) k13) | exact HS12.out _ (Keep.next (by go_grown) k12) | exact HS12.out _ (by go_grown))
    (first | (go_at_call 33; refine (toSystem_any g0 a0 cap0 z0 _ ((af0.keep K11 (Nat.le_refl _)).keep (B := _) (by go_grown) (Nat.le_refl _)) (by omega)).mono ?_; rintro e w12 ⟨y0b, rfl, y0o, k12⟩) | (go_at_call 36; refine (eqSystem_same g0 _ _ _ _ z0 _ (((x0.keep (by go_grown)).keep k12).ints.keep (B := _) (by go_grown) (Nat.le_refl _)) (y0o.ints.keep (B := _) (by go_grown) (Nat.le_refl _))).mono ?_; rintro e w13 ⟨rfl, k13⟩))
  have g12_ : Keep w11 w12 := Keep.next (by go_grown) k12
  have K12 := Keep.next K11 g12_
  have s12_ := g12_.size
  have X_ := (Box.mk B0a B0b B0l).keep g12_
  clear B0a B0b B0l; obtain ⟨B0a, B0b, B0l⟩ := X_
  have X_ := (Box.mk B1a B1b B1l).keep g12_
  clear B1a B1b B1l; obtain ⟨B1a, B1b, B1l⟩ := X_
  have X_ := (Box.mk Y0a Y0b Y0l).keep g12_
  clear Y0a Y0b Y0l; obtain ⟨Y0a, Y0b, Y0l⟩ := X_
  have X_ := (Box.mk Y1a Y1b Y1l).keep g12_
  clear Y1a Y1b Y1l; obtain ⟨Y1a, Y1b, Y1l⟩ := X_
  replace t0 := t0.keep g12_
  replace t1 := t1.keep g12_
  replace t2 := t2.keep g12_
  replace sm0 := sm0.keep g12_
  replace x0 := x0.keep g12_
  replace x1 := x1.keep g12_
  replace x2 := x2.keep g12_
  replace gm0 := gm0.keep g12_
  have g13_ : Keep w12 w13 := Keep.next (by go_grown) k13
  have K13 := Keep.next K12 g13_
  have s13_ := g13_.size
  have X_ := (Box.mk B0a B0b B0l).keep g13_
  clear B0a B0b B0l; obtain ⟨B0a, B0b, B0l⟩ := X_
  have X_ := (Box.mk B1a B1b B1l).keep g13_
  clear B1a B1b B1l; obtain ⟨B1a, B1b, B1l⟩ := X_
  have X_ := (Box.mk Y0a Y0b Y0l).keep g13_
  clear Y0a Y0b Y0l; obtain ⟨Y0a, Y0b, Y0l⟩ := X_
  have X_ := (Box.mk Y1a Y1b Y1l).keep g13_
  clear Y1a Y1b Y1l; obtain ⟨Y1a, Y1b, Y1l⟩ := X_
  replace t0 := t0.keep g13_
  replace t1 := t1.keep g13_
  replace t2 := t2.keep g13_
  replace sm0 := sm0.keep g13_
  replace x0 := x0.keep g13_
  replace x1 := x1.keep g13_
  replace x2 := x2.keep g13_
  replace gm0 := gm0.keep g13_
  have HS14 : Hid (∀ w', Keep w13 w' → (w'.cell? ⟨w.heap.size + 1, 0, none⟩ = some (.int .i64 g1) ∧ w'.cell? ⟨w.heap.size + 1, 1, none⟩ = some (.slice a1 z1.length cap1) ∧ w'.cell? ⟨w8.heap.size, 0, none⟩ = some (.int .i64 g1) ∧ w'.cell? ⟨w8.heap.size, 1, none⟩ = some (.slice (some ⟨x1b, 0, none⟩) z1.length z1.length)) ∧ Keep w13 w') := Lib.hid (fun w' k => ⟨⟨((Box.mk B1a B1b B1l).keep k).c0, ((Box.mk B1a B1b B1l).keep k).c1, ((Box.mk Y1a Y1b Y1l).keep k).c0, ((Box.mk Y1a Y1b Y1l).keep k).c1⟩, k⟩)
  go_wp2_with fail
  go_region_held3 (fun w' => (w'.cell? ⟨w.heap.size + 1, 0, none⟩ = some (.int .i64 g1) ∧ w'.cell? ⟨w.heap.size + 1, 1, none⟩ = some (.slice a1 z1.length cap1) ∧ w'.cell? ⟨w8.heap.size, 0, none⟩ = some (.int .i64 g1) ∧ w'.cell? ⟨w8.heap.size, 1, none⟩ = some (.slice (some ⟨x1b, 0, none⟩) z1.length z1.length)) ∧ Keep w13 w')
    (first | exact HS14.out _ (Keep.next (Keep.next (by go_grown) k14) k15) | exact HS14.out _ (Keep.next (by go_grown) k14) | exact HS14.out _ (by go_grown))
    (first | (go_at_call 34; refine (toValues_any g1 a1 cap1 z1 _ ((af1.keep K13 (Nat.le_refl _)).keep (B := _) (by go_grown) (Nat.le_refl _)) (by omega)).mono ?_; rintro e w14 ⟨y1b, rfl, y1o, k14⟩) | (go_at_call 37; refine (eqValues_same g1 _ _ _ _ z1 _ (((x1.keep (by go_grown)).keep k14).ints.keep (B := _) (by go_grown) (Nat.le_refl _)) (y1o.ints.keep (B := _) (by go_grown) (Nat.le_refl _))).mono ?_; rintro e w15 ⟨rfl, k15⟩))
  have g14_ : Keep w13 w14 := Keep.next (by go_grown) k14
  have K14 := Keep.next K13 g14_
  have s14_ := g14_.size
  have X_ := (Box.mk B0a B0b B0l).keep g14_
  clear B0a B0b B0l; obtain ⟨B0a, B0b, B0l⟩ := X_
  have X_ := (Box.mk B1a B1b B1l).keep g14_
  clear B1a B1b B1l; obtain ⟨B1a, B1b, B1l⟩ := X_
  have X_ := (Box.mk Y0a Y0b Y0l).keep g14_
  clear Y0a Y0b Y0l; obtain ⟨Y0a, Y0b, Y0l⟩ := X_
  have X_ := (Box.mk Y1a Y1b Y1l).keep g14_
  clear Y1a Y1b Y1l; obtain ⟨Y1a, Y1b, Y1l⟩ := X_
  replace t0 := t0.keep g14_
  replace t1 := t1.keep g14_
  replace t2 := t2.keep g14_
  replace sm0 := sm0.keep g14_
  replace x0 := x0.keep g14_
  replace x1 := x1.keep g14_
  replace x2 := x2.keep g14_
  replace gm0 := gm0.keep g14_
  have g15_ : Keep w14 w15 := Keep.next (by go_grown) k15
  have K15 := Keep.next K14 g15_
  have s15_ := g15_.size
  have X_ := (Box.mk B0a B0b B0l).keep g15_
  clear B0a B0b B0l; obtain ⟨B0a, B0b, B0l⟩ := X_
  have X_ := (Box.mk B1a B1b B1l).keep g15_
  clear B1a B1b B1l; obtain ⟨B1a, B1b, B1l⟩ := X_
  have X_ := (Box.mk Y0a Y0b Y0l).keep g15_
  clear Y0a Y0b Y0l; obtain ⟨Y0a, Y0b, Y0l⟩ := X_
  have X_ := (Box.mk Y1a Y1b Y1l).keep g15_
  clear Y1a Y1b Y1l; obtain ⟨Y1a, Y1b, Y1l⟩ := X_
  replace t0 := t0.keep g15_
  replace t1 := t1.keep g15_
  replace t2 := t2.keep g15_
  replace sm0 := sm0.keep g15_
  replace x0 := x0.keep g15_
  replace x1 := x1.keep g15_
  replace x2 := x2.keep g15_
  replace gm0 := gm0.keep g15_
  go_wp2_with fail
  refine (toInt64S_ex a2 cap2 z2 _ ((af2.keep K15 (Nat.le_refl _)).keep (B := _) (by go_grown) (Nat.le_refl _)) (by omega)).mono ?_
  rintro e w16 ⟨y2b, rfl, y2o, k16⟩
  have y2 : Mine w16 (w15.heap.size) w16.heap.size _ _ _ := Mine.new (by go_size) y2o
  clear y2o
  have g16_ : Keep w15 w16 := Keep.next (by go_grown) k16
  have K16 := Keep.next K15 g16_
  have s16_ := g16_.size
  have X_ := (Box.mk B0a B0b B0l).keep g16_
  clear B0a B0b B0l; obtain ⟨B0a, B0b, B0l⟩ := X_
  have X_ := (Box.mk B1a B1b B1l).keep g16_
  clear B1a B1b B1l; obtain ⟨B1a, B1b, B1l⟩ := X_
  have X_ := (Box.mk Y0a Y0b Y0l).keep g16_
  clear Y0a Y0b Y0l; obtain ⟨Y0a, Y0b, Y0l⟩ := X_
  have X_ := (Box.mk Y1a Y1b Y1l).keep g16_
  clear Y1a Y1b Y1l; obtain ⟨Y1a, Y1b, Y1l⟩ := X_
  replace t0 := t0.keep g16_
  replace t1 := t1.keep g16_
  replace t2 := t2.keep g16_
  replace sm0 := sm0.keep g16_
  replace x0 := x0.keep g16_
  replace x1 := x1.keep g16_
  replace x2 := x2.keep g16_
  replace gm0 := gm0.keep g16_
  go_wp2_with fail
  refine (eqInt64S_same _ _ _ _ z2 _ (x2.keep (by go_grown)).ints (y2.keep (by go_grown)).ints).mono ?_
  rintro e w17 ⟨rfl, k17⟩
  have g17_ : Keep w16 w17 := Keep.next (by go_grown) k17
  have K17 := Keep.next K16 g17_
  have s17_ := g17_.size
  have X_ := (Box.mk B0a B0b B0l).keep g17_
  clear B0a B0b B0l; obtain ⟨B0a, B0b, B0l⟩ := X_
  have X_ := (Box.mk B1a B1b B1l).keep g17_
  clear B1a B1b B1l; obtain ⟨B1a, B1b, B1l⟩ := X_
  have X_ := (Box.mk Y0a Y0b Y0l).keep g17_
  clear Y0a Y0b Y0l; obtain ⟨Y0a, Y0b, Y0l⟩ := X_
  have X_ := (Box.mk Y1a Y1b Y1l).keep g17_
  clear Y1a Y1b Y1l; obtain ⟨Y1a, Y1b, Y1l⟩ := X_
  replace t0 := t0.keep g17_
  replace t1 := t1.keep g17_
  replace t2 := t2.keep g17_
  replace sm0 := sm0.keep g17_
  replace x0 := x0.keep g17_
  replace x1 := x1.keep g17_
  replace x2 := x2.keep g17_
  replace gm0 := gm0.keep g17_
  replace y2 := y2.keep g17_
  go_wp2_with fail
  refine (markSystem_any _ g0 _ _ z0 (1) _ (x0.keep (by go_grown)).own (by omega) (by omega) (by omega)).mono ?_
  rintro e w18 ⟨rfl, o18, k18⟩
  have g18_ := grownBy_trans (keep_grown (w := w17) (by go_grown) _) k18
  replace x0 : Mine w18 _ _ _ _ _ := ⟨o18, x0.below⟩
  have K18 := below_past K17 x0 g18_ (K17).size (by omega)
  have s18_ := g18_.size
  have X_ := (Box.mk B0a B0b B0l).past x0 g18_ (by omega)
  clear B0a B0b B0l; obtain ⟨B0a, B0b, B0l⟩ := X_
  have X_ := (Box.mk B1a B1b B1l).past x0 g18_ (by omega)
  clear B1a B1b B1l; obtain ⟨B1a, B1b, B1l⟩ := X_
  have X_ := (Box.mk Y0a Y0b Y0l).past x0 g18_ (by omega)
  clear Y0a Y0b Y0l; obtain ⟨Y0a, Y0b, Y0l⟩ := X_
  have X_ := (Box.mk Y1a Y1b Y1l).past x0 g18_ (by omega)
  clear Y1a Y1b Y1l; obtain ⟨Y1a, Y1b, Y1l⟩ := X_
  replace t0 := t0.past x0 g18_ (by omega)
  replace t1 := t1.past x0 g18_ (by omega)
  replace t2 := t2.past x0 g18_ (by omega)
  replace sm0 := sm0.past x0 g18_ (by omega)
  replace x1 := x1.past x0 g18_ (by omega)
  replace x2 := x2.past x0 g18_ (by omega)
  replace gm0 := gm0.past x0 g18_ (by omega)
  replace y2 := y2.past x0 g18_ (by omega)
  go_wp2_with fail
  refine (markValues_any _ g1 _ _ z1 (1 + (z0.length : Int)) _ (x1.keep (by go_grown)).own (by omega) (by omega) (by omega)).mono ?_
  rintro e w19 ⟨rfl, o19, k19⟩
  have g19_ := grownBy_trans (keep_grown (w := w18) (by go_grown) _) k19
  replace x1 : Mine w19 _ _ _ _ _ := ⟨o19, x1.below⟩
  have K19 := below_past K18 x1 g19_ (K18).size (by omega)
  have s19_ := g19_.size
  have X_ := (Box.mk B0a B0b B0l).past x1 g19_ (by omega)
  clear B0a B0b B0l; obtain ⟨B0a, B0b, B0l⟩ := X_
  have X_ := (Box.mk B1a B1b B1l).past x1 g19_ (by omega)
  clear B1a B1b B1l; obtain ⟨B1a, B1b, B1l⟩ := X_
  have X_ := (Box.mk Y0a Y0b Y0l).past x1 g19_ (by omega)
  clear Y0a Y0b Y0l; obtain ⟨Y0a, Y0b, Y0l⟩ := X_
  have X_ := (Box.mk Y1a Y1b Y1l).past x1 g19_ (by omega)
  clear Y1a Y1b Y1l; obtain ⟨Y1a, Y1b, Y1l⟩ := X_
  replace t0 := t0.past x1 g19_ (by omega)
  replace t1 := t1.past x1 g19_ (by omega)
  replace t2 := t2.past x1 g19_ (by omega)
  replace sm0 := sm0.past x1 g19_ (by omega)
  replace x0 := x0.past x1 g19_ (by omega)
  replace x2 := x2.past x1 g19_ (by omega)
  replace gm0 := gm0.past x1 g19_ (by omega)
  replace y2 := y2.past x1 g19_ (by omega)
  go_wp2_with fail
  refine (markInt64S_any _ _ _ z2 (1 + (z0.length : Int) + (z1.length : Int)) _ (x2.keep (by go_grown)).own (by omega) (by omega) (by omega)).mono ?_
  rintro e w20 ⟨rfl, o20, k20, _⟩
  have g20_ := grownBy_trans (keep_grown (w := w19) (by go_grown) _) k20
  replace x2 : Mine w20 _ _ _ _ _ := ⟨o20, x2.below⟩
  have K20 := below_past K19 x2 g20_ (K19).size (by omega)
  have s20_ := g20_.size
  have X_ := (Box.mk B0a B0b B0l).past x2 g20_ (by omega)
  clear B0a B0b B0l; obtain ⟨B0a, B0b, B0l⟩ := X_
  have X_ := (Box.mk B1a B1b B1l).past x2 g20_ (by omega)
  clear B1a B1b B1l; obtain ⟨B1a, B1b, B1l⟩ := X_
  have X_ := (Box.mk Y0a Y0b Y0l).past x2 g20_ (by omega)
  clear Y0a Y0b Y0l; obtain ⟨Y0a, Y0b, Y0l⟩ := X_
  have X_ := (Box.mk Y1a Y1b Y1l).past x2 g20_ (by omega)
  clear Y1a Y1b Y1l; obtain ⟨Y1a, Y1b, Y1l⟩ := X_
  replace t0 := t0.past x2 g20_ (by omega)
  replace t1 := t1.past x2 g20_ (by omega)
  replace t2 := t2.past x2 g20_ (by omega)
  replace sm0 := sm0.past x2 g20_ (by omega)
  replace x0 := x0.past x2 g20_ (by omega)
  replace x1 := x1.past x2 g20_ (by omega)
  replace gm0 := gm0.past x2 g20_ (by omega)
  replace y2 := y2.past x2 g20_ (by omega)
  have hk_ : 0 ≤ 1 + (z0.length : Int) + (z1.length : Int) + (z2.length : Int) := by omega
  go_wp2_with fail
  refine (eqInt64S_same _ _ _ _ r0 _ (gm0.keep (by go_grown)).ints (sm0.keep (by go_grown)).ints).mono ?_
  rintro e w21 ⟨rfl, k21⟩
  have g21_ : Keep w20 w21 := Keep.next (by go_grown) k21
  have K21 := Keep.next K20 g21_
  have s21_ := g21_.size
  have X_ := (Box.mk B0a B0b B0l).keep g21_
  clear B0a B0b B0l; obtain ⟨B0a, B0b, B0l⟩ := X_
  have X_ := (Box.mk B1a B1b B1l).keep g21_
  clear B1a B1b B1l; obtain ⟨B1a, B1b, B1l⟩ := X_
  have X_ := (Box.mk Y0a Y0b Y0l).keep g21_
  clear Y0a Y0b Y0l; obtain ⟨Y0a, Y0b, Y0l⟩ := X_
  have X_ := (Box.mk Y1a Y1b Y1l).keep g21_
  clear Y1a Y1b Y1l; obtain ⟨Y1a, Y1b, Y1l⟩ := X_
  replace t0 := t0.keep g21_
  replace t1 := t1.keep g21_
  replace t2 := t2.keep g21_
  replace sm0 := sm0.keep g21_
  replace x0 := x0.keep g21_
  replace x1 := x1.keep g21_
  replace x2 := x2.keep g21_
  replace gm0 := gm0.keep g21_
  replace y2 := y2.keep g21_
  have L0_ := gm0.own.2.1
  go_wp2_with fail
  refine (markInt64S_any _ _ _ r0 (1) _ (gm0.keep (by go_grown)).own (by omega) (by omega) (by omega)).mono ?_
  rintro e w22 ⟨rfl, o22, k22, _⟩
  have g22_ := grownBy_trans (keep_grown (w := w21) (by go_grown) _) k22
  replace gm0 : Mine w22 _ _ _ _ _ := ⟨o22, gm0.below⟩
  have K22 := below_past K21 gm0 g22_ (K21).size (by omega)
  have s22_ := g22_.size
  have X_ := (Box.mk B0a B0b B0l).past gm0 g22_ (by omega)
  clear B0a B0b B0l; obtain ⟨B0a, B0b, B0l⟩ := X_
  have X_ := (Box.mk B1a B1b B1l).past gm0 g22_ (by omega)
  clear B1a B1b B1l; obtain ⟨B1a, B1b, B1l⟩ := X_
  have X_ := (Box.mk Y0a Y0b Y0l).past gm0 g22_ (by omega)
  clear Y0a Y0b Y0l; obtain ⟨Y0a, Y0b, Y0l⟩ := X_
  have X_ := (Box.mk Y1a Y1b Y1l).past gm0 g22_ (by omega)
  clear Y1a Y1b Y1l; obtain ⟨Y1a, Y1b, Y1l⟩ := X_
  replace t0 := t0.past gm0 g22_ (by omega)
  replace t1 := t1.past gm0 g22_ (by omega)
  replace t2 := t2.past gm0 g22_ (by omega)
  replace sm0 := sm0.past gm0 g22_ (by omega)
  replace x0 := x0.past gm0 g22_ (by omega)
  replace x1 := x1.past gm0 g22_ (by omega)
  replace x2 := x2.past gm0 g22_ (by omega)
  replace y2 := y2.past gm0 g22_ (by omega)
  have hm_ : 0 ≤ 1 + (r0.length : Int) := by omega
  go_wp2_with fail
  refine (heldInt64S_any _ _ (1) r0.length _ (gm0.keep (by go_grown)).ints (by omega) (by omega) (by omega)).mono ?_
  rintro e w23 ⟨rfl, k23⟩
  have g23_ : Keep w22 w23 := Keep.next (by go_grown) k23
  have K23 := Keep.next K22 g23_
  have s23_ := g23_.size
  have X_ := (Box.mk B0a B0b B0l).keep g23_
  clear B0a B0b B0l; obtain ⟨B0a, B0b, B0l⟩ := X_
  have X_ := (Box.mk B1a B1b B1l).keep g23_
  clear B1a B1b B1l; obtain ⟨B1a, B1b, B1l⟩ := X_
  have X_ := (Box.mk Y0a Y0b Y0l).keep g23_
  clear Y0a Y0b Y0l; obtain ⟨Y0a, Y0b, Y0l⟩ := X_
  have X_ := (Box.mk Y1a Y1b Y1l).keep g23_
  clear Y1a Y1b Y1l; obtain ⟨Y1a, Y1b, Y1l⟩ := X_
  replace t0 := t0.keep g23_
  replace t1 := t1.keep g23_
  replace t2 := t2.keep g23_
  replace sm0 := sm0.keep g23_
  replace x0 := x0.keep g23_
  replace x1 := x1.keep g23_
  replace x2 := x2.keep g23_
  replace gm0 := gm0.keep g23_
  replace y2 := y2.keep g23_
  have HSh0_ : Hid (∀ w', Keep w23 w' → ((w'.cell? ⟨w.heap.size, 0, none⟩ = some (.int .i64 g0) ∧ w'.cell? ⟨w.heap.size, 1, none⟩ = some (.slice a0 z0.length cap0)) ∧ (w'.cell? ⟨w.heap.size + 1, 0, none⟩ = some (.int .i64 g1) ∧ w'.cell? ⟨w.heap.size + 1, 1, none⟩ = some (.slice a1 z1.length cap1))) ∧ Keep w23 w') := Lib.hid (fun w' k => ⟨⟨⟨((Box.mk B0a B0b B0l).keep k).c0, ((Box.mk B0a B0b B0l).keep k).c1⟩, ⟨((Box.mk B1a B1b B1l).keep k).c0, ((Box.mk B1a B1b B1l).keep k).c1⟩⟩, k⟩)
  go_wp2_with fail
  go_region_held3 (fun w' => ((w'.cell? ⟨w.heap.size, 0, none⟩ = some (.int .i64 g0) ∧ w'.cell? ⟨w.heap.size, 1, none⟩ = some (.slice a0 z0.length cap0)) ∧ (w'.cell? ⟨w.heap.size + 1, 0, none⟩ = some (.int .i64 g1) ∧ w'.cell? ⟨w.heap.size + 1, 1, none⟩ = some (.slice a1 z1.length cap1))) ∧ Keep w23 w')
    (first | exact HSh0_.out _ (Keep.next (Keep.next (Keep.next (Keep.next (by go_grown) k24) k25) k26) k27) | exact HSh0_.out _ (Keep.next (Keep.next (Keep.next (by go_grown) k24) k25) k26) | exact HSh0_.out _ (Keep.next (Keep.next (by go_grown) k24) k25) | exact HSh0_.out _ (Keep.next (by go_grown) k24) | exact HSh0_.out _ (by go_grown))
    (first | (go_at_call 33; refine (toSystem_any g0 a0 cap0 z0 _ ((af0.keep K23 (Nat.le_refl _)).keep (by go_grown) (Nat.le_refl _)) (by omega)).mono ?_; rintro e w24 ⟨v0b, rfl, v0o, k24⟩) | (go_at_call 34; refine (toValues_any g1 a1 cap1 z1 _ ((af1.keep K23 (Nat.le_refl _)).keep (Keep.next (by go_grown) k24) (Nat.le_refl _)) (by omega)).mono ?_; rintro e w25 ⟨v1b, rfl, v1o, k25⟩) | (go_at_call 15; refine (toInt64S_ex a2 cap2 z2 _ ((af2.keep K23 (Nat.le_refl _)).keep (Keep.next (Keep.next (by go_grown) k24) k25) (Nat.le_refl _)) (by omega)).mono ?_; rintro e w26 ⟨v2b, rfl, v2o, k26⟩) | (go_at_call 35; refine (H2.out _ (some ⟨v0b, 0, none⟩) z0.length (some ⟨v1b, 0, none⟩) z1.length (some ⟨v2b, 0, none⟩) z2.length ((v0o.keep k25).keep k26).ints (v1o.keep k26).ints v2o.ints).mono ?_; rintro e w27 ⟨hd0, hc0, rfl, ho0, k27⟩))
  have v0 : Mine w24 (w23.heap.size) w24.heap.size _ _ _ := Mine.new (by go_size) v0o
  clear v0o
  have g24_ : Keep w23 w24 := Keep.next (by go_grown) k24
  have K24 := Keep.next K23 g24_
  have s24_ := g24_.size
  have X_ := (Box.mk B0a B0b B0l).keep g24_
  clear B0a B0b B0l; obtain ⟨B0a, B0b, B0l⟩ := X_
  have X_ := (Box.mk B1a B1b B1l).keep g24_
  clear B1a B1b B1l; obtain ⟨B1a, B1b, B1l⟩ := X_
  have X_ := (Box.mk Y0a Y0b Y0l).keep g24_
  clear Y0a Y0b Y0l; obtain ⟨Y0a, Y0b, Y0l⟩ := X_
  have X_ := (Box.mk Y1a Y1b Y1l).keep g24_
  clear Y1a Y1b Y1l; obtain ⟨Y1a, Y1b, Y1l⟩ := X_
  replace t0 := t0.keep g24_
  replace t1 := t1.keep g24_
  replace t2 := t2.keep g24_
  replace sm0 := sm0.keep g24_
  replace x0 := x0.keep g24_
  replace x1 := x1.keep g24_
  replace x2 := x2.keep g24_
  replace gm0 := gm0.keep g24_
  replace y2 := y2.keep g24_
  have v1 : Mine w25 (w24.heap.size) w25.heap.size _ _ _ := Mine.new (by go_size) v1o
  clear v1o
  have g25_ : Keep w24 w25 := Keep.next (by go_grown) k25
  have K25 := Keep.next K24 g25_
  have s25_ := g25_.size
  have X_ := (Box.mk B0a B0b B0l).keep g25_
  clear B0a B0b B0l; obtain ⟨B0a, B0b, B0l⟩ := X_
  have X_ := (Box.mk B1a B1b B1l).keep g25_
  clear B1a B1b B1l; obtain ⟨B1a, B1b, B1l⟩ := X_
  have X_ := (Box.mk Y0a Y0b Y0l).keep g25_
  clear Y0a Y0b Y0l; obtain ⟨Y0a, Y0b, Y0l⟩ := X_
  have X_ := (Box.mk Y1a Y1b Y1l).keep g25_
  clear Y1a Y1b Y1l; obtain ⟨Y1a, Y1b, Y1l⟩ := X_
  replace t0 := t0.keep g25_
  replace t1 := t1.keep g25_
  replace t2 := t2.keep g25_
  replace sm0 := sm0.keep g25_
  replace x0 := x0.keep g25_
  replace x1 := x1.keep g25_
  replace x2 := x2.keep g25_
  replace gm0 := gm0.keep g25_
  replace y2 := y2.keep g25_
  replace v0 := v0.keep g25_
  have v2 : Mine w26 (w25.heap.size) w26.heap.size _ _ _ := Mine.new (by go_size) v2o
  clear v2o
  have g26_ : Keep w25 w26 := Keep.next (by go_grown) k26
  have K26 := Keep.next K25 g26_
  have s26_ := g26_.size
  have X_ := (Box.mk B0a B0b B0l).keep g26_
  clear B0a B0b B0l; obtain ⟨B0a, B0b, B0l⟩ := X_
  have X_ := (Box.mk B1a B1b B1l).keep g26_
  clear B1a B1b B1l; obtain ⟨B1a, B1b, B1l⟩ := X_
  have X_ := (Box.mk Y0a Y0b Y0l).keep g26_
  clear Y0a Y0b Y0l; obtain ⟨Y0a, Y0b, Y0l⟩ := X_
  have X_ := (Box.mk Y1a Y1b Y1l).keep g26_
  clear Y1a Y1b Y1l; obtain ⟨Y1a, Y1b, Y1l⟩ := X_
  replace t0 := t0.keep g26_
  replace t1 := t1.keep g26_
  replace t2 := t2.keep g26_
  replace sm0 := sm0.keep g26_
  replace x0 := x0.keep g26_
  replace x1 := x1.keep g26_
  replace x2 := x2.keep g26_
  replace gm0 := gm0.keep g26_
  replace y2 := y2.keep g26_
  replace v0 := v0.keep g26_
  replace v1 := v1.keep g26_
  have hm0 : Mine w27 (w26.heap.size) w27.heap.size _ _ _ := Mine.new (by go_size) ho0
  clear ho0
  have g27_ : Keep w26 w27 := Keep.next (by go_grown) k27
  have K27 := Keep.next K26 g27_
  have s27_ := g27_.size
  have X_ := (Box.mk B0a B0b B0l).keep g27_
  clear B0a B0b B0l; obtain ⟨B0a, B0b, B0l⟩ := X_
  have X_ := (Box.mk B1a B1b B1l).keep g27_
  clear B1a B1b B1l; obtain ⟨B1a, B1b, B1l⟩ := X_
  have X_ := (Box.mk Y0a Y0b Y0l).keep g27_
  clear Y0a Y0b Y0l; obtain ⟨Y0a, Y0b, Y0l⟩ := X_
  have X_ := (Box.mk Y1a Y1b Y1l).keep g27_
  clear Y1a Y1b Y1l; obtain ⟨Y1a, Y1b, Y1l⟩ := X_
  replace t0 := t0.keep g27_
  replace t1 := t1.keep g27_
  replace t2 := t2.keep g27_
  replace sm0 := sm0.keep g27_
  replace x0 := x0.keep g27_
  replace x1 := x1.keep g27_
  replace x2 := x2.keep g27_
  replace gm0 := gm0.keep g27_
  replace y2 := y2.keep g27_
  replace v0 := v0.keep g27_
  replace v1 := v1.keep g27_
  replace v2 := v2.keep g27_
  go_wp2_with fail
  refine (eqInt64S_same _ _ _ _ r0 _ (hm0.keep (by go_grown)).ints (sm0.keep (by go_grown)).ints).mono ?_
  rintro e w28 ⟨rfl, k28⟩
  have g28_ : Keep w27 w28 := Keep.next (by go_grown) k28
  have K28 := Keep.next K27 g28_
  have s28_ := g28_.size
  have X_ := (Box.mk B0a B0b B0l).keep g28_
  clear B0a B0b B0l; obtain ⟨B0a, B0b, B0l⟩ := X_
  have X_ := (Box.mk B1a B1b B1l).keep g28_
  clear B1a B1b B1l; obtain ⟨B1a, B1b, B1l⟩ := X_
  have X_ := (Box.mk Y0a Y0b Y0l).keep g28_
  clear Y0a Y0b Y0l; obtain ⟨Y0a, Y0b, Y0l⟩ := X_
  have X_ := (Box.mk Y1a Y1b Y1l).keep g28_
  clear Y1a Y1b Y1l; obtain ⟨Y1a, Y1b, Y1l⟩ := X_
  replace t0 := t0.keep g28_
  replace t1 := t1.keep g28_
  replace t2 := t2.keep g28_
  replace sm0 := sm0.keep g28_
  replace x0 := x0.keep g28_
  replace x1 := x1.keep g28_
  replace x2 := x2.keep g28_
  replace gm0 := gm0.keep g28_
  replace y2 := y2.keep g28_
  replace v0 := v0.keep g28_
  replace v1 := v1.keep g28_
  replace v2 := v2.keep g28_
  replace hm0 := hm0.keep g28_
  go_wp2_with fail
  refine (heldInt64S_any _ _ (1) r0.length _ (gm0.keep (by go_grown)).ints (by omega) (by omega) (by omega)).mono ?_
  rintro e w29 ⟨rfl, k29⟩
  have g29_ : Keep w28 w29 := Keep.next (by go_grown) k29
  have K29 := Keep.next K28 g29_
  have s29_ := g29_.size
  have X_ := (Box.mk B0a B0b B0l).keep g29_
  clear B0a B0b B0l; obtain ⟨B0a, B0b, B0l⟩ := X_
  have X_ := (Box.mk B1a B1b B1l).keep g29_
  clear B1a B1b B1l; obtain ⟨B1a, B1b, B1l⟩ := X_
  have X_ := (Box.mk Y0a Y0b Y0l).keep g29_
  clear Y0a Y0b Y0l; obtain ⟨Y0a, Y0b, Y0l⟩ := X_
  have X_ := (Box.mk Y1a Y1b Y1l).keep g29_
  clear Y1a Y1b Y1l; obtain ⟨Y1a, Y1b, Y1l⟩ := X_
  replace t0 := t0.keep g29_
  replace t1 := t1.keep g29_
  replace t2 := t2.keep g29_
  replace sm0 := sm0.keep g29_
  replace x0 := x0.keep g29_
  replace x1 := x1.keep g29_
  replace x2 := x2.keep g29_
  replace gm0 := gm0.keep g29_
  replace y2 := y2.keep g29_
  replace v0 := v0.keep g29_
  replace v1 := v1.keep g29_
  replace v2 := v2.keep g29_
  replace hm0 := hm0.keep g29_
  go_wp2
  go_ret
  exact ⟨rfl, Keep.next K29 (by go_grown)⟩


theorem own : ownKnob Try.prog.godebug = none := by kernel_rfl
theorem laidOut : laidOutB Try.prog = true := by kernel_rfl
set_option maxRecDepth 100000 in
theorem lifted (os : Os) (started : os.Started) (H : Type) (enc : TypeId × Value → H) :
    ReturnsInHanded {} Try.checked os 7 .any (Rows.fnExactSetErrorsSpec.pre6 enc Try.prog Try.f7 Rows.fnExactSetErrorsRow.domain false) (Rows.fnExactSetErrorsSpec.post enc Try.prog Try.f7 false true false false) := by
  refine returnsInHanded_of_change (C := Try.checked) own started (by kernel_rfl) Try.func7
    (ChangeSpec.witness6 (enc := enc) (C := Try.checked) false ⟨#[], #[.agg #[.int .i64 0, .slice none 0 0], .agg #[.int .i64 0, .slice none 0 0], .slice none 0 0], []⟩ 8 (by kernel_rfl) (by kernel_rfl) (by kernel_rfl) (by kernel_rfl)) ?_
  intro W base args ds gs before hval0 hW hcnd _
  have hval : ∀ (j : Nat) t v, Try.f7.params[j]? = some t → args[j]? = some v → Value.okWide Try.prog W .any base t v := hval0
  have hW' := hW
  obtain ⟨p, q, hA0, hV, rfl, hfz, hnd⟩ := hW
  have hA : DataW.TrodAll enc Try.prog W 0 (fun _ => true) true Try.f7.params.toList args.toList ds p := hA0
  rw [Try.params7] at hA hval
  obtain ⟨v0, vs0, d0, ds0, p0, q0, hargs, rfl, rfl, h0, r0⟩ := trodAll_cons hA
  obtain ⟨v1, vs1, d1, ds1, p1, q1, rfl, rfl, rfl, h1, r1⟩ := trodAll_cons r0
  obtain ⟨v2, vs2, d2, ds2, p2, q2, rfl, rfl, rfl, h2, r2⟩ := trodAll_cons r1
  obtain ⟨rfl, rfl, rfl⟩ := trodAll_nil r2
  obtain rfl : args = #[v0, v1, v2] := by cases args; simp_all
  obtain ⟨rfl, rfl⟩ := trodVars_none hV
  have k0 := h0
  have lt0 : ∀ x ∈ p0, x.block < W.heap.size := by obtain ⟨m, hm⟩ := k0; exact DataW.trod_lt m _ _ _ hm
  obtain ⟨g0, a0, cap0, z0, rfl, u0, w0⟩ := values_open Try.underlying49 (by kernel_rfl) (by kernel_rfl) Try.underlying2 Try.underlying22 Try.underlying2 (by kernel_rfl) (hval 0 49 v0 rfl rfl) h0
  have k1 := h1
  have lt1 : ∀ x ∈ p1, x.block < W.heap.size := by obtain ⟨m, hm⟩ := k1; exact DataW.trod_lt m _ _ _ hm
  obtain ⟨g1, a1, cap1, z1, rfl, u1, w1⟩ := values_open Try.underlying51 (by kernel_rfl) (by kernel_rfl) Try.underlying2 Try.underlying22 Try.underlying2 (by kernel_rfl) (hval 1 51 v1 rfl rfl) h1
  have k2 := h2
  have lt2 : ∀ x ∈ p2, x.block < W.heap.size := by obtain ⟨m, hm⟩ := k2; exact DataW.trod_lt m _ _ _ hm
  obtain ⟨a2, len2, cap2, rfl⟩ := okWide_slice Try.underlying22 (hval 2 22 v2 rfl rfl)
  obtain ⟨z2, e2, w2⟩ := ints_open Try.underlying22 Try.underlying2 (by kernel_rfl) h2
  subst e2
  clear hA0 hval0
  refine (walk W g0 u0 a0 cap0 z0 w0 g1 u1 a1 cap1 z1 w1 a2 cap2 z2 w2).mono fun e W' ⟨he, bel⟩ => ?_
  subst he
  exact ⟨_, rfl, _, _, _, [], _, [], hW', trodAll_mk1 (shut_bool Try.underlying4 _), (trodAll_cons_mk (Below.trod laidOut (by kernel_rfl) (of_decide_eq_true (by kernel_rfl)) k0 bel lt0) (trodAll_cons_mk (Below.trod laidOut (by kernel_rfl) (of_decide_eq_true (by kernel_rfl)) k1 bel lt1) (trodAll_cons_mk (Below.trod laidOut (by kernel_rfl) (of_decide_eq_true (by kernel_rfl)) k2 bel lt2) trodAll_mk0))), rfl, bel.frame _, fun h => by cases h⟩
theorem over : Rows.fnExactSetErrorsRow.holds Try.pinned (OpenSpec.ofChange Rows.fnExactSetErrorsSpec) :=
  OpenClaim.holds_of_wide 7 Try.f7 rfl rfl rfl rfl rfl rfl rfl ⟨rfl, rfl, rfl, rfl, rfl⟩ rfl rfl rfl rfl rfl (by kernel_rfl) Try.func7 (by kernel_rfl)
    (of_decide_eq_true (by kernel_rfl)) (by unfold Func.isWrapper; first | (rw [if_pos (by decide +kernel)]; kernel_rfl) | (rw [if_neg (by decide +kernel)]; exact ⟨rfl, rfl⟩))
    (fun os started H enc _ => lifted os started H enc)
/-- THE STATEMENT. -/
theorem proved : Rows.FnExactSetErrorsSaid := over
end Go.Proofs.Ytpdcmhnaedhkdaa.fnExactSetErrors
