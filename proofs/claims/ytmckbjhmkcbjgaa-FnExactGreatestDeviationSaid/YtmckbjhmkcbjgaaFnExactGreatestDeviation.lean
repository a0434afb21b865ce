/- GreatestDeviation answers as its model, at every two slices of int64; it writes nothing of its arguments. -/
import Derived.Test.YtmckbjhmkcbjgaaGdS8
import Derived.Deep.RegionHeld3
namespace Go.Proofs.Ytmckbjhmkcbjgaa.fnExactGreatestDeviation
open Go.ChangeShapes Go.WideShapes Go.ChangeAt Go.RowKit
open Go.ChangeMaps (open_string shut_string)
set_option linter.unusedVariables false

set_option maxHeartbeats 1600000 in
set_option maxRecDepth 100000 in
theorem walk (w : World) (a0 : Option Addr) (cap0 : Nat) (z0 : List Int) (af0 : Ints w a0 z0) (a1 : Option Addr) (cap1 : Nat) (z1 : List Int) (af1 : Ints w a1 z1) :
    Calls Try.prog 8 #[.slice a0 z0.length cap0, .slice a1 z1.length cap1] w fun e w' => e = .returned (.bool true) ∧ Below w.heap.size w w' := by
  have K0 : Keep w w := Below.refl _ _
  have len0_ := af0.small
  have len1_ := af1.small
  by_cases big0_ : (1048576 : Int) < (z0.length : Int)
  · -- too long: nothing is asked
    go_enter Try.func8, Try.ntmps8
    go_wp2
    go_ret
    exact ⟨rfl, Keep.next K0 (by go_grown)⟩
  have fit0_ : 0 ≤ (1048576 : Int) - (z0.length : Int) := by omega
  clear big0_
  by_cases big1_ : (1048576 : Int) < (z1.length : Int)
  · -- too long: nothing is asked
    go_enter Try.func8, Try.ntmps8
    go_wp2
    go_ret
    exact ⟨rfl, Keep.next K0 (by go_grown)⟩
  have fit1_ : 0 ≤ (1048576 : Int) - (z1.length : Int) := by omega
  clear big1_
  obtain ⟨r0, r1, H1, H2⟩ : ∃ (r0 : Int) (r1 : Bool), Hid (∀ (W : World) (p0 : Option Addr) (c0 : Nat) (p1 : Option Addr) (c1 : Nat), Ints W p0 z0 → Ints W p1 z1 → Calls Try.prog 35 #[.slice p0 z0.length c0, .slice p1 z1.length c1] W fun e w' => e = .returned (.tuple #[.int .i64 r0, .bool r1]) ∧ Keep W w') ∧ Hid (∀ (W : World) (p0 : Option Addr) (c0 : Nat) (p1 : Option Addr) (c1 : Nat), Ints W p0 z0 → Ints W p1 z1 → Calls Try.prog 23 #[.slice p0 z0.length c0, .slice p1 z1.length c1] W fun e w' => e = .returned (.tuple #[.int .i64 r0, .bool r1]) ∧ Keep W w') :=
    ⟨_, _, Lib.hid (fun W p0 c0 p1 c1 h0 h1 => specGreatestDeviation_any p0 c0 z0 p1 c1 z1 W h0 h1), Lib.hid (fun W p0 c0 p1 c1 h0 h1 => GreatestDeviation_any p0 c0 z0 p1 c1 z1 W h0 h1)⟩
  go_enter Try.func8, Try.ntmps8
  go_wp2_with fail
  refine (toInt64S_ex a0 cap0 z0 _ ((af0.keep K0 (Nat.le_refl _)).keep (B := _) (by go_grown) (Nat.le_refl _)) (by omega)).mono ?_
  rintro e w1 ⟨t0b, rfl, t0o, k1⟩
  have t0 : Mine w1 (w.heap.size) w1.heap.size _ _ _ := Mine.new (by go_size) t0o
  clear t0o
  have g1_ : Keep w w1 := Keep.next (by go_grown) k1
  have K1 := Keep.next K0 g1_
  have s1_ := g1_.size
  go_wp2_with fail
  refine (toInt64S_ex a1 cap1 z1 _ ((af1.keep K1 (Nat.le_refl _)).keep (B := _) (by go_grown) (Nat.le_refl _)) (by omega)).mono ?_
  rintro e w2 ⟨t1b, rfl, t1o, k2⟩
  have t1 : Mine w2 (w1.heap.size) w2.heap.size _ _ _ := Mine.new (by go_size) t1o
  clear t1o
  have g2_ : Keep w1 w2 := Keep.next (by go_grown) k2
  have K2 := Keep.next K1 g2_
  have s2_ := g2_.size
  replace t0 := t0.keep g2_
  go_wp2_with fail
  refine (H1.out _ (some ⟨t0b, 0, none⟩) z0.length (some ⟨t1b, 0, none⟩) z1.length (t0.keep (by go_grown)).ints (t1.keep (by go_grown)).ints).mono ?_
  rintro e w3 ⟨rfl, k3⟩
  have g3_ : Keep w2 w3 := Keep.next (by go_grown) k3
  have K3 := Keep.next K2 g3_
  have s3_ := g3_.size
  replace t0 := t0.keep g3_
  replace t1 := t1.keep g3_
  go_wp2_with fail
  refine (toInt64S_ex a0 cap0 z0 _ ((af0.keep K3 (Nat.le_refl _)).keep (B := _) (by go_grown) (Nat.le_refl _)) (by omega)).mono ?_
  rintro e w4 ⟨x0b, rfl, x0o, k4⟩
  have x0 : Mine w4 (w3.heap.size) w4.heap.size _ _ _ := Mine.new (by go_size) x0o
  clear x0o
  have g4_ : Keep w3 w4 := Keep.next (by go_grown) k4
  have K4 := Keep.next K3 g4_
  have s4_ := g4_.size
  replace t0 := t0.keep g4_
  replace t1 := t1.keep g4_
  go_wp2_with fail
  refine (toInt64S_ex a1 cap1 z1 _ ((af1.keep K4 (Nat.le_refl _)).keep (B := _) (by go_grown) (Nat.le_refl _)) (by omega)).mono ?_
  rintro e w5 ⟨x1b, rfl, x1o, k5⟩
  have x1 : Mine w5 (w4.heap.size) w5.heap.size _ _ _ := Mine.new (by go_size) x1o
  clear x1o
  have g5_ : Keep w4 w5 := Keep.next (by go_grown) k5
  have K5 := Keep.next K4 g5_
  have s5_ := g5_.size
  replace t0 := t0.keep g5_
  replace t1 := t1.keep g5_
  replace x0 := x0.keep g5_
  go_wp2_with fail
  refine (H2.out _ (some ⟨x0b, 0, none⟩) z0.length (some ⟨x1b, 0, none⟩) z1.length (x0.keep (by go_grown)).ints (x1.keep (by go_grown)).ints).mono ?_
  rintro e w6 ⟨rfl, k6⟩
  have g6_ : Keep w5 w6 := Keep.next (by go_grown) k6
  have K6 := Keep.next K5 g6_
  have s6_ := g6_.size
  replace t0 := t0.keep g6_
  replace t1 := t1.keep g6_
  replace x0 := x0.keep g6_
  replace x1 := x1.keep g6_
  go_wp2_with fail
  refine (toInt64S_ex a0 cap0 z0 _ ((af0.keep K6 (Nat.le_refl _)).keep (B := _) (by go_grown) (Nat.le_refl _)) (by omega)).mono ?_
  rintro e w7 ⟨y0b, rfl, y0o, k7⟩
  have y0 : Mine w7 (w6.heap.size) w7.heap.size _ _ _ := Mine.new (by go_size) y0o
  clear y0o
  have g7_ : Keep w6 w7 := Keep.next (by go_grown) k7
  have K7 := Keep.next K6 g7_
  have s7_ := g7_.size
  replace t0 := t0.keep g7_
  replace t1 := t1.keep g7_
  replace x0 := x0.keep g7_
  replace x1 := x1.keep g7_
  go_wp2_with fail
  refine (eqInt64S_same _ _ _ _ z0 _ (x0.keep (by go_grown)).ints (y0.keep (by go_grown)).ints).mono ?_
  rintro e w8 ⟨rfl, k8⟩
  have g8_ : Keep w7 w8 := Keep.next (by go_grown) k8
  have K8 := Keep.next K7 g8_
  have s8_ := g8_.size
  replace t0 := t0.keep g8_
  replace t1 := t1.keep g8_
  replace x0 := x0.keep g8_
  replace x1 := x1.keep g8_
  replace y0 := y0.keep g8_
  go_wp2_with fail
  refine (toInt64S_ex a1 cap1 z1 _ ((af1.keep K8 (Nat.le_refl _)).keep (B := _) (by go_grown) (Nat.le_refl _)) (by omega)).mono ?_
  rintro e w9 ⟨y1b, rfl, y1o, k9⟩
  have y1 : Mine w9 (w8.heap.size) w9.heap.size _ _ _ := Mine.new (by go_size) y1o
  clear y1o
  have g9_ : Keep w8 w9 := Keep.next (by go_grown) k9
  have K9 := Keep.next K8 g9_
  have s9_ := g9_.size
  replace t0 := t0.keep g9_
  replace t1 := t1.keep g9_
  replace x0 := x0.keep g9_
  replace x1 := x1.keep g9_
  replace y0 := y0.keep g9_
  go_wp2_with fail
  refine (eqInt64S_same _ _ _ _ z1 _ (x1.keep (by go_grown)).ints (y1.keep (by go_grown)).ints).mono ?_
  rintro e w10 ⟨rfl, k10⟩
  have g10_ : Keep w9 w10 := Keep.next (by go_grown) k10
  have K10 := Keep.next K9 g10_
  have s10_ := g10_.size
  replace t0 := t0.keep g10_
  replace t1 := t1.keep g10_
  replace x0 := x0.keep g10_
  replace x1 := x1.keep g10_
  replace y0 := y0.keep g10_
  replace y1 := y1.keep g10_
  go_wp2
  go_ret
  exact ⟨rfl, Keep.next K10 (by go_grown)⟩


theorem own : ownKnob Try.prog.godebug = none := by kernel_rfl
theorem laidOut : laidOutB Try.prog = true := by kernel_rfl
set_option maxRecDepth 100000 in
theorem lifted (os : Os) (started : os.Started) (H : Type) (enc : TypeId × Value → H) :
    ReturnsInHanded {} Try.checked os 8 .any (Rows.fnExactGreatestDeviationSpec.pre6 enc Try.prog Try.f8 Rows.fnExactGreatestDeviationRow.domain false) (Rows.fnExactGreatestDeviationSpec.post enc Try.prog Try.f8 false true false false) := by
  refine returnsInHanded_of_change (C := Try.checked) own started (by kernel_rfl) Try.func8
    (ChangeSpec.witness6 (enc := enc) (C := Try.checked) false ⟨#[], #[.slice none 0 0, .slice none 0 0], []⟩ 8 (by kernel_rfl) (by kernel_rfl) (by kernel_rfl) (by kernel_rfl)) ?_
  intro W base args ds gs before hval0 hW hcnd _
  have hval : ∀ (j : Nat) t v, Try.f8.params[j]? = some t → args[j]? = some v → Value.okWide Try.prog W .any base t v := hval0
  have hW' := hW
  obtain ⟨p, q, hA0, hV, rfl, hfz, hnd⟩ := hW
  have hA : DataW.TrodAll enc Try.prog W 0 (fun _ => true) true Try.f8.params.toList args.toList ds p := hA0
  rw [Try.params8] at hA hval
  obtain ⟨v0, vs0, d0, ds0, p0, q0, hargs, rfl, rfl, h0, r0⟩ := trodAll_cons hA
  obtain ⟨v1, vs1, d1, ds1, p1, q1, rfl, rfl, rfl, h1, r1⟩ := trodAll_cons r0
  obtain ⟨rfl, rfl, rfl⟩ := trodAll_nil r1
  obtain rfl : args = #[v0, v1] := by cases args; simp_all
  obtain ⟨rfl, rfl⟩ := trodVars_none hV
  have k0 := h0
  have lt0 : ∀ x ∈ p0, x.block < W.heap.size := by obtain ⟨m, hm⟩ := k0; exact DataW.trod_lt m _ _ _ hm
  obtain ⟨a0, len0, cap0, rfl⟩ := okWide_slice Try.underlying24 (hval 0 24 v0 rfl rfl)
  obtain ⟨z0, e0, w0⟩ := ints_open Try.underlying24 Try.underlying2 (by kernel_rfl) h0
  subst e0
  have k1 := h1
  have lt1 : ∀ x ∈ p1, x.block < W.heap.size := by obtain ⟨m, hm⟩ := k1; exact DataW.trod_lt m _ _ _ hm
  obtain ⟨a1, len1, cap1, rfl⟩ := okWide_slice Try.underlying24 (hval 1 24 v1 rfl rfl)
  obtain ⟨z1, e1, w1⟩ := ints_open Try.underlying24 Try.underlying2 (by kernel_rfl) h1
  subst e1
  clear hA0 hval0
  refine (walk W a0 cap0 z0 w0 a1 cap1 z1 w1).mono fun e W' ⟨he, bel⟩ => ?_
  subst he
  exact ⟨_, rfl, _, _, _, [], _, [], hW', trodAll_mk1 (shut_bool Try.underlying4 _), (trodAll_cons_mk (Below.trod laidOut (by kernel_rfl) (of_decide_eq_true (by kernel_rfl)) k0 bel lt0) (trodAll_cons_mk (Below.trod laidOut (by kernel_rfl) (of_decide_eq_true (by kernel_rfl)) k1 bel lt1) trodAll_mk0)), rfl, bel.frame _, fun h => by cases h⟩
theorem over : Rows.fnExactGreatestDeviationRow.holds Try.pinned (OpenSpec.ofChange Rows.fnExactGreatestDeviationSpec) :=
  OpenClaim.holds_of_wide 8 Try.f8 rfl rfl rfl rfl rfl rfl rfl ⟨rfl, rfl, rfl, rfl, rfl⟩ rfl rfl rfl rfl rfl (by kernel_rfl) Try.func8 (by kernel_rfl)
    (of_decide_eq_true (by kernel_rfl)) (by unfold Func.isWrapper; first | (rw [if_pos (by decide +kernel)]; kernel_rfl) | (rw [if_neg (by decide +kernel)]; exact ⟨rfl, rfl⟩))
    (fun os started H enc _ => lifted os started H enc)
/-- THE STATEMENT. -/
theorem proved : Rows.FnExactGreatestDeviationSaid := over
end Go.Proofs.Ytmckbjhmkcbjgaa.fnExactGreatestDeviation
