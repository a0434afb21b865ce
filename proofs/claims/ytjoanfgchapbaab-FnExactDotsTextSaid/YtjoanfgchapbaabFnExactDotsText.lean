/- DotsText answers as its model, at every slice of slices of int64; it writes nothing of its argument. -/
import Derived.Test.YtjoanfgchapbaabDtS9
import Derived.Deep.RegionHeld3
namespace Go.Proofs.Ytjoanfgchapbaab.fnExactDotsText
open Go.ChangeShapes Go.WideShapes Go.ChangeAt Go.RowKit Go.Deep
open Go.ChangeMaps (open_string shut_string)
set_option linter.unusedVariables false

set_option maxHeartbeats 1600000 in
set_option maxRecDepth 100000 in
theorem walk (w : World) (a0 : Option Addr) (cap0 : Nat) (z0 : List (List Int)) (af0 : Intss w a0 z0) :
    Calls Try.prog 13 #[.slice a0 z0.length cap0] w fun e w' => e = .returned (.bool true) ∧ Below w.heap.size w w' := by
  have K0 : Keep w w := Below.refl _ _
  have len0_ := af0.small
  by_cases big0_ : (1048576 : Int) < ((z0.length : Int) + (tot z0 : Int))
  · -- too long: nothing is asked
    go_enter Try.func13, Try.ntmps13
    go_wp2_with fail
    refine (szInt64SS_ex a0 cap0 z0 (1048576) _ ((af0.keep K0 (Nat.le_refl _)).keep (B := _) (by go_grown) (Nat.le_refl _)) (by omega) (by omega)).mono ?_
    rw [if_pos (by omega)]
    rintro e w1 ⟨rfl, k1⟩
    have g1_ : Keep w w1 := Keep.next (by go_grown) k1
    have K1 := Keep.next K0 g1_
    have s1_ := g1_.size
    go_wp2
    go_ret
    exact ⟨rfl, Keep.next K1 (by go_grown)⟩
  have fit0_ : 0 ≤ (1048576 : Int) - ((z0.length : Int) + (tot z0 : Int)) := by omega
  clear big0_
  obtain ⟨r0, r1, H1, H2⟩ : ∃ (r0 : ByteArray) (r1 : Bool), Hid (∀ (W : World) (p0 : Option Addr) (c0 : Nat), Intss W p0 z0 → Calls Try.prog 53 #[.slice p0 z0.length c0] W fun e w' => e = .returned (.tuple #[.string r0, .bool r1]) ∧ Keep W w') ∧ Hid (∀ (W : World) (p0 : Option Addr) (c0 : Nat), Intss W p0 z0 → Calls Try.prog 54 #[.slice p0 z0.length c0] W fun e w' => e = .returned (.tuple #[.string r0, .bool r1]) ∧ Keep W w') :=
    ⟨_, _, Lib.hid (fun W p0 c0 h0 => specDotsText_any p0 c0 z0 W h0), Lib.hid (fun W p0 c0 h0 => DotsText_any p0 c0 z0 W h0)⟩
  go_enter Try.func13, Try.ntmps13
  go_wp2_with fail
  refine (szInt64SS_ex a0 cap0 z0 (1048576) _ ((af0.keep K0 (Nat.le_refl _)).keep (B := _) (by go_grown) (Nat.le_refl _)) (by omega) (by omega)).mono ?_
  rw [if_neg (by omega)]
  rintro e w1 ⟨rfl, k1⟩
  have g1_ : Keep w w1 := Keep.next (by go_grown) k1
  have K1 := Keep.next K0 g1_
  have s1_ := g1_.size
  go_wp2_with fail
  refine (toInt64SS_ex a0 cap0 z0 _ ((af0.keep K1 (Nat.le_refl _)).keep (B := _) (by go_grown) (Nat.le_refl _)) (by omega) (by omega)).mono ?_
  rintro e w2 ⟨t0b, t0g, rfl, t0o, k2⟩
  have t0 : MineSS w2 (w1.heap.size) w2.heap.size _ _ _ := MineSS.new (by go_size) t0o
  clear t0o
  have g2_ : Keep w1 w2 := Keep.next (by go_grown) k2
  have K2 := Keep.next K1 g2_
  have s2_ := g2_.size
  go_wp2_with fail
  refine (H1.out _ (some ⟨t0b, 0, none⟩) z0.length (t0.keep (by go_grown)).ints).mono ?_
  rintro e w3 ⟨rfl, k3⟩
  have g3_ : Keep w2 w3 := Keep.next (by go_grown) k3
  have K3 := Keep.next K2 g3_
  have s3_ := g3_.size
  replace t0 := t0.keep g3_
  go_wp2_with fail
  refine (toInt64SS_ex a0 cap0 z0 _ ((af0.keep K3 (Nat.le_refl _)).keep (B := _) (by go_grown) (Nat.le_refl _)) (by omega) (by omega)).mono ?_
  rintro e w4 ⟨x0b, x0g, rfl, x0o, k4⟩
  have x0 : MineSS w4 (w3.heap.size) w4.heap.size _ _ _ := MineSS.new (by go_size) x0o
  clear x0o
  have g4_ : Keep w3 w4 := Keep.next (by go_grown) k4
  have K4 := Keep.next K3 g4_
  have s4_ := g4_.size
  replace t0 := t0.keep g4_
  go_wp2_with fail
  refine (H2.out _ (some ⟨x0b, 0, none⟩) z0.length (x0.keep (by go_grown)).ints).mono ?_
  rintro e w5 ⟨rfl, k5⟩
  have g5_ : Keep w4 w5 := Keep.next (by go_grown) k5
  have K5 := Keep.next K4 g5_
  have s5_ := g5_.size
  replace t0 := t0.keep g5_
  replace x0 := x0.keep g5_
  go_wp2_with fail
  refine (toInt64SS_ex a0 cap0 z0 _ ((af0.keep K5 (Nat.le_refl _)).keep (B := _) (by go_grown) (Nat.le_refl _)) (by omega) (by omega)).mono ?_
  rintro e w6 ⟨y0b, y0g, rfl, y0o, k6⟩
  have y0 : MineSS w6 (w5.heap.size) w6.heap.size _ _ _ := MineSS.new (by go_size) y0o
  clear y0o
  have g6_ : Keep w5 w6 := Keep.next (by go_grown) k6
  have K6 := Keep.next K5 g6_
  have s6_ := g6_.size
  replace t0 := t0.keep g6_
  replace x0 := x0.keep g6_
  go_wp2_with fail
  refine (eqInt64SS_same _ _ _ _ z0 _ (x0.keep (by go_grown)).ints (y0.keep (by go_grown)).ints).mono ?_
  rintro e w7 ⟨rfl, k7⟩
  have g7_ : Keep w6 w7 := Keep.next (by go_grown) k7
  have K7 := Keep.next K6 g7_
  have s7_ := g7_.size
  replace t0 := t0.keep g7_
  replace x0 := x0.keep g7_
  replace y0 := y0.keep g7_
  go_wp2
  go_ret
  exact ⟨rfl, Keep.next K7 (by go_grown)⟩


theorem own : ownKnob Try.prog.godebug = none := by kernel_rfl
theorem laidOut : laidOutB Try.prog = true := by kernel_rfl
set_option maxRecDepth 100000 in
theorem lifted (os : Os) (started : os.Started) (H : Type) (enc : TypeId × Value → H) :
    ReturnsInHanded {} Try.checked os 13 .any (Rows.fnExactDotsTextSpec.pre6 enc Try.prog Try.f13 Rows.fnExactDotsTextRow.domain false) (Rows.fnExactDotsTextSpec.post enc Try.prog Try.f13 false true false false) := by
  refine returnsInHanded_of_change (C := Try.checked) own started (by kernel_rfl) Try.func13
    (ChangeSpec.witness6 (enc := enc) (C := Try.checked) false ⟨#[], #[.slice none 0 0], []⟩ 8 (by kernel_rfl) (by kernel_rfl) (by kernel_rfl) (by kernel_rfl)) ?_
  intro W base args ds gs before hval0 hW hcnd _
  have hval : ∀ (j : Nat) t v, Try.f13.params[j]? = some t → args[j]? = some v → Value.okWide Try.prog W .any base t v := hval0
  have hW' := hW
  obtain ⟨p, q, hA0, hV, rfl, hfz, hnd⟩ := hW
  have hA : DataW.TrodAll enc Try.prog W 0 (fun _ => true) true Try.f13.params.toList args.toList ds p := hA0
  rw [Try.params13] at hA hval
  obtain ⟨v0, vs0, d0, ds0, p0, q0, hargs, rfl, rfl, h0, r0⟩ := trodAll_cons hA
  obtain ⟨rfl, rfl, rfl⟩ := trodAll_nil r0
  obtain rfl : args = #[v0] := by cases args; simp_all
  obtain ⟨rfl, rfl⟩ := trodVars_none hV
  have k0 := h0
  have lt0 : ∀ x ∈ p0, x.block < W.heap.size := by obtain ⟨m, hm⟩ := k0; exact DataW.trod_lt m _ _ _ hm
  obtain ⟨a0, len0, cap0, rfl⟩ := okWide_slice Try.underlying25 (hval 0 25 v0 rfl rfl)
  obtain ⟨z0, e0, w0⟩ := intss_open Try.underlying25 Try.underlying32 Try.underlying2 (by kernel_rfl) (by kernel_rfl) h0
  subst e0
  clear hA0 hval0
  refine (walk W a0 cap0 z0 w0).mono fun e W' ⟨he, bel⟩ => ?_
  subst he
  exact ⟨_, rfl, _, _, _, [], _, [], hW', trodAll_mk1 (shut_bool Try.underlying4 _), (trodAll_cons_mk (Below.trod laidOut (by kernel_rfl) (of_decide_eq_true (by kernel_rfl)) k0 bel lt0) trodAll_mk0), rfl, bel.frame _, fun h => by cases h⟩
theorem over : Rows.fnExactDotsTextRow.holds Try.pinned (OpenSpec.ofChange Rows.fnExactDotsTextSpec) :=
  OpenClaim.holds_of_wide 13 Try.f13 rfl rfl rfl rfl rfl rfl rfl ⟨rfl, rfl, rfl, rfl, rfl⟩ rfl rfl rfl rfl rfl (by kernel_rfl) Try.func13 (by kernel_rfl)
    (of_decide_eq_true (by kernel_rfl)) (by unfold Func.isWrapper; first | (rw [if_pos (by decide +kernel)]; kernel_rfl) | (rw [if_neg (by decide +kernel)]; exact ⟨rfl, rfl⟩))
    (fun os started H enc _ => lifted os started H enc)
/-- THE STATEMENT. -/
theorem proved : Rows.FnExactDotsTextSaid := over
end Go.Proofs.Ytjoanfgchapbaab.fnExactDotsText
