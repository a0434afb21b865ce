/- FnDivided: floors and ceilings enclose a fraction, the nearest integer is the nearer one, ratios compare as their products do: at all bytes. -/
import Derived.Test.YtmddbhpmkpbnlaaBten
import Derived.Test.YtmddbhpmkpbnlaaInts
namespace Go.Proofs.Ytmddbhpmkpbnlaa.fnDivided
open Go.ChangeShapes Go.WideShapes Go.ChangeAt Go.RowKit
set_option linter.unusedVariables false

/-- What is known of the floor f, the ceiling g and the nearest integer h of a / b. -/
theorem facts (a b : Int) (hb : 1 ≤ b) : ∃ f g h, fl a b = f ∧ ce a b = g ∧ ne a b = h ∧ f * b ≤ a ∧ a < f * b + b ∧ a ≤ g * b ∧ g * b < a + b ∧
    ((f = g ∧ h = f) ∨ (g = f + 1 ∧ h = f ∧ a - f * b < g * b - a) ∨ (g = f + 1 ∧ h = f ∧ a - f * b = g * b - a ∧ h % 2 = 0) ∨ (g = f + 1 ∧ h = g ∧ g * b - a < a - f * b) ∨ (g = f + 1 ∧ h = g ∧ a - f * b = g * b - a ∧ h % 2 = 0)) := by
  obtain ⟨m1, m2⟩ := fl_mul (a := a) hb
  have c1 := Int.mul_comm b (fl a b)
  by_cases h0 : a = b * fl a b
  · have hce : ce a b = fl a b := by
      rw [ce_eq, fl_eq (a := -a) (q := -fl a b) hb (by rw [Int.mul_neg]; omega) (by rw [Int.mul_neg]; omega)]; omega
    have hne : ne a b = fl a b := (ne_a (by omega)).symm
    exact ⟨_, _, _, rfl, rfl, rfl, by omega, by omega, by rw [hce]; omega, by rw [hce]; omega, .inl ⟨hce.symm, hne⟩⟩
  · have hce : ce a b = fl a b + 1 := by
      rw [ce_eq, fl_eq (a := -a) (q := -fl a b - 1) hb (by rw [Int.mul_sub, Int.mul_neg]; omega) (by rw [Int.mul_sub, Int.mul_neg]; omega)]; omega
    have e1 : (fl a b + 1) * b = fl a b * b + b := by rw [Int.add_mul]; omega
    refine ⟨_, _, _, rfl, rfl, rfl, by omega, by omega, by rw [hce]; omega, by rw [hce]; omega, ?_⟩
    rw [hce, e1]
    by_cases q : 2 * (a - b * fl a b) < b
    · exact .inr (.inl ⟨rfl, (ne_a q).symm, by omega⟩)
    · by_cases q2 : 2 * (a - b * fl a b) = b
      · by_cases q3 : (fl a b) % 2 = 0
        · have := ne_b q2 ((tmod2 _).2 q3)
          exact .inr (.inr (.inl ⟨rfl, this.symm, by omega, by rw [← this]; exact q3⟩))
        · have := ne_c q2 (fun x => q3 ((tmod2 _).1 x))
          exact .inr (.inr (.inr (.inr ⟨rfl, this.symm, by omega, by rw [← this]; omega⟩)))
      · exact .inr (.inr (.inr (.inl ⟨rfl, (ne_d (by omega)).symm, by omega⟩)))

set_option maxHeartbeats 4000000 in
set_option maxRecDepth 100000 in
theorem walk (w : World) (a0 : Option Addr) (cap0 : Nat) (z0 : List Int) (w0 : Bytes w a0 z0) (a1 : Option Addr) (cap1 : Nat) (z1 : List Int) (w1 : Bytes w a1 z1) :
    Calls Try.prog 3 #[.slice a0 z0.length cap0, .slice a1 z1.length cap1] w fun e w' => e = .returned (.bool true) ∧ Below w.heap.size w w' := by
  have s0 := w0.small
  have s1 := w1.small
  by_cases hbig : 1048576 < z0.length ∨ 1048576 < z1.length
  · have hl : (decide (1048576 < z0.length) || decide (1048576 < z1.length)) = true := by simpa using hbig
    go_enter Try.func3, Try.ntmps3
    go_wp2_with fail
    refine (b10Long_any a0 a1 cap0 cap1 _ _ _ s0 s1).mono ?_
    rw [hl]
    rintro e w' ⟨rfl, rfl⟩
    go_wp2
    go_ret
    exact ⟨rfl, Below.refl _ _⟩
  have hl : (decide (1048576 < z0.length) || decide (1048576 < z1.length)) = false := by simp; omega
  have HL := Lib.hid hl; clear hl
  go_enter Try.func3, Try.ntmps3
  go_wp2_with fail
  refine (b10Long_any a0 a1 cap0 cap1 _ _ _ s0 s1).mono ?_
  rw [HL.out]
  rintro e w' ⟨rfl, rfl⟩
  have p0 := pickB_bd z0 0 256; have p1 := pickB_bd z0 1 256; have p2 := pickB_bd z0 2 256
  have q0 := pickB_bd z1 0 256; have q1 := pickB_bd z1 1 256; have q2 := pickB_bd z1 2 256
  generalize hx0 : pickB z0 0 256 = x0 at p0
  generalize hx1 : pickB z0 1 256 = x1 at p1
  generalize hx2 : pickB z0 2 256 = x2 at p2
  generalize hy0 : pickB z1 0 256 = y0 at q0
  generalize hy1 : pickB z1 1 256 = y1 at q1
  generalize hy2 : pickB z1 2 256 = y2 at q2
  have X0 := Lib.hid hx0; have X1 := Lib.hid hx1; have X2 := Lib.hid hx2; have Y0 := Lib.hid hy0; have Y1 := Lib.hid hy1; have Y2 := Lib.hid hy2
  clear hx0 hx1 hx2 hy0 hy1 hy2
  go_wp2_with fail
  refine (b10At_any a0 cap0 z0 0 256 _ w0 (by omega) (by omega) (by omega) (by omega)).mono ?_
  rw [X0.out]; rintro e w' ⟨rfl, rfl⟩
  go_wp2_with fail
  refine (b10At_any a0 cap0 z0 1 256 _ w0 (by omega) (by omega) (by omega) (by omega)).mono ?_
  rw [X1.out]; rintro e w' ⟨rfl, rfl⟩
  go_wp2_with fail
  refine (b10At_any a0 cap0 z0 2 256 _ w0 (by omega) (by omega) (by omega) (by omega)).mono ?_
  rw [X2.out]; rintro e w' ⟨rfl, rfl⟩
  go_wp2_with fail
  refine (b10At_any a1 cap1 z1 0 256 _ w1 (by omega) (by omega) (by omega) (by omega)).mono ?_
  rw [Y0.out]; rintro e w' ⟨rfl, rfl⟩
  go_wp2_with fail
  refine (b10At_any a1 cap1 z1 1 256 _ w1 (by omega) (by omega) (by omega) (by omega)).mono ?_
  rw [Y1.out]; rintro e w' ⟨rfl, rfl⟩
  go_wp2_with fail
  refine (b10At_any a1 cap1 z1 2 256 _ w1 (by omega) (by omega) (by omega) (by omega)).mono ?_
  rw [Y2.out]; rintro e w' ⟨rfl, rfl⟩
  go_wp2_with fail
  have ba : -30000 ≤ 256 * x0 + x1 - 30000 ∧ 256 * x0 + x1 - 30000 ≤ 35535 := by omega
  have bb : 1 ≤ 1 + x2 ∧ 1 + x2 ≤ 256 := by omega
  have bc : -30000 ≤ 256 * y0 + y1 - 30000 ∧ 256 * y0 + y1 - 30000 ≤ 35535 := by omega
  have bd : 1 ≤ 1 + y2 ∧ 1 + y2 ≤ 256 := by omega
  generalize 256 * x0 + x1 - 30000 = a at ba ⊢
  generalize 1 + x2 = b at bb ⊢
  generalize 256 * y0 + y1 - 30000 = c at bc ⊢
  generalize 1 + y2 = d at bd ⊢
  clear X0 X1 X2 Y0 Y1 Y2 p0 p1 p2 q0 q1 q2
  obtain ⟨f, g, h, hf, hg, hh, f1, f2, g1, g2, hc⟩ := facts a b bb.1
  have r1 : ratio a b = true := ratio_iff.2 (by omega)
  have r2 : ratio c d = true := ratio_iff.2 (by omega)
  have D1 : ∀ W, Calls Try.prog 14 #[.int .i64 a, .int .i64 b] W fun e w' => e = .returned (.tuple #[.int .i64 f, .bool true]) ∧ W = w' := fun W => by have := DivFloor_any a b W; rw [r1, opt_yes, hf] at this; exact this
  have D2 : ∀ W, Calls Try.prog 15 #[.int .i64 a, .int .i64 b] W fun e w' => e = .returned (.tuple #[.int .i64 g, .bool true]) ∧ W = w' := fun W => by have := DivCeiling_any a b W; rw [r1, opt_yes, hg] at this; exact this
  have D3 : ∀ W, Calls Try.prog 16 #[.int .i64 a, .int .i64 b] W fun e w' => e = .returned (.tuple #[.int .i64 h, .bool true]) ∧ W = w' := fun W => by have := DivNearest_any a b W; rw [r1, opt_yes, hh] at this; exact this
  have D4 : ∀ W, Calls Try.prog 17 #[.int .i64 a, .int .i64 b, .int .i64 c, .int .i64 d] W fun e w' => e = .returned (.tuple #[.int .i64 (sgn (a * d) (c * b)), .bool true]) ∧ W = w' := fun W => by have := CompareRatios_any a b c d W; rw [r1, r2, Bool.and_true, opt_yes] at this; exact this
  have HF := Lib.hid hf; have HG := Lib.hid hg; have HH := Lib.hid hh; have E1 := Lib.hid D1; have E2 := Lib.hid D2; have E3 := Lib.hid D3; have E4 := Lib.hid D4; have R1 := Lib.hid r1; have R2 := Lib.hid r2
  clear hf hg hh D1 D2 D3 D4 r1 r2
  have m1 := mul_bd (a := a) (d := d) (by omega) (by omega) (by omega) (by omega)
  have m2 := mul_bd (a := c) (d := b) (by omega) (by omega) (by omega) (by omega)
  refine (E1.out _).mono ?_; rintro e w' ⟨rfl, rfl⟩
  go_wp2_with fail
  refine (E2.out _).mono ?_; rintro e w' ⟨rfl, rfl⟩
  go_wp2_with fail
  refine (E3.out _).mono ?_; rintro e w' ⟨rfl, rfl⟩
  go_wp2_with fail
  refine (E4.out _).mono ?_; rintro e w' ⟨rfl, rfl⟩
  obtain ⟨n, hn⟩ : ∃ n, n = sgn (a * d) (c * b) := ⟨_, rfl⟩
  have hs : (n = -1 ∧ a * d < c * b) ∨ (n = 0 ∧ a * d = c * b) ∨ (n = 1 ∧ c * b < a * d) := by
    unfold sgn at hn
    by_cases h1 : a * d < c * b
    · rw [if_pos h1] at hn; exact .inl ⟨hn, h1⟩
    · rw [if_neg h1] at hn
      by_cases h2 : c * b < a * d
      · rw [if_pos h2] at hn; exact .inr (.inr ⟨hn, h2⟩)
      · rw [if_neg h2] at hn; exact .inr (.inl ⟨hn, by omega⟩)
  rw [← hn]
  have HN := Lib.hid hn; clear hn
  rcases hc with ⟨rfl, rfl⟩ | ⟨k0, rfl, k1⟩ | ⟨k0, rfl, k1, k2⟩ | ⟨k0, rfl, k1⟩ | ⟨k0, rfl, k1, k2⟩
  · -- the fraction is an integer
    go_wp2_with (first | (go_at_call 18; refine (b10Abs_neg _ _ (by omega) (by omega)).mono ?_; rintro e w' ⟨rfl, rfl⟩) | (go_at_call 18; refine (b10Abs_pos _ _ (by omega)).mono ?_; rintro e w' ⟨rfl, rfl⟩))
    all_goals go_ret
    all_goals exact ⟨ret_bool (by first | rfl | (rw [decide_eq_true_eq]; omega)), Below.refl _ _⟩
  · -- nearer to the floor
    have q1 : (h != g) = true := by simp; omega
    have K0 : h < g := by omega
    clear k0
    go_wp2_with (first | (go_at_call 18; refine (b10Abs_neg _ _ (by omega) (by omega)).mono ?_; rintro e w' ⟨rfl, rfl⟩) | (go_at_call 18; refine (b10Abs_pos _ _ (by omega)).mono ?_; rintro e w' ⟨rfl, rfl⟩))
    all_goals go_ret
    all_goals exact ⟨ret_bool (by first | rfl | (rw [decide_eq_true_eq]; omega)), Below.refl _ _⟩
  · -- as near to both: the floor is even
    have q1 : (h != g) = true := by simp; omega
    have K0 : h < g := by omega
    have q2 : (h.tmod 2 != 0) = false := by simp [(tmod2 h).2 k2]
    have K1 := Lib.hid k1; have K2 := Lib.hid k2
    have k3 : a - h * b ≤ g * b - a := by omega
    have k4 : g * b - a ≤ a - h * b := by omega
    clear k0 k1 k2
    go_wp2_with (first | (go_at_call 18; refine (b10Abs_neg _ _ (by omega) (by omega)).mono ?_; rintro e w' ⟨rfl, rfl⟩) | (go_at_call 18; refine (b10Abs_pos _ _ (by omega)).mono ?_; rintro e w' ⟨rfl, rfl⟩))
    all_goals go_ret
    all_goals exact ⟨ret_bool (by first | rfl | (rw [decide_eq_true_eq]; omega)), Below.refl _ _⟩
  · -- nearer to the ceiling
    have q1 : (h != f) = true := by simp; omega
    have q2 : (f != h) = true := by simp; omega
    have K0 : f < h := by omega
    clear k0
    go_wp2_with (first | (go_at_call 18; refine (b10Abs_neg _ _ (by omega) (by omega)).mono ?_; rintro e w' ⟨rfl, rfl⟩) | (go_at_call 18; refine (b10Abs_pos _ _ (by omega)).mono ?_; rintro e w' ⟨rfl, rfl⟩))
    all_goals go_ret
    all_goals exact ⟨ret_bool (by first | rfl | (rw [decide_eq_true_eq]; omega)), Below.refl _ _⟩
  · -- as near to both: the ceiling is even
    have q1 : (h != f) = true := by simp; omega
    have q2 : (f != h) = true := by simp; omega
    have K0 : f < h := by omega
    have q3 : (h.tmod 2 != 0) = false := by simp [(tmod2 h).2 k2]
    have K1 := Lib.hid k1; have K2 := Lib.hid k2
    have k3 : a - f * b ≤ h * b - a := by omega
    have k4 : h * b - a ≤ a - f * b := by omega
    clear k0 k1 k2
    go_wp2_with (first | (go_at_call 18; refine (b10Abs_neg _ _ (by omega) (by omega)).mono ?_; rintro e w' ⟨rfl, rfl⟩) | (go_at_call 18; refine (b10Abs_pos _ _ (by omega)).mono ?_; rintro e w' ⟨rfl, rfl⟩))
    all_goals go_ret
    all_goals exact ⟨ret_bool (by first | rfl | (rw [decide_eq_true_eq]; omega)), Below.refl _ _⟩

theorem own : ownKnob Try.prog.godebug = none := by kernel_rfl
theorem laidOut : laidOutB Try.prog = true := by kernel_rfl
set_option maxRecDepth 100000 in
theorem lifted (os : Os) (started : os.Started) (H : Type) (enc : TypeId × Value → H) :
    ReturnsInHanded {} Try.checked os 3 .any (Rows.fnDividedSpec.pre6 enc Try.prog Try.f3 Rows.fnDividedRow.domain false) (Rows.fnDividedSpec.post enc Try.prog Try.f3 false true false false) := by
  refine returnsInHanded_of_change (C := Try.checked) own started (by kernel_rfl) Try.func3
    (ChangeSpec.witness6 (enc := enc) (C := Try.checked) false ⟨#[], #[.slice none 0 0, .slice none 0 0], []⟩ 8 (by kernel_rfl) (by kernel_rfl) (by kernel_rfl) (by kernel_rfl)) ?_
  intro W base args ds gs before hval0 hW hcnd _
  have hval : ∀ (j : Nat) t v, Try.f3.params[j]? = some t → args[j]? = some v → Value.okWide Try.prog W .any base t v := hval0
  have hW' := hW
  obtain ⟨p, q, hA0, hV, rfl, hfz, hnd⟩ := hW
  have hA : DataW.TrodAll enc Try.prog W 0 (fun _ => true) true Try.f3.params.toList args.toList ds p := hA0
  rw [Try.params3] at hA hval
  obtain ⟨v0, vs0, d0, ds0, p0, q0, hargs, rfl, rfl, h0, r0⟩ := trodAll_cons hA
  obtain ⟨v1, vs1, d1, ds1, p1, q1, rfl, rfl, rfl, h1, r1⟩ := trodAll_cons r0
  obtain ⟨rfl, rfl, rfl⟩ := trodAll_nil r1
  obtain rfl : args = #[v0, v1] := by cases args; simp_all
  obtain ⟨rfl, rfl⟩ := trodVars_none hV
  have k0 := h0
  have lt0 : ∀ x ∈ p0, x.block < W.heap.size := by obtain ⟨m, hm⟩ := k0; exact DataW.trod_lt m _ _ _ hm
  obtain ⟨a0, len0, cap0, rfl⟩ := okWide_slice Try.underlying22 (hval 0 22 v0 rfl rfl)
  obtain ⟨z0, e0, w0⟩ := bytes_open Try.underlying22 Try.underlying5 (by kernel_rfl) h0
  subst e0
  have k1 := h1
  have lt1 : ∀ x ∈ p1, x.block < W.heap.size := by obtain ⟨m, hm⟩ := k1; exact DataW.trod_lt m _ _ _ hm
  obtain ⟨a1, len1, cap1, rfl⟩ := okWide_slice Try.underlying22 (hval 1 22 v1 rfl rfl)
  obtain ⟨z1, e1, w1⟩ := bytes_open Try.underlying22 Try.underlying5 (by kernel_rfl) h1
  subst e1
  clear hA0 hval0
  refine (walk W a0 cap0 z0 w0 a1 cap1 z1 w1).mono fun e W' ⟨he, bel⟩ => ?_
  subst he
  exact ⟨_, rfl, _, _, _, [], _, [], hW', trodAll_mk1 (shut_bool Try.underlying4 _), (trodAll_cons_mk (Below.trod laidOut (by kernel_rfl) (of_decide_eq_true (by kernel_rfl)) k0 bel lt0) (trodAll_cons_mk (Below.trod laidOut (by kernel_rfl) (of_decide_eq_true (by kernel_rfl)) k1 bel lt1) trodAll_mk0)), rfl, bel.frame _, fun h => by cases h⟩
theorem over : Rows.fnDividedRow.holds Try.pinned (OpenSpec.ofChange Rows.fnDividedSpec) :=
  OpenClaim.holds_of_wide 3 Try.f3 rfl rfl rfl rfl rfl rfl rfl ⟨rfl, rfl, rfl, rfl, rfl⟩ rfl rfl rfl rfl rfl (by kernel_rfl) Try.func3 (by kernel_rfl)
    (of_decide_eq_true (by kernel_rfl)) (by unfold Func.isWrapper; first | (rw [if_pos (by decide +kernel)]; kernel_rfl) | (rw [if_neg (by decide +kernel)]; exact ⟨rfl, rfl⟩))
    (fun os started H enc _ => lifted os started H enc)
/-- THE STATEMENT. -/
theorem proved : Rows.FnDividedSaid := over
end Go.Proofs.Ytmddbhpmkpbnlaa.fnDivided
