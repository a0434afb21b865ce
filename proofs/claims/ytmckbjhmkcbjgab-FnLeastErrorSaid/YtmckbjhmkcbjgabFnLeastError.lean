/- FnLeastError: the best rounding with a sum has it, and no drawn rounding with this sum has a lesser norm: at all bytes. -/
import Derived.Test.YtmckbjhmkcbjgabLeast4
import Derived.Test.YtmckbjhmkcbjgabRound8v
import Derived.Test.YtmckbjhmkcbjgabErr4
import Derived.Test.YtmckbjhmkcbjgabErrs
import Derived.BigQuiet
namespace Go.Proofs.Ytmckbjhmkcbjgab.fnLeastError
open Go.ChangeShapes Go.WideShapes Go.ChangeAt Go.RowKit Go.Deep
set_option linter.unusedVariables false
theorem rnd_in {g : Int} {zs ls : List Int} (h : rndB g zs ls = true) : ∀ z ∈ ls, -1000000000 ≤ z ∧ z ≤ 1000000000 := by
  unfold rndB at h
  simp only [Bool.and_eq_true, decide_eq_true_eq] at h
  obtain ⟨⟨h1, h2⟩, h3⟩ := h
  intro z hz
  obtain ⟨k, hk, rfl⟩ := List.getElem_of_mem hz
  have hg := okV_den h1
  have hx := okV_num h1 _ (getD_mem zs k (by omega))
  have q1 := fl_bd (a := zs.getD k 0) (b := g) (M := 1000000) (by omega) (by omega) (by omega) (by omega)
  have q2 := ce_bd (a := zs.getD k 0) (b := g) (M := 1000000) (by omega) (by omega) (by omega) (by omega)
  have q3 := h3 k hk
  rw [getD_get ls k hk] at q3
  rcases q3 with q3 | q3 <;> omega
theorem rnd_bounds {g : Int} {zs ls : List Int} (h : rndB g zs ls = true) : sumR fl g zs ≤ ls.sum ∧ ls.sum ≤ sumR ce g zs := by
  obtain ⟨S, hl, hS, hp⟩ := rnd_sel h
  have h1 : okV g zs = true := by unfold rndB at h; simp only [Bool.and_eq_true] at h; exact h.1.1
  have hfl := flL_len g zs
  have hrl := reL_len g zs
  have e := addS_sum (flL g zs) S (by omega)
  rw [← hS] at e
  have c := le_cnt (fun r => decide (0 < r)) (reL g zs) S (by omega) (fun i hi q => by simpa using hp i (by omega) q)
  have e2 := sum_ce (okV_den h1).1 zs
  have e3 := sum_fl g zs
  change trues S ≤ gtC 0 (reL g zs) at c
  omega
/-- What stays all along. -/
structure CtxV (w W : World) (vb : Nat) (g : Int) (rd : Option Addr) (rc : Nat) (vs : List Int) (ld : Option Addr) (ls : List Int) : Prop where
  t : TwoC W vb (.int .i64 g) (.slice rd vs.length rc)
  k : Keep w W
  o : Ints W rd vs
  l : Ints W ld ls
theorem CtxV.keep {w W W' : World} {vb : Nat} {g : Int} {rd : Option Addr} {rc : Nat} {vs : List Int} {ld : Option Addr} {ls : List Int} (h : CtxV w W vb g rd rc vs ld ls) (k : Keep W W') : CtxV w W' vb g rd rc vs ld ls :=
  ⟨h.t.keep k h.t.lt, Keep.next h.k k, h.o.keep k (Nat.le_refl _), h.l.keep k (Nat.le_refl _)⟩

set_option maxHeartbeats 3200000 in
set_option maxRecDepth 100000 in
theorem walk (w : World) (a0 : Option Addr) (cap0 : Nat) (z0 : List Int) (w0 : Bytes w a0 z0) (a1 : Option Addr) (cap1 : Nat) (z1 : List Int) (w1 : Bytes w a1 z1) :
    Calls Try.prog 3 #[.slice a0 z0.length cap0, .slice a1 z1.length cap1] w fun e w' => e = .returned (.bool true) ∧ Below w.heap.size w w' := by
  have s0 := w0.small
  have s1 := w1.small
  cases hl : (decide (48 < z0.length) || decide (48 < z1.length))
  case true =>
    go_enter Try.func3, Try.ntmps3
    go_wp2_with fail
    refine (r8Long_any a0 a1 cap0 cap1 _ _ _ s0 s1).mono ?_
    rw [hl]
    rintro e w' ⟨rfl, rfl⟩
    go_wp2
    go_ret
    exact ⟨rfl, Below.refl _ _⟩
  have HL := Lib.hid hl; clear hl
  go_enter Try.func3, Try.ntmps3
  go_wp2_with fail
  refine (r8Long_any a0 a1 cap0 cap1 _ _ _ s0 s1).mono ?_
  rw [HL.out]
  rintro e w' ⟨rfl, rfl⟩
  go_wp2_with fail
  refine (R8Values_any a0 cap0 z0 w w0).mono ?_
  rintro e w2 ⟨g, vs, rd, rc, rfl, o2, g0, g1, hl, hv, k2⟩
  have HV := Lib.hid hv
  have HO2 := Lib.hid o2; have K2 := Lib.hid k2
  clear o2 k2 hv
  go_wp2_with fail
  have hok : okV g vs = true := by
    unfold okV listOk allIn
    rw [inB_iff.2 ⟨by omega, by omega⟩, decide_eq_true (show vs.length ≤ 40 by omega), Bool.true_and, Bool.true_and, List.all_eq_true]
    intro z hz; have := HV.out z hz; rw [inB_iff]; omega
  have HOK := Lib.hid hok; clear hok
  have k3 : Keep w2 (w2.alloc (.cells #[.int .i64 g, .slice rd vs.length rc] 26)) := by go_grown
  have T3 : TwoC (w2.alloc (.cells #[.int .i64 g, .slice rd vs.length rc] 26)) w2.heap.size (.int .i64 g) (.slice rd vs.length rc) := ⟨by simp, by simp, by simp, by simp⟩
  have K3 := Lib.hid (Keep.next K2.out k3)
  have O3 := Lib.hid (HO2.out.keep k3).ints
  have HT3 := Lib.hid T3
  clear k3 T3 HO2 K2
  generalize w2.alloc (.cells #[.int .i64 g, .slice rd vs.length rc] 26) = w3 at *
  obtain ⟨vb, hvb⟩ : ∃ vb, vb = w2.heap.size := ⟨_, rfl⟩
  rw [← hvb] at HT3
  rw [← hvb]
  clear hvb
  refine (R8Rounding_any a1 cap1 z1 g rd rc vs w3 (w1.keep K3.out (Nat.le_refl _)) O3.out ⟨g0, g1⟩ (by omega) (fun z hz => by have := HV.out z hz; omega)).mono ?_
  rintro e w4 ⟨ls, ld, lc, rfl, ol, hrl, hrv, k4⟩
  have hrn : rndB g vs ls = true := by
    unfold rndB
    rw [HOK.out, decide_eq_true hrl, Bool.true_and, Bool.true_and, decide_eq_true_eq]
    intro j hj; exact hrv j (by omega)
  have C4 : Hid (CtxV w w4 vb g rd rc vs ld ls) := Lib.hid ⟨HT3.out.keep k4 HT3.out.lt, Keep.next K3.out k4, O3.out.keep k4 (Nat.le_refl _), ol.ints⟩
  have hll : ls.length ≤ 7 := by omega
  have HRN := Lib.hid hrn
  have hsb := rnd_bounds hrn
  have HRV := Lib.hid (rnd_in hrn)
  have hb1 := sumR_bd fl g vs (fun z hz => fl_bd (a := z) (b := g) (M := 1000001) (by omega) (by have := HV.out z hz; omega) (by have := HV.out z hz; omega) (by omega)) vs.length (Nat.le_refl _)
  have hb2 := sumR_bd ce g vs (fun z hz => ce_bd (a := z) (b := g) (M := 1000001) (by omega) (by have := HV.out z hz; omega) (by have := HV.out z hz; omega) (by omega)) vs.length (Nat.le_refl _)
  rw [List.take_length] at hb1 hb2
  have HASK : Hid (∀ k : Nat, k < 3 → askB (k : Int) g vs ls.sum = true) := Lib.hid (fun k hk => by
    unfold askB; rw [HOK.out, inB_iff.2 ⟨by omega, by omega⟩, inB_iff.2 hsb]; rfl)
  have HNO : Hid (askB 0 g vs (sumR ce g vs + 1) = false) := Lib.hid (by
    unfold askB
    have : inB (sumR ce g vs + 1) (sumR fl g vs) (sumR ce g vs) = false := by
      cases q : inB (sumR ce g vs + 1) (sumR fl g vs) (sumR ce g vs)
      · rfl
      · have := inB_iff.1 q; omega
    rw [this, Bool.and_false, Bool.and_false])
  have e1 : sbV fl g vs = sumR fl g vs := by simp [sbV, HOK.out]
  have e2 : sbV ce g vs = sumR ce g vs := by simp [sbV, HOK.out]
  have HLEAST : Hid (∀ k : Nat, k < 3 → nrmV k g vs (bestV k g vs ls.sum) ≤ nrmV k g vs ls ∧ okN k g vs (bestV k g vs ls.sum) = true ∧ okN k g vs ls = true ∧ rndB g vs (bestV k g vs ls.sum) = true ∧ (bestV k g vs ls.sum).sum = ls.sum ∧ (bestV k g vs ls.sum).length = vs.length) := Lib.hid (fun k hk => by
    obtain ⟨q1, q2, q3, q4⟩ := best_least (HASK.out k hk) HRN.out rfl
    have o1 : okN k g vs (bestV k g vs ls.sum) = true := by unfold okN; rw [q2, inB_iff.2 ⟨by omega, by omega⟩]; rfl
    have o2 : okN k g vs ls = true := by unfold okN; rw [HRN.out, inB_iff.2 ⟨by omega, by omega⟩]; rfl
    exact ⟨by unfold nrmV; rw [o1, o2]; simpa using q1, o1, o2, q2, q3, q4⟩)
  clear ol hrl hrv k4 hrn K3 O3 HT3
  generalize hS : ls.sum = sm at *
  have HSUM := Lib.hid hS; clear hS
  generalize sumR fl g vs = lo at *
  generalize sumR ce g vs = hi at *
  go_wp2_with fail
  refine (r8Sum_any ld lc ls w4 C4.out.l HRV.out (by omega)).mono ?_
  rw [HSUM.out]
  rintro e w' ⟨rfl, rfl⟩
  obtain ⟨c0, c1, f0, f1⟩ := C4.out.t
  go_wp2_with fail
  refine (SumBounds_any g rd rc vs w4 C4.out.o).mono ?_
  rw [HOK.out, e1, e2]
  rintro e w5 ⟨rfl, k5⟩
  have C5 := Lib.hid (C4.out.keep k5)
  clear c0 c1 f0 f1 k5 C4 e1 e2
  have d1 : decide (sm < lo) = false := decide_eq_false (by omega)
  have d2 : decide (hi < sm) = false := decide_eq_false (by omega)
  go_wp2
  go_loopg [11, 12, 13, 14, 15, 16, 17] 3 (fun kk nm _a _b _c _d _e _f wr => ∃ k : Nat, k ≤ 3 ∧ kk = 3 - k ∧ nm = .int .i64 k ∧ Hid (CtxV w wr vb g rd rc vs ld ls))
  case atStart => exact ⟨0, by omega, rfl, rfl, C5⟩
  case round =>
    obtain ⟨k, hk, rfl, rfl, C⟩ := hrel
    by_cases hk3 : k < 3
    · have hk3i : (k : Int) < 3 := by omega
      obtain ⟨hle, ho1, ho2, hbr, hbs, hbl⟩ := HLEAST.out k hk3
      have HLE := Lib.hid hle; have HO1 := Lib.hid ho1; have HO2 := Lib.hid ho2; have HBR := Lib.hid hbr; have HBS := Lib.hid hbs; have HBL := Lib.hid hbl
      have HAK := Lib.hid (HASK.out k hk3)
      clear hle ho1 ho2 hbr hbs hbl
      obtain ⟨c0, c1, f0, f1⟩ := C.out.t
      go_wp2_with fail
      refine (BestRounding_any g rd rc vs sm (k : Int) wr C.out.o ⟨by omega, by omega⟩ ⟨by omega, by omega⟩).mono ?_
      rw [HAK.out]
      rintro e w6 ⟨bd, bc, rfl, ob, k6⟩
      have C6 := Lib.hid (C.out.keep k6)
      have HB6 := Lib.hid ob.ints
      clear c0 c1 f0 f1 k6 C ob
      generalize bestV (k : Int) g vs sm = B at *
      have hbl7 : B.length ≤ 7 := by rw [HBL.out]; exact hl
      obtain ⟨c0, c1, f0, f1⟩ := C6.out.t
      go_wp2_with fail
      refine (ErrorOf_any g rd rc vs bd bc B (k : Int) w6 C6.out.o HB6.out ⟨by omega, by omega⟩).mono ?_
      rw [HO1.out]
      rintro e w7 ⟨rfl, k7⟩
      have C7 := Lib.hid (C6.out.keep k7)
      have HB7 := Lib.hid (HB6.out.keep k7 (Nat.le_refl _))
      clear c0 c1 f0 f1 k7 C6 HB6
      obtain ⟨c0, c1, f0, f1⟩ := C7.out.t
      go_wp2_with fail
      refine (ErrorOf_any g rd rc vs ld lc ls (k : Int) w7 C7.out.o C7.out.l ⟨by omega, by omega⟩).mono ?_
      rw [HO2.out]
      rintro e w8 ⟨rfl, k8⟩
      have C8 := Lib.hid (C7.out.keep k8)
      have HB8 := Lib.hid (HB7.out.keep k8 (Nat.le_refl _))
      clear c0 c1 f0 f1 k8 C7 HB7
      generalize nrmV (k : Int) g vs B = ea at *
      generalize nrmV (k : Int) g vs ls = eb at *
      have d3 : decide (eb < ea) = false := decide_eq_false (by have := HLE.out; omega)
      obtain ⟨c0, c1, f0, f1⟩ := C8.out.t
      go_wp2_with fail
      refine (IsRounding_any g rd rc vs bd bc B w8 C8.out.o HB8.out).mono ?_
      rw [HBR.out]
      rintro e w9 ⟨rfl, k9⟩
      have C9 := Lib.hid (C8.out.keep k9)
      have HB9 := Lib.hid (HB8.out.keep k9 (Nat.le_refl _))
      clear c0 c1 f0 f1 k9 C8 HB8
      have hne : (sm != sm) = false := by simp
      go_wp2_with fail
      refine (r8Sum_any bd bc B w9 HB9.out (rnd_in HBR.out) (by omega)).mono ?_
      rw [HBS.out]
      rintro e w' ⟨rfl, rfl⟩
      go_wp2
      go_roundg (3 - (k + 1))
      case measure => omega
      case rel => exact ⟨k + 1, by omega, rfl, by go_num, C9⟩
    · have hk3i : ¬ (k : Int) < 3 := by omega
      obtain ⟨c0, c1, f0, f1⟩ := C.out.t
      go_wp2_with fail
      refine (BestRounding_any g rd rc vs (hi + 1) 0 wr C.out.o ⟨by omega, by omega⟩ ⟨by omega, by omega⟩).mono ?_
      rw [HNO.out]
      rintro e w6 ⟨bd, bc, rfl, ob, k6⟩
      have K6 := Lib.hid (Keep.next C.out.k k6)
      clear c0 c1 f0 f1 k6 C ob
      go_wp2
      go_ret
      exact ⟨rfl, K6.out⟩

theorem own : ownKnob Try.prog.godebug = none := by kernel_rfl
theorem laidOut : laidOutB Try.prog = true := by kernel_rfl
set_option maxRecDepth 100000 in
theorem lifted (os : Os) (started : os.Started) (H : Type) (enc : TypeId × Value → H) :
    ReturnsInHanded {} Try.checked os 3 .any (Rows.fnLeastErrorSpec.pre6 enc Try.prog Try.f3 Rows.fnLeastErrorRow.domain false) (Rows.fnLeastErrorSpec.post enc Try.prog Try.f3 false true false false) := by
  refine returnsInHanded_of_change (C := Try.checked) own started (by kernel_rfl) Try.func3
    (ChangeSpec.witness6 (enc := enc) (C := Try.checked) false ⟨#[], #[.slice none 0 0, .slice none 0 0], []⟩ 8 (by kernel_rfl) (by kernel_rfl) (by kernel_rfl) (by kernel_rfl)) ?_
  intro W base args ds gs before hval0 hW hcnd _
  have hval : ∀ (j : Nat) t v, Try.f3.params[j]? = some t → args[j]? = some v → Value.okWide Try.prog W .any base t v := hval0
  have hW' := hW
  obtain ⟨p, q, hA0, hV, rfl, hfz, hnd⟩ := hW
  have hA : DataW.TrodAll enc Try.prog W 0 (fun _ => true) true Try.f3.params.toList args.toList ds p := hA0
  rw [Try.params3] at hA hval
  obtain ⟨v0, vs0, d0, ds0, p0, q0, hargs, rfl, rfl, h0, r0⟩ := trodAll_cons hA
  obtain ⟨v1, vs1, d1, ds1, p1, q1, rfl, rfl, rfl, h1, r1⟩ := trodAll_cons r0
  obtain ⟨rfl, rfl, rfl⟩ := trodAll_nil r1
  obtain rfl : args = #[v0, v1] := by cases args; simp_all
  obtain ⟨rfl, rfl⟩ := trodVars_none hV
  have k0 := h0
  have lt0 : ∀ x ∈ p0, x.block < W.heap.size := by obtain ⟨m, hm⟩ := k0; exact DataW.trod_lt m _ _ _ hm
  obtain ⟨a0, len0, cap0, rfl⟩ := okWide_slice Try.underlying22 (hval 0 22 v0 rfl rfl)
  obtain ⟨z0, e0, w0⟩ := bytes_open Try.underlying22 Try.underlying5 (by kernel_rfl) h0
  subst e0
  have k1 := h1
  have lt1 : ∀ x ∈ p1, x.block < W.heap.size := by obtain ⟨m, hm⟩ := k1; exact DataW.trod_lt m _ _ _ hm
  obtain ⟨a1, len1, cap1, rfl⟩ := okWide_slice Try.underlying22 (hval 1 22 v1 rfl rfl)
  obtain ⟨z1, e1, w1⟩ := bytes_open Try.underlying22 Try.underlying5 (by kernel_rfl) h1
  subst e1
  clear hA0 hval0
  refine (walk W a0 cap0 z0 w0 a1 cap1 z1 w1).mono fun e W' ⟨he, bel⟩ => ?_
  subst he
  exact ⟨_, rfl, _, _, _, [], _, [], hW', trodAll_mk1 (shut_bool Try.underlying4 _), (trodAll_cons_mk (Below.trod laidOut (by kernel_rfl) (of_decide_eq_true (by kernel_rfl)) k0 bel lt0) (trodAll_cons_mk (Below.trod laidOut (by kernel_rfl) (of_decide_eq_true (by kernel_rfl)) k1 bel lt1) trodAll_mk0)), rfl, bel.frame _, fun h => by cases h⟩
theorem over : Rows.fnLeastErrorRow.holds Try.pinned (OpenSpec.ofChange Rows.fnLeastErrorSpec) :=
  OpenClaim.holds_of_wide 3 Try.f3 rfl rfl rfl rfl rfl rfl rfl ⟨rfl, rfl, rfl, rfl, rfl⟩ rfl rfl rfl rfl rfl (by kernel_rfl) Try.func3 (by kernel_rfl)
    (of_decide_eq_true (by kernel_rfl)) (by unfold Func.isWrapper; first | (rw [if_pos (by decide +kernel)]; kernel_rfl) | (rw [if_neg (by decide +kernel)]; exact ⟨rfl, rfl⟩))
    (fun os started H enc _ => lifted os started H enc)
/-- THE STATEMENT. -/
theorem proved : Rows.FnLeastErrorSaid := over
end Go.Proofs.Ytmckbjhmkcbjgab.fnLeastError
