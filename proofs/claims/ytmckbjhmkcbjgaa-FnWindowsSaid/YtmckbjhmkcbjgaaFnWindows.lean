/- FnWindows: each copy of a drawn sequence stands within its windows for the greatest deviation, and some copy does not for one less: at all bytes. -/
import Derived.Test.YtmckbjhmkcbjgaaRw8
import Derived.Test.YtmckbjhmkcbjgaaDq8
import Derived.Test.YtmckbjhmkcbjgaaDraw8
namespace Go.Proofs.Ytmckbjhmkcbjgaa.fnWindows
open Go.ChangeShapes Go.WideShapes Go.ChangeAt Go.RowKit Go.Deep
set_option linter.unusedVariables false

set_option maxHeartbeats 3200000 in
set_option maxRecDepth 100000 in
theorem walk (w : World) (a0 : Option Addr) (cap0 : Nat) (z0 : List Int) (w0 : Bytes w a0 z0) (a1 : Option Addr) (cap1 : Nat) (z1 : List Int) (w1 : Bytes w a1 z1) :
    Calls Try.prog 4 #[.slice a0 z0.length cap0, .slice a1 z1.length cap1] w fun e w' => e = .returned (.bool true) ∧ Below w.heap.size w w' := by
  have s0 := w0.small
  have s1 := w1.small
  cases hl : (decide (48 < z0.length) || decide (48 < z1.length))
  case true =>
    go_enter Try.func4, Try.ntmps4
    go_wp2_with fail
    refine (r8Long_any a0 a1 cap0 cap1 _ _ _ s0 s1).mono ?_
    rw [hl]
    rintro e w' ⟨rfl, rfl⟩
    go_wp2
    go_ret
    exact ⟨rfl, Below.refl _ _⟩
  have HL := Lib.hid hl; clear hl
  go_enter Try.func4, Try.ntmps4
  go_wp2_with fail
  refine (r8Long_any a0 a1 cap0 cap1 _ _ _ s0 s1).mono ?_
  rw [HL.out]
  rintro e w' ⟨rfl, rfl⟩
  go_wp2_with fail
  refine (R8Demands_any a0 cap0 z0 w w0).mono ?_
  rintro e w2 ⟨d, dd, dc, rfl, od, hok, hd4, k2⟩
  have HD2 := Lib.hid od.ints
  have HK2 := Lib.hid k2
  have hz1 := Lib.hid (w1.keep k2 (Nat.le_refl _))
  clear od k2
  go_wp2_with fail
  refine (R8Sequence_any a1 cap1 z1 dd dc d w2 hz1.out HD2.out hok).mono ?_
  rintro e w3 ⟨l, ld, lc, rfl, ol, hs, k3⟩
  have HL3 := Lib.hid ol.ints
  have HD3 := Lib.hid (HD2.out.keep k3 (Nat.le_refl _))
  have HK3 : Hid (Keep w w3) := Lib.hid (HK2.out.next k3)
  clear ol k3 hz1 HD2 HK2
  have h0 := (gd_at hs).1
  have hw := gd_win hs h0 (Int.le_refl _)
  have hb := (winB_parts hw).2
  have HALL := Lib.hid (all_in hs)
  have HOUT : Hid ((winB d (gdV d l - 1) && inW d l (gdV d l - 1) l.length) = false) := Lib.hid (by
    by_cases c : gdV d l = 0
    · have : winB d (gdV d l - 1) = false := by
        rw [c]; unfold winB
        rw [Bool.and_eq_false_iff]
        right
        cases h : inB (0 - 1) 0 (d.sum * d.sum - 1)
        · rfl
        · have := inB_iff.1 h; omega
      rw [this]; rfl
    · rw [some_out hs (by omega) (by omega), Bool.and_false])
  have HWN : Hid (winB d (gdV d l - 1) = decide (gdV d l ≠ 0)) := Lib.hid (by
    by_cases c : gdV d l = 0
    · rw [decide_eq_false (by simpa using c)]
      rw [c]; unfold winB
      rw [Bool.and_eq_false_iff]
      right
      cases h : inB (0 - 1) 0 (d.sum * d.sum - 1)
      · rfl
      · have := inB_iff.1 h; omega
    · rw [decide_eq_true c]
      exact gd_win hs (by omega) (by omega))
  have HG := Lib.hid (GreatestDeviation_any dd dc d ld lc l w3 HD3.out HL3.out)
  have HR1 := Lib.hid (fun W (k : Keep w3 W) => r8Within_any dd dc d ld lc l (gdV d l) W (HD3.out.keep k (Nat.le_refl _)) (HL3.out.keep k (Nat.le_refl _)) ⟨by omega, by omega⟩ hs)
  have HR2 := Lib.hid (fun W (k : Keep w3 W) => r8Within_any dd dc d ld lc l (gdV d l - 1) W (HD3.out.keep k (Nat.le_refl _)) (HL3.out.keep k (Nat.le_refl _)) ⟨by omega, by omega⟩ hs)
  rw [hs] at HG
  rw [hw, HALL.out] at HR1
  rw [HOUT.out, HWN.out] at HR2
  clear HALL HOUT HWN hw
  generalize gdV d l = v at *
  have V1 : IntKind.i64.wrap (v - 1) = v - 1 := IntWalk.i64_in _ (by omega)
  have hv : ¬ v < 0 := by omega
  by_cases c : v = 0
  · subst c
    go_wp2_with fail
    refine HG.out.mono ?_
    rintro e w4 ⟨rfl, k4⟩
    go_wp2_with fail
    refine (HR1.out _ k4).mono ?_
    rintro e w5 ⟨rfl, k5⟩
    go_wp2_with fail
    refine (HR2.out _ (k4.next k5)).mono ?_
    rintro e w6 ⟨rfl, k6⟩
    go_wp2
    go_ret
    exact ⟨rfl, HK3.out.next ((k4.next k5).next k6)⟩
  · rw [decide_eq_true c] at HR2
    go_wp2_with fail
    refine HG.out.mono ?_
    rintro e w4 ⟨rfl, k4⟩
    go_wp2_with fail
    refine (HR1.out _ k4).mono ?_
    rintro e w5 ⟨rfl, k5⟩
    go_wp2_with fail
    refine (HR2.out _ (k4.next k5)).mono ?_
    rintro e w6 ⟨rfl, k6⟩
    go_wp2
    go_ret
    exact ⟨rfl, HK3.out.next ((k4.next k5).next k6)⟩

theorem own : ownKnob Try.prog.godebug = none := by kernel_rfl
theorem laidOut : laidOutB Try.prog = true := by kernel_rfl
set_option maxRecDepth 100000 in
theorem lifted (os : Os) (started : os.Started) (H : Type) (enc : TypeId × Value → H) :
    ReturnsInHanded {} Try.checked os 4 .any (Rows.fnWindowsSpec.pre6 enc Try.prog Try.f4 Rows.fnWindowsRow.domain false) (Rows.fnWindowsSpec.post enc Try.prog Try.f4 false true false false) := by
  refine returnsInHanded_of_change (C := Try.checked) own started (by kernel_rfl) Try.func4
    (ChangeSpec.witness6 (enc := enc) (C := Try.checked) false ⟨#[], #[.slice none 0 0, .slice none 0 0], []⟩ 8 (by kernel_rfl) (by kernel_rfl) (by kernel_rfl) (by kernel_rfl)) ?_
  intro W base args ds gs before hval0 hW hcnd _
  have hval : ∀ (j : Nat) t v, Try.f4.params[j]? = some t → args[j]? = some v → Value.okWide Try.prog W .any base t v := hval0
  have hW' := hW
  obtain ⟨p, q, hA0, hV, rfl, hfz, hnd⟩ := hW
  have hA : DataW.TrodAll enc Try.prog W 0 (fun _ => true) true Try.f4.params.toList args.toList ds p := hA0
  rw [Try.params4] at hA hval
  obtain ⟨v0, vs0, d0, ds0, p0, q0, hargs, rfl, rfl, h0, r0⟩ := trodAll_cons hA
  obtain ⟨v1, vs1, d1, ds1, p1, q1, rfl, rfl, rfl, h1, r1⟩ := trodAll_cons r0
  obtain ⟨rfl, rfl, rfl⟩ := trodAll_nil r1
  obtain rfl : args = #[v0, v1] := by cases args; simp_all
  obtain ⟨rfl, rfl⟩ := trodVars_none hV
  have k0 := h0
  have lt0 : ∀ x ∈ p0, x.block < W.heap.size := by obtain ⟨m, hm⟩ := k0; exact DataW.trod_lt m _ _ _ hm
  obtain ⟨a0, len0, cap0, rfl⟩ := okWide_slice Try.underlying22 (hval 0 22 v0 rfl rfl)
  obtain ⟨z0, e0, w0⟩ := bytes_open Try.underlying22 Try.underlying5 (by kernel_rfl) h0
  subst e0
  have k1 := h1
  have lt1 : ∀ x ∈ p1, x.block < W.heap.size := by obtain ⟨m, hm⟩ := k1; exact DataW.trod_lt m _ _ _ hm
  obtain ⟨a1, len1, cap1, rfl⟩ := okWide_slice Try.underlying22 (hval 1 22 v1 rfl rfl)
  obtain ⟨z1, e1, w1⟩ := bytes_open Try.underlying22 Try.underlying5 (by kernel_rfl) h1
  subst e1
  clear hA0 hval0
  refine (walk W a0 cap0 z0 w0 a1 cap1 z1 w1).mono fun e W' ⟨he, bel⟩ => ?_
  subst he
  exact ⟨_, rfl, _, _, _, [], _, [], hW', trodAll_mk1 (shut_bool Try.underlying4 _), (trodAll_cons_mk (Below.trod laidOut (by kernel_rfl) (of_decide_eq_true (by kernel_rfl)) k0 bel lt0) (trodAll_cons_mk (Below.trod laidOut (by kernel_rfl) (of_decide_eq_true (by kernel_rfl)) k1 bel lt1) trodAll_mk0)), rfl, bel.frame _, fun h => by cases h⟩
theorem over : Rows.fnWindowsRow.holds Try.pinned (OpenSpec.ofChange Rows.fnWindowsSpec) :=
  OpenClaim.holds_of_wide 4 Try.f4 rfl rfl rfl rfl rfl rfl rfl ⟨rfl, rfl, rfl, rfl, rfl⟩ rfl rfl rfl rfl rfl (by kernel_rfl) Try.func4 (by kernel_rfl)
    (of_decide_eq_true (by kernel_rfl)) (by unfold Func.isWrapper; first | (rw [if_pos (by decide +kernel)]; kernel_rfl) | (rw [if_neg (by decide +kernel)]; exact ⟨rfl, rfl⟩))
    (fun os started H enc _ => lifted os started H enc)
/-- THE STATEMENT. -/
theorem proved : Rows.FnWindowsSaid := over
end Go.Proofs.Ytmckbjhmkcbjgaa.fnWindows
