/- Calendars: what is valid, leap years, days before a year: the program's look and the model's. -/
import Derived.Test.YtomfhkpmdalknaaCal11
import Derived.Test.YtomfhkpmdalknaaCalM
import Derived.Test.YtomfhkpmdalknaaInts
import Derived.Test.YtomfhkpmdalknaaIdx11
import Derived.Deep.LoopGhost
import Derived.Deep.RegionHeld3
namespace Go.Proofs.Ytomfhkpmdalknaa
open Go.ChangeShapes Go.WideShapes Go.ChangeAt Go.RowKit Go.Deep
set_option linter.unusedVariables false
theorem drw_keep {w wr : World} (h : ∃ n, wr = w.drewN n) : Keep w wr := by obtain ⟨n, rfl⟩ := h; exact below_drewN (Below.refl _ _) _
theorem drw_add {w wr : World} (h : ∃ n, wr = w.drewN n) (m : Nat) : ∃ n, wr.drewN m = w.drewN n := by obtain ⟨n, rfl⟩ := h; exact ⟨n + m, by rw [World.drewN_drewN]⟩
set_option maxHeartbeats 800000 in
theorem isInc_any (ad : Option Addr) (cap : Nat) (zs : List Int) (w : World) (hz : Ints w ad zs) :
    Calls Try.prog 62 #[.slice ad zs.length cap] w fun e w' => e = .returned (.bool (incB zs)) ∧ ∃ n, w' = w.drewN n := by
  have hlen := hz.small
  go_enter Try.func62, Try.ntmps62
  go_wp2
  go_loopw [3, 6] (fun _ i wr => ∃ k : Nat, k ≤ zs.length ∧ i = .int .i64 k ∧ Hid (incT zs k = true) ∧ ∃ n, wr = w.drewN n)
    (fun _ i _ => zs.length - (intOf i).toNat)
  case atStart => exact ⟨0, Nat.zero_le _, rfl, Lib.hid rfl, 0, rfl⟩
  case round =>
    obtain ⟨k, hk, rfl, HA, n, rfl⟩ := hrel
    by_cases hlt : k < zs.length
    · rcases hz.at_ with h | ⟨b, off, rfl, hb, hc⟩
      · subst h; simp at hlt
      have hcx := hc k hlt
      have HO := Lib.hid (fun h => incB_no (zs := zs) hlt h)
      have HS := Lib.hid (incT_succ zs k)
      by_cases h0 : k = 0
      · subst h0
        have HS0 : Hid (incT zs (0 + 1) = true) := Lib.hid (by rw [HS.out, HA.out]; rfl)
        clear hc
        go_wp2
        go_quiet (fail)
        go_wp2
        go_roundw
        case rel => exact ⟨0 + 1, by omega, by go_num, HS0, n + nq, by first | rfl | rw [World.drewN_drewN]⟩
        case measure => simp [intOf]; omega
      · have hcy := hc (k - 1) (by omega)
        have h0b : decide (0 < k) = true := by simp; omega
        have hk1 : IntKind.i64.wrap ((k : Int) - 1) = ((k - 1 : Nat) : Int) := by rw [IntWalk.i64_in _ (by omega)]; omega
        have HAT : Hid (incAt zs k = decide (zs.getD (k - 1) 0 < zs.getD k 0)) := Lib.hid (by unfold incAt; rw [decide_eq_false h0]; rfl)
        clear hc
        generalize zs.getD (k - 1) 0 = y at hcy HAT
        generalize zs.getD k 0 = x at hcx HAT
        by_cases hge : x ≤ y
        · have hgb : decide (x ≤ y) = true := by simp [hge]
          have HG := Lib.hid (HO.out (by rw [HAT.out]; simp; omega)); clear hge
          go_wp2
          go_quiet (fail)
          go_wp2
          go_ret
          exact ⟨ret_bool HG.out.symm, n + nq, by first | rfl | rw [World.drewN_drewN]⟩
        · have hgb : decide (x ≤ y) = false := by simp; omega
          have HG : Hid (incT zs (k + 1) = true) := Lib.hid (by rw [HS.out, HA.out, HAT.out]; simp; omega); clear hge
          go_wp2
          go_quiet (fail)
          go_wp2
          go_roundw
          case rel => exact ⟨k + 1, by omega, by go_num, HG, n + nq, by first | rfl | rw [World.drewN_drewN]⟩
          case measure => simp [intOf]; omega
    · have HK := Lib.hid (show k = zs.length from by omega)
      go_wp2
      go_ret
      exact ⟨ret_bool (by unfold incB; rw [← HK.out]; exact HA.out.symm), n, rfl⟩
set_option maxHeartbeats 800000 in
theorem ValidCalendar_any (g gh : Int) (ad : Option Addr) (cap : Nat) (zs : List Int) (w : World) (hz : Ints w ad zs) :
    Calls Try.prog 18 #[calV g gh ad zs.length cap] w fun e w' => e = .returned (.bool (okC g gh zs)) ∧ Keep w w' := by
  have HI := Lib.hid (fun W (k : Keep w W) => isInc_any ad cap zs W (hz.keep k (Nat.le_refl _)))
  have HU := Lib.hid (fun W (k : Keep w W) => areUpTo_any (g - 1) ad cap zs W (hz.keep k (Nat.le_refl _)))
  cases h1 : inB g 1 400
  · rw [show okC g gh zs = false from by unfold okC; rw [h1]; rfl]
    go_enter Try.func18, Try.ntmps18
    go_wp2_with (go_at_call 60; refine (within_any _ _ _ _).mono ?_; rw [h1]; rintro e w' ⟨rfl, rfl⟩)
    go_ret
    exact ⟨rfl, by go_grown⟩
  have hg := inB_iff.1 h1
  cases h2 : inB gh 1 1000
  · rw [show okC g gh zs = false from by unfold okC; rw [h1, h2]; rfl]
    go_enter Try.func18, Try.ntmps18
    go_wp2_with (go_at_call 60; refine (within_any _ _ _ _).mono ?_; (first | rw [h1] | rw [h2]); rintro e w' ⟨rfl, rfl⟩)
    go_ret
    exact ⟨rfl, by go_grown⟩
  have e1 : IntKind.i64.wrap (g - 1) = g - 1 := IntWalk.i64_in _ (by omega)
  have HE : Hid (okC g gh zs = ((zs.all fun x => inB x 0 (g - 1)) && incB zs)) := Lib.hid (by unfold okC; rw [h1, h2]; rfl)
  rw [HE.out]
  clear HE
  have B0 : BoxC (w.alloc (.cells #[.int .i64 g, .int .i64 gh, .slice ad zs.length cap] 27)) w.heap.size g gh ad zs.length cap := ⟨by simp, by simp, by simp, by simp⟩
  have HB0 := Lib.hid B0
  generalize (zs.all fun x => inB x 0 (g - 1)) = V1 at *
  generalize incB zs = V2 at *
  cases V1
  · go_enter Try.func18, Try.ntmps18
    go_wp2_with (first | (go_at_call 60; refine (within_any _ _ _ _).mono ?_; (first | rw [h1] | rw [h2]); rintro e w' ⟨rfl, rfl⟩) | (go_at_call 61; refine (HU.out _ (by go_grown)).mono ?_; rintro e w1 ⟨rfl, k1⟩; obtain ⟨b0, b1, b2, b3⟩ := HB0.out.keep k1))
    go_ret
    exact ⟨rfl, Keep.next (by go_grown) k1⟩
  · go_enter Try.func18, Try.ntmps18
    go_wp2_with (first | (go_at_call 60; refine (within_any _ _ _ _).mono ?_; (first | rw [h1] | rw [h2]); rintro e w' ⟨rfl, rfl⟩) | (go_at_call 61; refine (HU.out _ (by go_grown)).mono ?_; rintro e w1 ⟨rfl, k1⟩; obtain ⟨b0, b1, b2, b3⟩ := HB0.out.keep k1) | (go_at_call 62; refine (HI.out _ (Keep.next (by go_grown) k1)).mono ?_; rintro e w2 ⟨rfl, n2, rfl⟩))
    go_ret
    exact ⟨rfl, below_drewN (Keep.next (by go_grown) k1) _⟩
theorem isYear_any (y : Int) (w : World) : Calls Try.prog 65 #[.int .i64 y] w fun e w' => e = .returned (.bool (inB y 0 100000)) ∧ w = w' := by
  go_enter Try.func65, Try.ntmps65
  go_wp2_with (go_at_call 60; refine (within_any _ _ _ _).mono ?_; rintro e w' ⟨rfl, rfl⟩)
  go_ret
  exact ⟨rfl, rfl⟩
theorem l11Year_any (y : Int) (w : World) : Calls Try.prog 63 #[.int .i64 y] w fun e w' => e = .returned (.bool (inB y 0 100000)) ∧ w = w' := by
  go_enter Try.func63, Try.ntmps63
  go_wp2_with (go_at_call 73; refine (l00In_any _ _ _ _).mono ?_; rintro e w' ⟨rfl, rfl⟩)
  go_ret
  exact ⟨rfl, rfl⟩
set_option maxHeartbeats 800000 in
theorem risesD_any (ad : Option Addr) (cap : Nat) (zs : List Int) (lo hi : Int) (w : World) (hz : Ints w ad zs) :
    Calls Try.prog 103 #[.slice ad zs.length cap, .int .i64 lo, .int .i64 hi] w fun e w' => e = .returned (.bool (risesB zs lo hi)) ∧ ∃ n, w' = w.drewN n := by
  have hlen := hz.small
  go_enter Try.func103, Try.ntmps103
  go_wp2
  go_loopw [7] (fun i wr => ∃ k : Nat, k ≤ zs.length ∧ i = .int .i64 k ∧ Hid (RisesTo zs lo hi k) ∧ Hid (∃ n, wr = w.drewN n))
    (fun i _ => zs.length - (intOf i).toNat)
  case atStart => exact ⟨0, Nat.zero_le _, rfl, Lib.hid (fun j h => by omega), Lib.hid ⟨0, rfl⟩⟩
  case round =>
    obtain ⟨k, hk, rfl, HA, HD⟩ := hrel
    have hbel := drw_keep HD.out
    by_cases hlt : k < zs.length
    · rcases (hz.keep hbel (Nat.le_refl _)).at_ with h | ⟨b, off, rfl, hb, hc⟩
      · subst h; simp at hlt
      have hcx := hc k hlt
      have HO := Lib.hid (fun h => risesB_out (lo := lo) (hi := hi) hlt h)
      have HF := Lib.hid (fun h0 h => risesB_falls (lo := lo) (hi := hi) hlt h0 h)
      have HS := Lib.hid (fun h1 h2 => RisesTo.succ HA.out h1 h2)
      by_cases h0 : k = 0
      · subst h0
        clear hc HF
        rw [Nat.add_zero] at hcx
        generalize hx : zs.getD 0 0 = x at hcx HO HS
        clear hx
        cases hin : inB x lo hi
        · go_wp2
          go_quiet ((go_at_call 73; exact Calls.quiet_of_same ((l00In_any _ _ _ _).mono fun _ _ h => ⟨h.1, h.2.symm⟩)))
          go_wp2
          go_ret
          exact ⟨ret_bool (HO.out hin).symm, drw_add HD.out _⟩
        · go_wp2
          go_quiet ((go_at_call 73; exact Calls.quiet_of_same ((l00In_any _ _ _ _).mono fun _ _ h => ⟨h.1, h.2.symm⟩)))
          go_wp2
          go_roundw
          case rel => exact ⟨0 + 1, by omega, by go_num, Lib.hid (HS.out hin (fun h => by omega)), Lib.hid (drw_add HD.out _)⟩
          case measure => simp [intOf]; omega
      · have hcy := hc (k - 1) (by omega)
        have h0b : decide (0 < k) = true := by simp; omega
        have hk1 : IntKind.i64.wrap ((k : Int) - 1) = ((k - 1 : Nat) : Int) := by rw [IntWalk.i64_in _ (by omega)]; omega
        clear hc
        generalize zs.getD (k - 1) 0 = y at hcy HF HS
        generalize zs.getD k 0 = x at hcx HO HF HS
        cases hin : inB x lo hi
        · go_wp2
          go_quiet ((go_at_call 73; exact Calls.quiet_of_same ((l00In_any _ _ _ _).mono fun _ _ h => ⟨h.1, h.2.symm⟩)))
          go_wp2
          go_ret
          exact ⟨ret_bool (HO.out hin).symm, drw_add HD.out _⟩
        · by_cases hge : x ≤ y
          · have hgb : decide (x ≤ y) = true := by simp [hge]
            have HG := Lib.hid hge; clear hge
            go_wp2
            go_quiet ((go_at_call 73; exact Calls.quiet_of_same ((l00In_any _ _ _ _).mono fun _ _ h => ⟨h.1, h.2.symm⟩)))
            go_wp2
            go_ret
            exact ⟨ret_bool (HF.out (by omega) HG.out).symm, drw_add HD.out _⟩
          · have hgb : decide (x ≤ y) = false := by simp; omega
            have HG := Lib.hid hge; clear hge
            go_wp2
            go_quiet ((go_at_call 73; exact Calls.quiet_of_same ((l00In_any _ _ _ _).mono fun _ _ h => ⟨h.1, h.2.symm⟩)))
            go_wp2
            go_roundw
            case rel => exact ⟨k + 1, by omega, by go_num, Lib.hid (HS.out hin (fun h => by have := HG.out; omega)), Lib.hid (drw_add HD.out _)⟩
            case measure => simp [intOf]; omega
    · have HK := Lib.hid (show k = zs.length from by omega)
      go_wp2
      go_ret
      refine ⟨ret_bool ?_, HD.out⟩
      symm; refine risesB_yes ?_
      rw [← HK.out]; exact HA.out
set_option maxHeartbeats 800000 in
/-- The model's look at a calendar behind a pointer. -/
theorem l11Calendar_any (B : Nat) (g gh : Int) (ad : Option Addr) (cap : Nat) (zs : List Int) (w : World) (hz : Ints w ad zs) (hB : BoxC w B g gh ad zs.length cap) :
    Calls Try.prog 59 #[.pointer (some ⟨B, 0, none⟩)] w fun e w' => e = .returned (.bool (okC g gh zs)) ∧ ∃ n, w' = w.drewN n := by
  obtain ⟨b0, b1, b2, b3⟩ := hB
  have HR := Lib.hid (fun n => risesD_any ad cap zs 0 (g - 1) (w.drewN n) (hz.keep (below_drewN (Below.refl _ _) _) (Nat.le_refl _)))
  cases h1 : inB g 1 400
  · rw [show okC g gh zs = false from by unfold okC; rw [h1]; rfl]
    have HIN := Lib.hid (congrArg (fun b => Ending.returned (.bool b)) h1)
    go_enter Try.func59, Try.ntmps59
    go_wp2
    go_quiet ((go_at_call 73; exact Calls.quiet_of_same ((l00In_any _ _ _ _).mono fun _ _ h => ⟨h.1.trans HIN.out, h.2.symm⟩)))
    go_wp2
    go_ret
    exact ⟨rfl, nq, rfl⟩
  have HIN := Lib.hid (congrArg (fun b => Ending.returned (.bool b)) h1)
  have hg := inB_iff.1 h1
  cases h2 : inB gh 1 1000
  · rw [show okC g gh zs = false from by unfold okC; rw [h1, h2]; rfl]
    have HIN2 := Lib.hid (congrArg (fun b => Ending.returned (.bool b)) h2)
    go_enter Try.func59, Try.ntmps59
    go_wp2
    go_quiet ((go_at_call 73; first | exact Calls.quiet_of_same ((l00In_any _ _ _ _).mono fun _ _ h => ⟨h.1.trans HIN.out, h.2.symm⟩) | exact Calls.quiet_of_same ((l00In_any _ _ _ _).mono fun _ _ h => ⟨h.1.trans HIN2.out, h.2.symm⟩)))
    go_wp2
    go_ret
    exact ⟨rfl, nq, rfl⟩
  have HIN2 := Lib.hid (congrArg (fun b => Ending.returned (.bool b)) h2)
  have e1 : IntKind.i64.wrap (g - 1) = g - 1 := IntWalk.i64_in _ (by omega)
  have HE : Hid (okC g gh zs = risesB zs 0 (g - 1)) := Lib.hid (by unfold okC; rw [h1, h2, risesB_all]; rfl)
  rw [HE.out]
  clear HE
  generalize risesB zs 0 (g - 1) = V at *
  cases V
  all_goals
    go_enter Try.func59, Try.ntmps59
    go_wp2
    go_quiet (first | (go_at_call 73; first | exact Calls.quiet_of_same ((l00In_any _ _ _ _).mono fun _ _ h => ⟨h.1.trans HIN.out, h.2.symm⟩) | exact Calls.quiet_of_same ((l00In_any _ _ _ _).mono fun _ _ h => ⟨h.1.trans HIN2.out, h.2.symm⟩)) | (go_at_call 103; exact Calls.quiet_of (HR.out _)))
    go_wp2
    go_ret
    exact ⟨rfl, nq, rfl⟩
theorem specValidCalendar_any (g gh : Int) (ad : Option Addr) (cap : Nat) (zs : List Int) (w : World) (hz : Ints w ad zs) :
    Calls Try.prog 16 #[calV g gh ad zs.length cap] w fun e w' => e = .returned (.bool (okC g gh zs)) ∧ Keep w w' := by
  have hbl : Below w.heap.size w (w.alloc (.cells #[.int .i64 g, .int .i64 gh, .slice ad zs.length cap] 27)) := by go_grown
  go_enter Try.func16, Try.ntmps16
  go_wp2_with fail
  refine (l11Calendar_any w.heap.size g gh ad cap zs _ (hz.keep hbl (Nat.le_refl _)) ⟨by simp, by simp, by simp, by simp⟩).mono ?_
  rintro e w1 ⟨rfl, n1, rfl⟩
  have HK := Lib.hid (show Keep w _ from below_drewN hbl n1)
  go_wp2
  go_ret
  exact ⟨rfl, HK.out⟩
end Go.Proofs.Ytomfhkpmdalknaa
