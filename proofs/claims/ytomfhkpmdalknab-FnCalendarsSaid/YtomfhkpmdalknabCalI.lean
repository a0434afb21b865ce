/- Calendars: what is valid, leap years, days before a year: the program's look and the model's. -/
import Derived.Test.YtomfhkpmdalknabCal11
import Derived.Test.YtomfhkpmdalknabCalM
import Derived.Test.YtomfhkpmdalknabInts
import Derived.Test.YtomfhkpmdalknabIdx11
import Derived.Deep.LoopGhost
import Derived.Deep.RegionHeld3
namespace Go.Proofs.Ytomfhkpmdalknab
open Go.ChangeShapes Go.WideShapes Go.ChangeAt Go.RowKit Go.Deep
set_option linter.unusedVariables false
theorem drw_keep {w wr : World} (h : ∃ n, wr = w.drewN n) : Keep w wr := by obtain ⟨n, rfl⟩ := h; exact below_drewN (Below.refl _ _) _
theorem drw_add {w wr : World} (h : ∃ n, wr = w.drewN n) (m : Nat) : ∃ n, wr.drewN m = w.drewN n := by obtain ⟨n, rfl⟩ := h; exact ⟨n + m, by rw [World.drewN_drewN]⟩
set_option maxHeartbeats 800000 in
theorem isInc_any (ad : Option Addr) (cap : Nat) (zs : List Int) (w : World) (hz : Ints w ad zs) :
    Calls Try.prog 24 #[.slice ad zs.length cap] w fun e w' => e = .returned (.bool (incB zs)) ∧ ∃ n, w' = w.drewN n := by
  have hlen := hz.small
  go_enter Try.func24, Try.ntmps24
  go_wp2
  go_loopw [3, 6] (fun _ i wr => ∃ k : Nat, k ≤ zs.length ∧ i = .int .i64 k ∧ Hid (incT zs k = true) ∧ ∃ n, wr = w.drewN n)
    (fun _ i _ => zs.length - (intOf i).toNat)
  case atStart => exact ⟨0, Nat.zero_le _, rfl, Lib.hid rfl, 0, rfl⟩
  case round =>
    obtain ⟨k, hk, rfl, HA, n, rfl⟩ := hrel
    by_cases hlt : k < zs.length
    · rcases hz.at_ with h | ⟨b, off, rfl, hb, hc⟩
      · subst h; simp at hlt
      have hcx := hc k hlt
      have HO := Lib.hid (fun h => incB_no (zs := zs) hlt h)
      have HS := Lib.hid (incT_succ zs k)
      by_cases h0 : k = 0
      · subst h0
        have HS0 : Hid (incT zs (0 + 1) = true) := Lib.hid (by rw [HS.out, HA.out]; rfl)
        clear hc
        go_wp2
        go_quiet (fail)
        go_wp2
        go_roundw
        case rel => exact ⟨0 + 1, by omega, by go_num, HS0, n + nq, by first | rfl | rw [World.drewN_drewN]⟩
        case measure => simp [intOf]; omega
      · have hcy := hc (k - 1) (by omega)
        have h0b : decide (0 < k) = true := by simp; omega
        have hk1 : IntKind.i64.wrap ((k : Int) - 1) = ((k - 1 : Nat) : Int) := by rw [IntWalk.i64_in _ (by omega)]; omega
        have HAT : Hid (incAt zs k = decide (zs.getD (k - 1) 0 < zs.getD k 0)) := Lib.hid (by unfold incAt; rw [decide_eq_false h0]; rfl)
        clear hc
        generalize zs.getD (k - 1) 0 = y at hcy HAT
        generalize zs.getD k 0 = x at hcx HAT
        by_cases hge : x ≤ y
        · have hgb : decide (x ≤ y) = true := by simp [hge]
          have HG := Lib.hid (HO.out (by rw [HAT.out]; simp; omega)); clear hge
          go_wp2
          go_quiet (fail)
          go_wp2
          go_ret
          exact ⟨ret_bool HG.out.symm, n + nq, by first | rfl | rw [World.drewN_drewN]⟩
        · have hgb : decide (x ≤ y) = false := by simp; omega
          have HG : Hid (incT zs (k + 1) = true) := Lib.hid (by rw [HS.out, HA.out, HAT.out]; simp; omega); clear hge
          go_wp2
          go_quiet (fail)
          go_wp2
          go_roundw
          case rel => exact ⟨k + 1, by omega, by go_num, HG, n + nq, by first | rfl | rw [World.drewN_drewN]⟩
          case measure => simp [intOf]; omega
    · have HK := Lib.hid (show k = zs.length from by omega)
      go_wp2
      go_ret
      exact ⟨ret_bool (by unfold incB; rw [← HK.out]; exact HA.out.symm), n, rfl⟩
set_option maxHeartbeats 800000 in
theorem ValidCalendar_any (g gh : Int) (ad : Option Addr) (cap : Nat) (zs : List Int) (w : World) (hz : Ints w ad zs) :
    Calls Try.prog 9 #[calV g gh ad zs.length cap] w fun e w' => e = .returned (.bool (okC g gh zs)) ∧ Keep w w' := by
  have HI := Lib.hid (fun W (k : Keep w W) => isInc_any ad cap zs W (hz.keep k (Nat.le_refl _)))
  have HU := Lib.hid (fun W (k : Keep w W) => areUpTo_any (g - 1) ad cap zs W (hz.keep k (Nat.le_refl _)))
  cases h1 : inB g 1 400
  · rw [show okC g gh zs = false from by unfold okC; rw [h1]; rfl]
    go_enter Try.func9, Try.ntmps9
    go_wp2_with (go_at_call 22; refine (within_any _ _ _ _).mono ?_; rw [h1]; rintro e w' ⟨rfl, rfl⟩)
    go_ret
    exact ⟨rfl, by go_grown⟩
  have hg := inB_iff.1 h1
  cases h2 : inB gh 1 1000
  · rw [show okC g gh zs = false from by unfold okC; rw [h1, h2]; rfl]
    go_enter Try.func9, Try.ntmps9
    go_wp2_with (go_at_call 22; refine (within_any _ _ _ _).mono ?_; (first | rw [h1] | rw [h2]); rintro e w' ⟨rfl, rfl⟩)
    go_ret
    exact ⟨rfl, by go_grown⟩
  have e1 : IntKind.i64.wrap (g - 1) = g - 1 := IntWalk.i64_in _ (by omega)
  have HE : Hid (okC g gh zs = ((zs.all fun x => inB x 0 (g - 1)) && incB zs)) := Lib.hid (by unfold okC; rw [h1, h2]; rfl)
  rw [HE.out]
  clear HE
  have B0 : BoxC (w.alloc (.cells #[.int .i64 g, .int .i64 gh, .slice ad zs.length cap] 27)) w.heap.size g gh ad zs.length cap := ⟨by simp, by simp, by simp, by simp⟩
  have HB0 := Lib.hid B0
  generalize (zs.all fun x => inB x 0 (g - 1)) = V1 at *
  generalize incB zs = V2 at *
  cases V1
  · go_enter Try.func9, Try.ntmps9
    go_wp2_with (first | (go_at_call 22; refine (within_any _ _ _ _).mono ?_; (first | rw [h1] | rw [h2]); rintro e w' ⟨rfl, rfl⟩) | (go_at_call 23; refine (HU.out _ (by go_grown)).mono ?_; rintro e w1 ⟨rfl, k1⟩; obtain ⟨b0, b1, b2, b3⟩ := HB0.out.keep k1))
    go_ret
    exact ⟨rfl, Keep.next (by go_grown) k1⟩
  · go_enter Try.func9, Try.ntmps9
    go_wp2_with (first | (go_at_call 22; refine (within_any _ _ _ _).mono ?_; (first | rw [h1] | rw [h2]); rintro e w' ⟨rfl, rfl⟩) | (go_at_call 23; refine (HU.out _ (by go_grown)).mono ?_; rintro e w1 ⟨rfl, k1⟩; obtain ⟨b0, b1, b2, b3⟩ := HB0.out.keep k1) | (go_at_call 24; refine (HI.out _ (Keep.next (by go_grown) k1)).mono ?_; rintro e w2 ⟨rfl, n2, rfl⟩))
    go_ret
    exact ⟨rfl, below_drewN (Keep.next (by go_grown) k1) _⟩
theorem isYear_any (y : Int) (w : World) : Calls Try.prog 27 #[.int .i64 y] w fun e w' => e = .returned (.bool (inB y 0 100000)) ∧ w = w' := by
  go_enter Try.func27, Try.ntmps27
  go_wp2_with (go_at_call 22; refine (within_any _ _ _ _).mono ?_; rintro e w' ⟨rfl, rfl⟩)
  go_ret
  exact ⟨rfl, rfl⟩
end Go.Proofs.Ytomfhkpmdalknab
