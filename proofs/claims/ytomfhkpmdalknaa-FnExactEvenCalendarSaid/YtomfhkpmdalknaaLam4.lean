/- Groups that are laminar: the model's side. -/
import Derived.Test.YtomfhkpmdalknaaVals
import Derived.Test.YtomfhkpmdalknaaLists
namespace Go.Proofs.Ytomfhkpmdalknaa
open Go.ChangeShapes Go.WideShapes Go.ChangeAt Go.RowKit
set_option linter.unusedVariables false
def hasB (zs : List Int) (n : Int) : Bool := decide (n ∈ zs)
theorem hasB_yes {zs : List Int} {n : Int} {k : Nat} (hk : k < zs.length) (h : zs.getD k 0 = n) : hasB zs n = true := by
  unfold hasB; rw [decide_eq_true_eq, ← h]; exact getD_mem zs k hk
theorem hasB_no {zs : List Int} {n : Int} (h : ∀ j, j < zs.length → zs.getD j 0 ≠ n) : hasB zs n = false := by
  unfold hasB; rw [decide_eq_false_iff_not]
  intro hm
  obtain ⟨j, hj, e⟩ := List.getElem_of_mem hm
  exact h j hj (by rw [getD_get zs j hj]; exact e)
/-- Rising numbers from lo to hi, up to place k. -/
def RisesTo (zs : List Int) (lo hi : Int) (k : Nat) : Prop := ∀ j, j < k → inB (zs.getD j 0) lo hi = true ∧ (0 < j → zs.getD (j - 1) 0 < zs.getD j 0)
open Classical in
noncomputable def risesB (zs : List Int) (lo hi : Int) : Bool := decide (RisesTo zs lo hi zs.length)
open Classical in
theorem risesB_yes {zs : List Int} {lo hi : Int} (h : RisesTo zs lo hi zs.length) : risesB zs lo hi = true := by unfold risesB; exact decide_eq_true h
theorem risesB_out {zs : List Int} {lo hi : Int} {k : Nat} (hk : k < zs.length) (h : inB (zs.getD k 0) lo hi = false) : risesB zs lo hi = false := by
  unfold risesB; rw [decide_eq_false_iff_not]; intro h2; have := (h2 k hk).1; rw [h] at this; cases this
theorem risesB_falls {zs : List Int} {lo hi : Int} {k : Nat} (hk : k < zs.length) (h0 : 0 < k) (h : zs.getD k 0 ≤ zs.getD (k - 1) 0) : risesB zs lo hi = false := by
  unfold risesB; rw [decide_eq_false_iff_not]; intro h2; have := (h2 k hk).2 h0; omega
theorem RisesTo.succ {zs : List Int} {lo hi : Int} {k : Nat} (h : RisesTo zs lo hi k) (h1 : inB (zs.getD k 0) lo hi = true) (h2 : 0 < k → zs.getD (k - 1) 0 < zs.getD k 0) : RisesTo zs lo hi (k + 1) := by
  intro j hj
  by_cases e : j = k
  · subst e; exact ⟨h1, h2⟩
  · exact h j (by omega)
theorem l00Has_any (ad : Option Addr) (cap : Nat) (zs : List Int) (n : Int) (w : World) (hz : Ints w ad zs) :
    Calls Try.prog 106 #[.slice ad zs.length cap, .int .i64 n] w fun e w' => e = .returned (.bool (hasB zs n)) ∧ w = w' := by
  have hlen := hz.small
  go_enter Try.func106, Try.ntmps106
  go_wp2
  go_loop [5] (fun i => ∃ k : Nat, k ≤ zs.length ∧ i = .int .i64 k ∧ Hid (∀ j, j < k → zs.getD j 0 ≠ n))
    (fun i => zs.length - (intOf i).toNat)
  case atStart => exact ⟨0, Nat.zero_le _, rfl, Lib.hid (fun j h => by omega)⟩
  case round =>
    obtain ⟨k, hk, rfl, HA⟩ := hrel
    by_cases hlt : k < zs.length
    · rcases hz.at_ with h | ⟨b, off, rfl, hb, hc⟩
      · subst h; simp at hlt
      have hcx := hc k hlt
      have HY := Lib.hid (fun h => hasB_yes (n := n) hlt h)
      have HN : Hid (zs.getD k 0 ≠ n → ∀ j, j < k + 1 → zs.getD j 0 ≠ n) := Lib.hid (fun h j hj => by
        by_cases e : j = k
        · subst e; exact h
        · exact HA.out j (by omega))
      clear hc
      generalize zs.getD k 0 = x at hcx HY HN
      by_cases hx : x = n
      · have hxb : (x == n) = true := by simp [hx]
        have HX := Lib.hid hx; clear hx
        go_wp2
        go_ret
        exact ⟨ret_bool (HY.out HX.out).symm, rfl⟩
      · have hxb : (x == n) = false := by simp [hx]
        have HX := Lib.hid hx; clear hx
        go_wp2
        go_round
        case rel => exact ⟨k + 1, by omega, by go_num, Lib.hid (HN.out HX.out)⟩
        case measure => simp [intOf]; omega
    · have HK := Lib.hid (show k = zs.length from by omega)
      go_wp2
      go_ret
      refine ⟨ret_bool ?_, rfl⟩
      symm; refine hasB_no ?_
      rw [← HK.out]; exact HA.out
set_option maxHeartbeats 800000 in
theorem l00Rises_any (ad : Option Addr) (cap : Nat) (zs : List Int) (lo hi : Int) (w : World) (hz : Ints w ad zs) :
    Calls Try.prog 103 #[.slice ad zs.length cap, .int .i64 lo, .int .i64 hi] w fun e w' => e = .returned (.bool (risesB zs lo hi)) ∧ Keep w w' := by
  have hlen := hz.small
  go_enter Try.func103, Try.ntmps103
  go_wp2
  go_loopw [7] (fun i wr => ∃ k : Nat, k ≤ zs.length ∧ i = .int .i64 k ∧ Hid (RisesTo zs lo hi k) ∧ Keep w wr)
    (fun i _ => zs.length - (intOf i).toNat)
  case atStart => exact ⟨0, Nat.zero_le _, rfl, Lib.hid (fun j h => by omega), Below.refl _ _⟩
  case round =>
    obtain ⟨k, hk, rfl, HA, hbel⟩ := hrel
    by_cases hlt : k < zs.length
    · rcases (hz.keep hbel (Nat.le_refl _)).at_ with h | ⟨b, off, rfl, hb, hc⟩
      · subst h; simp at hlt
      have hcx := hc k hlt
      have HO := Lib.hid (fun h => risesB_out (lo := lo) (hi := hi) hlt h)
      have HF := Lib.hid (fun h0 h => risesB_falls (lo := lo) (hi := hi) hlt h0 h)
      have HS := Lib.hid (fun h1 h2 => RisesTo.succ HA.out h1 h2)
      by_cases h0 : k = 0
      · subst h0
        clear hc HF
        rw [Nat.add_zero] at hcx
        generalize hx : zs.getD 0 0 = x at hcx HO HS
        clear hx
        cases hin : inB x lo hi
        · go_wp2
          go_quiet ((go_at_call 73; exact Calls.quiet_of_same ((l00In_any _ _ _ _).mono fun _ _ h => ⟨h.1, h.2.symm⟩)))
          go_wp2
          go_ret
          exact ⟨ret_bool (HO.out hin).symm, below_drewN hbel _⟩
        · go_wp2
          go_quiet ((go_at_call 73; exact Calls.quiet_of_same ((l00In_any _ _ _ _).mono fun _ _ h => ⟨h.1, h.2.symm⟩)))
          go_wp2
          go_roundw
          case rel => exact ⟨0 + 1, by omega, by go_num, Lib.hid (HS.out hin (fun h => by omega)), below_drewN hbel _⟩
          case measure => simp [intOf]; omega
      · have hcy := hc (k - 1) (by omega)
        have h0b : decide (0 < k) = true := by simp; omega
        have hk1 : IntKind.i64.wrap ((k : Int) - 1) = ((k - 1 : Nat) : Int) := by rw [IntWalk.i64_in _ (by omega)]; omega
        clear hc
        generalize zs.getD (k - 1) 0 = y at hcy HF HS
        generalize zs.getD k 0 = x at hcx HO HF HS
        cases hin : inB x lo hi
        · go_wp2
          go_quiet ((go_at_call 73; exact Calls.quiet_of_same ((l00In_any _ _ _ _).mono fun _ _ h => ⟨h.1, h.2.symm⟩)))
          go_wp2
          go_ret
          exact ⟨ret_bool (HO.out hin).symm, below_drewN hbel _⟩
        · by_cases hge : x ≤ y
          · have hgb : decide (x ≤ y) = true := by simp [hge]
            have HG := Lib.hid hge; clear hge
            go_wp2
            go_quiet ((go_at_call 73; exact Calls.quiet_of_same ((l00In_any _ _ _ _).mono fun _ _ h => ⟨h.1, h.2.symm⟩)))
            go_wp2
            go_ret
            exact ⟨ret_bool (HF.out (by omega) HG.out).symm, below_drewN hbel _⟩
          · have hgb : decide (x ≤ y) = false := by simp; omega
            have HG := Lib.hid hge; clear hge
            go_wp2
            go_quiet ((go_at_call 73; exact Calls.quiet_of_same ((l00In_any _ _ _ _).mono fun _ _ h => ⟨h.1, h.2.symm⟩)))
            go_wp2
            go_roundw
            case rel => exact ⟨k + 1, by omega, by go_num, Lib.hid (HS.out hin (fun h => by have := HG.out; omega)), below_drewN hbel _⟩
            case measure => simp [intOf]; omega
    · have HK := Lib.hid (show k = zs.length from by omega)
      go_wp2
      go_ret
      refine ⟨ret_bool ?_, hbel⟩
      symm; refine risesB_yes ?_
      rw [← HK.out]; exact HA.out
end Go.Proofs.Ytomfhkpmdalknaa
