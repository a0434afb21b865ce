/- A valid desk: the program's look. -/
import Derived.Test.YtpdcmhnaedhkdaaVdB11
import Derived.Test.YtpdcmhnaedhkdaaDu11
namespace Go.Proofs.Ytpdcmhnaedhkdaa
open Go.ChangeShapes Go.WideShapes Go.ChangeAt Go.RowKit Go.Deep
set_option linter.unusedVariables false
/-- A desk. -/
abbrev deskV (ad : Option Addr) (n cap : Nat) (bd : Option Addr) (m bcap : Nat) : Value := .agg #[.slice ad n cap, .slice bd m bcap]
def okD (zs : List ByteArray) (L : List (Int × List Int)) : Bool := decide (zs.length ≤ 6) && (decide (L.length = zs.length) && (inNB zs && ((zs.all nameB) && (L.all fun v => okV v.1 v.2))))
set_option maxHeartbeats 1600000 in
theorem ValidDesk_any (ad : Option Addr) (cap : Nat) (zs : List ByteArray) (bd : Option Addr) (bcap : Nat) (L : List (Int × List Int)) (w : World) (hz : Nms w ad zs) (hL : Vls w bd L) :
    Calls Try.prog 43 #[deskV ad zs.length cap bd L.length bcap] w fun e w' => e = .returned (.bool (okD zs L)) ∧ Keep w w' := by
  have hs := hz.small
  have hs2 := hL.small
  by_cases h1 : zs.length ≤ 6
  case neg =>
    rw [show okD zs L = false from by unfold okD; rw [decide_eq_false h1]; rfl]
    have h1i : (6 : Int) < (zs.length : Int) := by omega
    go_enter Try.func43, Try.ntmps43
    go_wp2
    go_ret
    exact ⟨rfl, by go_grown⟩
  have h1i : ¬ (6 : Int) < (zs.length : Int) := by omega
  by_cases h2 : L.length = zs.length
  case neg =>
    rw [show okD zs L = false from by unfold okD; rw [decide_eq_false h2]; simp]
    have h2i : ¬ (L.length : Int) = (zs.length : Int) := by omega
    go_enter Try.func43, Try.ntmps43
    go_wp2
    go_ret
    exact ⟨rfl, by go_grown⟩
  have h2b : decide ((L.length : Int) = (zs.length : Int)) = true := by simp [h2]
  have HE : Hid (okD zs L = (inNB zs && ((zs.all nameB) && (L.all fun v => okV v.1 v.2)))) := Lib.hid (by unfold okD; rw [decide_eq_true h1, decide_eq_true h2]; rfl)
  have HI := Lib.hid (fun W (k : Keep w W) => isIncN_any ad cap zs W (hz.keep k (Nat.le_refl _)))
  have HN := Lib.hid (fun W (k : Keep w W) => hasName_any ad cap zs W (hz.keep k (Nat.le_refl _)))
  have HV := Lib.hid (fun W (k : Keep w W) => hasVals_any bd bcap L W (hL.keep k (Nat.le_refl _)))
  rw [HE.out]
  have HNA : Hid ((zs.any fun s => !nameB s) = !zs.all nameB) := Lib.hid (not_any _ _)
  have HVA : Hid ((L.any fun v => !okV v.1 v.2) = !(L.all fun v => okV v.1 v.2)) := Lib.hid (not_any (fun v : Int × List Int => okV v.1 v.2) L)
  rw [HNA.out] at HN
  rw [HVA.out] at HV
  rw [h2] at HV ⊢
  clear HE HNA HVA
  generalize zs.all nameB = p at *
  generalize (L.all fun v => okV v.1 v.2) = q at *
  generalize inNB zs = r at *
  have HD : Hid (∀ T W, Keep (w.alloc (.cells #[.slice ad zs.length cap, .slice bd zs.length bcap] T)) W → DuY W w.heap.size (.slice ad zs.length cap) (.slice bd zs.length bcap)) := Lib.hid (fun T W k => (DuY.new w _ _ T).keep (k.mono (by simp)))
  clear hz hL h2b
  have h2b : decide ((zs.length : Int) = (zs.length : Int)) = true := by simp
  cases r <;> cases p <;> cases q
  all_goals go_enter Try.func43, Try.ntmps43
  all_goals go_wp2_with (first | (go_at_call 78; refine (HI.out _ (by go_grown)).mono ?_; rintro e w1 ⟨rfl, n1, rfl⟩) | (go_at_call 83; refine (HN.out _ (by exact below_drewN (by go_grown) _)).mono ?_; rintro e w2 ⟨rfl, k2⟩; obtain ⟨c0, c1, _, _⟩ := HD.out _ w2 (Keep.next (by exact below_drewN (by go_grown) _) k2); have g3 : Keep w w2 := Keep.next (by exact below_drewN (by go_grown) _) k2) | (go_at_call 84; refine (HV.out _ g3).mono ?_; rintro e w4 ⟨rfl, k4⟩))
  all_goals first | (go_ret; exact ⟨rfl, Keep.next g3 k4⟩) | (go_ret; exact ⟨rfl, g3⟩) | (go_ret; exact ⟨rfl, below_drewN (by go_grown) _⟩) | trace_state
end Go.Proofs.Ytpdcmhnaedhkdaa
