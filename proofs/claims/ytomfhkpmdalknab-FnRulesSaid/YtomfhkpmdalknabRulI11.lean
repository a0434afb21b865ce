/- Calendars of rules: the program's look. -/
import Derived.Test.YtomfhkpmdalknabRul11
import Derived.Test.YtomfhkpmdalknabCalO11
namespace Go.Proofs.Ytomfhkpmdalknab
open Go.ChangeShapes Go.WideShapes Go.ChangeAt Go.RowKit Go.Deep
set_option linter.unusedVariables false
/-- The least number that a rule may be, and its factor. -/
def leF (rs : List Int) (k : Nat) : Int := if k = 0 then 1 else rs.getD (k - 1) 0 + 1
def faF (rs : List Int) (k : Nat) : Int := if k = 0 then 1 else rs.getD (k - 1) 0
theorem rul_look {rs : List Int} {k : Nat} (h : rulT rs k = true) : rulAt rs k = (inB (rs.getD k 0) (leF rs k) 400 && decide (rs.getD k 0 % faF rs k = 0)) ∧ 1 ≤ faF rs k ∧ faF rs k ≤ 400 ∧ leF rs k ≤ 401 ∧ 1 ≤ leF rs k := by
  by_cases c : k = 0
  · subst c
    rw [rulAt_zero, show leF rs 0 = 1 from rfl, show faF rs 0 = 1 from rfl]
    refine ⟨?_, by omega, by omega, by omega, by omega⟩
    rw [decide_eq_true (Int.emod_one _), Bool.and_true]
  · have hp := rulT_in h (show k - 1 < k by omega)
    rw [rulAt_step (by omega) hp.1, show leF rs k = rs.getD (k - 1) 0 + 1 from by simp [leF, c], show faF rs k = rs.getD (k - 1) 0 from by simp [faF, c]]
    exact ⟨rfl, hp.1, hp.2, by omega, by omega⟩
set_option maxHeartbeats 800000 in
theorem areRules_any (ad : Option Addr) (cap : Nat) (rs : List Int) (w : World) (hz : Ints w ad rs) :
    Calls Try.prog 19 #[.slice ad rs.length cap] w fun e w' => e = .returned (.bool (rulB rs)) ∧ w = w' := by
  have hlen := hz.small
  by_cases h1 : 1 ≤ rs.length
  case neg =>
    rw [show rulB rs = false from by unfold rulB; rw [decide_eq_false h1]; rfl]
    have hl : (rs.length : Int) < 1 := by omega
    clear h1
    go_enter Try.func19, Try.ntmps19
    go_wp2
    go_ret
    exact ⟨rfl, rfl⟩
  by_cases h2 : rs.length ≤ 5
  case neg =>
    rw [show rulB rs = false from by unfold rulB; rw [decide_eq_false h2, decide_eq_true h1]; rfl]
    have hl : ¬ (rs.length : Int) < 1 := by omega
    have hl2 : (5 : Int) < (rs.length : Int) := by omega
    clear h1 h2
    go_enter Try.func19, Try.ntmps19
    go_wp2
    go_ret
    exact ⟨rfl, rfl⟩
  have HE : Hid (rulB rs = rulT rs rs.length) := Lib.hid (by unfold rulB; rw [decide_eq_true h1, decide_eq_true h2]; rfl)
  have HNO := Lib.hid (fun k h hf => rulB_no (rs := rs) (k := k) h hf)
  have HLK := Lib.hid (fun k h => rul_look (rs := rs) (k := k) h)
  have HS := Lib.hid (rulT_succ rs)
  have HZ : Hid (rulT rs 0 = true) := Lib.hid rfl
  have HL0 : Hid (leF rs 0 = 1 ∧ faF rs 0 = 1) := Lib.hid ⟨rfl, rfl⟩
  have HLS : Hid (∀ k, leF rs (k + 1) = rs.getD k 0 + 1 ∧ faF rs (k + 1) = rs.getD k 0) := Lib.hid (fun k => ⟨rfl, rfl⟩)
  have hl : ¬ (rs.length : Int) < 1 := by omega
  have hl2 : ¬ (5 : Int) < (rs.length : Int) := by omega
  generalize rulB rs = V at *
  go_enter Try.func19, Try.ntmps19
  go_wp2
  go_loop [3, 4, 6, 17] (fun le fa _ i => ∃ k : Nat, k ≤ rs.length ∧ i = .int .i64 k ∧ le = .int .i64 (leF rs k) ∧ fa = .int .i64 (faF rs k) ∧ Hid (rulT rs k = true)) (fun _ _ _ i => rs.length - (intOf i).toNat)
  case atStart => exact ⟨0, Nat.zero_le _, rfl, by rw [HL0.out.1], by rw [HL0.out.2], HZ⟩
  case round =>
    obtain ⟨k, hk, rfl, rfl, rfl, HA⟩ := hrel
    by_cases hlt : k < rs.length
    · rcases hz.at_ with h | ⟨b, off, rfl, hb, hc⟩
      · subst h; simp at hlt
      have hcx := hc k hlt
      obtain ⟨q1, q2, q3, q4, q5⟩ := HLK.out k HA.out
      have HQ := Lib.hid q1
      have HLN := Lib.hid (HLS.out k)
      have HNK := Lib.hid (HNO.out k hlt)
      have HSK := Lib.hid (HS.out k)
      clear hc q1
      generalize rs.getD k 0 = x at *
      generalize leF rs k = le at *
      generalize faF rs k = fa at *
      have hf0 : fa ≠ 0 := by omega
      cases hin : inB x le 400
      · have HV := Lib.hid (HNK.out (by rw [HQ.out, hin]; rfl))
        go_wp2_with (go_at_call 22; refine (within_any _ _ _ _).mono ?_; rw [hin]; rintro e w' ⟨rfl, rfl⟩)
        go_ret
        exact ⟨ret_bool HV.out.symm, rfl⟩
      · have hx := inB_iff.1 hin
        have x0 : 0 ≤ x := by omega
        have x1 : x ≤ 400 := hx.2
        have HTM : Hid (x.tmod fa = x % fa) := Lib.hid (Int.tmod_eq_emod_of_nonneg x0)
        by_cases hm : x % fa = 0
        · have hm1 : (x % fa != 0) = false := by simp [hm]
          have hm2 : (x.tmod fa != 0) = false := by rw [HTM.out]; exact hm1
          have HR : Hid (rulT rs (k + 1) = true) := Lib.hid (by rw [HSK.out, HA.out, HQ.out, hin, decide_eq_true hm]; rfl)
          clear hm hx
          go_wp2_with (go_at_call 22; refine (within_any _ _ _ _).mono ?_; rw [hin]; rintro e w' ⟨rfl, rfl⟩)
          go_round
          case rel => exact ⟨k + 1, by omega, by go_num, by rw [HLN.out.1], by rw [HLN.out.2], HR⟩
          case measure => simp [intOf]; omega
        · have hm1 : (x % fa != 0) = true := by simp [hm]
          have hm2 : (x.tmod fa != 0) = true := by rw [HTM.out]; exact hm1
          have HV := Lib.hid (HNK.out (by rw [HQ.out, hin, decide_eq_false hm]; rfl))
          clear hm hx
          go_wp2_with (go_at_call 22; refine (within_any _ _ _ _).mono ?_; rw [hin]; rintro e w' ⟨rfl, rfl⟩)
          go_ret
          exact ⟨ret_bool HV.out.symm, rfl⟩
    · have HK := Lib.hid (show k = rs.length by omega)
      go_wp2
      go_ret
      exact ⟨ret_bool (by rw [HE.out, ← HK.out]; exact HA.out.symm), rfl⟩
set_option maxHeartbeats 800000 in
theorem rulC_any (B : Nat) (ad : Option Addr) (cap : Nat) (rs : List Int) (y : Nat) (w : World) (hz : Ints w ad rs) (hB : w.cell? ⟨B, 0, none⟩ = some (.slice ad rs.length cap)) (h5 : rs.length ≤ 5) (hp : ∀ i, i < rs.length → 1 ≤ rs.getD i 0) (hy : y ≤ 400) :
    Calls Try.prog 21 #[.int .i64 y, .pointer (some ⟨B, 0, none⟩)] w fun e w' => e = .returned (.bool (rlP rs y)) ∧ Keep w w' := by
  have HS := Lib.hid (fun k h => cntR_succ rs (y : Int) k h)
  have HB := Lib.hid (fun k => cntR_le rs (y : Int) k)
  have HZ : Hid (cntR rs (y : Int) 0 = 0) := Lib.hid rfl
  have HV : Hid (rlP rs y = decide (cntR rs (y : Int) rs.length % 2 = 1)) := Lib.hid rfl
  have HP := Lib.hid hp
  clear hp
  generalize rlP rs y = V at *
  go_enter Try.func21, Try.ntmps21
  go_wp2
  go_loop [4, 6, 9] (fun c _ i => ∃ k : Nat, k ≤ rs.length ∧ i = .int .i64 k ∧ c = .int .i64 (cntR rs (y : Int) k : Nat)) (fun _ _ i => rs.length - (intOf i).toNat)
  case atStart => exact ⟨0, Nat.zero_le _, rfl, by rw [HZ.out]; rfl⟩
  case round =>
    obtain ⟨k, hk, rfl, rfl⟩ := hrel
    have hbk := HB.out k
    by_cases hlt : k < rs.length
    · rcases hz.at_ with h | ⟨b, off, rfl, hb, hc⟩
      · subst h; simp at hlt
      have hcx := hc k hlt
      have hx1 := HP.out k hlt
      have HSK := Lib.hid (HS.out k hlt)
      clear hc
      generalize rs.getD k 0 = x at *
      generalize cntR rs (y : Int) k = c at *
      have hx0 : x ≠ 0 := by omega
      have HTM : Hid ((y : Int).tmod x = (y : Int) % x) := Lib.hid (Int.tmod_eq_emod_of_nonneg (by omega))
      by_cases hm : (y : Int) % x = 0
      · have hm1 : ((y : Int) % x == 0) = true := by simp [hm]
        have hm2 : ((y : Int).tmod x == 0) = true := by rw [HTM.out]; exact hm1
        rw [if_pos hm] at HSK
        clear hm
        go_wp2
        go_round
        case rel => exact ⟨k + 1, by omega, by go_num, by rw [HSK.out]; go_num⟩
        case measure => simp [intOf]; omega
      · have hm1 : ((y : Int) % x == 0) = false := by simp [hm]
        have hm2 : ((y : Int).tmod x == 0) = false := by rw [HTM.out]; exact hm1
        rw [if_neg hm] at HSK
        clear hm
        go_wp2
        go_round
        case rel => exact ⟨k + 1, by omega, by go_num, by rw [HSK.out]; go_num⟩
        case measure => simp [intOf]; omega
    · have HK := Lib.hid (show k = rs.length by omega)
      rw [← HK.out] at HV
      generalize cntR rs (y : Int) k = c at *
      by_cases hm : c % 2 = 1
      · have hm1 : ((c : Int) % 2 == 1) = true := by simp; omega
        rw [decide_eq_true hm] at HV
        clear hm
        go_wp2
        go_ret
        exact ⟨ret_bool HV.out.symm, Below.refl _ _⟩
      · have hm1 : ((c : Int) % 2 == 1) = false := by simp; omega
        rw [decide_eq_false hm] at HV
        clear hm
        go_wp2
        go_ret
        exact ⟨ret_bool HV.out.symm, Below.refl _ _⟩
set_option maxHeartbeats 1600000 in
set_option maxRecDepth 100000 in
theorem RuleCalendar_any (ad : Option Addr) (cap : Nat) (rs : List Int) (gh : Int) (w : World) (hz : Ints w ad rs) (uh : In64 gh) :
    Calls Try.prog 8 #[.slice ad rs.length cap, .int .i64 gh] w fun e w' => ∃ rd rc, e = .returned (.tuple #[calV (rcG rs gh) (rcH rs gh) rd (rcL rs gh).length rc, .bool (rcB rs gh)]) ∧ Own w' w.heap.size rd rc (rcL rs gh) ∧ Keep w w' := by
  have hlen := hz.small
  obtain ⟨wa, hwa⟩ : ∃ x, x = (w.alloc (.cells #[.slice ad rs.length cap] 25)).alloc (.cells #[.int .i64 0, .int .i64 0, .slice none 0 0] 27) := ⟨_, rfl⟩
  have HKA : Hid (Keep w wa) := Lib.hid (by rw [hwa]; go_grown)
  have HA := Lib.hid (fun W (k : Keep w W) => areRules_any ad cap rs W (hz.keep k (Nat.le_refl _)))
  have R0 : Hid (ResC wa (w.heap.size + 1) (.int .i64 0) (.int .i64 0) (.slice none 0 0)) := Lib.hid (by rw [hwa]; have h := ResC.new (w.alloc (.cells #[.slice ad rs.length cap] 25)) (.int .i64 0) (.int .i64 0) (.slice none 0 0) 27; rwa [show (w.alloc (.cells #[.slice ad rs.length cap] 25)).heap.size = w.heap.size + 1 by simp] at h)
  have B0 : Hid (wa.cell? ⟨w.heap.size, 0, none⟩ = some (.slice ad rs.length cap)) := Lib.hid (by rw [hwa]; simp)
  have HSZ : Hid (wa.heap.size = w.heap.size + 1 + 1) := Lib.hid (by rw [hwa]; simp)
  have HNO : Hid (rcB rs gh = false → rcG rs gh = 0 ∧ rcH rs gh = 0 ∧ rcL rs gh = []) := Lib.hid (fun h => by simp [rcG, rcH, rcL, h])
  have HDD : Hid (rcB rs gh = (rulB rs && inB gh 1 1000)) := Lib.hid rfl
  have HWA := Lib.hid hwa
  clear hwa
  cases h1 : rulB rs
  · rw [h1, Bool.false_and] at HDD
    obtain ⟨z1, z2, z3⟩ := HNO.out HDD.out
    rw [z1, z2, z3, HDD.out]
    rw [h1] at HA
    clear z1 z2 z3 HNO HDD
    go_enter Try.func8, Try.ntmps8
    go_wp2_with fail
    rw [← HWA.out]
    refine (HA.out _ HKA.out).mono ?_
    rintro e w1 ⟨rfl, rfl⟩
    obtain ⟨r0, r1, r2, q0, q1, q2⟩ := R0.out
    have HP := Lib.hid (R0.out.put (.int .i64 0) (.int .i64 0) (.slice none 0 0))
    go_wp2
    refine bodyPost_ret (v := .tuple #[calV 0 0 none 0 0, .bool false]) (by simp [results, Try.results8, go_sem, HP.out.c0, HP.out.c1, HP.out.c2]) rfl ?_
    exact ⟨none, 0, rfl, Own.nil _ _, keep_put3 HKA.out (by omega) _ _ _⟩
  obtain ⟨l1, l2, ht⟩ := rulB_parts h1
  have hl := rulB_last h1
  have HIN := Lib.hid (fun i (hi : i < rs.length) => (rulT_in ht hi).1)
  rw [h1] at HA
  rw [h1, Bool.true_and] at HDD
  obtain ⟨g, hg⟩ : ∃ g, g = rs.getD (rs.length - 1) 0 := ⟨_, rfl⟩
  have HCO : Hid (rcG rs gh = coG g gh ∧ rcH rs gh = coH g gh ∧ rcL rs gh = coL g gh (rlP rs) ∧ rcB rs gh = coB g gh) := Lib.hid (by
    have hb : rcB rs gh = coB g gh := by rw [HDD.out]; unfold coB; rw [show inB g 1 400 = true from by rw [hg]; exact inB_iff.2 hl]; rfl
    unfold rcG rcH rcL coG coH coL
    rw [hb, ← hg]
    exact ⟨rfl, rfl, rfl, rfl⟩)
  rw [HCO.out.1, HCO.out.2.1, HCO.out.2.2.1, HCO.out.2.2.2]
  rw [← hg] at hl
  have HCC := Lib.hid (fun W (k : Keep wa W) => calendarOfRuleCalendar_any g gh w.heap.size (rlP rs) W ⟨by omega, by omega⟩ (fun g1 g2 i hi W2 k2 => rulC_any w.heap.size ad cap rs i W2 ((hz.keep HKA.out (Nat.le_refl _)).keep (Keep.next k k2) (Nat.le_refl _)) (((Keep.next k k2).cell (p := ⟨w.heap.size, 0, none⟩) (block_lt_of_cell B0.out)).trans B0.out) l2 HIN.out (by omega)))
  rcases hz.at_ with h | ⟨b, off, rfl, hb, hc⟩
  · subst h; simp at l1
  have hcx := ((HKA.out.cell (p := ⟨b, off + (rs.length - 1), none⟩) hb).trans (hc (rs.length - 1) (by omega)))
  rw [← hg] at hcx
  have e1 : IntKind.i64.wrap ((rs.length : Int) - 1) = ((rs.length - 1 : Nat) : Int) := by rw [IntWalk.i64_in _ (by omega)]; omega
  clear hc h1 ht hg HNO HDD HCO HIN
  generalize coG g gh = RG at *
  generalize coH g gh = RH at *
  generalize coL g gh (rlP rs) = RL at *
  generalize coB g gh = RB at *
  go_enter Try.func8, Try.ntmps8
  go_wp2_with fail
  rw [← HWA.out]
  refine (HA.out _ HKA.out).mono ?_
  rintro e w1 ⟨rfl, rfl⟩
  have b0 := B0.out
  go_wp2_with (go_at_call 20; refine (HCC.out _ (Below.refl _ _)).mono ?_; rintro e w2 ⟨rd, rc, rfl, o2, k2⟩; have HO2 := Lib.hid o2; have HK2 := Lib.hid (show Keep w w2 from Keep.next HKA.out k2); have R2 := Lib.hid (R0.out.keep k2 (by rw [HSZ.out]; omega)); clear o2 k2; obtain ⟨r0, r1, r2, q0, q1, q2⟩ := R2.out)
  have HP := Lib.hid (R2.out.put (.int .i64 RG) (.int .i64 RH) (.slice rd RL.length rc))
  refine bodyPost_ret (v := .tuple #[calV RG RH rd RL.length rc, .bool RB]) (by simp [results, Try.results8, go_sem, HP.out.c0, HP.out.c1, HP.out.c2]) rfl ?_
  exact ⟨rd, rc, rfl, (HO2.out.set3 (by rw [HSZ.out]; omega) _ _ _).mono (by rw [HSZ.out]; omega), keep_put3 HK2.out (by omega) _ _ _⟩
end Go.Proofs.Ytomfhkpmdalknab
