/- Calendars of rules: the model's side. -/
import Derived.Test.YtomfhkpmdalknaaRulI11
namespace Go.Proofs.Ytomfhkpmdalknaa
open Go.ChangeShapes Go.WideShapes Go.ChangeAt Go.RowKit Go.Deep
set_option linter.unusedVariables false
/-- A calendar without leap years that is made in two blocks. -/
theorem growC_lit (wa : World) (b : Nat) (g gh : Int) (hb : wa.heap.size = b) : GrwC wa ((wa.alloc (.cells #[] 2)).alloc (.cells #[.int .i64 g, .int .i64 gh, .slice (some ⟨b, 0, none⟩) 0 0] 27)) (b + 1) g gh (some ⟨b, 0, none⟩) 0 [] := by
  subst hb
  have o := World.ownsRow_lit (base := wa.heap.size) (e := 2) (size := 1) wa #[] 0 (Nat.le_refl _) (by simp) rfl
  have o2 : Own (wa.alloc (.cells #[] 2)) wa.heap.size (some ⟨wa.heap.size, 0, none⟩) 0 [] := ⟨by simpa using o, by simp, by simp⟩
  exact ⟨by simp [go_sem], by simp [go_sem], by simp [go_sem], by simp [go_sem], by simp, by omega, o2.keep (by go_grown), fun a h => by simp at h; subst h; simp, by go_grown⟩
theorem l00InY (n lo hi : Int) (b : Bool) (w : World) (h : inB n lo hi = b) : Calls Try.prog 73 #[.int .i64 n, .int .i64 lo, .int .i64 hi] w fun e w' => e = .returned (.bool b) ∧ w' = w :=
  (l00In_any n lo hi w).mono fun _ _ h2 => ⟨by rw [h2.1, h], h2.2.symm⟩
set_option maxHeartbeats 3200000 in
set_option maxRecDepth 100000 in
theorem specRuleCalendar_any (ad : Option Addr) (cap : Nat) (rs : List Int) (gh : Int) (w : World) (hz : Ints w ad rs) (uh : In64 gh) :
    Calls Try.prog 32 #[.slice ad rs.length cap, .int .i64 gh] w fun e w' => ∃ rd rc, e = .returned (.tuple #[calV (rcG rs gh) (rcH rs gh) rd (rcL rs gh).length rc, .bool (rcB rs gh)]) ∧ Own w' w.heap.size rd rc (rcL rs gh) ∧ Keep w w' := by
  have hlen := hz.small
  obtain ⟨wa, hwa⟩ : ∃ x, x = w.alloc (.cells #[.int .i64 0, .int .i64 0, .slice none 0 0] 27) := ⟨_, rfl⟩
  have HKA : Hid (Keep w wa) := Lib.hid (by rw [hwa]; go_grown)
  have R0 : Hid (ResC wa w.heap.size (.int .i64 0) (.int .i64 0) (.slice none 0 0)) := Lib.hid (by rw [hwa]; exact ResC.new w _ _ _ _)
  have HSZ : Hid (wa.heap.size = w.heap.size + 1) := Lib.hid (by rw [hwa]; simp)
  have HNO : Hid (rcB rs gh = false → rcG rs gh = 0 ∧ rcH rs gh = 0 ∧ rcL rs gh = []) := Lib.hid (fun h => by simp [rcG, rcH, rcL, h])
  have HYS : Hid (rcB rs gh = true → rcG rs gh = rs.getD (rs.length - 1) 0 ∧ rcH rs gh = gh ∧ rcL rs gh = pickL (rlP rs) (rs.getD (rs.length - 1) 0).toNat) := Lib.hid (fun h => by simp [rcG, rcH, rcL, h])
  have HDD : Hid (rcB rs gh = (rulB rs && inB gh 1 1000)) := Lib.hid rfl
  have HWA := Lib.hid hwa
  clear hwa
  by_cases h1 : 1 ≤ rs.length
  case neg =>
    have hb : rcB rs gh = false := by rw [HDD.out]; unfold rulB; rw [decide_eq_false h1]; rfl
    obtain ⟨z1, z2, z3⟩ := HNO.out hb
    rw [z1, z2, z3, hb]
    have hl : (rs.length : Int) < 1 := by omega
    clear h1 z1 z2 z3
    go_enter Try.func32, Try.ntmps32
    go_wp2
    refine bodyPost_ret (v := .tuple #[calV 0 0 none 0 0, .bool false]) (by simp [results, Try.results32, go_sem]) rfl ?_
    exact ⟨none, 0, rfl, Own.nil _ _, by go_grown⟩
  have hl : ¬ (rs.length : Int) < 1 := by omega
  by_cases h2 : rs.length ≤ 5
  case neg =>
    have hb : rcB rs gh = false := by rw [HDD.out]; unfold rulB; rw [decide_eq_false h2, decide_eq_true h1]; rfl
    obtain ⟨z1, z2, z3⟩ := HNO.out hb
    rw [z1, z2, z3, hb]
    have hl2 : (5 : Int) < (rs.length : Int) := by omega
    clear h1 h2 z1 z2 z3
    go_enter Try.func32, Try.ntmps32
    go_wp2
    refine bodyPost_ret (v := .tuple #[calV 0 0 none 0 0, .bool false]) (by simp [results, Try.results32, go_sem]) rfl ?_
    exact ⟨none, 0, rfl, Own.nil _ _, by go_grown⟩
  have hl2 : ¬ (5 : Int) < (rs.length : Int) := by omega
  cases h3 : inB gh 1 1000
  · have hb : rcB rs gh = false := by rw [HDD.out, h3]; simp
    obtain ⟨z1, z2, z3⟩ := HNO.out hb
    rw [z1, z2, z3, hb]
    clear z1 z2 z3
    go_enter Try.func32, Try.ntmps32
    go_wp2_with (go_at_call 73; refine (l00In_any _ _ _ _).mono ?_; rw [h3]; rintro e w' ⟨rfl, rfl⟩)
    refine bodyPost_ret (v := .tuple #[calV 0 0 none 0 0, .bool false]) (by simp [results, Try.results32, go_sem]) rfl ?_
    exact ⟨none, 0, rfl, Own.nil _ _, by go_grown⟩
  have HFA : Hid (∀ k, k < rs.length → rulAt rs k = false → rcB rs gh = false) := Lib.hid (fun k h hf => by rw [HDD.out, rulB_no h hf]; rfl)
  have HTR : Hid (rulT rs rs.length = true → rcB rs gh = true) := Lib.hid (fun h => by rw [HDD.out, h3]; unfold rulB; rw [h, decide_eq_true h1, decide_eq_true h2]; rfl)
  have HA0 := Lib.hid (rulAt_zero rs)
  have HAP := Lib.hid (fun k (h : 0 < k) => rulAt_pos (rs := rs) h)
  have HTS := Lib.hid (rulT_succ rs)
  have HTI := Lib.hid (fun k i (h : rulT rs k = true) (hi : i < k) => rulT_in h hi)
  have HT0 : Hid (rulT rs 0 = true) := Lib.hid rfl
  have HCS := Lib.hid (fun y k h => cntR_succ rs y k h)
  have HCB := Lib.hid (fun y k => cntR_le rs y k)
  have HC0 : Hid (∀ y, cntR rs y 0 = 0) := Lib.hid (fun y => rfl)
  have HRP : Hid (∀ y : Nat, rlP rs y = decide (cntR rs (y : Int) rs.length % 2 = 1)) := Lib.hid (fun y => rfl)
  have HPS := Lib.hid (pickL_succ (rlP rs))
  have HPL := Lib.hid (pickL_len (rlP rs))
  have HP0 : Hid (pickL (rlP rs) 0 = []) := Lib.hid rfl
  have HZA := Lib.hid (fun W (k : Keep wa W) => (hz.keep HKA.out (Nat.le_refl _)).keep k (Nat.le_refl _))
  -- how it fails
  have HFL : Hid (rcB rs gh = false → ∀ W, Keep wa W → ∃ rd2 rc2, Ending.returned (.tuple #[calV 0 0 none 0 0, .bool false]) = .returned (.tuple #[calV (rcG rs gh) (rcH rs gh) rd2 (rcL rs gh).length rc2, .bool (rcB rs gh)]) ∧ Own (((W.setCell ⟨w.heap.size, 0, none⟩ (.int .i64 0)).setCell ⟨w.heap.size, 1, none⟩ (.int .i64 0)).setCell ⟨w.heap.size, 2, none⟩ (.slice none 0 0)) w.heap.size rd2 rc2 (rcL rs gh) ∧ Keep w (((W.setCell ⟨w.heap.size, 0, none⟩ (.int .i64 0)).setCell ⟨w.heap.size, 1, none⟩ (.int .i64 0)).setCell ⟨w.heap.size, 2, none⟩ (.slice none 0 0))) := Lib.hid (fun hb W k2 => by
    obtain ⟨z1, z2, z3⟩ := HNO.out hb
    refine ⟨none, 0, by rw [z1, z2, z3, hb]; rfl, by rw [z3]; exact Own.nil _ _, keep_put3 (Keep.next HKA.out k2) (Nat.le_refl _) _ _ _⟩)
  clear h1 h2 HNO HDD
  generalize rcB rs gh = VB at *
  generalize rcG rs gh = VG at *
  generalize rcH rs gh = VH at *
  generalize rcL rs gh = VL at *
  go_enter Try.func32, Try.ntmps32
  go_wp2_with (go_at_call 73; refine (l00In_any _ _ _ _).mono ?_; rw [h3]; rintro e w' ⟨rfl, rfl⟩)
  rw [← HWA.out]
  go_loopw [7] (fun i wr => ∃ k : Nat, k ≤ rs.length ∧ i = .int .i64 k ∧ Hid (rulT rs k = true) ∧ Hid (∃ n, wr = wa.drewN n)) (fun i _ => rs.length - (intOf i).toNat)
  case atStart => exact ⟨0, Nat.zero_le _, rfl, HT0, Lib.hid ⟨0, rfl⟩⟩
  case round =>
    obtain ⟨k, hk, rfl, HT, HD⟩ := hrel
    have hbel := drw_keep HD.out
    have HBE := Lib.hid hbel
    by_cases hlt : k < rs.length
    · rcases (HZA.out wr hbel).at_ with h | ⟨b, off, rfl, hb, hc⟩
      · subst h; simp at hlt
      have hcx := hc k hlt
      have HFK := Lib.hid (fun h => HFL.out (HFA.out k hlt h))
      have HSK := Lib.hid (HTS.out k)
      by_cases h0 : k = 0
      · subst h0
        clear hc
        rw [Nat.add_zero] at hcx
        have HAT := HA0
        generalize rs.getD 0 0 = x at *
        cases hin : inB x 1 400
        · have HF := Lib.hid (HFK.out (by rw [HAT.out]; exact hin) _ (Keep.next HBE.out (below_drewN (Below.refl _ _) 0)))
          have HFF := Lib.hid (HFK.out (by rw [HAT.out]; exact hin))
          clear HF
          go_wp2
          go_quiet ((go_at_call 73; exact Calls.quiet_of_same (l00InY _ _ _ _ _ hin)))
          have HKQ := Lib.hid (show Keep wa (wr.drewN nq) from below_drewN HBE.out _)
          obtain ⟨r0, r1, r2, q0, q1, q2⟩ := R0.out.keep HKQ.out (by rw [HSZ.out]; omega)
          have HP := Lib.hid ((R0.out.keep HKQ.out (by rw [HSZ.out]; omega)).put (.int .i64 0) (.int .i64 0) (.slice none 0 0))
          generalize wr.drewN nq = wq at *
          go_wp2
          refine bodyPost_ret (v := .tuple #[calV 0 0 none 0 0, .bool false]) (by simp [results, Try.results32, go_sem, HP.out.c0, HP.out.c1, HP.out.c2]) rfl ?_
          exact HFF.out _ HKQ.out
        · have HR : Hid (rulT rs (0 + 1) = true) := Lib.hid (by rw [HSK.out, HT.out, HAT.out, hin]; rfl)
          go_wp2
          go_quiet ((go_at_call 73; exact Calls.quiet_of_same (l00InY _ _ _ _ _ hin)))
          go_wp2
          go_roundw
          case rel => exact ⟨0 + 1, by omega, by go_num, HR, Lib.hid (drw_add HD.out _)⟩
          case measure => simp [intOf]; omega
      · have hcy := hc (k - 1) (by omega)
        have h0b : decide (0 < k) = true := by simp; omega
        have hk1 : IntKind.i64.wrap ((k : Int) - 1) = ((k - 1 : Nat) : Int) := by rw [IntWalk.i64_in _ (by omega)]; omega
        have HAT := Lib.hid (HAP.out k (by omega))
        have hy1 := (HTI.out k (k - 1) HT.out (by omega)).1
        clear hc
        generalize rs.getD (k - 1) 0 = y at *
        generalize rs.getD k 0 = x at *
        have hy0 : y ≠ 0 := by omega
        cases hin : inB x 1 400
        · have HFF := Lib.hid (HFK.out (by rw [HAT.out, hin]; rfl))
          go_wp2
          go_quiet ((go_at_call 73; exact Calls.quiet_of_same (l00InY _ _ _ _ _ hin)))
          have HKQ := Lib.hid (show Keep wa (wr.drewN nq) from below_drewN HBE.out _)
          obtain ⟨r0, r1, r2, q0, q1, q2⟩ := R0.out.keep HKQ.out (by rw [HSZ.out]; omega)
          have HP := Lib.hid ((R0.out.keep HKQ.out (by rw [HSZ.out]; omega)).put (.int .i64 0) (.int .i64 0) (.slice none 0 0))
          generalize wr.drewN nq = wq at *
          go_wp2
          refine bodyPost_ret (v := .tuple #[calV 0 0 none 0 0, .bool false]) (by simp [results, Try.results32, go_sem, HP.out.c0, HP.out.c1, HP.out.c2]) rfl ?_
          exact HFF.out _ HKQ.out
        have hxb := inB_iff.1 hin
        have x0 : 0 ≤ x := by omega
        have x1 : x ≤ 400 := hxb.2
        have HTM : Hid (x.tmod y = x % y) := Lib.hid (Int.tmod_eq_emod_of_nonneg x0)
        by_cases hge : x ≤ y
        · have hgb : decide (x ≤ y) = true := by simp [hge]
          have HFF := Lib.hid (HFK.out (by rw [HAT.out, hin, decide_eq_false (show ¬ y < x by omega)]; rfl))
          clear hxb
          go_wp2
          go_quiet ((go_at_call 73; exact Calls.quiet_of_same (l00InY _ _ _ _ _ hin)))
          have HKQ := Lib.hid (show Keep wa (wr.drewN nq) from below_drewN HBE.out _)
          obtain ⟨r0, r1, r2, q0, q1, q2⟩ := R0.out.keep HKQ.out (by rw [HSZ.out]; omega)
          have HP := Lib.hid ((R0.out.keep HKQ.out (by rw [HSZ.out]; omega)).put (.int .i64 0) (.int .i64 0) (.slice none 0 0))
          generalize wr.drewN nq = wq at *
          go_wp2
          refine bodyPost_ret (v := .tuple #[calV 0 0 none 0 0, .bool false]) (by simp [results, Try.results32, go_sem, HP.out.c0, HP.out.c1, HP.out.c2]) rfl ?_
          exact HFF.out _ HKQ.out
        · have hgb : decide (x ≤ y) = false := by simp; omega
          by_cases hm : x % y = 0
          · have hm1 : (x % y != 0) = false := by simp [hm]
            have hm2 : (x.tmod y != 0) = false := by rw [HTM.out]; exact hm1
            have HR : Hid (rulT rs (k + 1) = true) := Lib.hid (by rw [HSK.out, HT.out, HAT.out, hin, decide_eq_true hm, decide_eq_true (show y < x by omega)]; rfl)
            clear hxb hm hge
            go_wp2
            go_quiet ((go_at_call 73; exact Calls.quiet_of_same (l00InY _ _ _ _ _ hin)))
            go_wp2
            go_roundw
            case rel => exact ⟨k + 1, by omega, by go_num, HR, Lib.hid (drw_add HD.out _)⟩
            case measure => simp [intOf]; omega
          · have hm1 : (x % y != 0) = true := by simp [hm]
            have hm2 : (x.tmod y != 0) = true := by rw [HTM.out]; exact hm1
            have HFF := Lib.hid (HFK.out (by rw [HAT.out, hin, decide_eq_false hm]; simp))
            clear hxb hm hge
            go_wp2
            go_quiet ((go_at_call 73; exact Calls.quiet_of_same (l00InY _ _ _ _ _ hin)))
            have HKQ := Lib.hid (show Keep wa (wr.drewN nq) from below_drewN HBE.out _)
            obtain ⟨r0, r1, r2, q0, q1, q2⟩ := R0.out.keep HKQ.out (by rw [HSZ.out]; omega)
            have HP := Lib.hid ((R0.out.keep HKQ.out (by rw [HSZ.out]; omega)).put (.int .i64 0) (.int .i64 0) (.slice none 0 0))
            generalize wr.drewN nq = wq at *
            go_wp2
            refine bodyPost_ret (v := .tuple #[calV 0 0 none 0 0, .bool false]) (by simp [results, Try.results32, go_sem, HP.out.c0, HP.out.c1, HP.out.c2]) rfl ?_
            exact HFF.out _ HKQ.out
    · rename World => wq
      have HE := Lib.hid (show k = rs.length by omega)
      rw [HE.out] at HT
      have hb := HTR.out HT.out
      obtain ⟨z1, z2, z3⟩ := HYS.out hb
      have HYV : Hid (VG = rs.getD (rs.length - 1) 0 ∧ VH = gh ∧ VL = pickL (rlP rs) (rs.getD (rs.length - 1) 0).toNat ∧ VB = true) := Lib.hid ⟨z1, z2, z3, hb⟩
      clear z1 z2 z3 hb
      have hgl := HTI.out rs.length (rs.length - 1) HT.out (by omega)
      have HRI := Lib.hid (fun i (hi : i < rs.length) => (HTI.out rs.length i HT.out hi).1)
      rcases (HZA.out wq hbel).at_ with h | ⟨b, off, rfl, hb, hc⟩
      · subst h; simp at hl
      have hcg := hc (rs.length - 1) (by omega)
      have e1 : IntKind.i64.wrap ((rs.length : Int) - 1) = ((rs.length - 1 : Nat) : Int) := by rw [IntWalk.i64_in _ (by omega)]; omega
      have R1 := Lib.hid (R0.out.keep hbel (by rw [HSZ.out]; omega))
      have HSW := Lib.hid hbel.size
      clear HFL HFA HTR HA0 HAP HTS HTI HT0 HT
      obtain ⟨n, hn⟩ : ∃ n : Nat, rs.getD (rs.length - 1) 0 = n := ⟨(rs.getD (rs.length - 1) 0).toNat, by omega⟩
      rw [hn] at hcg hgl HYV
      rw [Int.toNat_natCast] at HYV
      clear hn hc
      go_wp2
      have hwr : w.heap.size < wq.heap.size := by have := HSW.out; have := HSZ.out; omega
      have G0 := Lib.hid (growC_lit wq wq.heap.size (n : Int) gh rfl)
      go_loopg [9] n (fun kk i wr => ∃ (j : Nat) (rd : Option Addr) (rc : Nat), j ≤ n ∧ kk = n - j ∧ i = .int .i64 j ∧ Hid (GrwC wq wr (wq.heap.size + 1) n gh rd rc (pickL (rlP rs) j)))
      case atStart => exact ⟨0, _, _, by omega, rfl, rfl, by rw [HP0.out]; exact G0⟩
      case round =>
        obtain ⟨j, rd, rc, hj, rfl, rfl, HG⟩ := hrel
        have g0 := HG.out.c0
        by_cases hjl : j < n
        · have hle : (j : Int) < (n : Int) := by omega
          have HPJ := Lib.hid (HPS.out j)
          have hpl := HPL.out j
          have HRJ := Lib.hid (HRP.out j)
          have HCJ := Lib.hid (fun k h => HCS.out (j : Int) k h)
          have HCBJ := Lib.hid (fun k => HCB.out (j : Int) k)
          have HCZ := Lib.hid (HC0.out (j : Int))
          have HII := Lib.hid ((HZA.out wq HBE.out).keep HG.out.k (Nat.le_refl _))
          obtain ⟨wo, hwo⟩ : ∃ x, x = wr := ⟨_, rfl⟩
          go_wp2
          go_loop [10, 11] (fun c i => ∃ t : Nat, t ≤ rs.length ∧ i = .int .i64 t ∧ c = .int .i64 (cntR rs (j : Int) t : Nat)) (fun _ i => rs.length - (intOf i).toNat)
          case atStart => exact ⟨0, Nat.zero_le _, rfl, by rw [HCZ.out]; rfl⟩
          case round =>
            obtain ⟨t, ht, rfl, rfl⟩ := hrel
            have hcb := HCBJ.out t
            by_cases htl : t < rs.length
            · rcases HII.out.at_ with h | ⟨b2, off2, e2, hb2, hc2⟩
              · subst h; simp at htl
              cases e2
              have hcx := hc2 t htl
              have hx1 := HRI.out t htl
              have HSK := Lib.hid (HCJ.out t htl)
              clear hc2
              generalize rs.getD t 0 = x at *
              generalize cntR rs (j : Int) t = c at *
              have hx0 : x ≠ 0 := by omega
              have HTM : Hid ((j : Int).tmod x = (j : Int) % x) := Lib.hid (Int.tmod_eq_emod_of_nonneg (by omega))
              by_cases hm : (j : Int) % x = 0
              · have hm1 : ((j : Int) % x == 0) = true := by simp [hm]
                have hm2 : ((j : Int).tmod x == 0) = true := by rw [HTM.out]; exact hm1
                rw [if_pos hm] at HSK
                clear hm
                go_wp2
                go_round
                case rel => exact ⟨t + 1, by omega, by go_num, by rw [HSK.out]; go_num⟩
                case measure => simp [intOf]; omega
              · have hm1 : ((j : Int) % x == 0) = false := by simp [hm]
                have hm2 : ((j : Int).tmod x == 0) = false := by rw [HTM.out]; exact hm1
                rw [if_neg hm] at HSK
                clear hm
                go_wp2
                go_round
                case rel => exact ⟨t + 1, by omega, by go_num, by rw [HSK.out]; go_num⟩
                case measure => simp [intOf]; omega
            · have HTE := Lib.hid (show t = rs.length by omega)
              rw [← HTE.out] at HRJ
              generalize cntR rs (j : Int) t = c at *
              by_cases hm : c % 2 = 1
              · have hm1 : ((c : Int) % 2 == 1) = true := by simp; omega
                rw [decide_eq_true hm] at HRJ
                have HPJ2 : Hid (pickL (rlP rs) (j + 1) = pickL (rlP rs) j ++ [(j : Int)]) := Lib.hid (by rw [HPJ.out, HRJ.out]; rfl)
                clear hm HPJ
                have b2 := HG.out.c2
                have hws := HG.out.k.size
                generalize pickL (rlP rs) j = L at *
                obtain ⟨m, hm⟩ : ∃ m, m = L.length := ⟨_, rfl⟩
                rw [← hm] at b2
                have HM := Lib.hid hm
                clear hm
                go_wp2_with (refine list_app2 (by rfl) _ _ (by rfl) wq.heap.size rd rc m L (j : Int) (by rfl) (HG.out.o.keep (by go_grown)) HM.out wr.heap.size (by rfl) (by simp) ⟨by omega, by omega⟩ (by have := HM.out; omega) (by simp; omega) ?_; intro g3 cap3 w3 hown3 hgr3 hat3 hlt3; obtain ⟨⟨h1c, h1f⟩, hg3⟩ := (HG.out.keep (W' := wr.alloc (.cells #[.int .i64 (j : Nat)] 2)) (by go_grown)).app hown3 (by rw [← HM.out]; exact hgr3) (by simpa using hat3); rw [← HM.out] at h1c hg3; have HG3 := Lib.hid hg3; clear hown3 hgr3 hat3 hg3)
                go_roundg (n - (j + 1))
                case measure => omega
                case rel => exact ⟨j + 1, _, _, by omega, rfl, by go_num, by rw [HPJ2.out]; exact HG3⟩
              · have hm1 : ((c : Int) % 2 == 1) = false := by simp; omega
                rw [decide_eq_false hm] at HRJ
                have HPJ2 : Hid (pickL (rlP rs) (j + 1) = pickL (rlP rs) j) := Lib.hid (by rw [HPJ.out, HRJ.out]; rfl)
                clear hm HPJ
                go_wp2
                go_roundg (n - (j + 1))
                case measure => omega
                case rel => exact ⟨j + 1, rd, rc, by omega, rfl, by go_num, Lib.hid (by rw [HPJ2.out]; exact HG.out)⟩
        · have HJE := Lib.hid (show j = n by omega)
          have hle : ¬ (j : Int) < (n : Int) := by omega
          have b0 := HG.out.c0; have b1 := HG.out.c1; have b2 := HG.out.c2
          have R2 := R1.out.keep HG.out.k hwr
          have HP := Lib.hid (R2.put (.int .i64 (n : Nat)) (.int .i64 gh) (.slice rd (pickL (rlP rs) j).length rc))
          have HO := Lib.hid ((HG.out.o.set3 (b := w.heap.size) hwr (.int .i64 (n : Nat)) (.int .i64 gh) (.slice rd (pickL (rlP rs) j).length rc)).mono (B' := w.heap.size) (by omega))
          have HK := Lib.hid (keep_put3 (b := w.heap.size) (Keep.next (Keep.next HKA.out HBE.out) HG.out.k) (Nat.le_refl _) (.int .i64 (n : Nat)) (.int .i64 gh) (.slice rd (pickL (rlP rs) j).length rc))
          obtain ⟨r0, r1, r2, q0, q1, q2⟩ := R2
          go_wp2
          refine bodyPost_ret (v := .tuple #[calV (n : Nat) gh rd (pickL (rlP rs) j).length rc, .bool true]) (by simp [results, Try.results32, go_sem, HP.out.c0, HP.out.c1, HP.out.c2]) rfl ?_
          obtain ⟨y1, y2, y3, y4⟩ := HYV.out
          rw [y1, y2, y3, y4, ← HJE.out]
          exact ⟨rd, rc, rfl, by have h := HO.out; rw [HJE.out] at h ⊢; exact h, by have h := HK.out; rw [HJE.out] at h ⊢; exact h⟩
end Go.Proofs.Ytomfhkpmdalknaa
