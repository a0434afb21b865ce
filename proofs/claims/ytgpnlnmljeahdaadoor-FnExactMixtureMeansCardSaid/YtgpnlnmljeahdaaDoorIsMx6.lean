/- Mixtures of values: the model's look. -/
import Derived.Test.YtgpnlnmljeahdaaDoorSumM6
import Derived.Test.YtgpnlnmljeahdaaDoorErrs
import Derived.Test.YtgpnlnmljeahdaaDoorSums
namespace Go.Proofs.YtgpnlnmljeahdaaDoor
open Go.ChangeShapes Go.WideShapes Go.ChangeAt Go.RowKit Go.Deep
set_option linter.unusedVariables false
def meanB (us : List Int) (zss : List (List Int)) (g : Int) (zs : List Int) : Bool := (List.range (zss.getD 0 []).length).all fun t => decide ((wsumL us zss).getD t 0 * g = zs.getD t 0 * us.sum)
def rowsRB (zss : List (List Int)) (g : Int) (zs : List Int) : Bool := (List.range zss.length).all fun k => rndB g zs (zss.getD k [])
def mixOfB (us : List Int) (zss : List (List Int)) (g : Int) (zs : List Int) : Bool := mixB us zss && (okV g zs && (rowsRB zss g zs && meanB us zss g zs))
theorem wsumL_len (us : List Int) (zss : List (List Int)) : (wsumL us zss).length = (zss.getD 0 []).length := by unfold wsumL; rw [wsumT_len]
theorem wsumL_get (us : List Int) (zss : List (List Int)) (t : Nat) (h : t < (zss.getD 0 []).length) : (wsumL us zss).getD t 0 = colW us zss zss.length t := by
  unfold wsumL wsumT
  generalize (zss.getD 0 []).length = m at *
  simp [List.getD_eq_getElem?_getD, h]
theorem wsumL_bd {us : List Int} {zss : List (List Int)} (h : mixB us zss = true) (t : Nat) (ht : t < (zss.getD 0 []).length) : -1000000000000 ≤ (wsumL us zss).getD t 0 ∧ (wsumL us zss).getD t 0 ≤ 1000000000000 := by
  have h1 := colW_bd h t zss.length (Nat.le_refl _)
  have hs := mix_size h
  rw [← hs.2.1, List.take_length] at h1
  rw [wsumL_get us zss t ht, ← hs.2.1]
  omega
theorem mul_in {a g M : Int} (h1 : -M ≤ a) (h2 : a ≤ M) (h3 : 0 ≤ g) (h4 : g ≤ 1000000) (hM : 0 ≤ M) : -(M * 1000000) ≤ a * g ∧ a * g ≤ M * 1000000 := by
  have e1 : a * g ≤ M * g := Int.mul_le_mul_of_nonneg_right h2 h3
  have e2 : -M * g ≤ a * g := Int.mul_le_mul_of_nonneg_right h1 h3
  have e3 : M * g ≤ M * 1000000 := Int.mul_le_mul_of_nonneg_left h4 hM
  rw [Int.neg_mul] at e2
  omega
set_option maxHeartbeats 3200000 in
set_option maxRecDepth 100000 in
theorem specIsMixtureOf_any (ad : Option Addr) (cap : Nat) (us : List Int) (bd : Option Addr) (bcap : Nat) (zss : List (List Int)) (g : Int) (vd : Option Addr) (vc : Nat) (zs : List Int) (w : World) (hz : Ints w ad us) (hzz : Intss w bd zss) (hv : Ints w vd zs) :
    Calls Tryd.prog 41 #[mixV ad us.length cap bd zss.length bcap, valV g vd zs.length vc] w fun e w' => e = .returned (.bool (mixOfB us zss g zs)) ∧ Keep w w' := by
  have hbl : Keep w ((w.alloc (.cells #[.slice ad us.length cap, .slice bd zss.length bcap] 31)).alloc (.cells #[.int .i64 g, .slice vd zs.length vc] 26)) := by go_grown
  have B0 : BoxM ((w.alloc (.cells #[.slice ad us.length cap, .slice bd zss.length bcap] 31)).alloc (.cells #[.int .i64 g, .slice vd zs.length vc] 26)) w.heap.size ad us.length cap bd zss.length bcap := ⟨by simp, by simp, by simp; omega⟩
  have V0 : Box ((w.alloc (.cells #[.slice ad us.length cap, .slice bd zss.length bcap] 31)).alloc (.cells #[.int .i64 g, .slice vd zs.length vc] 26)) (w.heap.size + 1) g vd zs.length vc := ⟨by simp, by simp, by simp⟩
  have HI := Lib.hid (l06Is_any w.heap.size ad cap us bd bcap zss _ (hz.keep hbl (Nat.le_refl _)) (hzz.keep hbl (Nat.le_refl _)) B0.c0 B0.c1)
  have HVI := Lib.hid (fun W (k : Keep ((w.alloc (.cells #[.slice ad us.length cap, .slice bd zss.length bcap] 31)).alloc (.cells #[.int .i64 g, .slice vd zs.length vc] 26)) W) => l01Is_any (w.heap.size + 1) g vd vc zs W (hv.keep (hbl.next k) (Nat.le_refl _)) (V0.keep k).c0 (V0.keep k).c1)
  have HBX := Lib.hid B0; have HVX := Lib.hid V0; have HBL := Lib.hid hbl
  have hlu := hz.small
  have hlz := hzz.small
  have hlv := hv.small
  clear B0 V0 hbl
  cases h1 : mixB us zss
  · rw [show mixOfB us zss g zs = false from by unfold mixOfB; rw [h1]; rfl]
    rw [h1] at HI
    go_enter Tryd.func41, Tryd.ntmps41
    go_wp2_with fail
    refine HI.out.mono ?_
    rintro e w1 ⟨rfl, k1⟩
    have g1 := Lib.hid (HBL.out.next k1)
    go_wp2
    go_ret
    exact ⟨rfl, g1.out⟩
  rw [h1] at HI
  cases h2 : okV g zs
  · rw [show mixOfB us zss g zs = false from by unfold mixOfB; rw [h2]; simp]
    rw [h2] at HVI
    go_enter Tryd.func41, Tryd.ntmps41
    go_wp2_with fail
    refine HI.out.mono ?_
    rintro e w1 ⟨rfl, k1⟩
    have g1 := Lib.hid (HBL.out.next k1)
    go_wp2_with fail
    refine (HVI.out _ k1).mono ?_
    rintro e w2 ⟨rfl, rfl⟩
    go_wp2
    go_ret
    exact ⟨rfl, g1.out⟩
  rw [h2] at HVI
  obtain ⟨V, hV⟩ : ∃ V, V = (rowsRB zss g zs && meanB us zss g zs) := ⟨_, rfl⟩
  rw [show mixOfB us zss g zs = V from by rw [hV]; unfold mixOfB; rw [h1, h2]; rfl]
  have HV := Lib.hid hV; clear hV
  have hs := mix_size h1
  have hg := okV_den h2
  have h40 := okV_len h2
  have HZN := Lib.hid (okV_num h2)
  have HR := Lib.hid (fun k hk => mix_row h1 (k := k) hk)
  have HWB := Lib.hid (fun t ht => wsumL_bd h1 t ht)
  have HWL := Lib.hid (wsumL_len us zss)
  have h64 : zss.length ≤ 64 := hs.1.2
  have h11 : 1 ≤ zss.length := hs.1.1
  have HL := Lib.hid hs.2.1
  have hsum : 0 ≤ us.sum ∧ us.sum ≤ 1000000 := by
    have h3 := take_sum_bd us zss.length (fun j hj => (HR.out j hj).1) zss.length (Nat.le_refl _) (by rw [hs.2.1]; exact Nat.le_refl _)
    rw [← hs.2.1, List.take_length] at h3
    exact ⟨h3.1, hs.2.2.2⟩
  have HSM := Lib.hid (fun W (k : Keep w W) => l06Sums_any w.heap.size ad cap us bd bcap zss W (hz.keep k (Nat.le_refl _)) (hzz.keep k (Nat.le_refl _)) h1)
  have HTO := Lib.hid (fun W (k : Keep w W) => l01Sum_any ad cap us W (hz.keep k (Nat.le_refl _)) (fun z hz => by
    obtain ⟨j, hj, rfl⟩ := List.getElem_of_mem hz
    have := (HR.out j (by rw [← HL.out]; exact hj)).1
    rw [getD_get us j hj] at this
    omega) (by rw [HL.out]; omega))
  have HRN := Lib.hid (fun W p d zk (k : Keep w W) (i : Ints w p zk) (c0 : W.cell? ⟨w.heap.size + 1, 0, none⟩ = some (.int .i64 g)) (c1 : W.cell? ⟨w.heap.size + 1, 1, none⟩ = some (.slice vd zs.length vc)) => l01Rounds_any (w.heap.size + 1) g vd vc zs p d zk W (hv.keep k (Nat.le_refl _)) (i.keep k (Nat.le_refl _)) h2 c0 c1)
  clear hs h1 h2
  have HZZ := Lib.hid hzz
  rcases hzz.at_ with h | ⟨bl, off, rfl, hbl, hc⟩
  · subst h; simp at h11
  have HC := Lib.hid hc; clear hc
  have HROW : Hid (rowsRB zss g zs = (List.range zss.length).all fun k => rndB g zs (zss.getD k [])) := Lib.hid rfl
  go_enter Tryd.func41, Tryd.ntmps41
  go_wp2_with fail
  refine HI.out.mono ?_
  rintro e w1 ⟨rfl, k1⟩
  have HB1 := Lib.hid (HBX.out.keep k1); have HV1 := Lib.hid (HVX.out.keep k1); have g1 := Lib.hid (HBL.out.next k1)
  go_wp2_with fail
  refine (HVI.out _ k1).mono ?_
  rintro e w2 ⟨rfl, rfl⟩
  clear k1
  go_wp2
  go_loopg [5] zss.length (fun kk i wr => ∃ k : Nat, k ≤ zss.length ∧ kk = zss.length - k ∧ i = .int .i64 k ∧ Hid ((List.range k).all (fun k => rndB g zs (zss.getD k [])) = true) ∧ Hid (Keep w1 wr))
  case atStart => exact ⟨0, Nat.zero_le _, rfl, rfl, Lib.hid (by simp), Lib.hid (Below.refl _ _)⟩
  case round =>
    obtain ⟨k, hk, rfl, rfl, HA, HK⟩ := hrel
    obtain ⟨wo, rfl⟩ : ∃ x, x = wr := ⟨wr, rfl⟩
    have KW := Lib.hid (g1.out.next HK.out)
    have HBo := Lib.hid (HB1.out.keep HK.out); have HVo := Lib.hid (HV1.out.keep HK.out)
    obtain ⟨e0, e1, _⟩ := HBo.out
    by_cases hlt : k < zss.length
    · obtain ⟨p, d, hcx, hd, hin⟩ := HC.out k hlt
      have e2 := (KW.out.cell (p := ⟨bl, off + k, none⟩) (by exact hbl)).trans hcx
      have HRk := Lib.hid (HRN.out wo p d (zss.getD k []) KW.out hin HVo.out.c0 HVo.out.c1)
      have HS := Lib.hid (range_all_succ (fun k => rndB g zs (zss.getD k [])) k)
      have HF := Lib.hid (fun h => range_all_no (p := fun k => rndB g zs (zss.getD k [])) hlt h)
      have hsm := hin.small
      clear hcx hin
      generalize zss.getD k [] = zk at *
      cases hr : rndB g zs zk
      · rw [hr] at HRk
        have HNO : Hid (V = false) := Lib.hid (by rw [HV.out, HROW.out, HF.out hr]; rfl)
        go_wp2_with (go_at_call 103; refine HRk.out.mono ?_; rintro e w3 ⟨rfl, k3⟩)
        go_ret
        exact ⟨ret_bool HNO.out.symm, KW.out.next k3⟩
      · rw [hr] at HRk
        go_wp2_with (go_at_call 103; refine HRk.out.mono ?_; rintro e w3 ⟨rfl, k3⟩)
        go_roundg (zss.length - (k + 1))
        case measure => omega
        case rel => exact ⟨k + 1, by omega, by omega, by go_num, Lib.hid (by rw [HS.out, HA.out, hr]; rfl), Lib.hid (HK.out.next k3)⟩
    · have HRA : Hid ((List.range zss.length).all (fun k => rndB g zs (zss.getD k [])) = true) := Lib.hid (by have h := HA.out; rw [show k = zss.length by omega] at h; exact h)
      have HVM : Hid (V = meanB us zss g zs) := Lib.hid (by rw [HV.out, HROW.out, HRA.out, Bool.true_and])
      have hm0 : zs.length = (zss.getD 0 []).length := by
        have h := range_all_get HRA.out (show 0 < zss.length by omega)
        unfold rndB at h
        simp only [Bool.and_eq_true, decide_eq_true_eq] at h
        exact h.1.2.symm
      have HME : Hid (meanB us zss g zs = (List.range zs.length).all fun t => decide ((wsumL us zss).getD t 0 * g = zs.getD t 0 * us.sum)) := Lib.hid (by unfold meanB; rw [← hm0])
      have HSMo := Lib.hid (HSM.out wo KW.out e0 e1)
      have hwl : (wsumL us zss).length = zs.length := by rw [HWL.out, hm0]
      have HWB2 : Hid (∀ t, t < zs.length → -1000000000000 ≤ (wsumL us zss).getD t 0 ∧ (wsumL us zss).getD t 0 ≤ 1000000000000) := Lib.hid (fun t ht => HWB.out t (by rw [← hm0]; exact ht))
      have HLW := Lib.hid hwl
      clear hm0 hwl HA HWB HWL HSM e0
      generalize wsumL us zss = S at *
      go_wp2_with fail
      refine HSMo.out.mono ?_
      rintro e w3 ⟨sd, sc, rfl, o3, k3⟩
      have I3 := Lib.hid o3.ints
      have K3 := Lib.hid (KW.out.next k3)
      have HB3 := Lib.hid (HBo.out.keep k3); have HV3 := Lib.hid (HVo.out.keep k3)
      clear o3 k3
      go_wp2
      go_loopg [7] S.length (fun kk i wr => ∃ t : Nat, t ≤ S.length ∧ kk = S.length - t ∧ i = .int .i64 t ∧ Hid ((List.range t).all (fun t => decide (S.getD t 0 * g = zs.getD t 0 * us.sum)) = true) ∧ Hid (Keep w3 wr))
      case atStart => exact ⟨0, Nat.zero_le _, rfl, rfl, Lib.hid (by simp), Lib.hid (Below.refl _ _)⟩
      case round =>
        obtain ⟨t, ht, rfl, rfl, HA, HK4⟩ := hrel
        obtain ⟨wq, rfl⟩ : ∃ x, x = wr := ⟨wr, rfl⟩
        have K4 := Lib.hid (K3.out.next HK4.out)
        have e0 := (HB3.out.keep HK4.out).c0
        have v0 := (HV3.out.keep HK4.out).c0; have v1 := (HV3.out.keep HK4.out).c1
        have hI := I3.out.keep HK4.out (Nat.le_refl _)
        have hIs := hI.small
        by_cases htl : t < S.length
        · have htz : t < zs.length := by rw [← HLW.out]; exact htl
          rcases hI.at_ with h | ⟨b4, off4, rfl, hb4, hc4⟩
          · rw [h] at htl; simp at htl
          rcases (hv.keep K4.out (Nat.le_refl _)).at_ with h | ⟨b5, off5, rfl, hb5, hc5⟩
          · rw [h] at htz; simp at htz
          have q1 := hc4 t htl
          have q2 := hc5 t htz
          have hsb := HWB2.out t htz
          have hzb := HZN.out _ (getD_mem zs t htz)
          have HS := Lib.hid (range_all_succ (fun t => decide (S.getD t 0 * g = zs.getD t 0 * us.sum)) t)
          have HF := Lib.hid (fun h => range_all_no (p := fun t => decide (S.getD t 0 * g = zs.getD t 0 * us.sum)) (n := zs.length) htz h)
          have HQ := Lib.hid (fun m => HTO.out (wq.drewN m) (below_drewN K4.out m))
          clear hc4 hc5 hI
          generalize S.getD t 0 = x at *
          generalize zs.getD t 0 = y at *
          generalize us.sum = tot6 at *
          have hp1 := mul_in (M := 1000000000000) hsb.1 hsb.2 (show 0 ≤ g by omega) (by omega) (by omega)
          have hp2 := mul_in (M := 1000000) hzb.1 hzb.2 hsum.1 hsum.2 (by omega)
          have W1 : IntKind.i64.wrap (x * g) = x * g := IntWalk.i64_in _ (by omega)
          have W2 : IntKind.i64.wrap (y * tot6) = y * tot6 := IntWalk.i64_in _ (by omega)
          clear hp1 hp2
          by_cases hq : x * g = y * tot6
          · have b1 : (x * g != y * tot6) = false := by simp [hq]
            have HY : Hid (decide (x * g = y * tot6) = true) := Lib.hid (decide_eq_true hq)
            clear hq
            go_wp2
            go_quiet ((go_at_call 84; exact Calls.quiet_of_same ((HQ.out _).mono fun _ _ h => ⟨h.1, h.2.symm⟩)))
            go_wp2
            go_roundg (S.length - (t + 1))
            case measure => omega
            case rel => exact ⟨t + 1, by omega, by omega, by go_num, Lib.hid (by rw [HS.out, HA.out, HY.out]; rfl), Lib.hid (below_drewN HK4.out _)⟩
          · have b1 : (x * g != y * tot6) = true := by simp [hq]
            have HNO : Hid (V = false) := Lib.hid (by rw [HVM.out, HME.out, HF.out (decide_eq_false hq)])
            clear hq
            go_wp2
            go_quiet ((go_at_call 84; exact Calls.quiet_of_same ((HQ.out _).mono fun _ _ h => ⟨h.1, h.2.symm⟩)))
            go_wp2
            go_ret
            exact ⟨ret_bool HNO.out.symm, below_drewN K4.out _⟩
        · have HY : Hid (V = true) := Lib.hid (by
            have h := HA.out
            rw [show t = S.length by omega, HLW.out] at h
            rw [HVM.out, HME.out]; exact h)
          go_wp2
          go_ret
          exact ⟨ret_bool HY.out.symm, K4.out⟩
end Go.Proofs.YtgpnlnmljeahdaaDoor
