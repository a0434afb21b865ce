/- Mixtures of values: the program's look, whole. -/
import Derived.Test.YtgpnlnmljeahdaaDoorIsMxI
namespace Go.Proofs.YtgpnlnmljeahdaaDoor
open Go.ChangeShapes Go.WideShapes Go.ChangeAt Go.RowKit Go.Deep
set_option linter.unusedVariables false
set_option maxHeartbeats 3200000 in
set_option maxRecDepth 100000 in
theorem IsMixtureOf_any (ad : Option Addr) (cap : Nat) (us : List Int) (bd : Option Addr) (bcap : Nat) (zss : List (List Int)) (g : Int) (vd : Option Addr) (vc : Nat) (zs : List Int) (w : World) (hz : Ints w ad us) (hzz : Intss w bd zss) (hv : Ints w vd zs) (hp : Pows w) :
    Calls Tryd.prog 22 #[mixV ad us.length cap bd zss.length bcap, valV g vd zs.length vc] w fun e w' => e = .returned (.bool (mixOfB us zss g zs)) ∧ Keep w w' := by
  have hbl : Keep w ((w.alloc (.cells #[.slice ad us.length cap, .slice bd zss.length bcap] 31)).alloc (.cells #[.int .i64 g, .slice vd zs.length vc] 26)) := by go_grown
  have B0 : BoxM ((w.alloc (.cells #[.slice ad us.length cap, .slice bd zss.length bcap] 31)).alloc (.cells #[.int .i64 g, .slice vd zs.length vc] 26)) w.heap.size ad us.length cap bd zss.length bcap := ⟨by simp, by simp, by simp; omega⟩
  have V0 : Box ((w.alloc (.cells #[.slice ad us.length cap, .slice bd zss.length bcap] 31)).alloc (.cells #[.int .i64 g, .slice vd zs.length vc] 26)) (w.heap.size + 1) g vd zs.length vc := ⟨by simp, by simp, by simp⟩
  have HI := Lib.hid (ValidMixture_any ad cap us bd bcap zss _ (hz.keep hbl (Nat.le_refl _)) (hzz.keep hbl (Nat.le_refl _)) (hp.keep hbl))
  have HBX := Lib.hid B0; have HVX := Lib.hid V0; have HBL := Lib.hid hbl
  have hlu := hz.small
  have hlz := hzz.small
  have hlv := hv.small
  clear B0 V0 hbl hp
  cases h1 : mixB us zss
  · rw [show mixOfB us zss g zs = false from by unfold mixOfB; rw [h1]; rfl]
    rw [h1] at HI
    go_enter Tryd.func22, Tryd.ntmps22
    go_wp2_with fail
    refine HI.out.mono ?_
    rintro e w1 ⟨rfl, k1⟩
    have g1 := Lib.hid (HBL.out.next k1)
    go_wp2
    go_ret
    exact ⟨rfl, g1.out⟩
  rw [h1] at HI
  have HO := Lib.hid (fun W (k : Keep w W) (X : Box W (w.heap.size + 1) g vd zs.length vc) => hasOther_any g vd vc zs (w.heap.size + 1) bd bcap zss W (hzz.keep k (Nat.le_refl _)) (hv.keep k (Nat.le_refl _)) X)
  cases h2 : rowsRB zss g zs
  · rw [show mixOfB us zss g zs = false from by unfold mixOfB; rw [h2]; simp]
    rw [h2] at HO
    go_enter Tryd.func22, Tryd.ntmps22
    go_wp2_with fail
    refine HI.out.mono ?_
    rintro e w1 ⟨rfl, k1⟩
    have g1 := Lib.hid (HBL.out.next k1)
    have HB1 := Lib.hid (HBX.out.keep k1); have HV1 := Lib.hid (HVX.out.keep k1)
    clear k1
    obtain ⟨e0, e1, _⟩ := HB1.out
    go_wp2_with fail
    refine (HO.out w1 g1.out HV1.out).mono ?_
    rintro e w2 ⟨rfl, k2⟩
    have g2 := Lib.hid (g1.out.next k2)
    go_wp2
    go_ret
    exact ⟨rfl, g2.out⟩
  rw [h2] at HO
  have hs := mix_size h1
  have h00 := range_all_get h2 (show 0 < zss.length by omega)
  have hok : okV g zs = true := by unfold rndB at h00; simp only [Bool.and_eq_true] at h00; exact h00.1.1
  have hm0 : zs.length = (zss.getD 0 []).length := by
    unfold rndB at h00
    simp only [Bool.and_eq_true, decide_eq_true_eq] at h00
    exact h00.1.2.symm
  have hg := okV_den hok
  have HZN := Lib.hid (okV_num hok)
  have hsum := mix_sum h1
  have hwl : (wsumL us zss).length = zs.length := by rw [wsumL_len, hm0]
  have HBD : Hid (∀ t, t < zs.length → (-9000000000000000000 ≤ (wsumL us zss).getD t 0 * g ∧ (wsumL us zss).getD t 0 * g ≤ 9000000000000000000) ∧ (-9000000000000000000 ≤ zs.getD t 0 * us.sum ∧ zs.getD t 0 * us.sum ≤ 9000000000000000000)) := Lib.hid (fun t ht => by
    have hsb := wsumL_bd h1 t (by rw [← hm0]; exact ht)
    have hzb := HZN.out _ (getD_mem zs t ht)
    have hp1 := mul_in (M := 1000000000000) hsb.1 hsb.2 (show 0 ≤ g by omega) (by omega) (by omega)
    have hp2 := mul_in (M := 1000000) hzb.1 hzb.2 (show 0 ≤ us.sum by omega) hsum.2 (by omega)
    omega)
  have HME : Hid (mixOfB us zss g zs = (List.range zs.length).all fun t => decide ((wsumL us zss).getD t 0 * g = zs.getD t 0 * us.sum)) := Lib.hid (by
    unfold mixOfB meanB
    rw [h1, hok, h2, ← hm0]; rfl)
  rw [HME.out]
  have HMO := Lib.hid (fun W (k : Keep w W) => meansOf_any ad cap us bd bcap zss W (hz.keep k (Nat.le_refl _)) (hzz.keep k (Nat.le_refl _)) h1)
  have HWL := Lib.hid hwl
  have HZV := Lib.hid hv
  clear h1 h2 hs h00 hok hm0 hsum hwl HME hv
  generalize wsumL us zss = S at *
  generalize us.sum = tt at *
  go_enter Tryd.func22, Tryd.ntmps22
  go_wp2_with fail
  refine HI.out.mono ?_
  rintro e w1 ⟨rfl, k1⟩
  have g1 := Lib.hid (HBL.out.next k1)
  have HB1 := Lib.hid (HBX.out.keep k1); have HV1 := Lib.hid (HVX.out.keep k1)
  clear k1
  obtain ⟨e0, e1, _⟩ := HB1.out
  go_wp2_with fail
  refine (HO.out w1 g1.out HV1.out).mono ?_
  rintro e w2 ⟨rfl, k2⟩
  have g2 := Lib.hid (g1.out.next k2)
  have HB2 := Lib.hid (HB1.out.keep k2); have HV2 := Lib.hid (HV1.out.keep k2)
  clear k2 e0 e1
  obtain ⟨e0, e1, _⟩ := HB2.out
  go_wp2_with fail
  refine (HMO.out w2 g2.out).mono ?_
  rintro e w3 ⟨rd, rc, rfl, o3, k3⟩
  have g3 := Lib.hid (g2.out.next k3)
  have HB3 := Lib.hid (HB2.out.keep k3); have HV3 := Lib.hid (HV2.out.keep k3)
  have HI3 := Lib.hid o3.ints
  clear k3 o3 e0 e1
  obtain ⟨v0, v1, vl⟩ := HV3.out
  go_wp2_with fail
  refine (sameMeans_any g tt (w.heap.size + 1) w3.heap.size rd rc S vd vc zs _ (HI3.out.keep (B := _) (by go_grown) (Nat.le_refl _)) ((HZV.out.keep g3.out (Nat.le_refl _)).keep (B := _) (by go_grown) (Nat.le_refl _)) HWL.out (HV3.out.keep (by go_grown)).c0 (by simp) HBD.out).mono ?_
  rintro e w4 ⟨rfl, rfl⟩
  go_wp2
  go_ret
  exact ⟨rfl, g3.out.next (by go_grown)⟩
end Go.Proofs.YtgpnlnmljeahdaaDoor
