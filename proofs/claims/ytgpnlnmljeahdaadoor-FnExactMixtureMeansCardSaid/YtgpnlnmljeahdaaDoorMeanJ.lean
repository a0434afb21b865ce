/- The means of a mixture: the program's side, whole. -/
import Derived.Test.YtgpnlnmljeahdaaDoorMeanI
namespace Go.Proofs.YtgpnlnmljeahdaaDoor
open Go.ChangeShapes Go.WideShapes Go.ChangeAt Go.RowKit Go.Deep
set_option linter.unusedVariables false
set_option maxHeartbeats 1600000 in
set_option maxRecDepth 100000 in
theorem MixtureMeans_any (ad : Option Addr) (cap : Nat) (us : List Int) (bd : Option Addr) (bcap : Nat) (zss : List (List Int)) (w : World) (hz : Ints w ad us) (hzz : Intss w bd zss) (hp : Pows w) :
    Calls Tryd.prog 30 #[mixV ad us.length cap bd zss.length bcap] w fun e w' => ∃ rd rc, e = .returned (.tuple #[valV (meanDV us zss) rd (meanNV us zss).length rc, .bool (meanOk us zss)]) ∧ Own w' w.heap.size rd rc (meanNV us zss) ∧ Keep w w' := by
  have hbl : Keep w ((w.alloc (.cells #[.slice ad us.length cap, .slice bd zss.length bcap] 31)).alloc (.cells #[.int .i64 0, .slice none 0 0] 26)) := by go_grown
  have B0 : BoxM ((w.alloc (.cells #[.slice ad us.length cap, .slice bd zss.length bcap] 31)).alloc (.cells #[.int .i64 0, .slice none 0 0] 26)) w.heap.size ad us.length cap bd zss.length bcap := ⟨by simp, by simp, by simp; omega⟩
  have R0 : TwoC ((w.alloc (.cells #[.slice ad us.length cap, .slice bd zss.length bcap] 31)).alloc (.cells #[.int .i64 0, .slice none 0 0] 26)) (w.heap.size + 1) (.int .i64 0) (.slice none 0 0) := ⟨by simp, by simp, by simp, by simp⟩
  have HI := Lib.hid (ValidMixture_any ad cap us bd bcap zss _ (hz.keep hbl (Nat.le_refl _)) (hzz.keep hbl (Nat.le_refl _)) (hp.keep hbl))
  have HBX := Lib.hid B0; have HBL := Lib.hid hbl; have HRX := Lib.hid R0
  have hlu := hz.small
  have hlz := hzz.small
  have HFAIL : Hid (meanOk us zss = false → meanDV us zss = 0 ∧ meanNV us zss = []) := Lib.hid (fun h => ⟨by unfold meanDV; rw [h]; rfl, by unfold meanNV; rw [h]; rfl⟩)
  clear B0 R0 hbl hp
  cases h1 : mixB us zss
  · have hb : meanOk us zss = false := by unfold meanOk; rw [h1]; rfl
    rw [hb, (HFAIL.out hb).1, (HFAIL.out hb).2]
    rw [h1] at HI
    go_enter Tryd.func30, Tryd.ntmps30
    go_wp2_with fail
    refine HI.out.mono ?_
    rintro e w1 ⟨rfl, k1⟩
    have g1 := Lib.hid (HBL.out.next k1)
    have T1 := HRX.out.keep k1 HRX.out.lt
    have HQ := Lib.hid (T1.set (.int .i64 0) (.slice none 0 0))
    obtain ⟨r0, r1, f0, f1⟩ := T1
    go_wp2
    refine bodyPost_ret (v := .tuple #[valV 0 none 0 0, .bool false]) (by simp [results, Tryd.results30, go_sem, HQ.out.1, HQ.out.2]) rfl ?_
    exact ⟨none, 0, rfl, Own.nil _ _, (g1.out.setCell (by show w.heap.size ≤ w.heap.size + 1; omega) _).setCell (by show w.heap.size ≤ w.heap.size + 1; omega) _⟩
  rw [h1] at HI
  have hs := mix_size h1
  have hsum := mix_sum h1
  have HWB := Lib.hid (wsum_in h1)
  have hwl : (wsumL us zss).length ≤ 40 := by rw [wsumL_len]; exact hs.2.2.1
  have HMO := Lib.hid (fun W (k : Keep w W) => meansOf_any ad cap us bd bcap zss W (hz.keep k (Nat.le_refl _)) (hzz.keep k (Nat.le_refl _)) h1)
  have HLW := Lib.hid (fun W rd rc (i : Ints W rd (wsumL us zss)) => inLowestTerms_any us.sum rd rc (wsumL us zss) W i hsum HWB.out hwl)
  have HOK : Hid (meanOk us zss = okV (us.sum.tdiv (gcdT us.sum (wsumL us zss) (wsumL us zss).length)) ((wsumL us zss).map fun x => x.tdiv (gcdT us.sum (wsumL us zss) (wsumL us zss).length))) := Lib.hid (by unfold meanOk; rw [h1]; rfl)
  have HYES : Hid (meanOk us zss = true → meanDV us zss = us.sum.tdiv (gcdT us.sum (wsumL us zss) (wsumL us zss).length) ∧ meanNV us zss = ((wsumL us zss).map fun x => x.tdiv (gcdT us.sum (wsumL us zss) (wsumL us zss).length))) := Lib.hid (fun h => ⟨by unfold meanDV; rw [h]; rfl, by unfold meanNV; rw [h]; rfl⟩)
  clear h1 hs hwl HWB
  generalize us.sum.tdiv (gcdT us.sum (wsumL us zss) (wsumL us zss).length) = D at *
  generalize ((wsumL us zss).map fun x => x.tdiv (gcdT us.sum (wsumL us zss) (wsumL us zss).length)) = N at *
  generalize wsumL us zss = S at *
  generalize us.sum = tt at *
  generalize meanOk us zss = Bo at *
  generalize meanDV us zss = DV at *
  generalize meanNV us zss = NV at *
  go_enter Tryd.func30, Tryd.ntmps30
  go_wp2_with fail
  refine HI.out.mono ?_
  rintro e w1 ⟨rfl, k1⟩
  have HB1 := Lib.hid (HBX.out.keep k1); have g1 := Lib.hid (HBL.out.next k1); have HR1 := Lib.hid (HRX.out.keep k1 HRX.out.lt)
  clear k1
  obtain ⟨e0, e1, _⟩ := HB1.out
  go_wp2_with fail
  refine (HMO.out w1 g1.out).mono ?_
  rintro e w2 ⟨sd, sc, rfl, o2, k2⟩
  have HI2 := Lib.hid o2.ints
  have g2 := Lib.hid (g1.out.next k2); have HR2 := Lib.hid (HR1.out.keep k2 HR1.out.lt)
  clear o2 k2 e0 e1
  go_wp2_with fail
  refine (HLW.out w2 sd sc HI2.out).mono ?_
  rintro e w3 ⟨ra, ca, rfl, o3, k3⟩
  have HO3 := Lib.hid o3
  have g3 := Lib.hid (g2.out.next k3); have HR3 := Lib.hid (HR2.out.keep k3 HR2.out.lt)
  have HW2 := Lib.hid g2.out.size
  have hw2 : w.heap.size + 1 < w2.heap.size := HR2.out.lt
  have HWS := Lib.hid hw2
  clear o3 k3 hw2
  have X3 : Box (w3.alloc (.cells #[.int .i64 D, .slice ra N.length ca] 26)) w3.heap.size D ra N.length ca := ⟨by simp, by simp, by simp⟩
  have HX3 := Lib.hid X3
  have HK3 := Lib.hid (show Keep w3 (w3.alloc (.cells #[.int .i64 D, .slice ra N.length ca] 26)) by go_grown)
  have HVV := Lib.hid (ValidValues_any D ra ca N (w3.alloc (.cells #[.int .i64 D, .slice ra N.length ca] 26)) (HO3.out.ints.keep HK3.out (Nat.le_refl _)))
  clear X3
  go_wp2_with fail
  generalize w3.alloc (.cells #[.int .i64 D, .slice ra N.length ca] 26) = w4 at *
  refine HVV.out.mono ?_
  rintro e w5 ⟨rfl, k5⟩
  have HX5 := Lib.hid (HX3.out.keep k5)
  have HR5 := Lib.hid (HR3.out.keep (HK3.out.next k5) HR3.out.lt)
  have g5 := Lib.hid (g3.out.next (HK3.out.next k5))
  have HO5 := Lib.hid (HO3.out.keep (HK3.out.next k5))
  have HSET : Hid (∀ (W : World) (o : Nat) (v : Value), Own W w2.heap.size ra ca N → Own (W.setCell ⟨w.heap.size + 1, o, none⟩ v) w2.heap.size ra ca N) := Lib.hid (fun W o v h => by
    rcases own_block h.1 with ⟨rfl, e0, rfl⟩ | ⟨q, rfl, hq, _⟩
    · rw [List.eq_nil_of_length_eq_zero e0]; exact Own.nil _ _
    · exact h.set (by show w.heap.size + 1 ≠ q; have := HWS.out; omega) _)
  clear k5
  obtain ⟨x0, x1, _⟩ := HX5.out
  cases hok : okV D N
  · rw [hok] at HOK
    have HQ := Lib.hid (HR5.out.set (.int .i64 0) (.slice none 0 0))
    obtain ⟨r0, r1, f0, f1⟩ := HR5.out
    go_wp2
    refine bodyPost_ret (v := .tuple #[valV 0 none 0 0, .bool false]) (by simp [results, Tryd.results30, go_sem, HQ.out.1, HQ.out.2]) rfl ?_
    have e := HFAIL.out HOK.out
    exact ⟨none, 0, by rw [HOK.out, e.1, e.2]; rfl, by rw [e.2]; exact Own.nil _ _, (g5.out.setCell (by show w.heap.size ≤ w.heap.size + 1; omega) _).setCell (by show w.heap.size ≤ w.heap.size + 1; omega) _⟩
  · rw [hok] at HOK
    have HQ := Lib.hid (HR5.out.set (.int .i64 D) (.slice ra N.length ca))
    obtain ⟨r0, r1, f0, f1⟩ := HR5.out
    go_wp2
    refine bodyPost_ret (v := .tuple #[valV D ra N.length ca, .bool true]) (by simp [results, Tryd.results30, go_sem, HQ.out.1, HQ.out.2]) rfl ?_
    have e := HYES.out HOK.out
    exact ⟨ra, ca, by rw [HOK.out, e.1, e.2], by rw [e.2]; exact (HSET.out _ _ _ (HSET.out _ _ _ HO5.out)).mono HW2.out, (g5.out.setCell (by show w.heap.size ≤ w.heap.size + 1; omega) _).setCell (by show w.heap.size ≤ w.heap.size + 1; omega) _⟩
end Go.Proofs.YtgpnlnmljeahdaaDoor
