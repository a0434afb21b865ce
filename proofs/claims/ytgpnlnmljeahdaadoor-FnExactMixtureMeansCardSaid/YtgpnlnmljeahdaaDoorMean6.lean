/- The means of a mixture with their least denominator: the model's side. -/
import Derived.Test.YtgpnlnmljeahdaaDoorMeanO6
import Derived.Test.YtgpnlnmljeahdaaDoorGcd6
import Derived.Test.YtgpnlnmljeahdaaDoorDraw8v
namespace Go.Proofs.YtgpnlnmljeahdaaDoor
open Go.ChangeShapes Go.WideShapes Go.ChangeAt Go.RowKit Go.Deep
set_option linter.unusedVariables false
def meanG (us : List Int) (zss : List (List Int)) : Int := gcdT us.sum (wsumL us zss) (wsumL us zss).length
def meanD (us : List Int) (zss : List (List Int)) : Int := us.sum.tdiv (meanG us zss)
def meanN (us : List Int) (zss : List (List Int)) : List Int := (wsumL us zss).map fun x => x.tdiv (meanG us zss)
def meanOk (us : List Int) (zss : List (List Int)) : Bool := mixB us zss && okV (meanD us zss) (meanN us zss)
def meanDV (us : List Int) (zss : List (List Int)) : Int := if meanOk us zss then meanD us zss else 0
def meanNV (us : List Int) (zss : List (List Int)) : List Int := if meanOk us zss then meanN us zss else []
theorem wsum_in {us : List Int} {zss : List (List Int)} (h : mixB us zss = true) : ∀ z ∈ wsumL us zss, -1000000000000 ≤ z ∧ z ≤ 1000000000000 := by
  intro z hz
  obtain ⟨t, ht, rfl⟩ := List.getElem_of_mem hz
  have := wsumL_bd h t (by rw [wsumL_len] at ht; exact ht)
  rwa [getD_get _ t ht] at this
/-- A struct of a number and a list that grows, its block and the list's from the end of W0 on. -/
structure Grw (W0 W : World) (g : Int) (rd : Option Addr) (rc : Nat) (vs : List Int) : Prop where
  t1 : TwoC W (W0.heap.size + 1) (.int .i64 g) (.slice rd vs.length rc)
  o : Own W W0.heap.size rd rc vs
  ne : ∀ a, rd = some a → a.block ≠ W0.heap.size + 1
  k : Keep W0 W
theorem Grw.keep {W0 W W' : World} {g : Int} {rd : Option Addr} {rc : Nat} {vs : List Int} (h : Grw W0 W g rd rc vs) (k : Keep W W') : Grw W0 W' g rd rc vs :=
  ⟨h.t1.keep k h.t1.lt, h.o.keep k, h.ne, Keep.next h.k k⟩
theorem Grw.app {W0 W W' : World} {g : Int} {rd : Option Addr} {rc : Nat} {vs : List Int} {g' cap' : Nat} {y : Int} (h : Grw W0 W g rd rc vs)
    (o : Own W' W0.heap.size (some ⟨g', 0, none⟩) cap' (vs ++ [y])) (gr : W.grownBy W' (Value.slice rd vs.length rc).ownBlock) (hat : rd = some ⟨g', 0, none⟩ ∨ W.heap.size ≤ g') :
    TwoC W' (W0.heap.size + 1) (.int .i64 g) (.slice rd vs.length rc) ∧ Grw W0 (W'.setCell ⟨W0.heap.size + 1, 1, none⟩ (.slice (some ⟨g', 0, none⟩) (vs.length + 1) cap')) g (some ⟨g', 0, none⟩) cap' (vs ++ [y]) := by
  have l1 := h.t1.lt
  have k1 : Keep W0 W' := h.k.trans (below_own (Below.refl _ _) h.o gr h.k.size (Nat.le_refl _))
  have hr : some (W0.heap.size + 1) ≠ (Value.slice rd vs.length rc).ownBlock := by
    intro e
    rcases own_block h.o.1 with ⟨rfl, _⟩ | ⟨k, rfl, _⟩
    · simp [Value.ownBlock] at e
    · simp [Value.ownBlock] at e; exact h.ne _ rfl e.symm
  have t1 := h.t1.grown gr hr
  have hne : g' ≠ W0.heap.size + 1 := by
    rcases hat with e | e
    · exact h.ne _ e
    · omega
  refine ⟨t1, ⟨⟨?_, ?_, by simpa using t1.f0, by simpa using t1.f1⟩, o.set (by show W0.heap.size + 1 ≠ g'; omega) _, fun a e => by simp at e; subst e; exact hne, k1.setCell (by show W0.heap.size ≤ W0.heap.size + 1; omega) _⟩⟩
  · rw [World.cell?_setCell_other _ _ _ _ (by simp)]; exact t1.c0
  · rw [List.length_append]; exact World.cell?_setCell_same _ _ _ t1.c1
theorem grw_start (w3 : World) (den : Int) : Grw w3 ((w3.alloc (.cells #[] 2)).alloc (.cells #[.int .i64 den, .slice (some ⟨w3.heap.size, 0, none⟩) 0 0] 26)) den (some ⟨w3.heap.size, 0, none⟩) 0 [] := by
  have e : (w3.alloc (.cells #[] 2)).heap.size = w3.heap.size + 1 := by simp
  refine ⟨?_, ?_, fun a h => by simp at h; subst h; simp, by go_grown⟩
  · rw [← e]; exact ⟨by simp, by simp, by simp, by simp⟩
  · have := World.ownsRow_lit (base := w3.heap.size) (e := 2) (size := 1) w3 #[] 0 (Nat.le_refl _) (by simp) rfl
    have o : Own (w3.alloc (.cells #[] 2)) w3.heap.size (some ⟨w3.heap.size, 0, none⟩) 0 [] := ⟨by simpa using this, by simp, by simp⟩
    exact o.keep (by go_grown)
set_option maxHeartbeats 3200000 in
set_option maxRecDepth 100000 in
theorem specMixtureMeans_any (ad : Option Addr) (cap : Nat) (us : List Int) (bd : Option Addr) (bcap : Nat) (zss : List (List Int)) (w : World) (hz : Ints w ad us) (hzz : Intss w bd zss) :
    Calls Tryd.prog 31 #[mixV ad us.length cap bd zss.length bcap] w fun e w' => ∃ rd rc, e = .returned (.tuple #[valV (meanDV us zss) rd (meanNV us zss).length rc, .bool (meanOk us zss)]) ∧ Own w' w.heap.size rd rc (meanNV us zss) ∧ Keep w w' := by
  have hbl : Keep w ((w.alloc (.cells #[.slice ad us.length cap, .slice bd zss.length bcap] 31)).alloc (.cells #[.int .i64 0, .slice none 0 0] 26)) := by go_grown
  have B0 : BoxM ((w.alloc (.cells #[.slice ad us.length cap, .slice bd zss.length bcap] 31)).alloc (.cells #[.int .i64 0, .slice none 0 0] 26)) w.heap.size ad us.length cap bd zss.length bcap := ⟨by simp, by simp, by simp; omega⟩
  have R0 : TwoC ((w.alloc (.cells #[.slice ad us.length cap, .slice bd zss.length bcap] 31)).alloc (.cells #[.int .i64 0, .slice none 0 0] 26)) (w.heap.size + 1) (.int .i64 0) (.slice none 0 0) := ⟨by simp, by simp, by simp, by simp⟩
  have HI := Lib.hid (l06Is_any w.heap.size ad cap us bd bcap zss _ (hz.keep hbl (Nat.le_refl _)) (hzz.keep hbl (Nat.le_refl _)) B0.c0 B0.c1)
  have HBX := Lib.hid B0; have HBL := Lib.hid hbl; have HRX := Lib.hid R0
  have hlu := hz.small
  have hlz := hzz.small
  have HFAIL : Hid (meanOk us zss = false → meanDV us zss = 0 ∧ meanNV us zss = []) := Lib.hid (fun h => ⟨by unfold meanDV; rw [h]; rfl, by unfold meanNV; rw [h]; rfl⟩)
  clear B0 R0 hbl
  cases h1 : mixB us zss
  · have hb : meanOk us zss = false := by unfold meanOk; rw [h1]; rfl
    rw [hb, (HFAIL.out hb).1, (HFAIL.out hb).2]
    rw [h1] at HI
    go_enter Tryd.func31, Tryd.ntmps31
    go_wp2_with fail
    refine HI.out.mono ?_
    rintro e w1 ⟨rfl, k1⟩
    have g1 := Lib.hid (HBL.out.next k1)
    have T1 := HRX.out.keep k1 HRX.out.lt
    have HQ := Lib.hid (T1.set (.int .i64 0) (.slice none 0 0))
    obtain ⟨r0, r1, f0, f1⟩ := T1
    go_wp2
    refine bodyPost_ret (v := .tuple #[valV 0 none 0 0, .bool false]) (by simp [results, Tryd.results31, go_sem, HQ.out.1, HQ.out.2]) rfl ?_
    exact ⟨none, 0, rfl, Own.nil _ _, (g1.out.setCell (by show w.heap.size ≤ w.heap.size + 1; omega) _).setCell (by show w.heap.size ≤ w.heap.size + 1; omega) _⟩
  rw [h1] at HI
  have hs := mix_size h1
  have hsum := mix_sum h1
  have HWB := Lib.hid (wsum_in h1)
  have hwl : (wsumL us zss).length ≤ 40 := by rw [wsumL_len]; exact hs.2.2.1
  have HTO := Lib.hid (fun W (k : Keep w W) => l01Sum_any ad cap us W (hz.keep k (Nat.le_refl _)) (mix_we h1) (by omega))
  have HSM := Lib.hid (fun W (k : Keep w W) => l06Sums_any w.heap.size ad cap us bd bcap zss W (hz.keep k (Nat.le_refl _)) (hzz.keep k (Nat.le_refl _)) h1)
  have HGB := Lib.hid (gcdT_bd us.sum (wsumL us zss) hsum.1)
  have HGS := Lib.hid (gcdT_succ us.sum (wsumL us zss))
  have HG0 := Lib.hid (gcdT_zero us.sum (wsumL us zss))
  have HOK : Hid (meanOk us zss = okV (us.sum.tdiv (gcdT us.sum (wsumL us zss) (wsumL us zss).length)) ((wsumL us zss).map fun x => x.tdiv (gcdT us.sum (wsumL us zss) (wsumL us zss).length))) := Lib.hid (by unfold meanOk; rw [h1]; rfl)
  have HYES : Hid (meanOk us zss = true → meanDV us zss = us.sum.tdiv (gcdT us.sum (wsumL us zss) (wsumL us zss).length) ∧ meanNV us zss = ((wsumL us zss).map fun x => x.tdiv (gcdT us.sum (wsumL us zss) (wsumL us zss).length))) := Lib.hid (fun h => ⟨by unfold meanDV; rw [h]; rfl, by unfold meanNV; rw [h]; rfl⟩)
  clear h1 hs
  generalize wsumL us zss = S at *
  generalize us.sum = tt at *
  generalize meanOk us zss = Bo at *
  generalize meanDV us zss = DV at *
  generalize meanNV us zss = NV at *
  go_enter Tryd.func31, Tryd.ntmps31
  go_wp2_with fail
  refine HI.out.mono ?_
  rintro e w1 ⟨rfl, k1⟩
  have HB1 := Lib.hid (HBX.out.keep k1); have g1 := Lib.hid (HBL.out.next k1); have HR1 := Lib.hid (HRX.out.keep k1 HRX.out.lt)
  clear k1
  obtain ⟨e0, e1, _⟩ := HB1.out
  go_wp2_with fail
  refine (HTO.out w1 g1.out).mono ?_
  rintro e w2 ⟨rfl, rfl⟩
  go_wp2_with fail
  refine (HSM.out w1 g1.out e0 e1).mono ?_
  rintro e w3 ⟨sd, sc, rfl, o3, k3⟩
  have HI3 := Lib.hid o3.ints
  have g3 := Lib.hid (g1.out.next k3); have HR3 := Lib.hid (HR1.out.keep k3 HR1.out.lt)
  clear o3 k3 e0 e1 HB1 HR1
  have hsS := HI3.out.small
  go_wp2
  go_loop [6, 7] (fun g i => ∃ k : Nat, k ≤ S.length ∧ i = .int .i64 k ∧ g = .int .i64 (gcdT tt S k)) (fun _ i => S.length - (intOf i).toNat)
  case atStart => exact ⟨0, Nat.zero_le _, rfl, by rw [HG0.out]⟩
  case round =>
    obtain ⟨k, hk, rfl, rfl⟩ := hrel
    have hgb := HGB.out k hk
    by_cases hlt : k < S.length
    · rcases HI3.out.at_ with h | ⟨b, off, rfl, hb, hc⟩
      · rw [h] at hlt; simp at hlt
      have hcx := hc k hlt
      have hxb := HWB.out _ (getD_mem S k hlt)
      have HS := Lib.hid (HGS.out k hlt)
      rw [Int.gcd_comm] at HS
      have HGC := Lib.hid (l06Gcd_any (S.getD k 0) (gcdT tt S k) w3 (by omega) (by omega) hgb.1 (by omega))
      clear hc
      generalize S.getD k 0 = x at *
      generalize gcdT tt S k = G at *
      rw [← HS.out] at HGC
      go_wp2_with (go_at_call 86; refine HGC.out.mono ?_; rintro e w' ⟨rfl, rfl⟩)
      go_round
      case rel => exact ⟨k + 1, by omega, by go_num, rfl⟩
      case measure => simp [intOf]; omega
    · have hkE : k = S.length := by omega
      rw [hkE] at hgb ⊢
      have HDN := Lib.hid (tdiv_in (x := tt) (M := 1000000) hgb.1 ⟨by omega, by omega⟩)
      have hGG : Hid (∀ z ∈ S, -1000000000000 ≤ z.tdiv (gcdT tt S S.length) ∧ z.tdiv (gcdT tt S S.length) ≤ 1000000000000) := Lib.hid (fun z hz => tdiv_in hgb.1 (HWB.out z hz))
      clear hkE hlt hk
      generalize gcdT tt S S.length = G at *
      have hDD : tt.tdiv G = tt / G := Int.tdiv_eq_ediv_of_nonneg (by omega)
      rw [hDD] at HDN HOK HYES
      clear hDD
      have HST := Lib.hid (grw_start w3 (tt / G))
      have hDb := HDN.out
      obtain ⟨φ, hφ⟩ : ∃ φ : Int → Int, φ = fun x => x.tdiv G := ⟨_, rfl⟩
      rw [← hφ] at HOK HYES
      have HPH := Lib.hid hφ; clear hφ
      go_wp2
      generalize tt / G = D at *
      go_loopw [9] (fun i wr => ∃ (k : Nat) (rd : Option Addr) (rc : Nat), k ≤ S.length ∧ i = .int .i64 k ∧ Hid (Grw w3 wr D rd rc ((S.take k).map φ))) (fun i _ => S.length - (intOf i).toNat)
      case atStart => exact ⟨0, _, 0, Nat.zero_le _, rfl, Lib.hid (by simpa using HST.out)⟩
      case round =>
        obtain ⟨k, rd, rc, hk, rfl, HG⟩ := hrel
        obtain ⟨vs, hvs⟩ : ∃ vs, vs = (S.take k).map φ := ⟨_, rfl⟩
        rw [← hvs] at HG
        have hvl : vs.length = k := by rw [hvs, List.length_map, List.length_take]; omega
        have HVL := Lib.hid hvl
        have HVS := Lib.hid hvs; clear hvs hvl
        have hG0 : ¬ G = 0 := by omega
        have hG1 : (G == 0) = false := by simp; omega
        obtain ⟨c0, c1, f0, f1⟩ := HG.out.t1
        by_cases hlt : k < S.length
        · rcases (HI3.out.keep HG.out.k (Nat.le_refl _)).at_ with h | ⟨b, off, rfl, hb, hc⟩
          · rw [h] at hlt; simp at hlt
          have hcx := hc k hlt
          have hxb := hGG.out _ (getD_mem S k hlt)
          have HVN : Hid ((S.take (k + 1)).map φ = vs ++ [(S.getD k 0).tdiv G]) := Lib.hid (by rw [take_succ_getD S k hlt, List.map_append, ← HVS.out, HPH.out]; rfl)
          have hvb : vs.length < 1099511627776 := by have := HVL.out; omega
          have hszw := HG.out.k.size
          have c1a : ∀ X, (wr.alloc X).cell? ⟨w3.heap.size + 1, 1, none⟩ = some (.slice rd vs.length rc) := fun X => (HG.out.keep (by go_grown)).t1.c1
          clear hc
          generalize S.getD k 0 = x at *
          have W1 : IntKind.i64.wrap (x.tdiv G) = x.tdiv G := IntWalk.i64_in _ (by omega)
          have HIN : Hid (In64 (x.tdiv G)) := Lib.hid ⟨by omega, by omega⟩
          go_wp2
          go_region_law
            (first
              | (refine stepV_app2 (by rfl) _ _ (by rfl) w3.heap.size rd rc vs.length vs (x.tdiv G) (by rfl) (HG.out.keep (by go_grown)).o rfl _ (by rfl) (by simp) HIN.out hvb (by simp; omega) ?_
                 intro g8 cap8 w8 hown8 hgr8 hat8
                 have D8 := Lib.hid ((HG.out.keep (by go_grown)).app hown8 hgr8 hat8)
                 have c8 := D8.out.1.c1; have f8 := D8.out.1.f1
                 clear hown8 hgr8 hat8))
          all_goals go_wp2
          all_goals
            go_roundw
            case rel => exact ⟨k + 1, _, _, by omega, by go_num, Lib.hid (by rw [HVN.out]; exact D8.out.2)⟩
            case measure => simp [intOf]; omega
        · have hkS : k = S.length := by omega
          have HNV : Hid (vs = S.map φ) := Lib.hid (by rw [HVS.out, hkS, List.take_length])
          rw [← HNV.out] at HOK HYES
          have HLI := Lib.hid (l01Is_any (w3.heap.size + 1) D rd rc vs wr HG.out.o.ints c0 c1)
          have hRR := HR3.out.keep HG.out.k HR3.out.lt
          have hws : w.heap.size + 1 < w3.heap.size := HR3.out.lt
          have HWS := Lib.hid hws; clear hws
          have HGO := Lib.hid HG.out.o
          have HGK := Lib.hid (g3.out.next HG.out.k)
          have HSET : Hid (∀ (W : World) (o : Nat) (v : Value), Own W w3.heap.size rd rc vs → Own (W.setCell ⟨w.heap.size + 1, o, none⟩ v) w3.heap.size rd rc vs) := Lib.hid (fun W o v h => by
            rcases own_block h.1 with ⟨rfl, e0, rfl⟩ | ⟨q, rfl, hq, _⟩
            · rw [List.eq_nil_of_length_eq_zero e0]; exact Own.nil _ _
            · exact h.set (by show w.heap.size + 1 ≠ q; have := HWS.out; omega) _)
          cases hok : okV D vs
          · rw [hok] at HOK HLI
            have HBo := Lib.hid HOK.out
            have HQ := Lib.hid (hRR.set (.int .i64 0) (.slice none 0 0))
            obtain ⟨r0, r1, q0, q1⟩ := hRR
            go_wp2_with (go_at_call 87; refine HLI.out.mono ?_; rintro e w' ⟨rfl, rfl⟩)
            refine bodyPost_ret (v := .tuple #[valV 0 none 0 0, .bool false]) (by simp [results, Tryd.results31, go_sem, HQ.out.1, HQ.out.2]) rfl ?_
            have e := HFAIL.out HBo.out
            exact ⟨none, 0, by rw [HBo.out, e.1, e.2]; rfl, by rw [e.2]; exact Own.nil _ _, (HGK.out.setCell (by show w.heap.size ≤ w.heap.size + 1; omega) _).setCell (by show w.heap.size ≤ w.heap.size + 1; omega) _⟩
          · rw [hok] at HOK HLI
            have HBo := Lib.hid HOK.out
            have HQ := Lib.hid (hRR.set (.int .i64 D) (.slice rd vs.length rc))
            obtain ⟨r0, r1, q0, q1⟩ := hRR
            go_wp2_with (go_at_call 87; refine HLI.out.mono ?_; rintro e w' ⟨rfl, rfl⟩)
            refine bodyPost_ret (v := .tuple #[valV D rd vs.length rc, .bool true]) (by simp [results, Tryd.results31, go_sem, HQ.out.1, HQ.out.2]) rfl ?_
            have e := HYES.out HBo.out
            exact ⟨rd, rc, by rw [HBo.out, e.1, e.2], by rw [e.2]; exact (HSET.out _ _ _ (HSET.out _ _ _ HGO.out)).mono (by have := HWS.out; omega), (HGK.out.setCell (by show w.heap.size ≤ w.heap.size + 1; omega) _).setCell (by show w.heap.size ≤ w.heap.size + 1; omega) _⟩
end Go.Proofs.YtgpnlnmljeahdaaDoor
