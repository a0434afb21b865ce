/- All best roundings with a sum: the program's choice, walked. -/
import Derived.Test.YtmckbjhmkcbjgabChoice4b
namespace Go.Proofs.Ytmckbjhmkcbjgab
open Go.ChangeShapes Go.WideShapes Go.ChangeAt Go.RowKit Go.Deep
set_option linter.unusedVariables false
abbrev chV (la : Option Addr) (n lc : Nat) (fa : Option Addr) (fl fc : Nat) (ups : Int) : Value := .agg #[.slice la n lc, .slice fa fl fc, .int .i64 ups]
def clsL (norm g : Int) (zs : List Int) (T S : Int) : List Int := (reL g zs).map (clsX (loOf norm g T S) (hiOf norm g T S))
theorem clsL_len (norm g : Int) (zs : List Int) (T S : Int) : (clsL norm g zs T S).length = zs.length := by simp [clsL, reL]
/-- What choiceOf tells. -/
def ChoiceIs (w : World) (norm g : Int) (zs : List Int) (u : Nat) (e : Ending) (w' : World) : Prop :=
  ∃ (T S : Int) (la : Option Addr) (lc : Nat) (fa : Option Addr) (fc : Nat), Ranks g (reL g zs) u T S ∧
    e = .returned (chV la (upL (flL g zs) (clsL norm g zs T S)).length lc fa (freeL (clsL norm g zs T S)).length fc ((u : Int) - (isC 1 (clsL norm g zs T S) : Nat))) ∧
    Own w' w.heap.size la lc (upL (flL g zs) (clsL norm g zs T S)) ∧ OwnN w' w.heap.size fa fc (freeL (clsL norm g zs T S)) ∧ Keep w w'
set_option maxHeartbeats 3200000 in
set_option maxRecDepth 100000 in
theorem choiceOf_any (norm g : Int) (u : Nat) (ad : Option Addr) (cap : Nat) (zs : List Int) (w : World) (sum : Int) (hz : Ints w ad zs) (hzb : ∀ z ∈ zs, -1000000000000 ≤ z ∧ z ≤ 1000000000000) (hl : zs.length ≤ 40)
    (g1 : 1 ≤ g) (g2 : g ≤ 1000000000000) (hfb : ∀ f ∈ flL g zs, -1000000 ≤ f ∧ f ≤ 1000000) (hs : sum = (flL g zs).sum + u) (hu : u ≤ gtC 0 (reL g zs)) :
    Calls Try.prog 35 #[valV g ad zs.length cap, .int .i64 sum, .int .i64 norm] w (ChoiceIs w norm g zs u) := by
  have HZB := Lib.hid hzb; have HFB := Lib.hid hfb; have HS := Lib.hid hs; have HU := Lib.hid hu
  have hrel : ∀ r ∈ reL g zs, 0 ≤ r ∧ r < g := fun r hr => by
    unfold reL at hr
    obtain ⟨z, hz, rfl⟩ := List.mem_map.1 hr
    exact re_bd g1
  have HREL := Lib.hid hrel
  have HFL := Lib.hid (flL_len g zs); have HRL := Lib.hid (reL_len g zs)
  have hul : u ≤ 40 := by have := List.countP_le_length (p := fun r => decide (0 < r)) (l := reL g zs); unfold gtC at hu; rw [HRL.out] at this; omega
  clear hzb hfb hs hu hrel
  have BX : Box ((w.alloc (.cells #[.int .i64 g, .slice ad zs.length cap] 26)).alloc (.cells #[.slice none 0 0, .slice none 0 0, .int .i64 0] 56)) w.heap.size g ad zs.length cap := ⟨by simp, by simp, by simp; omega⟩
  have TX : Trio ((w.alloc (.cells #[.int .i64 g, .slice ad zs.length cap] 26)).alloc (.cells #[.slice none 0 0, .slice none 0 0, .int .i64 0] 56)) (w.heap.size + 1) (.slice none 0 0) (.slice none 0 0) (.int .i64 0) := ⟨by simp, by simp, by simp, by simp, by simp, by simp⟩
  have KX : Keep w ((w.alloc (.cells #[.int .i64 g, .slice ad zs.length cap] 26)).alloc (.cells #[.slice none 0 0, .slice none 0 0, .int .i64 0] 56)) := by go_grown
  have SX : ((w.alloc (.cells #[.int .i64 g, .slice ad zs.length cap] 26)).alloc (.cells #[.slice none 0 0, .slice none 0 0, .int .i64 0] 56)).heap.size = w.heap.size + 2 := by simp
  have HX := Lib.hid (And.intro BX (And.intro TX (And.intro KX SX)))
  clear BX TX KX SX
  go_enter Try.func35, Try.ntmps35
  go_wp2_with fail
  generalize ((w.alloc (.cells #[.int .i64 g, .slice ad zs.length cap] 26)).alloc (.cells #[.slice none 0 0, .slice none 0 0, .int .i64 0] 56)) = w0 at *
  obtain ⟨b0, t0, k0, z0⟩ := HX.out
  have HB0 := Lib.hid b0; have HT0 := Lib.hid t0; have HK0 := Lib.hid k0
  have hz0 := hz.keep k0 (Nat.le_refl _)
  obtain ⟨s, hs⟩ : ∃ s, s = w.heap.size := ⟨_, rfl⟩
  rw [← hs] at HB0 HT0 z0 ⊢
  have HSS := Lib.hid hs
  clear b0 t0 k0 HX hs
  refine (mappedCh1_any (fun z => fl z g) (.pointer (some ⟨s, 0, none⟩)) ad cap zs w0 hz0 (by omega) (fun z hz => ?_) (fun x hx W k => ?_)).mono ?_
  · have := HFB.out _ (List.mem_map.2 ⟨z, hz, rfl⟩); exact ⟨by omega, by omega⟩
  · have := HZB.out x hx
    exact ch1_any x g s W (HB0.out.keep k).c0 (by omega) (by omega) (by omega) (by omega)
  rw [show zs.map (fun z => fl z g) = flL g zs from rfl]
  have hFl : (flL g zs).length = zs.length := HFL.out
  have hfl40 : (flL g zs).length ≤ 40 := by omega
  have HFl := Lib.hid hFl; clear hFl
  generalize hF : flL g zs = F at *
  have HF := Lib.hid hF; clear hF
  rintro e w1 ⟨la, lc, rfl, o1, k1⟩
  have M1 : Mine w1 (s + 2) w1.heap.size la lc F := Mine.new (by omega) o1
  have hw1 : s + 2 ≤ w1.heap.size := by rw [← z0]; exact k1.size
  have HB1 := Lib.hid (HB0.out.keep k1)
  have HT1 := Lib.hid (HT0.out.keptBy (keep_grown k1 none) (by simp))
  have HK1 := Lib.hid (HK0.out.next k1)
  have hz1 := hz0.keep k1 (Nat.le_refl _)
  have HM1 := Lib.hid M1
  clear M1 o1 k1 HB0 HT0 HK0 hz0
  obtain ⟨x0, x1, xl⟩ := HB1.out
  go_wp2_with fail
  refine (mappedCh2_any (fun z => z - g * fl z g) (.pointer (some ⟨s, 0, none⟩)) ad cap zs w1 hz1 (by omega) (fun z hz => ?_) (fun x hx W k => ?_)).mono ?_
  · have := HREL.out _ (List.mem_map.2 ⟨z, hz, rfl⟩); exact ⟨by omega, by omega⟩
  · have := HZB.out x hx
    exact ch2_any x g s W (HB1.out.keep k).c0 (by omega) (by omega) (by omega) (by omega)
  rw [show zs.map (fun z => z - g * fl z g) = reL g zs from rfl]
  have hRl : (reL g zs).length = zs.length := HRL.out
  have hr40 : (reL g zs).length ≤ 40 := by omega
  have HRl := Lib.hid hRl; clear hRl
  generalize hR : reL g zs = R at *
  have HR := Lib.hid hR; clear hR
  rintro e w2 ⟨ra, rc, rfl, o2, k2⟩
  have M2 : Mine w2 w1.heap.size w2.heap.size ra rc R := Mine.new (Nat.le_refl _) o2
  have hw2 : w1.heap.size ≤ w2.heap.size := k2.size
  have HB2 := Lib.hid (HB1.out.keep k2)
  have HT2 := Lib.hid (HT1.out.keptBy (keep_grown k2 none) (by simp))
  have HK2 := Lib.hid (HK1.out.next k2)
  have HM1b := Lib.hid (HM1.out.keep k2)
  have HM2 := Lib.hid M2
  clear M2 o2 k2 HB1 HT1 HK1 HM1 hz1 x0 x1 xl
  have hsb := sum_bd 1000000 (by omega) F HFB.out
  have hsum : -40000000 ≤ F.sum ∧ F.sum ≤ 40000000 := by omega
  have HS2 : Hid (sum = F.sum + u) := Lib.hid HS.out
  have hsu : sum - F.sum = (u : Int) := by have := HS2.out; omega
  have hsm : -40000000 ≤ sum ∧ sum ≤ 40000040 := by omega
  have HSU := Lib.hid hsu; clear hsu hsb
  go_wp2_with fail
  refine (total_any la lc F _ (HM1b.out.keep (by go_grown)).ints (fun z hz => ?_) (by omega)).mono ?_
  · have := HFB.out z hz; omega
  rintro e w3 ⟨rfl, rfl⟩
  obtain ⟨x0, x1, xl⟩ := HB2.out
  go_wp2_with fail
  rw [HSU.out]
  have k3 : Keep w2 (w2.alloc (.cells #[.slice la F.length lc, .slice none 0 0, .int .i64 u] 56)) := by go_grown
  have t3 := Trio.new w2 (.slice la F.length lc) (.slice none 0 0) (.int .i64 u) 56
  have z3 : (w2.alloc (.cells #[.slice la F.length lc, .slice none 0 0, .int .i64 u] 56)).heap.size = w2.heap.size + 1 := by simp
  generalize (w2.alloc (.cells #[.slice la F.length lc, .slice none 0 0, .int .i64 u] 56)) = w3 at *
  obtain ⟨cb, hcb⟩ : ∃ cb, cb = w2.heap.size := ⟨_, rfl⟩
  obtain ⟨h1, hh1⟩ : ∃ h1, h1 = w1.heap.size := ⟨_, rfl⟩
  have hM1 := HM1b.out; have hM2 := HM2.out
  rw [← hcb] at hw2 t3 z3 hM2 ⊢
  rw [← hh1] at hw1 hw2 hM1 hM2
  have HM1 := Lib.hid (hM1.keep k3)
  have HMR := Lib.hid (hM2.keep k3)
  have HT2b := Lib.hid (HT2.out.keptBy (keep_grown k3 none) (by simp))
  have HK3 := Lib.hid (HK2.out.next k3)
  have HT3 := Lib.hid t3
  clear hM1 hM2 HM1b HM2 k3 t3 hcb hh1 HT2 HK2 x0 x1 xl HB2
  refine (freeRests_any norm g u ra rc R w3 HMR.out.ints HREL.out g1 g2 HU.out hr40).mono ?_
  rintro e w4 ⟨T, S, hrk, rfl, k4⟩
  have HM1b := Lib.hid (HM1.out.keep k4)
  have HMRb := Lib.hid (HMR.out.keep k4)
  have HT4 := Lib.hid (HT3.out.keptBy (keep_grown k4 none) (by simp))
  have HR4 := Lib.hid (HT2b.out.keptBy (keep_grown k4 none) (by simp))
  have HK4 := Lib.hid (HK3.out.next k4)
  have z4 : cb + 1 ≤ w4.heap.size := by rw [← z3]; exact k4.size
  have HRK := Lib.hid hrk
  clear k4 hrk HM1 HMR HT3 HT2b HK3 z3
  have HCL : Hid (clsL norm g zs T S = R.map (clsX (loOf norm g T S) (hiOf norm g T S))) := Lib.hid (by unfold clsL; rw [HR.out])
  generalize hC : clsL norm g zs T S = C at HCL
  have HC := Lib.hid hC; clear hC
  generalize hlo : loOf norm g T S = lo at *
  generalize hhi : hiOf norm g T S = hi at *
  have HCl : Hid (C.length = F.length) := Lib.hid (by rw [HCL.out, List.length_map, HRl.out, HFl.out])
  have HCg : Hid (∀ k, k < F.length → C.getD k 0 = clsX lo hi (R.getD k 0)) := Lib.hid (fun k hk => by
    have h1 : k < C.length := by rw [HCl.out]; exact hk
    have h2 : k < R.length := by rw [HRl.out, ← HFl.out]; exact hk
    rw [getD_get C k h1, getD_get R k h2]
    have := HCL.out
    subst this
    simp)
  have HRF : Hid (R.length = F.length) := Lib.hid (by rw [HRl.out, HFl.out])
  have HF40 : F.length ≤ 40 := hfl40
  clear hlo hhi
  go_wp2
  go_loopg [12, 13, 40] R.length (fun kk _ _ i wr => ∃ (k : Nat) (fa : Option Addr) (fc : Nat), k ≤ R.length ∧ kk = R.length - k ∧ i = .int .i64 k ∧
      Hid (Trio wr cb (.slice la F.length lc) (.slice fa (freeL (C.take k)).length fc) (.int .i64 ((u : Int) - (isC 1 (C.take k) : Nat)))) ∧ Hid (Mine wr (s + 2) h1 la lc (LK F C k)) ∧ Hid (Mine wr h1 cb ra rc R) ∧ Hid (OwnN wr (cb + 1) fa fc (freeL (C.take k))) ∧ Hid (Trio wr (s + 1) (.slice none 0 0) (.slice none 0 0) (.int .i64 0)) ∧ Hid (Below s w wr) ∧ cb + 1 ≤ wr.heap.size)
  case atStart => exact ⟨0, none, 0, Nat.zero_le _, rfl, rfl, by simpa [freeL, isC] using HT4, by rw [LK_zero]; exact HM1b, HMRb, Lib.hid (by simpa [freeL] using OwnN.nil _ _), HR4, Lib.hid (by rw [HSS.out]; exact HK4.out), z4⟩
  case round =>
    obtain ⟨k, fa, fc, hk, rfl, rfl, HT, HM, HMr, HN, HRs, HBl, hcs⟩ := hrel
    by_cases hlt : k < R.length
    · have hkF : k < F.length := by rw [← HRF.out]; exact hlt
      have hkC : k < C.length := by rw [HCl.out]; exact hkF
      rcases HMr.out.ints.at_ with h | ⟨rb, off, rfl, hb, hc⟩
      · subst h; simp at hlt
      have hcx := hc k hlt
      have hLl : Hid ((LK F C k).length = F.length) := Lib.hid (LK_len F C HCl.out.symm k (by omega))
      rcases own_block HM.out.own.1 with ⟨_, h2, _⟩ | ⟨lb, hla, h2, h3, _⟩
      · rw [hLl.out] at h2; omega
      have h4 := HM.out.below lb hla
      have hly : wr.cell? ⟨lb, k, none⟩ = some (.int .i64 (F.getD k 0)) ∧ wr.frozen? ⟨lb, k, none⟩ = false := by
        have hM := HM.out
        rw [hla] at hM
        refine ⟨?_, hM.own.1.frozenAt k⟩
        have := hM.own.1.cellAt k (by rw [hLl.out]; omega)
        rw [this]
        have e := LK_get F C HCl.out.symm k hkF
        rw [getD_get _ k (by rw [hLl.out]; exact hkF)] at e
        simp only [vals, List.getElem?_map, List.getElem?_eq_getElem (show k < (LK F C k).length by rw [hLl.out]; exact hkF), Option.map_some, e]
      obtain ⟨hly1, hly2⟩ := hly
      obtain ⟨c0, c1, c2, f0, f1, f2⟩ := HT.out
      have hf := HFB.out _ (getD_mem F k hkF)
      have HCk := Lib.hid (HCg.out k hkF)
      have HI1 := Lib.hid (isC_take_succ 1 C k hkC)
      have HFr := Lib.hid (freeL_take_succ C k hkC)
      have HLS := Lib.hid (LK_set F C HCl.out.symm k hkF)
      have HLU := Lib.hid (upL_get F C HCl.out.symm k hkF)
      have HLM := Lib.hid (fun h => LK_same F C HCl.out.symm k hkF h)
      have hic : isC 1 (C.take k) ≤ 40 := by
        have h1 := List.countP_le_length (p := fun x => decide (x = 1)) (l := C.take k)
        rw [List.length_take] at h1
        have h2 := HCl.out
        unfold isC; omega
      have HLA := Lib.hid hla
      rw [hla] at c0
      clear hc hla
      generalize R.getD k 0 = r at *
      generalize F.getD k 0 = f at *
      by_cases hr1 : hi < r
      · have HC1 : Hid (C.getD k 0 = 1) := Lib.hid (by rw [HCk.out]; unfold clsX; rw [if_pos hr1])
        have tt := HT.out.keptBy (set_grown wr lb k (.int .i64 (f + 1))) (by simp; omega)
        have HTT := Lib.hid (tt.set2 (.int .i64 ((u : Int) - (isC 1 (C.take k) : Nat) - 1)))
        have HMM := Lib.hid ((by have h := HM.out; rw [HLA.out] at h; exact h : Mine wr (s + 2) h1 (some ⟨lb, 0, none⟩) lc (LK F C k)).stored k (f + 1) ⟨by omega, by omega⟩)
        obtain ⟨d0, d1, d2, e0, e1, e2⟩ := tt
        go_wp2
        go_roundg (R.length - (k + 1))
        case measure => omega
        case rel =>
          have m1 := set_grown wr lb k (.int .i64 (f + 1))
          have m2 := set_grown (wr.setCell ⟨lb, k, none⟩ (.int .i64 (f + 1))) cb 2 (.int .i64 ((u : Int) - (isC 1 (C.take k) : Nat) - 1))
          have e1 : isC 1 (C.take (k + 1)) = isC 1 (C.take k) + 1 := by rw [HI1.out, HC1.out]; simp
          have e2 : freeL (C.take (k + 1)) = freeL (C.take k) := by rw [HFr.out, HC1.out]; simp
          have e3 : (LK F C k).set k (f + 1) = LK F C (k + 1) := by rw [← HLS.out, HLU.out, HC1.out]; simp
          refine ⟨k + 1, fa, fc, by omega, rfl, by go_num, ?_, ?_, ?_, ?_, ?_, ?_, by simpa using hcs⟩
          · refine Lib.hid ?_
            rw [e1, e2, show (u : Int) - ((isC 1 (C.take k) + 1 : Nat) : Int) = (u : Int) - (isC 1 (C.take k) : Nat) - 1 from by omega]
            exact HTT.out
          · refine Lib.hid ?_
            rw [← e3, HLA.out]
            exact HMM.out.out m2 (.inr (by omega))
          · exact Lib.hid ((HMr.out.out m1 (.inl (by omega))).out m2 (.inr (Nat.le_refl _)))
          · rw [e2]; exact Lib.hid ((HN.out.keptBy m1 (fun r h => by cases h; omega)).keptBy m2 (fun r h => by cases h; omega))
          · exact Lib.hid ((HRs.out.keptBy m1 (by simp; omega)).keptBy m2 (by simp; omega))
          · exact Lib.hid ((HBl.out.setCell (by show s ≤ lb; omega) _).setCell (by show s ≤ cb; omega) _)
      · have hr1b : r ≤ hi := by omega
        by_cases hr2 : lo ≤ r
        · have HC0 : Hid (C.getD k 0 = 0) := Lib.hid (by rw [HCk.out]; unfold clsX; rw [if_neg hr1, if_pos hr2])
          have HOB : Hid (∀ r, (Value.slice fa (freeL (C.take k)).length fc).ownBlock = some r → cb + 1 ≤ r) := Lib.hid (fun r hr => by
            rcases own_block HN.out.1 with ⟨h, _⟩ | ⟨g, h, hg, _⟩
            · rw [h] at hr; simp [Value.ownBlock] at hr
            · rw [h] at hr; simp [Value.ownBlock] at hr; omega)
          have HNE : Hid (some cb ≠ (Value.slice fa (freeL (C.take k)).length fc).ownBlock) := Lib.hid (fun h => by have := HOB.out cb h.symm; omega)
          have hfn : (freeL (C.take k)).length ≤ 40 := by have := freeL_len (C.take k); have h2 := List.countP_le_length (p := fun x => decide (x = 0)) (l := C.take k); rw [List.length_take] at h2; have h3 := HCl.out; unfold isC at *; omega
          go_wp2_with (refine list_appN (by rfl) _ _ (by rfl) (cb + 1) fa fc (freeL (C.take k)).length (freeL (C.take k)) k (by rfl) (HN.out.keptBy (row := none) (keep_grown (by go_grown) none) (fun r h => by cases h)) rfl wr.heap.size (by rfl) (by simp) (by omega) (by simp; omega) ?_; intro fa' fc' w5 hown5 hgr5; have HO5 := Lib.hid hown5; have HG5 := Lib.hid (grownBy_trans (keep_grown (w := wr) (by go_grown) _) hgr5); have tt := HT.out.keptBy HG5.out HNE.out; have HTT := Lib.hid (tt.set1 (.slice fa' ((freeL (C.take k)).length + 1) fc')); obtain ⟨d0, d1, d2, e0, e1, e2⟩ := tt; clear hown5 hgr5)
          go_roundg (R.length - (k + 1))
          case measure => omega
          case rel =>
            have m2 := set_grown w5 cb 1 (.slice fa' ((freeL (C.take k)).length + 1) fc')
            have e1 : isC 1 (C.take (k + 1)) = isC 1 (C.take k) := by rw [HI1.out, HC0.out]; simp
            have e2 : freeL (C.take (k + 1)) = freeL (C.take k) ++ [k] := by rw [HFr.out, HC0.out]; simp
            have e3 : LK F C (k + 1) = LK F C k := HLM.out (by rw [HC0.out]; decide)
            refine ⟨k + 1, fa', fc', by omega, rfl, by go_num, ?_, ?_, ?_, ?_, ?_, ?_, ?_⟩
            · refine Lib.hid ?_
              rw [e1, e2, List.length_append]
              exact HTT.out
            · rw [e3]; exact Lib.hid ((HM.out.outR HG5.out (fun c h => .inr (by have := HOB.out c h; omega))).out m2 (.inr (by omega)))
            · exact Lib.hid ((HMr.out.outR HG5.out (fun c h => .inr (by have := HOB.out c h; omega))).out m2 (.inr (Nat.le_refl _)))
            · rw [e2]; exact Lib.hid (HO5.out.keptBy m2 (fun r h => by cases h; omega))
            · exact Lib.hid ((HRs.out.keptBy HG5.out (fun h => by have := HOB.out _ h.symm; omega)).keptBy m2 (by simp; omega))
            · exact Lib.hid ((HBl.out.grown HG5.out (by omega) (fun c h => by have := HOB.out c h; omega)).setCell (by show s ≤ cb; omega) _)
            · have := HG5.out.size; simp; omega
        · have hr2b : r < lo := by omega
          have HCm : Hid (C.getD k 0 = -1) := Lib.hid (by rw [HCk.out]; unfold clsX; rw [if_neg hr1, if_neg hr2])
          go_wp2
          go_roundg (R.length - (k + 1))
          case measure => omega
          case rel =>
            have e1 : isC 1 (C.take (k + 1)) = isC 1 (C.take k) := by rw [HI1.out, HCm.out]; simp
            have e2 : freeL (C.take (k + 1)) = freeL (C.take k) := by rw [HFr.out, HCm.out]; simp
            have e3 : LK F C (k + 1) = LK F C k := HLM.out (by rw [HCm.out]; decide)
            refine ⟨k + 1, fa, fc, by omega, rfl, by go_num, ?_, ?_, HMr, ?_, HRs, HBl, hcs⟩
            · rw [e1, e2]; exact HT
            · rw [e3]; exact HM
            · rw [e2]; exact HN
    · have HK := Lib.hid (show k = R.length from by omega)
      obtain ⟨c0, c1, c2, f0, f1, f2⟩ := HT.out
      obtain ⟨d0, d1, d2, e0, e1, e2⟩ := HRs.out
      have HTS := Lib.hid (HRs.out.set3 (.slice la F.length lc) (.slice fa (freeL (C.take k)).length fc) (.int .i64 ((u : Int) - (isC 1 (C.take k) : Nat))))
      go_wp2
      refine bodyPost_ret (v := chV la F.length lc fa (freeL (C.take k)).length fc ((u : Int) - (isC 1 (C.take k) : Nat))) (by simp [results, Try.results35, go_sem, HTS.out.c0, HTS.out.c1, HTS.out.c2]) rfl ?_
      have hCt : C.take k = C := by rw [HK.out, HRF.out, ← HCl.out, List.take_length]
      have hLt : LK F C k = upL F C := by rw [HK.out, HRF.out]; exact LK_all F C HCl.out.symm
      have hM := HM.out; have hN := HN.out
      rw [hLt] at hM
      rw [hCt] at hN ⊢
      have m1 : ∀ (W : World) (o : Nat) (v : Value), W.grownBy (W.setCell ⟨s + 1, o, none⟩ v) (some (s + 1)) := fun W o v => set_grown W (s + 1) o v
      refine ⟨T, S, la, lc, fa, fc, by rw [HR.out]; exact HRK.out, ?_, ?_, ?_, ?_⟩
      · rw [HF.out, HC.out, upL_len F C HCl.out.symm]
      · rw [HF.out, HC.out]
        exact (((hM.out (m1 _ _ _) (.inl (by omega))).out (m1 _ _ _) (.inl (by omega))).out (m1 _ _ _) (.inl (by omega))).own.mono (by have := HSS.out; omega)
      · rw [HC.out]
        exact (((hN.keptBy (m1 _ _ _) (fun r h => by cases h; omega)).keptBy (m1 _ _ _) (fun r h => by cases h; omega)).keptBy (m1 _ _ _) (fun r h => by cases h; omega)).mono (by have := HSS.out; omega)
      · show Below w.heap.size w _
        rw [← HSS.out]
        exact ((HBl.out.setCell (by show s ≤ s + 1; omega) _).setCell (by show s ≤ s + 1; omega) _).setCell (by show s ≤ s + 1; omega) _
end Go.Proofs.Ytmckbjhmkcbjgab
