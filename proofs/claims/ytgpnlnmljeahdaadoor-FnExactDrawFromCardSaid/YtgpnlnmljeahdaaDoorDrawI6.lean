/- Drawing from a mixture, pairs: the program's side. -/
import Derived.Test.YtgpnlnmljeahdaaDoorDraw6
import Derived.Test.YtgpnlnmljeahdaaDoorMixI
import Derived.Test.YtgpnlnmljeahdaaDoorRuns
namespace Go.Proofs.YtgpnlnmljeahdaaDoor
open Go.ChangeShapes Go.WideShapes Go.ChangeAt Go.RowKit Go.Deep
set_option linter.unusedVariables false
theorem preS_bd2 (M : Int) (hM : 0 ≤ M) (zs : List Int) (h : ∀ z ∈ zs, -M ≤ z ∧ z ≤ M) (hl : zs.length ≤ 64) : ∀ z ∈ preS zs, -(M * 64) ≤ z ∧ z ≤ M * 64 := by
  intro z hz
  unfold preS at hz
  obtain ⟨k, hk, rfl⟩ := List.mem_map.1 hz
  exact sum_take_bd M 64 hM zs h (by omega) (k + 1)
set_option maxHeartbeats 1600000 in
theorem runningSums_big (ad : Option Addr) (cap : Nat) (zs : List Int) (w : World) (hz : Ints w ad zs) (hl : zs.length ≤ 64) (hb : ∀ z ∈ zs, -2000000000000 ≤ z ∧ z ≤ 2000000000000) :
    Calls Tryd.prog 79 #[.slice ad zs.length cap] w fun e w' => ∃ rd rc, e = .returned (.slice rd (preS zs).length rc) ∧ Own w' w.heap.size rd rc (preS zs) ∧ Keep w w' := by
  have HB := Lib.hid hb; clear hb
  have hps := preS_bd2 2000000000000 (by omega) zs HB.out hl
  have HP := Lib.hid (fun z hz => (⟨by have := hps z hz; omega, by have := hps z hz; omega⟩ : In64 z)); clear hps
  have hlen := hz.small
  go_enter Tryd.func79, Tryd.ntmps79
  go_wp2_with fail
  have hbx : Go.Boxed (w.alloc (.cells #[.int .i64 0] 2)) w.heap.size 2 (.int .i64 0) := Go.Boxed.new w _ _
  have h0 : Keep w (w.alloc (.cells #[.int .i64 0] 2)) := by go_grown
  refine (mappedRun_any w.heap.size (fun k => (zs.take k).sum) (preS zs) _ (.bool true) (.bool true) ad cap zs _ (preS_len zs) (by omega) HP.out (by simpa using hbx) (fun W g => ?_) (fun k hk W g hx x e => ?_)).mono ?_
  · have h1 : Keep w W := h0.grown g (by simp) (fun k e => by cases e; exact Nat.le_refl _)
    exact hz.keep h1 (Nat.le_refl _)
  · subst e
    have hs := sum_take_bd 2000000000000 64 (by omega) zs HB.out (by omega) k
    have hx2 := HB.out _ (getD_mem zs k hk)
    have e1 := sum_take_succ zs k hk
    have e2 := preS_get zs k hk
    rw [e2]
    show Calls Tryd.prog 126 #[.int .i64 (zs.getD k 0), .pointer (some ⟨w.heap.size, 0, none⟩)] W fun e w' => e = .returned (.int .i64 (zs.take (k + 1)).sum) ∧ w' = W.setCell ⟨w.heap.size, 0, none⟩ (.int .i64 (zs.take (k + 1)).sum)
    rw [e1]
    exact clos_run _ _ _ W hx (by omega) (by omega) (by omega) (by omega)
  rintro e w1 ⟨rd, rc, rfl, o1, g1⟩
  have g2 : Keep w w1 := h0.grown g1 (by simp) (fun k e => by cases e; exact Nat.le_refl _)
  have o2 := o1.mono (B' := w.heap.size) (by simp)
  go_wp2
  go_ret
  exact ⟨rd, rc, rfl, o2, g2⟩
set_option maxHeartbeats 800000 in
set_option maxRecDepth 100000 in
theorem Clone_ints (ad : Option Addr) (cap : Nat) (zs : List Int) (w : World) (hz : Ints w ad zs) (hl : zs.length ≤ 1048576) :
    Calls Tryd.prog 80 #[.slice ad zs.length cap] w fun e w' => ∃ rd rc, e = .returned (.slice rd zs.length rc) ∧ Own w' w.heap.size rd rc zs ∧ Keep w w' := by
  cases ad with
  | none =>
    have h0 : zs = [] := by
      rcases hz.at_ with h | ⟨b, off, h, _⟩
      · exact h
      · cases h
    subst h0
    have he : ∀ (c : Nat) (w : World), (binOp .eql 24 (.slice none 0 c) (.slice none 0 0)).run Tryd.prog w = .ok (.bool true) w := fun _ _ => rfl
    go_enter Tryd.func80, Tryd.ntmps80
    go_wp2
    go_ret
    exact ⟨none, 0, rfl, Own.nil _ _, Below.refl _ _⟩
  | some a =>
    have HO := Lib.hid (Own.lit0 w)
    have HK := Lib.hid (show Keep w (w.alloc (.cells #[] 2)) by go_grown)
    have hsz : w.heap.size < (w.alloc (.cells #[] 2)).heap.size := by simp
    have HSZ := Lib.hid hsz; clear hsz
    have HZ := Lib.hid hz
    have he : ∀ (n : Nat) (w : World), (binOp .eql 24 (.slice (some a) n cap) (.slice none 0 0)).run Tryd.prog w = .ok (.bool false) w := fun _ _ => rfl
    go_enter Tryd.func80, Tryd.ntmps80
    go_wp2_with (refine list_appI (by rfl) _ _ (by rfl) w.heap.size w.heap.size 0 0 [] (by rfl) HO.out rfl ⟨Nat.le_refl _, HSZ.out, Nat.le_refl _⟩ zs (some a) zs.length cap (by rfl) rfl w HZ.out HK.out hl (by simp) (Nat.le_of_lt HSZ.out) ?_; intro gb cap2 w2 hown2 hgr2 hBg hlt2)
    go_ret
    exact ⟨some ⟨gb, 0, none⟩, cap2, by simp, by simpa using hown2, HK.out.grown hgr2 (Nat.le_of_lt HSZ.out) (fun k h => by cases h; exact Nat.le_refl _)⟩
set_option maxHeartbeats 1600000 in
set_option maxRecDepth 100000 in
theorem DrawFrom_any (ad : Option Addr) (cap : Nat) (us : List Int) (bd : Option Addr) (bcap : Nat) (zss : List (List Int)) (n : Int) (w : World) (hz : Ints w ad us) (hzz : Intss w bd zss) (hn : In64 n) (hp : Pows w) :
    Calls Tryd.prog 27 #[mixV ad us.length cap bd zss.length bcap, .int .i64 n] w fun e w' => ∃ rd rc, e = .returned (.tuple #[.slice rd (drawV us zss n).length rc, .bool (drawB us zss n)]) ∧ Own w' w.heap.size rd rc (drawV us zss n) ∧ Keep w w' := by
  have hbl : Keep w (w.alloc (.cells #[.slice ad us.length cap, .slice bd zss.length bcap] 31)) := by go_grown
  have B0 : BoxM (w.alloc (.cells #[.slice ad us.length cap, .slice bd zss.length bcap] 31)) w.heap.size ad us.length cap bd zss.length bcap := ⟨by simp, by simp, by simp⟩
  have HI := Lib.hid (ValidMixture_any ad cap us bd bcap zss _ (hz.keep hbl (Nat.le_refl _)) (hzz.keep hbl (Nat.le_refl _)) (hp.keep hbl))
  have HBX := Lib.hid B0; have HBL := Lib.hid hbl
  have hlu := hz.small
  have hlz := hzz.small
  clear B0 hbl
  cases h1 : mixB us zss
  · have hb : drawB us zss n = false := by unfold drawB; rw [h1]; rfl
    rw [hb, show drawV us zss n = [] from by unfold drawV; rw [hb]; rfl]
    rw [h1] at HI
    go_enter Tryd.func27, Tryd.ntmps27
    go_wp2_with fail
    refine HI.out.mono ?_
    rintro e w1 ⟨rfl, k1⟩
    have g1 := Lib.hid (HBL.out.next k1)
    go_wp2
    go_ret2
    exact ⟨none, 0, rfl, Own.nil _ _, g1.out⟩
  rw [h1] at HI
  by_cases h0 : 0 ≤ n
  case neg =>
    have hb : drawB us zss n = false := by unfold drawB; rw [decide_eq_false h0]; simp
    rw [hb, show drawV us zss n = [] from by unfold drawV; rw [hb]; rfl]
    have hlt : n < 0 := by omega
    go_enter Tryd.func27, Tryd.ntmps27
    go_wp2_with fail
    refine HI.out.mono ?_
    rintro e w1 ⟨rfl, k1⟩
    have g1 := Lib.hid (HBL.out.next k1)
    go_wp2
    go_ret2
    exact ⟨none, 0, rfl, Own.nil _ _, g1.out⟩
  have hnl : ¬ n < 0 := by omega
  have hs := mix_size h1
  have HR := Lib.hid (fun k hk => mix_row h1 (k := k) hk)
  have HL := Lib.hid hs.2.1
  have HRS := Lib.hid (fun W (k : Keep w W) => runningSums_big ad cap us W (hz.keep k (Nat.le_refl _)) (by have := hs.1.2; have := hs.2.1; omega) (fun z hz => by
    obtain ⟨j, hj, rfl⟩ := List.getElem_of_mem hz
    have := (HR.out j (by rw [← HL.out]; exact hj)).1
    rw [getD_get us j hj] at this
    omega))
  have HSB := Lib.hid (fun k hk => take_sum_bd us zss.length (fun j hj => (HR.out j hj).1) k hk (by rw [HL.out]; exact Nat.le_refl _))
  have HPG := Lib.hid (fun k h => preS_get us k h)
  have HPL := Lib.hid (preS_len us)
  have HY := Lib.hid (fun k (hk : k < us.length) h => drawB_yes (n := n) h1 h0 hk h)
  have HN := Lib.hid (drawB_no (n := n) h1)
  have HAT := Lib.hid (fun k (hk : k < us.length) h ho => drawI_at (n := n) hk h ho)
  have HV : Hid (∀ b, drawB us zss n = b → drawV us zss n = if b then zss.getD (drawI us n) [] else []) := Lib.hid (fun b hb => by unfold drawV; rw [hb])
  have h64 : zss.length ≤ 64 := hs.1.2
  have h40 : (zss.getD 0 []).length ≤ 40 := hs.2.2.1
  have hn1 := hn.1; have hn2 := hn.2
  clear hs h1
  generalize drawV us zss n = V at *
  generalize drawB us zss n = Bo at *
  generalize drawI us n = I at *
  go_enter Tryd.func27, Tryd.ntmps27
  go_wp2_with fail
  refine HI.out.mono ?_
  rintro e w1 ⟨rfl, k1⟩
  have HB1 := Lib.hid (HBX.out.keep k1)
  have HK1 := Lib.hid (HBL.out.next k1)
  clear k1
  obtain ⟨e0, e1, _⟩ := HB1.out
  go_wp2_with fail
  refine (HRS.out w1 HK1.out).mono ?_
  rintro e w2 ⟨sd, sc, rfl, o2, k2⟩
  have I2 := o2.ints
  have HB2 := Lib.hid (HB1.out.keep k2)
  have HK2 := Lib.hid (HK1.out.next k2)
  clear o2 k2 e0 e1
  obtain ⟨e0, e1, _⟩ := HB2.out
  have hzz2 := hzz.keep HK2.out (Nat.le_refl _)
  have hpl := HPL.out
  generalize preS us = S at *
  have hls := I2.small
  rw [hpl] at hls
  have HIS := Lib.hid I2
  clear I2
  go_wp2
  go_loop [6, 7, 19] (fun _ _ i => ∃ k : Nat, k ≤ S.length ∧ i = .int .i64 k ∧ Hid (∀ j, j < k → (us.take (j + 1)).sum ≤ n)) (fun _ _ i => S.length - (intOf i).toNat)
  case atStart => exact ⟨0, Nat.zero_le _, rfl, Lib.hid (fun j h => by omega)⟩
  case round =>
    obtain ⟨k, hk, rfl, HO⟩ := hrel
    by_cases hlt0 : k < S.length
    · have hku : k < us.length := by rw [← HPL.out]; exact hlt0
      have hlt : k < zss.length := by rw [← HL.out]; exact hku
      have hsb := HSB.out (k + 1) (by omega)
      rcases HIS.out.at_ with h | ⟨b2, off2, rfl, hb2, hc2⟩
      · rw [h] at hlt0; simp at hlt0
      rcases hzz2.at_ with h | ⟨b, off, rfl, hb, hc⟩
      · rw [h] at hlt; simp at hlt
      have hcu := hc2 k hlt0
      obtain ⟨p, d, hcx, hd, hi⟩ := hc k hlt
      have HYk := Lib.hid (HY.out k hku); have HATk := Lib.hid (HAT.out k hku)
      have HOW := Lib.hid (Clone_ints p d (zss.getD k []) w2 hi)
      have HLEN : Hid ((zss.getD k []).length ≤ 1048576) := Lib.hid (by have := (HR.out k hlt).2.1; omega)
      have HZK : Hid (I = k → zss.getD I [] = zss.getD k []) := Lib.hid (fun h => by rw [h])
      rw [HPG.out k hku] at hcu
      clear hc hc2 hi
      generalize hTe : (us.take (k + 1)).sum = T at *
      have HTE := Lib.hid hTe; clear hTe
      generalize zss.getD k [] = zk at *
      by_cases hlt2 : n < T
      · have hB := HYk.out hlt2
        have hI := HATk.out hlt2 HO.out
        have HVV : Hid (V = zk ∧ Bo = true) := Lib.hid ⟨by rw [HV.out true hB]; exact HZK.out hI, hB⟩
        clear hB hI
        go_wp2_with fail
        refine (HOW.out HLEN.out).mono ?_
        rintro e w3 ⟨rd, rc, rfl, o3, k3⟩
        have O3 := Lib.hid (o3.mono (B' := w.heap.size) HK2.out.size)
        have K3 := Lib.hid (HK2.out.next k3)
        clear o3 k3
        go_wp2
        go_ret2
        exact ⟨rd, rc, by rw [HVV.out.1, HVV.out.2]; rfl, by rw [HVV.out.1]; exact O3.out, K3.out⟩
      · go_wp2
        go_round
        case rel => exact ⟨k + 1, by omega, by go_num, Lib.hid (fun j hj => by
          by_cases e : j = k
          · rw [e, HTE.out]; omega
          · exact HO.out j (by omega))⟩
        case measure => simp [intOf]; omega
    · have HB : Hid (Bo = false) := Lib.hid (HN.out (fun j hj => HO.out j (by have := HPL.out; omega)))
      have HVV : Hid (V = []) := Lib.hid (by rw [HV.out false HB.out]; rfl)
      go_wp2
      go_ret2
      exact ⟨none, 0, by rw [HVV.out, HB.out]; rfl, by rw [HVV.out]; exact Own.nil _ _, HK2.out⟩
end Go.Proofs.YtgpnlnmljeahdaaDoor
