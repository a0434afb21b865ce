/- Pairs of numbers in the lists of a mixture: the program's side. -/
import Derived.Test.YtgpnlnmljeahdaaDoorDraw6
import Derived.Test.YtgpnlnmljeahdaaDoorMixI
namespace Go.Proofs.YtgpnlnmljeahdaaDoor
open Go.ChangeShapes Go.WideShapes Go.ChangeAt Go.RowKit Go.Deep
set_option linter.unusedVariables false
set_option maxHeartbeats 1600000 in
set_option maxRecDepth 100000 in
theorem PairWeight_any (ad : Option Addr) (cap : Nat) (us : List Int) (bd : Option Addr) (bcap : Nat) (zss : List (List Int)) (i a j b : Int) (w : World) (hz : Ints w ad us) (hzz : Intss w bd zss) (hi0 : In64 i) (ha0 : In64 a) (hj0 : In64 j) (hb0 : In64 b) (hp : Pows w) :
    Calls Tryd.prog 29 #[mixV ad us.length cap bd zss.length bcap, .int .i64 i, .int .i64 a, .int .i64 j, .int .i64 b] w fun e w' => e = .returned (.tuple #[.int .i64 (pairV us zss i a j b), .bool (pairB us zss i j)]) ∧ Keep w w' := by
  have hbl : Keep w (w.alloc (.cells #[.slice ad us.length cap, .slice bd zss.length bcap] 31)) := by go_grown
  have B0 : BoxM (w.alloc (.cells #[.slice ad us.length cap, .slice bd zss.length bcap] 31)) w.heap.size ad us.length cap bd zss.length bcap := ⟨by simp, by simp, by simp⟩
  have HI := Lib.hid (ValidMixture_any ad cap us bd bcap zss _ (hz.keep hbl (Nat.le_refl _)) (hzz.keep hbl (Nat.le_refl _)) (hp.keep hbl))
  have HBX := Lib.hid B0; have HBL := Lib.hid hbl
  have hlu := hz.small
  have hlz := hzz.small
  clear B0 hbl hp
  cases h1 : mixB us zss
  · have hb2 : pairB us zss i j = false := by unfold pairB; rw [h1]; rfl
    rw [hb2, show pairV us zss i a j b = 0 from by unfold pairV; rw [hb2]; rfl]
    rw [h1] at HI
    go_enter Tryd.func29, Tryd.ntmps29
    go_wp2_with fail
    refine HI.out.mono ?_
    rintro e w1 ⟨rfl, k1⟩
    have g1 := Lib.hid (HBL.out.next k1)
    go_wp2
    go_ret2
    exact ⟨rfl, g1.out⟩
  rw [h1] at HI
  have hs := mix_size h1
  have HR := Lib.hid (fun k hk => mix_row h1 (k := k) hk)
  have HPB := Lib.hid (pairT_bd h1)
  have h64 : zss.length ≤ 64 := hs.1.2
  have h11 : 1 ≤ zss.length := hs.1.1
  have h40 : (zss.getD 0 []).length ≤ 40 := hs.2.2.1
  have HL := Lib.hid hs.2.1
  have HBo : Hid (pairB us zss i j = (inB i 0 (((zss.getD 0 []).length : Int) - 1) && inB j 0 (((zss.getD 0 []).length : Int) - 1))) := Lib.hid (by unfold pairB; rw [h1, Bool.true_and])
  have HVV : Hid (∀ x, pairB us zss i j = x → pairV us zss i a j b = if x then pairT us zss i a j b zss.length else 0) := Lib.hid (fun x hx => by unfold pairV; rw [hx])
  have HZZ := Lib.hid hzz
  rcases hzz.at_ with h | ⟨bl, off, rfl, hbl, hc⟩
  · subst h; simp at h11
  obtain ⟨p0, d0, hc0, hd0, hi0⟩ := hc 0 (by omega)
  rw [Nat.add_zero] at hc0
  have HC := Lib.hid hc
  clear hc hi0 h1 hs hzz
  obtain ⟨m, hm⟩ : ∃ m, m = (zss.getD 0 []).length := ⟨_, rfl⟩
  rw [← hm] at hc0 hd0 h40 HBo
  have HRL : Hid (∀ k, k < zss.length → (zss.getD k []).length = m) := Lib.hid (fun k hk => by rw [hm]; exact (HR.out k hk).2.1)
  clear hm
  cases h2 : inB i 0 ((m : Int) - 1)
  · have hb2 : Hid (pairB us zss i j = false) := Lib.hid (by rw [HBo.out, h2]; rfl)
    rw [hb2.out, show pairV us zss i a j b = 0 from by rw [HVV.out false hb2.out]; rfl]
    go_enter Tryd.func29, Tryd.ntmps29
    go_wp2_with fail
    refine HI.out.mono ?_
    rintro e w1 ⟨rfl, k1⟩
    have g1 := Lib.hid (HBL.out.next k1)
    have e1 := (HBX.out.keep k1).c1
    have e2 := (g1.out.cell (p := ⟨bl, off, none⟩) (by exact hbl)).trans hc0
    go_wp2_with (go_at_call 81; refine (within_any _ _ _ _).mono ?_; rw [h2]; rintro e w' ⟨rfl, rfl⟩)
    go_ret2
    exact ⟨rfl, g1.out⟩
  have hib := inB_iff.1 h2
  obtain ⟨ii, rfl⟩ : ∃ ii : Nat, i = ii := ⟨i.toNat, by omega⟩
  cases h3 : inB j 0 ((m : Int) - 1)
  · have hb2 : Hid (pairB us zss ii j = false) := Lib.hid (by rw [HBo.out, h3]; simp)
    rw [hb2.out, show pairV us zss ii a j b = 0 from by rw [HVV.out false hb2.out]; rfl]
    go_enter Tryd.func29, Tryd.ntmps29
    go_wp2_with fail
    refine HI.out.mono ?_
    rintro e w1 ⟨rfl, k1⟩
    have g1 := Lib.hid (HBL.out.next k1)
    have e1 := (HBX.out.keep k1).c1
    have e2 := (g1.out.cell (p := ⟨bl, off, none⟩) (by exact hbl)).trans hc0
    go_wp2_with (first | (go_at_call 81; with_reducible refine (within_any (ii : Int) _ _ _).mono ?_; rw [h2]; rintro e w' ⟨rfl, rfl⟩) | (go_at_call 81; with_reducible refine (within_any j _ _ _).mono ?_; rw [h3]; rintro e w' ⟨rfl, rfl⟩))
    go_ret2
    exact ⟨rfl, g1.out⟩
  have hjb := inB_iff.1 h3
  obtain ⟨jj, rfl⟩ : ∃ jj : Nat, j = jj := ⟨j.toNat, by omega⟩
  have HB : Hid (pairB us zss ii jj = true) := Lib.hid (by rw [HBo.out, h2, h3]; rfl)
  have HV2 : Hid (pairV us zss ii a jj b = pairT us zss ii a jj b zss.length) := Lib.hid (by rw [HVV.out true HB.out]; rfl)
  rw [HB.out, HV2.out]
  have HTS := Lib.hid (pairT_succ us zss ii a jj b)
  have HTB := Lib.hid (HPB.out ii a jj b)
  have HT0 : Hid (pairT us zss ii a jj b 0 = 0) := Lib.hid rfl
  generalize hTT : pairT us zss ii a jj b = T at *
  have him : ii < m := by omega
  have hjm : jj < m := by omega
  clear hTT HVV HBo HPB HV2 HB
  go_enter Tryd.func29, Tryd.ntmps29
  go_wp2_with fail
  refine HI.out.mono ?_
  rintro e w1 ⟨rfl, k1⟩
  have HB1 := Lib.hid (HBX.out.keep k1)
  have g1 := Lib.hid (HBL.out.next k1)
  clear k1
  have e0 := HB1.out.c0
  have e1 := HB1.out.c1
  have e2 := (g1.out.cell (p := ⟨bl, off, none⟩) (by exact hbl)).trans hc0
  go_wp2_with (first | (go_at_call 81; with_reducible refine (within_any (ii : Int) _ _ _).mono ?_; rw [h2]; rintro e w' ⟨rfl, rfl⟩) | (go_at_call 81; with_reducible refine (within_any (jj : Int) _ _ _).mono ?_; rw [h3]; rintro e w' ⟨rfl, rfl⟩))
  go_loop [13, 14, 15, 38] (fun s _ _ i => ∃ k : Nat, k ≤ zss.length ∧ i = .int .i64 k ∧ s = .int .i64 (T k)) (fun _ _ _ i => zss.length - (intOf i).toNat)
  case atStart => exact ⟨0, Nat.zero_le _, rfl, by rw [HT0.out]⟩
  case round =>
    obtain ⟨k, hk, rfl, rfl⟩ := hrel
    have htb := HTB.out k hk
    by_cases hlt : k < zss.length
    · have hku : k < us.length := by rw [HL.out]; exact hlt
      rcases (hz.keep g1.out (Nat.le_refl _)).at_ with h | ⟨b2, off2, rfl, hb2, hc2⟩
      · rw [h] at hku; simp at hku
      have hcu := hc2 k hku
      obtain ⟨p, d, hcx, hd, hin⟩ := HC.out k hlt
      have e3 := (g1.out.cell (p := ⟨bl, off + k, none⟩) (by exact hbl)).trans hcx
      have hzl := HRL.out k hlt
      have hub := (HR.out k hlt).1
      have HTK := Lib.hid (HTS.out k)
      rw [hzl] at e3
      have hin1 := hin.keep g1.out (Nat.le_refl _)
      rcases hin1.at_ with h | ⟨b3, off3, rfl, hb3, hc3⟩
      · rw [h] at hzl; simp at hzl; omega
      have q1 := hc3 ii (by omega)
      have q2 := hc3 jj (by omega)
      have hxx : ((ii : Int)).toNat = ii := by omega
      have hyy : ((jj : Int)).toNat = jj := by omega
      rw [hxx, hyy] at HTK
      clear hc2 hc3 hcx hin hin1 hzl hxx hyy
      generalize (zss.getD k []).getD ii 0 = x at *
      generalize (zss.getD k []).getD jj 0 = y at *
      generalize us.getD k 0 = u at *
      generalize hTk : T k = S at *
      by_cases hxa : x = a
      · have hq1 : (x == a) = true := by simp [hxa]
        by_cases hyb : y = b
        · have hq2 : (y == b) = true := by simp [hyb]
          have HN : Hid (T (k + 1) = S + u) := Lib.hid (by rw [HTK.out, if_pos ⟨hxa, hyb⟩])
          clear HTK hxa hyb hTk
          go_wp2
          go_round
          case rel => exact ⟨k + 1, by omega, by go_num, by rw [HN.out]⟩
          case measure => simp [intOf]; omega
        · have hq2 : (y == b) = false := by simp [hyb]
          have HN : Hid (T (k + 1) = S) := Lib.hid (by rw [HTK.out, if_neg (fun h => hyb h.2)]; omega)
          clear HTK hxa hyb hTk
          go_wp2
          go_round
          case rel => exact ⟨k + 1, by omega, by go_num, by rw [HN.out]⟩
          case measure => simp [intOf]; omega
      · have hq1 : (x == a) = false := by simp [hxa]
        have HN : Hid (T (k + 1) = S) := Lib.hid (by rw [HTK.out, if_neg (fun h => hxa h.1)]; omega)
        clear HTK hxa hTk
        go_wp2
        go_round
        case rel => exact ⟨k + 1, by omega, by go_num, by rw [HN.out]⟩
        case measure => simp [intOf]; omega
    · have HE := Lib.hid (show k = zss.length by omega)
      go_wp2
      go_ret2
      exact ⟨by rw [← HE.out]; rfl, g1.out⟩
end Go.Proofs.YtgpnlnmljeahdaaDoor
