/- Doubly even rows: what they are; the model's look at them. -/
import Derived.Test.YtgpnlnmljeahdabMix6
import Derived.Test.YtgpnlnmljeahdabSums
import Derived.Test.YtgpnlnmljeahdabSum5
namespace Go.Proofs.Ytgpnlnmljeahdab
open Go.ChangeShapes Go.WideShapes Go.ChangeAt Go.RowKit Go.Deep
set_option linter.unusedVariables false
def shB (z : List Int) : Bool := z.all fun x => inB x 0 1000
def dblRow (n : Nat) (z : List Int) : Bool := decide (z.length = n) && shB z
def dblCol (n : Nat) (zss : List (List Int)) (k : Nat) : Bool := decide ((zss.getD k []).sum = (downL n zss).getD 0 0) && decide ((downL n zss).getD k 0 = (downL n zss).getD 0 0)
/-- Doubly even rows: as many rows as columns, the same sum in each row and in each column, at least 1. -/
def dblB (zss : List (List Int)) : Bool :=
  inB (zss.length : Int) 1 6 && ((List.range zss.length).all (fun k => dblRow zss.length (zss.getD k [])) &&
    ((List.range zss.length).all (dblCol zss.length zss) && decide (0 < (downL zss.length zss).getD 0 0)))
theorem colS_bd6 (zss : List (List Int)) (n k t : Nat) (hk : k ≤ zss.length) (h : (List.range k).all (fun k => dblRow n (zss.getD k [])) = true) : 0 ≤ colS zss k t ∧ colS zss k t ≤ 1000 * (k : Int) := by
  induction k with
  | zero => simp [colS]
  | succ k ih =>
    rw [range_all_succ, Bool.and_eq_true] at h
    have h1 := ih (by omega) h.1
    rw [colS_succ zss k t (by omega)]
    have h2 : 0 ≤ (zss.getD k []).getD t 0 ∧ (zss.getD k []).getD t 0 ≤ 1000 := by
      by_cases q : t < (zss.getD k []).length
      · have := h.2
        unfold dblRow shB at this
        simp only [Bool.and_eq_true, decide_eq_true_eq, List.all_eq_true] at this
        exact inB_iff.1 (this.2 _ (getD_mem _ t q))
      · rw [List.getD_eq_getElem?_getD, List.getElem?_eq_none (by omega)]; simp
    omega
theorem dbl_row {n k : Nat} {zss : List (List Int)} {K : Nat} (h : (List.range K).all (fun k => dblRow n (zss.getD k [])) = true) (hk : k < K) : (zss.getD k []).length = n ∧ ∀ x ∈ zss.getD k [], 0 ≤ x ∧ x ≤ 1000 := by
  have := range_all_get h hk
  unfold dblRow shB at this
  simp only [Bool.and_eq_true, decide_eq_true_eq, List.all_eq_true] at this
  exact ⟨this.1, fun x hx => inB_iff.1 (this.2 x hx)⟩
set_option maxHeartbeats 3200000 in
set_option maxRecDepth 100000 in
theorem l06Doubly_any (ad : Option Addr) (cap : Nat) (zss : List (List Int)) (w : World) (hz : Intss w ad zss) :
    Calls Try.prog 17 #[.slice ad zss.length cap] w fun e w' => e = .returned (.bool (dblB zss)) ∧ Keep w w' := by
  have hlen := hz.small
  cases h1 : inB (zss.length : Int) 1 6
  · rw [show dblB zss = false from by unfold dblB; rw [h1]; rfl]
    go_enter Try.func17, Try.ntmps17
    go_wp2_with (go_at_call 39; refine (l00In_any _ _ _ _).mono ?_; rw [h1]; rintro e w' ⟨rfl, rfl⟩)
    go_ret
    exact ⟨rfl, Below.refl _ _⟩
  have hn := inB_iff.1 h1
  rcases hz.at_ with h | ⟨b, off, rfl, hb, hc⟩
  · subst h; simp at hn
  have HC := Lib.hid hc; clear hc
  obtain ⟨V, hV⟩ : ∃ V, V = ((List.range zss.length).all (fun k => dblRow zss.length (zss.getD k [])) && ((List.range zss.length).all (dblCol zss.length zss) && decide (0 < (downL zss.length zss).getD 0 0))) := ⟨_, rfl⟩
  rw [show dblB zss = V from by rw [hV]; unfold dblB; rw [h1, Bool.true_and]]
  have HV := Lib.hid hV; clear hV
  obtain ⟨n, hnn⟩ : ∃ n, n = zss.length := ⟨_, rfl⟩
  rw [← hnn] at HV
  have HN := Lib.hid hnn
  have hn6 : n ≤ 6 := by omega
  have hn1 : 1 ≤ n := by omega
  obtain ⟨i0, hi, hz0, hz1, hz2⟩ := info_parts Try.infoI
  have hb8 : i0.bytes * n ≤ 281474976710656 := by rw [hz2]; omega
  have hml : n ≤ maxLen := by unfold maxLen; omega
  go_enter Try.func17, Try.ntmps17
  rw [← hnn] at h1 hlen ⊢
  clear hnn
  go_wp2_with (first | (go_at_call 39; refine (l00In_any _ _ _ _).mono ?_; rw [h1]; rintro e w' ⟨rfl, rfl⟩) | (at_make; refine wpList_make_full w rfl _ _ 27 rfl w.heap.size 2 i0 (.int .i64 0) 1 Try.underlying27 hi hz0 hz1 .i64 .i64 _ _ n rfl rfl rfl rfl hb8 hml (Nat.le_refl _) ?_))
  intro w0 hown0 hgrow0
  have hown0 : w0.ownsRow w.heap.size 2 1 (.slice (some ⟨w.heap.size, 0, none⟩) n n) n (List.replicate n (.int .i64 0)) := by simpa [Value.cells, toList_madeCells_one] using hown0
  have hk0 : Keep w w0 := (Below.refl _ _).grown hgrow0 (Nat.le_refl _) (fun k h => by cases h)
  clear hgrow0
  obtain ⟨B, hB⟩ : ∃ B, B = w.heap.size := ⟨_, rfl⟩
  rw [← hB] at hown0 ⊢
  have HBe := Lib.hid hB; clear hB
  have HO0 : Hid (Own w0 B (some ⟨B, 0, none⟩) n (downT n zss 0)) := Lib.hid ⟨by
      rw [downT_len]
      have : vals (downT n zss 0) = List.replicate n (.int .i64 0) := by
        unfold vals downT
        rw [List.map_map, List.eq_replicate_iff]
        refine ⟨by simp, fun v hv => ?_⟩
        obtain ⟨t, _, rfl⟩ := List.mem_map.1 hv
        simp [colS]
      rw [this]; exact hown0, by rw [downT_len]; omega, fun z hz => by
      unfold downT at hz
      obtain ⟨t, _, rfl⟩ := List.mem_map.1 hz
      simp [colS, In64]⟩
  have HK0 : Hid (Below B w w0) := Lib.hid (by rw [HBe.out]; exact hk0)
  clear hown0 hk0
  go_wp2
  go_loopg [5, 6] n (fun kk i _ wr => ∃ k : Nat, k ≤ n ∧ kk = n - k ∧ i = .int .i64 k ∧ Hid ((List.range k).all (fun k => dblRow n (zss.getD k [])) = true) ∧ Hid (Own wr B (some ⟨B, 0, none⟩) n (downT n zss k)) ∧ Hid (Below B w wr))
  case atStart => exact ⟨0, Nat.zero_le _, rfl, rfl, Lib.hid (by simp), HO0, HK0⟩
  case round =>
    obtain ⟨k, hk, rfl, rfl, HA, HO, HK⟩ := hrel
    obtain ⟨wo, rfl⟩ : ∃ x, x = wr := ⟨wr, rfl⟩
    by_cases hlt : k < n
    · have hlz : k < zss.length := by have := HN.out; omega
      obtain ⟨p, d, hcx, hd, hi⟩ := HC.out k hlz
      have hb' : b < B := by rw [HBe.out]; exact hb
      have e1 := (HK.out.cell (p := ⟨b, off + k, none⟩) (by exact hb')).trans hcx
      have hsm := hi.small
      have HI := Lib.hid hi; have HX := Lib.hid hcx
      have HS := Lib.hid (range_all_succ (fun k => dblRow n (zss.getD k [])) k)
      have HF := Lib.hid (fun h => range_all_no (p := fun k => dblRow n (zss.getD k [])) hlt h)
      clear hi hcx
      by_cases hl : (zss.getD k []).length = n
      case neg =>
        have HNO : Hid (V = false) := Lib.hid (by rw [HV.out, HF.out (by unfold dblRow; rw [decide_eq_false hl]; rfl)]; rfl)
        generalize zss.getD k [] = zk at *
        have hne : ((zk.length : Int) != (n : Int)) = true := by simp; omega
        have g1 : Hid (Keep w wo) := Lib.hid (by have h := HK.out; rw [HBe.out] at h; exact h)
        go_wp2
        go_ret
        exact ⟨ret_bool HNO.out.symm, g1.out⟩
      have hne : (((zss.getD k []).length : Int) != (n : Int)) = false := by rw [hl]; simp
      have HLK := Lib.hid hl
      rw [hl] at e1 hne hd hsm
      rw [hl] at HX
      clear hl
      go_wp2
      go_loopg [6] n (fun kk j wi => ∃ t : Nat, t ≤ n ∧ kk = n - t ∧ j = .int .i64 t ∧ Hid (shB ((zss.getD k []).take t) = true) ∧ Hid (Own wi B (some ⟨B, 0, none⟩) n (mixD n zss k t)) ∧ Hid (Below B w wi))
      case atStart => exact ⟨0, Nat.zero_le _, rfl, rfl, Lib.hid (by simp [shB]), Lib.hid (by rw [mixD_zero]; exact HO.out), HK⟩
      case round =>
        obtain ⟨t, ht, rfl, rfl, HA2, HO2, HK2⟩ := hrel
        have q1 := (HK2.out.cell (p := ⟨b, off + k, none⟩) (by exact hb')).trans HX.out
        by_cases htm : t < n
        · have htz : t < (zss.getD k []).length := by rw [HLK.out]; exact htm
          rcases HI.out.at_ with h | ⟨b2, off2, rfl, hb2, hc2⟩
          · rw [h] at htz; simp at htz
          have hb2' : b2 < B := by rw [HBe.out]; exact hb2
          have q2 := (HK2.out.cell (p := ⟨b2, off2 + t, none⟩) (by exact hb2')).trans (hc2 t htz)
          have HS2 := Lib.hid (all_take_succ (fun x => inB x 0 1000) (zss.getD k []) t 0 htz)
          have HF2 := Lib.hid (fun h => all_no (p := fun x => inB x 0 1000) (0 : Int) htz h)
          have hcb := colS_bd6 zss n k t (by omega) HA.out
          have HSE := Lib.hid (mixD_set n zss k t htm hlz)
          have q3 : wr.cell? ⟨B, t, none⟩ = some (.int .i64 (colS zss k t)) := by
            have e := mixD_get n zss k t htm
            have hm2 : t < (mixD n zss k t).length := by rw [mixD_len]; exact htm
            rw [getD_get _ t hm2] at e
            rw [HO2.out.1.cellAt t (by rw [mixD_len]; omega)]
            simp only [vals, List.getElem?_map, List.getElem?_eq_getElem hm2, Option.map_some, e]
          have q4 : wr.frozen? ⟨B, t, none⟩ = false := HO2.out.1.frozenAt t
          clear hc2
          generalize (zss.getD k []).getD t 0 = x at *
          generalize colS zss k t = c at *
          cases hin : inB x 0 1000
          · have HNO : Hid (V = false) := Lib.hid (by rw [HV.out, HF.out (by unfold dblRow shB; rw [HF2.out hin]; simp)]; rfl)
            have g1 : Hid (Keep w wr) := Lib.hid (by have h := HK2.out; rw [HBe.out] at h; exact h)
            go_wp2_with (go_at_call 39; refine (l00In_any _ _ _ _).mono ?_; rw [hin]; rintro e w' ⟨rfl, rfl⟩)
            go_ret
            exact ⟨ret_bool HNO.out.symm, g1.out⟩
          · have hxb := inB_iff.1 hin
            have hsm2 : -1002000000 ≤ c + x ∧ c + x ≤ 1002000000 := by omega
            have hneb : b ≠ B ∧ b2 ≠ B := ⟨by omega, by omega⟩
            go_wp2_with (go_at_call 39; refine (l00In_any _ _ _ _).mono ?_; rw [hin]; rintro e w' ⟨rfl, rfl⟩)
            go_region
            go_wp2
            go_roundg (n - (t + 1))
            case measure => omega
            case rel =>
              refine ⟨t + 1, by omega, by omega, by go_num, Lib.hid (by have h := HA2.out; unfold shB at h ⊢; rw [HS2.out, h, hin]; rfl), Lib.hid ?_, Lib.hid ?_⟩
              · obtain ⟨s1, s2⟩ := HO2.out.1.stored t (.int .i64 (c + x))
                rw [← HSE.out]
                refine ⟨World.ownsRow.drew ?_, by simpa using HO2.out.2.1, fun y hy => ?_⟩
                · rw [List.length_set]; unfold vals; rw [List.map_set]; exact s1
                · rcases List.mem_or_eq_of_mem_set hy with hy | rfl
                  · exact HO2.out.2.2 y hy
                  · exact ⟨by omega, by omega⟩
              · exact below_drewN (HK2.out.setCell (Nat.le_refl _) _) 1
        · have HE := Lib.hid (show t = n by omega)
          have HSH : Hid (shB (zss.getD k []) = true) := Lib.hid (by have h := HA2.out; rw [show t = (zss.getD k []).length by rw [HLK.out]; omega, List.take_length] at h; exact h)
          go_wp2
          go_roundg (n - (k + 1))
          case measure => omega
          case rel => exact ⟨k + 1, by omega, rfl, by go_num, Lib.hid (by rw [HS.out, HA.out]; unfold dblRow; rw [decide_eq_true HLK.out, HSH.out]; rfl), Lib.hid (by have h := HO2.out; rw [HE.out, mixD_all] at h; exact h), HK2⟩
    · have HE := Lib.hid (show k = n by omega)
      have HAN : Hid ((List.range n).all (fun k => dblRow n (zss.getD k [])) = true) := Lib.hid (by have h := HA.out; rw [HE.out] at h; exact h)
      have HON : Hid (Own wo B (some ⟨B, 0, none⟩) n (downL n zss)) := Lib.hid (by have h := HO.out; rw [HE.out, HN.out] at h; rw [HN.out]; exact h)
      have HVN : Hid (V = ((List.range n).all (dblCol n zss) && decide (0 < (downL n zss).getD 0 0))) := Lib.hid (by rw [HV.out, HAN.out, Bool.true_and])
      have HDL : Hid ((downL n zss).length = n) := Lib.hid (by unfold downL; rw [downT_len])
      have g1 : Hid (Keep w wo) := Lib.hid (by have h := HK.out; rw [HBe.out] at h; exact h)
      clear HA HO HV
      have HCE : Hid (∀ k, dblCol n zss k = (decide ((zss.getD k []).sum = (downL n zss).getD 0 0) && decide ((downL n zss).getD k 0 = (downL n zss).getD 0 0))) := Lib.hid (fun k => rfl)
      generalize downL n zss = D at *
      go_wp2
      go_loopg [7] n (fun kk i wj => ∃ k : Nat, k ≤ n ∧ kk = n - k ∧ i = .int .i64 k ∧ Hid ((List.range k).all (dblCol n zss) = true) ∧ Hid (Keep wo wj))
      case atStart => exact ⟨0, Nat.zero_le _, rfl, rfl, Lib.hid (by simp), Lib.hid (Below.refl _ _)⟩
      case round =>
        obtain ⟨k, hk, rfl, rfl, HA, HK3⟩ := hrel
        obtain ⟨wq, rfl⟩ : ∃ x, x = wr := ⟨wr, rfl⟩
        have KW := Lib.hid (g1.out.next HK3.out)
        have hD := HON.out.keep HK3.out
        have hc0 : wq.cell? ⟨B, 0, none⟩ = some (.int .i64 (D.getD 0 0)) := by rw [hD.1.cellAt 0 (by rw [HDL.out]; omega)]; simp [vals, List.getD_eq_getElem?_getD, show 0 < D.length from by rw [HDL.out]; omega]
        by_cases hlt : k < n
        · have hlz : k < zss.length := by have := HN.out; omega
          have hck : wq.cell? ⟨B, k, none⟩ = some (.int .i64 (D.getD k 0)) := by rw [hD.1.cellAt k (by rw [HDL.out]; omega)]; simp [vals, List.getD_eq_getElem?_getD, show k < D.length from by rw [HDL.out]; omega]
          obtain ⟨p, d, hcx, hd, hi⟩ := HC.out k hlz
          have e1 := (KW.out.cell (p := ⟨b, off + k, none⟩) (by exact hb)).trans hcx
          have hrw := dbl_row HAN.out hlt
          have HSM := Lib.hid (fun W (kk : Keep w W) => l01Sum_any p d (zss.getD k []) W (hi.keep kk (Nat.le_refl _)) (fun z hz => by have := hrw.2 z hz; omega) (by rw [hrw.1]; omega))
          have HS := Lib.hid (range_all_succ (dblCol n zss) k)
          have HF := Lib.hid (fun h => range_all_no (p := dblCol n zss) hlt h)
          have HCO : Hid (dblCol n zss k = (decide ((zss.getD k []).sum = D.getD 0 0) && decide (D.getD k 0 = D.getD 0 0))) := Lib.hid (HCE.out k)
          have hsm := hi.small
          have HQ := Lib.hid (fun m => HSM.out (wq.drewN m) (below_drewN KW.out m))
          clear hrw hi hcx HSM hD
          generalize D.getD 0 0 = d0 at *
          generalize D.getD k 0 = dk at *
          generalize zss.getD k [] = zk at *
          generalize zk.sum = sk at *
          by_cases q1 : sk = d0
          · have b1 : (sk != d0) = false := by simp [q1]
            by_cases q2 : dk = d0
            · have b2 : (dk != d0) = false := by simp [q2]
              have HY : Hid (dblCol n zss k = true) := Lib.hid (by rw [HCO.out, decide_eq_true q1, decide_eq_true q2]; rfl)
              clear q1 q2 HCO
              go_wp2
              go_quiet ((go_at_call 40; exact Calls.quiet_of_same ((HQ.out _).mono fun _ _ h => ⟨h.1, h.2.symm⟩)))
              go_wp2
              go_roundg (n - (k + 1))
              case measure => omega
              case rel => exact ⟨k + 1, by omega, by omega, by go_num, Lib.hid (by rw [HS.out, HA.out, HY.out]; rfl), Lib.hid (below_drewN HK3.out _)⟩
            · have b2 : (dk != d0) = true := by simp [q2]
              have HNO : Hid (V = false) := Lib.hid (by rw [HVN.out, HF.out (by rw [HCO.out, decide_eq_false q2]; simp)]; rfl)
              clear q1 q2 HCO
              go_wp2
              go_quiet ((go_at_call 40; exact Calls.quiet_of_same ((HQ.out _).mono fun _ _ h => ⟨h.1, h.2.symm⟩)))
              go_wp2
              go_ret
              exact ⟨ret_bool HNO.out.symm, below_drewN KW.out _⟩
          · have b1 : (sk != d0) = true := by simp [q1]
            have HNO : Hid (V = false) := Lib.hid (by rw [HVN.out, HF.out (by rw [HCO.out, decide_eq_false q1]; rfl)]; rfl)
            clear q1 HCO
            go_wp2
            go_quiet ((go_at_call 40; exact Calls.quiet_of_same ((HQ.out _).mono fun _ _ h => ⟨h.1, h.2.symm⟩)))
            go_wp2
            go_ret
            exact ⟨ret_bool HNO.out.symm, below_drewN KW.out _⟩
        · have HAL : Hid (V = decide (0 < D.getD 0 0)) := Lib.hid (by
            have h := HA.out
            rw [show k = n by omega] at h
            rw [HVN.out, h, Bool.true_and])
          go_wp2
          go_ret
          exact ⟨ret_bool HAL.out.symm, KW.out⟩
theorem specIsDoubly_any (ad : Option Addr) (cap : Nat) (zss : List (List Int)) (w : World) (hz : Intss w ad zss) :
    Calls Try.prog 6 #[.slice ad zss.length cap] w fun e w' => e = .returned (.bool (dblB zss)) ∧ Keep w w' := by
  go_enter Try.func6, Try.ntmps6
  go_wp2_with fail
  refine (l06Doubly_any ad cap zss w hz).mono ?_
  rintro e w1 ⟨rfl, k1⟩
  go_wp2
  go_ret
  exact ⟨rfl, k1⟩
end Go.Proofs.Ytgpnlnmljeahdab
