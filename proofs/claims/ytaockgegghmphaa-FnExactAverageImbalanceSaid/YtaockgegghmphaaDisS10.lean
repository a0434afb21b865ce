/- Discrepancies: the model's side. -/
import Derived.Test.YtaockgegghmphaaSysI
import Derived.Test.YtaockgegghmphaaCnt10
namespace Go.Proofs.Ytaockgegghmphaa
open Go.ChangeShapes Go.WideShapes Go.ChangeAt Go.RowKit Go.Deep
set_option linter.unusedVariables false
theorem gr_imb_step (zs : List Int) (p r k : Nat) (h : k < zs.length) : gr (imbL (zs.take (k + 1)) p r) = mx (gr (imbL (zs.take k) p r)) (mx (imb ((zs.getD k 0).toNat &&& p) r) (-imb ((zs.getD k 0).toNat &&& p) r)) := by
  rw [take_succ_getD zs k h]; unfold imbL gr; rw [List.map_append, List.foldl_append]; rfl
theorem and_toNat {z : Int} {p : Nat} (h0 : 0 ≤ z) (h1 : z < 4096) (hp : p < 4096) : bits .and .i64 z (p : Int) = ((z.toNat &&& p : Nat) : Int) := by
  have h := i64_andX z.toNat p (by omega) (by omega)
  rwa [show ((z.toNat : Nat) : Int) = z from by omega] at h
set_option maxHeartbeats 800000 in
theorem l10Most_any (ad : Option Addr) (cap : Nat) (zs : List Int) (p r : Nat) (w : World) (hz : Ints w ad zs) (hs : ∀ z ∈ zs, 0 ≤ z ∧ z < 4096) (hp : p < 4096) (hr : r < 4096) :
    Calls Try.prog 93 #[.slice ad zs.length cap, .int .i64 (p : Nat), .int .i64 (r : Nat)] w fun e w' => e = .returned (.int .i64 (mostS zs p r)) ∧ Keep w w' := by
  have hlen := hz.small
  have HB := Lib.hid (fun k => gr_bd 64 (by omega) (imbL (zs.take k) p r) (imbL_bd (zs.take k) p r) _ (Nat.le_refl _))
  have HN := Lib.hid (fun k h => gr_imb_step zs p r k h)
  have HM : Hid (mostS zs p r = gr (imbL (zs.take zs.length) p r)) := Lib.hid (by rw [List.take_length]; rfl)
  rw [HM.out]
  clear HM
  obtain ⟨V, hV⟩ : ∃ V, V = gr (imbL (zs.take zs.length) p r) := ⟨_, rfl⟩
  rw [← hV]
  have HV := Lib.hid hV; clear hV
  go_enter Try.func93, Try.ntmps93
  go_wp2
  go_loopw [7, 8] (fun s i wr => ∃ k : Nat, k ≤ zs.length ∧ i = .int .i64 k ∧ s = .int .i64 (gr (imbL (zs.take k) p r)) ∧ Hid (Keep w wr)) (fun _ i _ => zs.length - (intOf i).toNat)
  case atStart => exact ⟨0, Nat.zero_le _, rfl, by simp [imbL, gr], Lib.hid (Below.refl _ _)⟩
  case round =>
    obtain ⟨k, hk, rfl, rfl, HK⟩ := hrel
    by_cases hlt : k < zs.length
    · rcases (hz.keep HK.out (Nat.le_refl _)).at_ with h | ⟨b, off, rfl, hb, hc⟩
      · subst h; simp at hlt
      have hcx := hc k hlt
      have hx := hs _ (getD_mem zs k hlt)
      have hsb := HB.out k
      rw [List.take_length] at hsb
      have HS := Lib.hid (HN.out k hlt)
      have ha := and_toNat (p := p) hx.1 hx.2 hp
      have hle : (zs.getD k 0).toNat &&& p ≤ (zs.getD k 0).toNat := Nat.and_le_left
      have hxn : (zs.getD k 0).toNat < 4096 := by omega
      have hbd := imb_bd ((zs.getD k 0).toNat &&& p) r
      have HQ := Lib.hid (fun W => l10Imbalance_any ((zs.getD k 0).toNat &&& p) r W (by omega) hr)
      clear hc hle hxn
      generalize gr (imbL (zs.take k) p r) = s at *
      generalize imb ((zs.getD k 0).toNat &&& p) r = y at *
      generalize (zs.getD k 0).toNat &&& p = q at *
      generalize zs.getD k 0 = x at *
      go_wp2_with (first | (go_at_call 60; refine (HQ.out _).mono ?_; rintro e w' ⟨rfl, rfl⟩) | (go_at_call 68; refine (l00Max_any _ _ _).mono ?_; rintro e w' ⟨rfl, rfl⟩))
      go_roundw
      case rel => exact ⟨k + 1, by omega, by go_num, by rw [HS.out], HK⟩
      case measure => simp [intOf]; omega
    · have HE := Lib.hid (show k = zs.length by omega)
      go_wp2
      go_ret
      exact ⟨ret_i64 (by rw [HV.out, HE.out]), HK.out⟩
set_option maxHeartbeats 1600000 in
theorem l10Discrepancy_any (ad : Option Addr) (cap : Nat) (zs : List Int) (p : Nat) (w : World) (hz : Ints w ad zs) (hs : ∀ z ∈ zs, 0 ≤ z ∧ z < 4096) (hp : p < 4096) :
    Calls Try.prog 63 #[.slice ad zs.length cap, .int .i64 (p : Nat)] w fun e w' => e = .returned (.tuple #[.int .i64 (disV zs p).1, .int .i64 ((disV zs p).2 : Nat)]) ∧ Keep w w' := by
  have hlen := hz.small
  have HM := Lib.hid (fun r (hr : r < 4096) W (k : Keep w W) => l10Most_any ad cap zs p r W (hz.keep k (Nat.le_refl _)) hs hp hr)
  have HB := Lib.hid (bst_bd (m := p) (M := 64) (by omega) (mostS_bd zs p))
  have HMB := Lib.hid (mostS_bd zs p)
  have HSK := Lib.hid (bst_skip (mostS zs p) p)
  have HST := Lib.hid (fun t (h : partB p t = true) => show bstT (mostS zs p) p (t + 1) = (if (bstT (mostS zs p) p t).1 < 0 ∨ mostS zs p t < (bstT (mostS zs p) p t).1 then (mostS zs p t, t) else bstT (mostS zs p) p t) from by rw [bstT, h]; rfl)
  obtain ⟨V, hV⟩ : ∃ V, V = disV zs p := ⟨_, rfl⟩
  rw [← hV]
  have HV := Lib.hid (show V = bstT (mostS zs p) p (p + 1) from hV); clear hV
  have H0 : Hid (bstT (mostS zs p) p 0 = (-1, 0)) := Lib.hid rfl
  generalize bstT (mostS zs p) p = T at *
  generalize mostS zs p = c at *
  go_enter Try.func63, Try.ntmps63
  go_wp2
  go_loopw [6, 7, 8, 9] (fun b l i _ wr => ∃ t : Nat, t ≤ p + 1 ∧ i = .int .i64 t ∧ b = .int .i64 (T t).1 ∧ l = .int .i64 ((T t).2 : Nat) ∧ Hid (Keep w wr)) (fun _ _ i _ _ => p + 1 - (intOf i).toNat)
  case atStart => exact ⟨0, by omega, rfl, by rw [H0.out], by rw [H0.out]; rfl, Lib.hid (Below.refl _ _)⟩
  case round =>
    obtain ⟨t, ht, rfl, rfl, rfl, HK⟩ := hrel
    have hb := HB.out t
    by_cases hlt : t ≤ p
    · have hle : (t : Int) ≤ (p : Int) := by omega
      have ha := i64_andX t p (by omega) (by omega)
      have HS1 := Lib.hid (HSK.out t)
      have HS2 := Lib.hid (HST.out t)
      have hc := HMB.out t
      have HQ := Lib.hid (HM.out t (by omega))
      have HT : Hid (T t = ((T t).1, (T t).2)) := Lib.hid rfl
      have HZ := Lib.hid ht
      cases hp : partB p t
      · have hne : (((t &&& p : Nat) : Int) != (t : Int)) = true := by
          have : ¬ t &&& p = t := fun e => by rw [partB_iff.2 e] at hp; cases hp
          simp; omega
        have HS3 := Lib.hid (HS1.out hp)
        clear hp hc
        generalize t &&& p = q at *
        generalize (T t).1 = b0 at *
        generalize (T t).2 = l0 at *
        go_wp2
        go_roundw
        case rel => exact ⟨t + 1, by omega, by go_num, by rw [HS3.out, HT.out], by rw [HS3.out, HT.out], HK⟩
        case measure => simp [intOf]; omega
      · have hne : (((t &&& p : Nat) : Int) != (t : Int)) = false := by
          rw [partB_iff.1 hp]; simp
        have HS3 := Lib.hid (HS2.out hp)
        clear hp
        generalize t &&& p = q at *
        generalize c t = y at *
        generalize (T t).1 = b0 at *
        generalize (T t).2 = l0 at *
        by_cases h0 : b0 < 0
        · have HS4 : Hid (T (t + 1) = (y, t)) := Lib.hid (by rw [HS3.out, if_pos (.inl h0)])
          go_wp2_with (go_at_call 93; refine (HQ.out _ (HK.out.next (by go_grown))).mono ?_; rintro e w2 ⟨rfl, k2⟩)
          go_roundw
          case rel => exact ⟨t + 1, by omega, by go_num, by rw [HS4.out], by rw [HS4.out], Lib.hid (Keep.next (HK.out.next (by go_grown)) k2)⟩
          case measure => simp [intOf]; omega
        · by_cases h1 : y < b0
          · have HS4 : Hid (T (t + 1) = (y, t)) := Lib.hid (by rw [HS3.out, if_pos (.inr h1)])
            go_wp2_with (go_at_call 93; refine (HQ.out _ (HK.out.next (by go_grown))).mono ?_; rintro e w2 ⟨rfl, k2⟩)
            go_roundw
            case rel => exact ⟨t + 1, by omega, by go_num, by rw [HS4.out], by rw [HS4.out], Lib.hid (Keep.next (HK.out.next (by go_grown)) k2)⟩
            case measure => simp [intOf]; omega
          · have HS4 : Hid (T (t + 1) = (b0, l0)) := Lib.hid (by rw [HS3.out, if_neg (by omega), HT.out])
            go_wp2_with (go_at_call 93; refine (HQ.out _ (HK.out.next (by go_grown))).mono ?_; rintro e w2 ⟨rfl, k2⟩)
            go_roundw
            case rel => exact ⟨t + 1, by omega, by go_num, by rw [HS4.out], by rw [HS4.out], Lib.hid (Keep.next (HK.out.next (by go_grown)) k2)⟩
            case measure => simp [intOf]; omega
    · have hle : ¬ (t : Int) ≤ (p : Int) := by omega
      have HE := Lib.hid (show t = p + 1 by omega)
      go_wp2
      go_ret2
      exact ⟨by rw [HV.out, ← HE.out]; rfl, HK.out⟩
/-- The set of all points, as the model has it. -/
theorem l10All_any (n : Nat) (B : Nat) (w : World) (hn : n ≤ 12) (c0 : w.cell? ⟨B, 0, none⟩ = some (.int .i64 (n : Nat))) :
    Calls Try.prog 64 #[.pointer (some ⟨B, 0, none⟩)] w fun e w' => e = .returned (.int .i64 ((2 ^ n - 1 : Nat) : Int)) ∧ w = w' := by
  obtain ⟨p1, p2, p3, p4⟩ := shl12 hn
  have HW : Hid (wrap64 (wrap64 ((2 : Int) ^ n) - 1) = ((2 ^ n - 1 : Nat) : Int)) := Lib.hid (by
    rw [show ((2 : Int) ^ n) = ((2 ^ n : Nat) : Int) from by norm_cast]
    clear p1 p4
    generalize 2 ^ n = m at *
    rw [IntWalk.wrap64_in (m : Int) (by omega), IntWalk.wrap64_in _ (by omega)]; omega)
  go_enter Try.func64, Try.ntmps64
  go_wp2
  go_ret
  exact ⟨congrArg (fun z => Ending.returned (.int .i64 z)) HW.out, rfl⟩
def disR2 (g : Int) (zs : List Int) : Int × Nat := if okS g zs then disV zs (2 ^ g.toNat - 1) else (0, 0)
set_option maxHeartbeats 1600000 in
theorem specDiscrepancyOf_any (g : Int) (ad : Option Addr) (cap : Nat) (zs : List Int) (w : World) (hz : Ints w ad zs) :
    Calls Try.prog 25 #[valV g ad zs.length cap] w fun e w' => e = .returned (.tuple #[.int .i64 (disR2 g zs).1, .int .i64 ((disR2 g zs).2 : Nat), .bool (okS g zs)]) ∧ Keep w w' := by
  have hlen := hz.small
  have B0 : Box (w.alloc (.cells #[.int .i64 g, .slice ad zs.length cap] 27)) w.heap.size g ad zs.length cap := ⟨by simp, by simp, by simp⟩
  have HIS := Lib.hid (l10Is_any w.heap.size g ad cap zs _ (hz.keep (B := _) (by go_grown) (Nat.le_refl _)) B0.c0 B0.c1)
  cases h1 : okS g zs
  · rw [show disR2 g zs = (0, 0) from by unfold disR2; rw [h1]; rfl]
    rw [h1] at HIS
    go_enter Try.func25, Try.ntmps25
    go_wp2_with fail
    refine HIS.out.mono ?_
    rintro e w1 ⟨rfl, k1⟩
    have g1 : Keep w w1 := Keep.next (by go_grown) k1
    go_wp2
    go_ret3
    exact ⟨rfl, g1⟩
  obtain ⟨q0, q1, q2, q3⟩ := okS_parts h1
  have hs := okS_sets h1
  rw [h1] at HIS
  obtain ⟨n, rfl⟩ : ∃ n : Nat, g = n := ⟨g.toNat, by omega⟩
  have hn : n ≤ 12 := by omega
  obtain ⟨p1, p2, p3, p4⟩ := shl12 hn
  rw [show disR2 n zs = disV zs (2 ^ n - 1) from by unfold disR2; rw [h1, Int.toNat_natCast]; rfl]
  have HD := Lib.hid (fun W (k : Keep w W) => l10Discrepancy_any ad cap zs (2 ^ n - 1) W (hz.keep k (Nat.le_refl _)) hs (by omega))
  have HA := Lib.hid (fun W c0 => l10All_any n w.heap.size W hn c0)
  generalize disV zs (2 ^ n - 1) = D at *
  clear q3 hs p1 p4 p2 p3
  generalize 2 ^ n - 1 = m at *
  go_enter Try.func25, Try.ntmps25
  go_wp2_with fail
  refine HIS.out.mono ?_
  rintro e w1 ⟨rfl, k1⟩
  have g1 : Keep w w1 := Keep.next (by go_grown) k1
  have B1 := B0.keep k1
  have HS : Hid (∀ W, Keep w1 W → (W.cell? ⟨w.heap.size, 0, none⟩ = some (.int .i64 n) ∧ W.cell? ⟨w.heap.size, 1, none⟩ = some (.slice ad zs.length cap)) ∧ Keep w1 W) := Lib.hid (fun W k => ⟨⟨(B1.keep k).c0, (B1.keep k).c1⟩, k⟩)
  have G1 := Lib.hid g1
  obtain ⟨b0, b1, b2⟩ := B1
  clear B0 k1 g1
  go_wp2_with fail
  go_region_held3 (fun W => (W.cell? ⟨w.heap.size, 0, none⟩ = some (.int .i64 n) ∧ W.cell? ⟨w.heap.size, 1, none⟩ = some (.slice ad zs.length cap)) ∧ Keep w1 W)
    (first | exact HS.out _ (Keep.next (by go_grown) k3) | exact HS.out _ (by go_grown))
    (first | (go_at_call 64; refine (HA.out _ (HS.out _ (by go_grown)).1.1).mono ?_; rintro e w2 ⟨rfl, rfl⟩) | (go_at_call 63; refine (HD.out _ (G1.out.next (by go_grown))).mono ?_; rintro e w3 ⟨rfl, k3⟩))
  go_wp2
  go_ret3
  exact ⟨rfl, Keep.next (G1.out.next (by go_grown)) k3⟩
end Go.Proofs.Ytaockgegghmphaa
