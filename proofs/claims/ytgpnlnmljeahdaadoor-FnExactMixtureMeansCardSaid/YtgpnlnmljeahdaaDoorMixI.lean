/- Mixtures: the program's look at one: the weights, the lists' lengths and limits, and that they are all different (their texts are the keys of a map). -/
import Derived.Test.YtgpnlnmljeahdaaDoorSet6
import Derived.Maps.OwnOps
import Derived.Maps.OwnSet
import Derived.Maps.Keyed
namespace Go.Proofs.YtgpnlnmljeahdaaDoor
open Go.ChangeShapes Go.WideShapes Go.ChangeAt Go.RowKit Go.Deep Go.Maps Go.WideMaps
set_option linter.unusedVariables false
theorem lawS : Keyed Tryd.prog 9 := string_keyed Tryd.underlying9
theorem txt_small {zs : List Int} (h : ∀ z ∈ zs, In64 z) (hl : zs.length ≤ 40) : (bstr (txt zs)).size ≤ maxLen := by
  have h1 := txt_len zs h
  show (txt zs).toArray.size ≤ maxLen
  unfold txt maxLen
  split <;> simp <;> omega
set_option maxHeartbeats 400000 in
theorem areWeights_any (ad : Option Addr) (cap : Nat) (us : List Int) (w : World) (hz : Ints w ad us) :
    Calls Tryd.prog 69 #[.slice ad us.length cap] w fun e w' => e = .returned (.bool (weB us)) ∧ w = w' := by
  have hlu := hz.small
  cases h1 : inB (us.length : Int) 1 64
  · rw [show weB us = false from by unfold weB; rw [h1]; rfl]
    have hn := inB_not.1 h1
    by_cases h0 : (us.length : Int) < 1
    · go_enter Tryd.func69, Tryd.ntmps69
      go_wp2
      go_ret
      exact ⟨rfl, rfl⟩
    · have h2 : 64 < (us.length : Int) := by omega
      go_enter Tryd.func69, Tryd.ntmps69
      go_wp2
      go_ret
      exact ⟨rfl, rfl⟩
  have hn := inB_iff.1 h1
  obtain ⟨V, hV⟩ : ∃ V, V = weB us := ⟨_, rfl⟩
  rw [← hV]
  have HV : Hid (V = (us.all (fun x => inB x 1 1000000) && decide (us.sum ≤ 1000000))) := Lib.hid (by rw [hV]; unfold weB; rw [h1, Bool.true_and])
  clear hV h1
  go_enter Tryd.func69, Tryd.ntmps69
  go_wp2
  go_loop [4, 15] (fun _ i => ∃ k : Nat, k ≤ us.length ∧ i = .int .i64 k ∧ Hid ((us.take k).all (fun x => inB x 1 1000000) = true)) (fun _ i => us.length - (intOf i).toNat)
  case atStart => exact ⟨0, Nat.zero_le _, rfl, Lib.hid (by simp)⟩
  case round =>
    obtain ⟨k, hk, rfl, HA⟩ := hrel
    by_cases hlt : k < us.length
    · rcases hz.at_ with h | ⟨b, off, rfl, hb1, hc⟩
      · subst h; simp at hlt
      have hcx := hc k hlt
      have HS := Lib.hid (all_take_succ (fun x => inB x 1 1000000) us k 0 hlt)
      have HF := Lib.hid (fun h => all_no (p := fun x => inB x 1 1000000) (0 : Int) hlt h)
      clear hc
      generalize us.getD k 0 = x at *
      cases hin : inB x 1 1000000
      · have HNO : Hid (V = false) := Lib.hid (by rw [HV.out, HF.out hin]; rfl)
        go_wp2_with (go_at_call 81; refine (within_any _ _ _ _).mono ?_; rw [hin]; rintro e w' ⟨rfl, rfl⟩)
        go_ret
        exact ⟨ret_bool HNO.out.symm, rfl⟩
      · go_wp2_with (go_at_call 81; refine (within_any _ _ _ _).mono ?_; rw [hin]; rintro e w' ⟨rfl, rfl⟩)
        go_round
        case rel => exact ⟨k + 1, by omega, by go_num, Lib.hid (by rw [HS.out, HA.out, hin]; rfl)⟩
        case measure => simp [intOf]; omega
    · have HU : Hid (us.all (fun x => inB x 1 1000000) = true) := Lib.hid (by have h := HA.out; rw [show k = us.length by omega, List.take_length] at h; exact h)
      have HVS : Hid (V = decide (us.sum ≤ 1000000)) := Lib.hid (by rw [HV.out, HU.out, Bool.true_and])
      have HB := Lib.hid (fun z (hz : z ∈ us) => by have := inB_iff.1 (List.all_eq_true.1 HU.out z hz); exact (⟨by omega, by omega⟩ : -1000000000 ≤ z ∧ z ≤ 1000000000))
      go_wp2_with (go_at_call 64; refine (total_any ad cap us _ hz HB.out (by omega)).mono ?_; rintro e w' ⟨rfl, rfl⟩)
      go_ret
      exact ⟨ret_bool HVS.out.symm, rfl⟩
set_option maxHeartbeats 400000 in
theorem areAlike_any (bd : Option Addr) (bcap : Nat) (zss : List (List Int)) (w : World) (hzz : Intss w bd zss) :
    Calls Tryd.prog 70 #[.slice bd zss.length bcap] w fun e w' => e = .returned (.bool (likeB zss)) ∧ w = w' := by
  have hlz := hzz.small
  obtain ⟨V, hV⟩ : ∃ V, V = likeB zss := ⟨_, rfl⟩
  rw [← hV]
  have HV : Hid (V = (List.range zss.length).all (likeR zss)) := Lib.hid hV
  clear hV
  go_enter Tryd.func70, Tryd.ntmps70
  go_wp2
  go_loop [4, 7] (fun _ i => ∃ k : Nat, k ≤ zss.length ∧ i = .int .i64 k ∧ Hid ((List.range k).all (likeR zss) = true)) (fun _ i => zss.length - (intOf i).toNat)
  case atStart => exact ⟨0, Nat.zero_le _, rfl, Lib.hid (by simp)⟩
  case round =>
    obtain ⟨k, hk, rfl, HA⟩ := hrel
    by_cases hlt : k < zss.length
    · rcases hzz.at_ with h | ⟨b, off, rfl, hb1, hc⟩
      · subst h; simp at hlt
      obtain ⟨p0, d0, hc0, hd0, hi0⟩ := hc 0 (by omega)
      rw [Nat.add_zero] at hc0
      obtain ⟨p, d, hcx, hd, hi⟩ := hc k hlt
      have hs0 := hi0.small
      have hsk := hi.small
      have HI := Lib.hid hi
      have HS := Lib.hid (range_all_succ (likeR zss) k)
      have HF := Lib.hid (fun h => range_all_no (p := likeR zss) hlt h)
      have HR : Hid (likeR zss k = (decide ((zss.getD k []).length = (zss.getD 0 []).length) && listOk (zss.getD k []) 1000000)) := Lib.hid rfl
      clear hc hi hi0
      generalize (zss.getD 0 []).length = m at *
      generalize zss.getD k [] = zk at *
      by_cases hl : zk.length = m
      · have hle : ((zk.length : Int) != (m : Int)) = false := by simp; omega
        have HR2 : Hid (likeR zss k = listOk zk 1000000) := Lib.hid (by rw [HR.out, decide_eq_true hl, Bool.true_and])
        clear hl HR
        cases hin : listOk zk 1000000
        · have HNO : Hid (V = false) := Lib.hid (by rw [HV.out, HF.out (by rw [HR2.out, hin])])
          go_wp2_with (go_at_call 88; refine (allWithin_any _ _ _ _ _ HI.out (by omega) (by omega)).mono ?_; rw [hin]; rintro e w' ⟨rfl, rfl⟩)
          go_ret
          exact ⟨ret_bool HNO.out.symm, rfl⟩
        · go_wp2_with (go_at_call 88; refine (allWithin_any _ _ _ _ _ HI.out (by omega) (by omega)).mono ?_; rw [hin]; rintro e w' ⟨rfl, rfl⟩)
          go_round
          case rel => exact ⟨k + 1, by omega, by go_num, Lib.hid (by rw [HS.out, HA.out, HR2.out, hin]; rfl)⟩
          case measure => simp [intOf]; omega
      · have hle : ((zk.length : Int) != (m : Int)) = true := by simp; omega
        have HNO : Hid (V = false) := Lib.hid (by rw [HV.out, HF.out (by rw [HR.out, decide_eq_false hl, Bool.false_and])])
        go_wp2
        go_ret
        exact ⟨ret_bool HNO.out.symm, rfl⟩
    · have HU : Hid (V = true) := Lib.hid (by have h := HA.out; rw [show k = zss.length by omega] at h; rw [HV.out, h])
      go_wp2
      go_ret
      exact ⟨ret_bool HU.out.symm, rfl⟩
set_option maxHeartbeats 1600000 in
theorem areDifferent_any (bd : Option Addr) (bcap : Nat) (zss : List (List Int)) (w : World) (hzz : Intss w bd zss) (h64 : zss.length ≤ 64) (hlk : likeB zss = true) (hp : Pows w) :
    Calls Tryd.prog 71 #[.slice bd zss.length bcap] w fun e w' => e = .returned (.bool (difB zss)) ∧ Keep w w' := by
  have hmm := @run_makeMap Tryd.prog
  have hlz := hzz.small
  have HLK := Lib.hid (fun k (hk : k < zss.length) => like_row hlk hk); clear hlk
  have HSZ := Lib.hid (size6_eq (H := Unit) (zss := zss) (fun k hk => ⟨(HLK.out k hk).2.1, fun x hx => by have := (HLK.out k hk).2.2 x hx; omega⟩))
  have HP := Lib.hid hp; clear hp
  have HZ := Lib.hid hzz; clear hzz
  go_enter Tryd.func71, Tryd.ntmps71
  go_wp2
  go_loopw [5, 9] (fun _ i wr => ∃ k : Nat, k ≤ zss.length ∧ i = .int .i64 k ∧ wr.ownsMap Tryd.prog 9 (plainElem (H := Unit) Tryd.prog 4) w.heap.size k (Set6 (H := Unit) zss k) ∧ Hid (Keep w wr))
    (fun _ i _ => zss.length - (intOf i).toNat)
  case atStart => exact ⟨0, Nat.zero_le _, rfl, by rw [Set6_zero]; exact World.ownsMap_made _ _ _ _, Lib.hid ((Below.refl _ _).alloc (Nat.le_refl _) _)⟩
  case round =>
    obtain ⟨k, hk, rfl, hown, HK⟩ := hrel
    by_cases hlt : k < zss.length
    · rcases (HZ.out.keep HK.out (Nat.le_refl _)).at_ with h | ⟨b, off, rfl, hb, hc⟩
      · subst h; simp at hlt
      obtain ⟨p, d, hcx, hd, hi⟩ := hc k hlt
      have hrow := HLK.out k hlt
      have hkey := keyOf_string_mk (P := Tryd.prog) Tryd.underlying9 (txt_small hi.wf hrow.2.1)
      have HJ := Lib.hid (joined_any p d (zss.getD k []) wr hi hrow.2.1 (HP.out.keep HK.out))
      have HKY := Lib.hid hkey
      have hki : key6 zss k = .string (bstr (txt (zss.getD k []))).data.toList := rfl
      have HKI := Lib.hid hki
      have HST := Lib.hid (Set6_succ (H := Unit) zss k)
      have HO := Lib.hid hown
      clear hc hi hrow hkey hki hown
      generalize zss.getD k [] = zk at *
      go_wp2_with fail
      refine HJ.out.mono ?_
      rintro e w1 ⟨rfl, k1⟩
      have hown1 := HO.out.kept (keep_grown k1 none) (by simp)
      have hkey := HKY.out
      generalize bstr (txt zk) = s at *
      go_wp2_with (first
        | (at_mapUpdate; refine wpList_mapUpdate_own _ rfl _ _ _ 125 rfl 9 4 lawS Tryd.underlying125 (plainElem (H := Unit) Tryd.prog 4) w.heap.size k _ rfl hown1 (by unfold maxLen; omega) _ _ _ rfl rfl hkey _ [] (plainElem_bool Tryd.underlying4 true) ?_; intro w2 hown2 hgrow2)
        | go_in)
      go_roundw
      case rel => exact ⟨k + 1, by omega, by go_num, by rw [HST.out, HKI.out]; exact hown2, Lib.hid ((HK.out.next k1).grown hgrow2 (HK.out.next k1).size (fun j hj => by cases hj; exact Nat.le_refl _))⟩
      case measure => simp [intOf]; omega
    · have HE : Hid (k = zss.length) := Lib.hid (by omega)
      have HR := Lib.hid (show ((Maps.size (Set6 (H := Unit) zss k) : Int) == (zss.length : Int)) = difB zss from by rw [HE.out]; exact HSZ.out)
      go_wp2_with (first
        | (at_len; refine wpList_len_own _ rfl _ 125 rfl 9 4 Tryd.underlying125 _ w.heap.size k _ rfl hown ?_)
        | go_in)
      go_ret
      exact ⟨ret_bool HR.out, HK.out⟩
set_option maxHeartbeats 800000 in
theorem ValidMixture_any (ad : Option Addr) (cap : Nat) (us : List Int) (bd : Option Addr) (bcap : Nat) (zss : List (List Int)) (w : World) (hz : Ints w ad us) (hzz : Intss w bd zss) (hp : Pows w) :
    Calls Tryd.prog 21 #[mixV ad us.length cap bd zss.length bcap] w fun e w' => e = .returned (.bool (mixB us zss)) ∧ Keep w w' := by
  have hlu := hz.small
  have hlz := hzz.small
  have HZ := Lib.hid hz; have HZZ := Lib.hid hzz; have HP := Lib.hid hp
  clear hz hzz hp
  rw [mixB_eq]
  cases h1 : weB us
  · go_enter Tryd.func21, Tryd.ntmps21
    go_wp2_with (go_at_call 69; refine (areWeights_any _ _ us _ (HZ.out.keep (B := _) (by go_grown) (Nat.le_refl _))).mono ?_; rw [h1]; rintro e w' ⟨rfl, rfl⟩)
    go_ret
    exact ⟨rfl, by go_grown⟩
  have h64 : us.length ≤ 64 := by
    have h := h1
    unfold weB at h
    rw [Bool.and_eq_true] at h
    have := inB_iff.1 h.1
    omega
  by_cases h2 : zss.length = us.length
  case neg =>
    have hne : ((zss.length : Int) == (us.length : Int)) = false := by simp; omega
    rw [decide_eq_false h2]
    go_enter Tryd.func21, Tryd.ntmps21
    go_wp2_with (go_at_call 69; refine (areWeights_any _ _ us _ (HZ.out.keep (B := _) (by go_grown) (Nat.le_refl _))).mono ?_; rw [h1]; rintro e w' ⟨rfl, rfl⟩)
    go_ret
    exact ⟨rfl, by go_grown⟩
  have hne : ((zss.length : Int) == (us.length : Int)) = true := by simp; omega
  have h65 : zss.length ≤ 64 := by omega
  rw [decide_eq_true h2, Bool.true_and, Bool.true_and]
  clear h2
  cases h3 : likeB zss
  · go_enter Tryd.func21, Tryd.ntmps21
    go_wp2_with (first | (go_at_call 69; refine (areWeights_any _ _ us _ (HZ.out.keep (B := _) (by go_grown) (Nat.le_refl _))).mono ?_; rw [h1]; rintro e w' ⟨rfl, rfl⟩) | (go_at_call 70; refine (areAlike_any _ _ zss _ (HZZ.out.keep (B := _) (by go_grown) (Nat.le_refl _))).mono ?_; rw [h3]; rintro e w' ⟨rfl, rfl⟩))
    go_ret
    exact ⟨rfl, by go_grown⟩
  have HD := Lib.hid (fun W (k : Keep w W) => areDifferent_any bd bcap zss W (HZZ.out.keep k (Nat.le_refl _)) h65 h3 (HP.out.keep k))
  rw [Bool.true_and]
  generalize difB zss = V at *
  go_enter Tryd.func21, Tryd.ntmps21
  go_wp2_with (first | (go_at_call 69; refine (areWeights_any _ _ us _ (HZ.out.keep (B := _) (by go_grown) (Nat.le_refl _))).mono ?_; rw [h1]; rintro e w' ⟨rfl, rfl⟩) | (go_at_call 70; refine (areAlike_any _ _ zss _ (HZZ.out.keep (B := _) (by go_grown) (Nat.le_refl _))).mono ?_; rw [h3]; rintro e w' ⟨rfl, rfl⟩))
  refine (HD.out _ (by go_grown)).mono ?_
  rintro e w1 ⟨rfl, k1⟩
  have g1 : Keep w w1 := Keep.next (by go_grown) k1
  go_wp2
  go_ret
  exact ⟨rfl, g1⟩
end Go.Proofs.YtgpnlnmljeahdaaDoor
