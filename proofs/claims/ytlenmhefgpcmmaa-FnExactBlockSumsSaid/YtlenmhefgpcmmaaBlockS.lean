/- Sums of blocks: the model's side. -/
import Derived.Test.YtlenmhefgpcmmaaBlockP
import Derived.Test.YtlenmhefgpcmmaaSums
namespace Go.Proofs.Ytlenmhefgpcmmaa
open Go.ChangeShapes Go.WideShapes Go.ChangeAt Go.RowKit
set_option linter.unusedVariables false
set_option maxHeartbeats 1600000 in
theorem specBlockSums_any (ad : Option Addr) (cap : Nat) (zs : List Int) (s : Int) (w : World) (hz : Ints w ad zs) (us : In64 s) (hcap : zs.length ≤ cap) :
    Calls Try.prog 35 #[.slice ad zs.length cap, .int .i64 s] w fun e w' =>
      ∃ rd rc, e = .returned (.tuple #[.slice rd (bsV s zs).length rc, .bool (okB s zs)]) ∧ Own w' w.heap.size rd rc (bsV s zs) ∧ Keep w w' := by
  have hlen := hz.small
  cases hok : okB s zs
  · rw [show bsV s zs = [] from by simp [bsV, hok]]
    rcases okB_cases hok with h1 | ⟨h1, h2⟩ | ⟨h1, h2, h3⟩
    · go_enter Try.func35, Try.ntmps35
      go_wp2_with (go_at_call 54; refine (l01List_any _ _ _ _ hz).mono ?_; rw [h1]; rintro e w' ⟨rfl, rfl⟩)
      go_ret2
      exact ⟨none, 0, rfl, Own.nil _ _, Below.refl _ _⟩
    · go_enter Try.func35, Try.ntmps35
      go_wp2_with (first | (go_at_call 54; refine (l01List_any _ _ _ _ hz).mono ?_; rw [h1]; rintro e w' ⟨rfl, rfl⟩) | (go_at_call 44; refine (l00In_any _ _ _ _).mono ?_; rw [h2]; rintro e w' ⟨rfl, rfl⟩))
      go_ret2
      exact ⟨none, 0, rfl, Own.nil _ _, Below.refl _ _⟩
    · obtain ⟨s1, s2⟩ := inB_iff.1 h2
      go_enter Try.func35, Try.ntmps35
      go_wp2_with (first | (go_at_call 54; refine (l01List_any _ _ _ _ hz).mono ?_; rw [h1]; rintro e w' ⟨rfl, rfl⟩) | (go_at_call 44; refine (l00In_any _ _ _ _).mono ?_; rw [h2]; rintro e w' ⟨rfl, rfl⟩))
      go_ret2
      exact ⟨none, 0, rfl, Own.nil _ _, Below.refl _ _⟩
  · obtain ⟨m, q, rfl, hm, hm2, hl, hq, hb⟩ := okB_parts hok
    rw [hb]
    have h1 : listOk zs 1000000000 = true := by unfold okB at hok; simp only [Bool.and_eq_true] at hok; exact hok.1.1
    have hn := listOk_num h1
    have h2 : inB (m : Int) 1 40 = true := inB_iff.2 ⟨by omega, by omega⟩
    have htm : ((zs.length : Int) % (m : Int) != 0) = false := by
      rw [hl, show ((q * m : Nat) : Int) = (q : Int) * (m : Int) from by simp, Int.mul_emod_left]; rfl
    have HL := Lib.hid hl; have HN := Lib.hid hn
    have hlq : (zs.length : Int) = (q : Int) * (m : Int) := by rw [hl]; simp
    have HLQ := Lib.hid hlq
    have hl40 : zs.length ≤ 40 := by omega
    clear hl hok hlq hn
    have hown0 : Own (w.alloc (.cells #[] 2)) w.heap.size (some ⟨w.heap.size, 0, none⟩) 0 [] := by
      have := World.ownsRow_lit (base := w.heap.size) (e := 2) (size := 1) w #[] 0 (by simp) (by simp) rfl
      exact ⟨by simpa using this, by simp, by simp⟩
    have hbl1 : Keep w (w.alloc (.cells #[] 2)) := by go_grown
    go_enter Try.func35, Try.ntmps35
    go_wp2_with (first | (go_at_call 54; refine (l01List_any _ _ _ _ hz).mono ?_; rw [h1]; rintro e w' ⟨rfl, rfl⟩) | (go_at_call 44; refine (l00In_any _ _ _ _).mono ?_; rw [h2]; rintro e w' ⟨rfl, rfl⟩))
    go_loopw [6, 7] (fun v i wr => ∃ (k : Nat) (rd : Option Addr) (rc : Nat), k ≤ q ∧ i = .int .i64 ((k * m : Nat) : Int) ∧ v = .slice rd k rc ∧ Own wr w.heap.size rd rc (bsN m zs k) ∧ Keep w wr)
      (fun _ i _ => zs.length - (intOf i).toNat)
    case atStart => exact ⟨0, _, _, Nat.zero_le _, by simp, rfl, by simpa [bsN] using hown0, hbl1⟩
    case round =>
      obtain ⟨k, rd, rc, hk, rfl, rfl, hown, hbel⟩ := hrel
      by_cases hlt : k < q
      · have hkm : k * m + m ≤ zs.length := by rw [HL.out]; have := Nat.mul_le_mul_right m (show k + 1 ≤ q from hlt); rw [Nat.succ_mul] at this; exact this
        have hi : ((k * m : Nat) : Int) < (zs.length : Int) := by omega
        rcases hz.at_ with h | ⟨b, off, rfl, hb1, hc⟩
        · exfalso; rw [h] at hkm; simp at hkm; omega
        have HT : Hid (∀ W', Keep wr W' → Calls Try.prog 58 #[.slice (some ⟨b, off + k * m, none⟩) m (cap - k * m)] W' fun e w' => e = .returned (.int .i64 (blk m zs k).sum) ∧ W' = w') := Lib.hid (fun W' k2 => by
          have h3 := (hz.keep (hbel.next k2) (Nat.le_refl _)).blk m k q HL.out hlt hm b off rfl
          have h := l01Sum_any (some ⟨b, off + k * m, none⟩) (cap - k * m) (blk m zs k) W' h3 (fun z hz => HN.out z (blk_mem m zs k z hz)) (by rw [blk_len m zs k q HL.out hlt]; omega)
          rw [blk_len m zs k q HL.out hlt] at h; exact h)
        have hS := sum_bd 1000000000 (by omega) (blk m zs k) (fun z hz => HN.out z (blk_mem m zs k z hz))
        rw [blk_len m zs k q HL.out hlt] at hS
        have HB1 := Lib.hid (bsN_succ m zs k)
        generalize (blk m zs k).sum = S at *
        have HO := Lib.hid hown; have HKL := Lib.hid (bsN_len m zs k)
        have hsr := hbel.size
        have hcapk : k * m ≤ cap := by omega
        have hk40 : k ≤ 40 := by have h2 := Nat.mul_le_mul_left k hm; omega
        clear hown hc
        go_wp2_with (first | (go_at_call 58; refine (HT.out _ (by go_grown)).mono ?_; rintro e w' ⟨rfl, rfl⟩) | (refine list_app1 (by rfl) _ _ (by rfl) w.heap.size rd rc k _ S (by rfl) (HO.out.keep (by go_grown)) HKL.out.symm wr.heap.size (by rfl) (by simp) ⟨by omega, by omega⟩ (by rw [HKL.out]; omega) (by simp; omega) ?_; intro ad' cap' w2 hown2 hgr2; have hbel2 : Below w.heap.size wr w2 := below_own (by go_grown) (HO.out.keep (by go_grown)) hgr2 (by simp; omega) (Nat.le_refl _)))
        go_roundw
        case rel => exact ⟨k + 1, ad', cap', by omega, by rw [Nat.succ_mul]; simp, rfl, by rw [HB1.out]; exact hown2, hbel.trans hbel2⟩
        case measure => simp [intOf]; omega
      · have hkq : k = q := by omega
        subst hkq
        have hi : ¬ ((k * m : Nat) : Int) < (zs.length : Int) := by rw [HL.out]; omega
        go_wp2
        go_ret2
        exact ⟨rd, rc, by rw [bsN_len]; rfl, hown, hbel⟩
end Go.Proofs.Ytlenmhefgpcmmaa
