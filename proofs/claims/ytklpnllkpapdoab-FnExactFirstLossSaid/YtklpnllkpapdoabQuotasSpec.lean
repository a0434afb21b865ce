/- Quotas: the model's side. -/
import Derived.Test.YtklpnllkpapdoabQuotas
namespace Go.Proofs.Ytklpnllkpapdoab
open Go.ChangeShapes Go.WideShapes Go.ChangeAt Go.RowKit
set_option linter.unusedVariables false
set_option maxHeartbeats 400000 in
theorem l02Sum_any (ad : Option Addr) (cap : Nat) (zs : List Int) (w : World) (hz : Ints w ad zs) (hb : ∀ z ∈ zs, -1000000000 ≤ z ∧ z ≤ 1000000000) (hl : zs.length ≤ 1073741824) :
    Calls Try.prog 31 #[.slice ad zs.length cap] w fun e w' => e = .returned (.int .i64 zs.sum) ∧ w = w' := by
  have HB := Lib.hid hb; clear hb
  go_enter Try.func31, Try.ntmps31
  go_wp2
  go_loop [3, 4] (fun s i => ∃ k : Nat, k ≤ zs.length ∧ i = .int .i64 k ∧ s = .int .i64 (zs.take k).sum)
    (fun _ i => zs.length - (intOf i).toNat)
  case atStart => exact ⟨0, Nat.zero_le _, rfl, by simp⟩
  case round =>
    obtain ⟨k, hk, rfl, rfl⟩ := hrel
    by_cases hlt : k < zs.length
    · rcases hz.at_ with h | ⟨b, off, rfl, hb1, hc⟩
      · subst h; simp at hlt
      have hcx := hc k hlt
      have hx := HB.out _ (getD_mem zs k hlt)
      have hs := sum_take_bd 1000000000 1073741824 (by omega) zs HB.out (by omega) k
      have HS := Lib.hid (sum_take_succ zs k hlt)
      clear hc
      generalize zs.getD k 0 = x at hcx hx HS
      generalize (zs.take k).sum = s at hs HS
      go_wp2
      go_round
      case rel => exact ⟨k + 1, by omega, by go_num, by rw [HS.out]⟩
      case measure => simp [intOf]; omega
    · have HE := Lib.hid (show k = zs.length from by omega)
      go_wp2
      go_ret
      exact ⟨ret_i64 (by rw [HE.out, List.take_length]), rfl⟩
theorem tdivs {s z T : Int} (h1 : 0 ≤ s) (h2 : s ≤ 100) (h3 : 0 ≤ z) (h4 : z ≤ 1000000) (hT : 1 ≤ T) : (s * z).tdiv T = fl (s * z) T ∧ (s * z + T - 1).tdiv T = ce (s * z) T := by
  have m := sm_bd h1 h2 h3 h4
  exact ⟨fl_quo m.1, ce_quo m.1 hT⟩
set_option maxHeartbeats 1600000 in
theorem l02Quotas_any (ad : Option Addr) (cap : Nat) (zs : List Int) (s : Int) (w : World) (hz : Ints w ad zs) (hv : okVotes zs = true) (s1 : 0 ≤ s) (s2 : s ≤ 100) :
    Calls Try.prog 21 #[.slice ad zs.length cap, .int .i64 s] w fun e w' =>
      ∃ rd0 rc0, ∃ rd1 rc1, e = .returned (.tuple #[.slice rd0 (qLow s zs).length rc0, .slice rd1 (qHigh s zs).length rc1]) ∧ Own w' w.heap.size rd0 rc0 (qLow s zs) ∧ Own w' w.heap.size rd1 rc1 (qHigh s zs) ∧
        (∀ k, rd0 = some ⟨k, 0, none⟩ → rd1 = some ⟨k, 0, none⟩ → False) ∧ Keep w w' := by
  have HN := Lib.hid (okVotes_num hv)
  have hl := okVotes_len hv
  have ht := okVotes_sum hv
  clear hv
  have e1 : (qLow s zs).length = zs.length := by simp [qLow]
  have e2 : (qHigh s zs).length = zs.length := by simp [qHigh]
  rw [e1, e2]; clear e1 e2
  have o1 : Own (w.alloc (.cells #[] 2)) w.heap.size (some ⟨w.heap.size, 0, none⟩) 0 [] := by
    have := World.ownsRow_lit (base := w.heap.size) (e := 2) (size := 1) w #[] 0 (by simp) (by simp) rfl
    exact ⟨by simpa using this, by simp, by simp⟩
  have o2 : Own ((w.alloc (.cells #[] 2)).alloc (.cells #[] 2)) w.heap.size (some ⟨w.heap.size + 1, 0, none⟩) 0 [] := by
    have := World.ownsRow_lit (base := w.heap.size) (e := 2) (size := 1) (w.alloc (.cells #[] 2)) #[] 0 (by simp) (by simp) rfl
    exact ⟨by simpa using this, by simp, by simp⟩
  have o1' : Own ((w.alloc (.cells #[] 2)).alloc (.cells #[] 2)) w.heap.size (some ⟨w.heap.size, 0, none⟩) 0 [] := o1.keep (by go_grown)
  have k0 : Keep w ((w.alloc (.cells #[] 2)).alloc (.cells #[] 2)) := by go_grown
  clear o1
  go_enter Try.func21, Try.ntmps21
  go_wp2_with fail
  refine (l02Sum_any ad cap zs _ hz (fun z hz => by have := HN.out z hz; omega) (by omega)).mono ?_
  rintro e w1 ⟨rfl, rfl⟩
  go_wp2
  generalize hw2 : (w.alloc (.cells #[] 2)).alloc (.cells #[] 2) = w2 at *
  clear hw2
  go_loopw [7, 8, 9] (fun v u i wr => ∃ (k : Nat) (rd : Option Addr) (rc : Nat) (qd : Option Addr) (qc : Nat), k ≤ zs.length ∧ i = .int .i64 k ∧ v = .slice rd k rc ∧ u = .slice qd k qc ∧ Own wr w.heap.size rd rc ((qLow s zs).take k) ∧ Own wr w.heap.size qd qc ((qHigh s zs).take k) ∧
      (∀ j, rd = some ⟨j, 0, none⟩ → qd = some ⟨j, 0, none⟩ → False) ∧ Below w.heap.size w wr)
    (fun _ _ i _ => zs.length - (intOf i).toNat)
  case atStart => exact ⟨0, _, _, _, _, Nat.zero_le _, rfl, rfl, rfl, by simpa using o1', by simpa using o2, (fun j h1 h2 => by simp at h1 h2; omega), k0⟩
  case round =>
    obtain ⟨k, rd, rc, qd, qc, hk, rfl, rfl, rfl, ho1, ho2, hap, hbel⟩ := hrel
    have hsz : w.heap.size ≤ wr.heap.size := hbel.size
    by_cases hlt : k < zs.length
    · rcases hz.at_ with h | ⟨b, off, rfl, hb, hc⟩
      · subst h; simp at hlt
      have hcx : wr.cell? ⟨b, off + k, none⟩ = some (.int .i64 (zs.getD k 0)) := (hbel.cell (by exact hb)).trans (hc k hlt)
      have hx := HN.out _ (getD_mem zs k hlt)
      have hc2 : ∀ w', Below w.heap.size wr w' → w'.cell? ⟨b, off + k, none⟩ = some (.int .i64 (zs.getD k 0)) := fun w' k2 => (k2.cell (by exact hb)).trans hcx
      have HT1 : Hid ((qLow s zs).take (k + 1) = (qLow s zs).take k ++ [fl (s * zs.getD k 0) zs.sum]) := Lib.hid (by
        unfold qLow; rw [← List.map_take, ← List.map_take]; exact take_map_succ (fun z => fl (s * z) zs.sum) zs k hlt)
      have HT2 : Hid ((qHigh s zs).take (k + 1) = (qHigh s zs).take k ++ [ce (s * zs.getD k 0) zs.sum]) := Lib.hid (by
        unfold qHigh; rw [← List.map_take, ← List.map_take]; exact take_map_succ (fun z => ce (s * z) zs.sum) zs k hlt)
      have HL1 : Hid (((qLow s zs).take k).length = k) := Lib.hid (by simp [qLow]; omega)
      have HL2 : Hid (((qHigh s zs).take k).length = k) := Lib.hid (by simp [qHigh]; omega)
      clear hc
      generalize zs.getD k 0 = x at hcx hx hc2 HT1 HT2
      have HC2 := Lib.hid hc2; clear hc2
      obtain ⟨m1, m2⟩ := sm_bd s1 s2 hx.1 hx.2
      have hd := tdivs s1 s2 hx.1 hx.2 (T := zs.sum) (by omega)
      have hq := quo_in s1 s2 hx.1 hx.2 (T := zs.sum) (by omega)
      rw [← hd.1, ← hd.2] at hq
      rw [← hd.1] at HT1
      rw [← hd.2] at HT2
      clear hd
      obtain ⟨⟨q1, q2⟩, q3, q4⟩ := hq
      generalize zs.sum = T at ht q1 q2 q3 q4 HT1 HT2
      have HO1 := Lib.hid ho1; have HO2 := Lib.hid ho2; have HAP := Lib.hid hap; clear ho1 ho2 hap
      go_wp2_with (refine list_app2 (by rfl) _ _ (by rfl) w.heap.size rd rc k _ ((s * x).tdiv T) (by rfl) (HO1.out.keep (by go_grown)) HL1.out.symm wr.heap.size (by rfl) (by simp) ⟨by omega, by omega⟩ (by rw [HL1.out]; omega) (by simp; omega) ?_)
      intro g1 cap1 w1 hown1 hgr1 hat1 hlt1
      have hbel1 : Below w.heap.size wr w1 := below_own (by go_grown) (HO1.out.keep (by go_grown)) hgr1 (by simp; omega) (Nat.le_refl _)
      have HO3 : Hid (Own w1 w.heap.size qd qc ((qHigh s zs).take k)) := Lib.hid (Own.apart (HO2.out.keep (by go_grown)) (HO1.out.keep (by go_grown)) hgr1 (fun j a b => HAP.out j b a))
      have hcx1 := HC2.out w1 hbel1
      have hs1 := hbel1.size
      clear hcx hgr1
      go_wp2_with (refine list_app2 (by rfl) _ _ (by rfl) w.heap.size qd qc k _ ((s * x + T - 1).tdiv T) (by rfl) (HO3.out.keep (by go_grown)) HL2.out.symm w1.heap.size (by rfl) (by simp) ⟨by omega, by omega⟩ (by rw [HL2.out]; omega) (by simp; omega) ?_)
      intro g2 cap2 w2 hown2 hgr2 hat2 hlt2
      have hbel2 : Below w.heap.size w1 w2 := below_own (by go_grown) (HO3.out.keep (by go_grown)) hgr2 (by simp; omega) (Nat.le_refl _)
      have hsep : ∀ j, some (⟨g1, 0, none⟩ : Addr) = some ⟨j, 0, none⟩ → qd = some ⟨j, 0, none⟩ → False := by
        intro j a b
        rcases own_block HO2.out.1 with ⟨h, _⟩ | ⟨j2, h, _, h2, _⟩
        · rw [h] at b; cases b
        · rw [h] at b; simp at a b
          subst a; subst b
          rcases hat1 with h3 | h3
          · exact HAP.out _ h3 h
          · first | omega | (simp at h3; omega)
      have ho1 : Own w2 w.heap.size (some ⟨g1, 0, none⟩) cap1 ((qLow s zs).take k ++ [(s * x).tdiv T]) := Own.apart (hown1.keep (by go_grown)) (HO3.out.keep (by go_grown)) hgr2 hsep
      have hap2 : ∀ j, some (⟨g1, 0, none⟩ : Addr) = some ⟨j, 0, none⟩ → some (⟨g2, 0, none⟩ : Addr) = some ⟨j, 0, none⟩ → False := by
        intro j a b
        rcases hat2 with h3 | h3
        · exact hsep j a (by rw [h3]; exact b)
        · simp at a b; first | omega | (simp at h3; omega)
      clear hgr2 hat2 hsep
      go_wp2
      go_roundw
      case rel => exact ⟨k + 1, _, cap1, _, cap2, by omega, by go_num, rfl, rfl, by rw [HT1.out]; exact ho1, by rw [HT2.out]; exact hown2, hap2, hbel.trans (hbel1.trans hbel2)⟩
      case measure => simp [intOf]; omega
    · have hk2 : k = zs.length := by omega
      have HK := Lib.hid hk2; clear hk2
      go_wp2
      go_ret2
      have e := HK.out
      subst e
      have f1 : (qLow s zs).take zs.length = qLow s zs := List.take_of_length_le (by simp [qLow])
      have f2 : (qHigh s zs).take zs.length = qHigh s zs := List.take_of_length_le (by simp [qHigh])
      rw [f1] at ho1; rw [f2] at ho2
      exact ⟨rd, rc, qd, qc, rfl, ho1, ho2, hap, hbel⟩
set_option maxHeartbeats 1600000 in
theorem specQuotasOf_any (ad : Option Addr) (cap : Nat) (zs : List Int) (s : Int) (w : World) (hz : Ints w ad zs) (us : In64 s) :
    Calls Try.prog 7 #[.slice ad zs.length cap, .int .i64 s] w fun e w' =>
      ∃ rd0 rc0, ∃ rd1 rc1, e = .returned (.tuple #[.slice rd0 (qLowV s zs).length rc0, .slice rd1 (qHighV s zs).length rc1, .bool (okQ s zs)]) ∧ Own w' w.heap.size rd0 rc0 (qLowV s zs) ∧ Own w' w.heap.size rd1 rc1 (qHighV s zs) ∧ Keep w w' := by
  cases h1 : okVotes zs
  · rw [show okQ s zs = false from by simp [okQ, h1], show qLowV s zs = [] from by simp [qLowV, okQ, h1], show qHighV s zs = [] from by simp [qHighV, okQ, h1]]
    go_enter Try.func7, Try.ntmps7
    go_wp2_with (go_at_call 19; refine (l02Is_any ad cap zs w hz).mono ?_; rw [h1]; rintro e w' ⟨rfl, rfl⟩)
    go_ret3
    exact ⟨none, 0, none, 0, rfl, Own.nil _ _, Own.nil _ _, by go_grown⟩
  · cases h2 : inB s 0 100
    · rw [show okQ s zs = false from by simp [okQ, h2], show qLowV s zs = [] from by simp [qLowV, okQ, h2], show qHighV s zs = [] from by simp [qHighV, okQ, h2]]
      go_enter Try.func7, Try.ntmps7
      go_wp2_with (first | (go_at_call 19; refine (l02Is_any ad cap zs w hz).mono ?_; rw [h1]; rintro e w' ⟨rfl, rfl⟩) | (go_at_call 20; refine (l02Seats_any _ _).mono ?_; rw [h2]; rintro e w' ⟨rfl, rfl⟩))
      go_ret3
      exact ⟨none, 0, none, 0, rfl, Own.nil _ _, Own.nil _ _, by go_grown⟩
    · rw [show okQ s zs = true from by simp [okQ, h1, h2], show qLowV s zs = qLow s zs from by simp [qLowV, okQ, h1, h2], show qHighV s zs = qHigh s zs from by simp [qHighV, okQ, h1, h2]]
      obtain ⟨s1, s2⟩ := inB_iff.1 h2
      go_enter Try.func7, Try.ntmps7
      go_wp2_with (first | (go_at_call 19; refine (l02Is_any ad cap zs w hz).mono ?_; rw [h1]; rintro e w' ⟨rfl, rfl⟩) | (go_at_call 20; refine (l02Seats_any _ _).mono ?_; rw [h2]; rintro e w' ⟨rfl, rfl⟩))
      refine (l02Quotas_any ad cap zs s _ hz h1 s1 s2).mono ?_
      rintro e w1 ⟨rd, rc, rd2, rc2, rfl, o1, o2, _, k1⟩
      go_wp2
      go_ret3
      exact ⟨rd, rc, rd2, rc2, rfl, o1, o2, k1⟩
end Go.Proofs.Ytklpnllkpapdoab
