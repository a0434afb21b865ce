/- The parties outside of their quotas. -/
import Derived.Test.YtklpnllkpapdoabQuotasSpec
namespace Go.Proofs.Ytklpnllkpapdoab
open Go.ChangeShapes Go.WideShapes Go.ChangeAt Go.RowKit
set_option linter.unusedVariables false
/-- The indices, less than k, of the numbers outside of their bounds. -/
def outs (lo hi ls : List Int) (k : Nat) : List Int := ((List.range k).filter fun i => !inB (ls.getD i 0) (lo.getD i 0) (hi.getD i 0)).map fun i : Nat => (i : Int)
theorem outs_in {lo hi ls : List Int} {k : Nat} (h : inB (ls.getD k 0) (lo.getD k 0) (hi.getD k 0) = true) : outs lo hi ls (k + 1) = outs lo hi ls k := by
  unfold outs; rw [List.range_succ, List.filter_append, List.map_append]
  have e : [k].filter (fun i => !inB (ls.getD i 0) (lo.getD i 0) (hi.getD i 0)) = [] := by unfold List.filter; rw [h]; rfl
  rw [e, List.map_nil, List.append_nil]
theorem outs_out {lo hi ls : List Int} {k : Nat} (h : inB (ls.getD k 0) (lo.getD k 0) (hi.getD k 0) = false) : outs lo hi ls (k + 1) = outs lo hi ls k ++ [(k : Int)] := by
  unfold outs; rw [List.range_succ, List.filter_append, List.map_append]
  have e : [k].filter (fun i => !inB (ls.getD i 0) (lo.getD i 0) (hi.getD i 0)) = [k] := by unfold List.filter; rw [h]; rfl
  rw [e]; rfl
theorem outs_len (lo hi ls : List Int) (k : Nat) : (outs lo hi ls k).length ≤ k := by
  unfold outs; rw [List.length_map]
  exact Nat.le_trans (List.length_filter_le _ _) (by simp)
def okO (zs ls : List Int) : Bool := okVotes zs && seatsOk ls zs.length
def outV (zs ls : List Int) : List Int := if okO zs ls then outs (qLow ls.sum zs) (qHigh ls.sum zs) ls ls.length else []
theorem sum_inB {ls : List Int} {n : Nat} (h : seatsOk ls n = true) : inB ls.sum 0 100 = true := by
  have := seatsOk_sum h; rw [inB_iff]; omega
set_option maxHeartbeats 1600000 in
theorem OutsideQuotas_any (ad : Option Addr) (cap : Nat) (zs : List Int) (bd : Option Addr) (bcap : Nat) (ls : List Int) (w : World) (hz : Ints w ad zs) (hl : Ints w bd ls) :
    Calls Try.prog 16 #[.slice ad zs.length cap, .slice bd ls.length bcap] w fun e w' =>
      ∃ rd rc, e = .returned (.tuple #[.slice rd (outV zs ls).length rc, .bool (okO zs ls)]) ∧ Own w' w.heap.size rd rc (outV zs ls) ∧ Keep w w' := by
  have hlen := hz.small
  have hlen2 := hl.small
  cases h1 : okVotes zs
  · rw [show okO zs ls = false from by simp [okO, h1], show outV zs ls = [] from by simp [outV, okO, h1]]
    go_enter Try.func16, Try.ntmps16
    go_wp2_with (go_at_call 22; refine (ValidVotes_any ad cap zs w hz).mono ?_; rw [h1]; rintro e w' ⟨rfl, rfl⟩)
    go_ret2
    exact ⟨none, 0, rfl, Own.nil _ _, by go_grown⟩
  have l12 := okVotes_len h1
  cases h2 : seatsOk ls zs.length
  · rw [show okO zs ls = false from by simp [okO, h2], show outV zs ls = [] from by simp [outV, okO, h2]]
    go_enter Try.func16, Try.ntmps16
    go_wp2_with (first | (go_at_call 22; refine (ValidVotes_any ad cap zs w hz).mono ?_; rw [h1]; rintro e w' ⟨rfl, rfl⟩) | (go_at_call 32; refine (areSeats_any bd bcap ls zs.length w hl l12).mono ?_; rw [h2]; rintro e w' ⟨rfl, rfl⟩))
    go_ret2
    exact ⟨none, 0, rfl, Own.nil _ _, by go_grown⟩
  · have HN := Lib.hid (seatsOk_num h2)
    have hll := seatsOk_len h2
    have l12b : ls.length ≤ 12 := by omega
    have hs := seatsOk_sum h2
    have hsi := sum_inB h2
    have hsm : In64 ls.sum := ⟨by omega, by omega⟩
    have hqL : (qLowV ls.sum zs) = qLow ls.sum zs := by simp [qLowV, okQ, h1, hsi]
    have hqH : (qHighV ls.sum zs) = qHigh ls.sum zs := by simp [qHighV, okQ, h1, hsi]
    have hqO : okQ ls.sum zs = true := by simp [okQ, h1, hsi]
    have HQ := Lib.hid (fun W (h : Ints W ad zs) => QuotasOf_any ad cap zs ls.sum W h hsm)
    rw [hqL, hqH, hqO] at HQ
    clear hqL hqH hqO hsi
    have hL1 : (qLow ls.sum zs).length = ls.length := by rw [hll]; simp [qLow]
    have hH1 : (qHigh ls.sum zs).length = ls.length := by rw [hll]; simp [qHigh]
    rw [show okO zs ls = true from by simp [okO, h1, h2], show outV zs ls = outs (qLow ls.sum zs) (qHigh ls.sum zs) ls ls.length from by simp [outV, okO, h1, h2]]
    generalize qLow ls.sum zs = lo at HQ hL1
    generalize qHigh ls.sum zs = hi at HQ hH1
    rw [hL1, hH1] at HQ
    have H2 := Lib.hid h2; have H1 := Lib.hid h1; have HLL := Lib.hid hll
    clear h2 h1 hll
    go_enter Try.func16, Try.ntmps16
    go_wp2_with (first | (go_at_call 22; refine (ValidVotes_any ad cap zs w hz).mono ?_; rw [H1.out]; rintro e w' ⟨rfl, rfl⟩) | (go_at_call 32; refine (areSeats_any bd bcap ls zs.length w hl l12).mono ?_; rw [H2.out]; rintro e w' ⟨rfl, rfl⟩) | (go_at_call 29; refine (total_any bd bcap ls w hl (fun z hz => by have := HN.out z hz; omega) (by have := HLL.out; omega)).mono ?_; rintro e w' ⟨rfl, rfl⟩))
    refine (HQ.out _ hz).mono ?_
    rintro e w1 ⟨rd0, rc0, rd1, rc1, rfl, o1, o2, _, k1⟩
    have i1 := o1.ints
    have i2 := o2.ints
    have hl1 := hl.keep k1 (Nat.le_refl _)
    have hsz := k1.size
    clear HQ o1 o2
    have HL1 := Lib.hid hL1; have HH1 := Lib.hid hH1; clear hL1 hH1
    go_wp2
    go_loopw [9, 10, 11, 32] (fun v _ _ i wr => ∃ (k : Nat) (rd : Option Addr) (rc : Nat), k ≤ ls.length ∧ i = .int .i64 k ∧ v = .slice rd (outs lo hi ls k).length rc ∧ Own wr w1.heap.size rd rc (outs lo hi ls k) ∧ Below w1.heap.size w1 wr)
      (fun _ _ _ i _ => ls.length - (intOf i).toNat)
    case atStart => exact ⟨0, none, 0, Nat.zero_le _, rfl, rfl, by simpa [outs] using Own.nil _ _, Below.refl _ _⟩
    case round =>
      obtain ⟨k, rd, rc, hk, rfl, rfl, hown, hbel⟩ := hrel
      have hbs := hbel.size
      by_cases hlt : k < ls.length
      · rcases hl1.at_ with h | ⟨b, off, rfl, hb, hc⟩
        · subst h; simp at hlt
        rcases i1.at_ with h | ⟨b1, off1, rfl, hb1, hc1⟩
        · have := HL1.out; rw [h] at this; simp at this; omega
        rcases i2.at_ with h | ⟨b2, off2, rfl, hb2, hc2⟩
        · have := HH1.out; rw [h] at this; simp at this; omega
        have hcx : wr.cell? ⟨b, off + k, none⟩ = some (.int .i64 (ls.getD k 0)) := (hbel.cell (by exact hb)).trans (hc k hlt)
        have hcl : wr.cell? ⟨b1, off1 + k, none⟩ = some (.int .i64 (lo.getD k 0)) := (hbel.cell (by exact hb1)).trans (hc1 k (by rw [HL1.out]; exact hlt))
        have hch : wr.cell? ⟨b2, off2 + k, none⟩ = some (.int .i64 (hi.getD k 0)) := (hbel.cell (by exact hb2)).trans (hc2 k (by rw [HH1.out]; exact hlt))
        have hO1 := outs_in (lo := lo) (hi := hi) (ls := ls) (k := k)
        have hO2 := outs_out (lo := lo) (hi := hi) (ls := ls) (k := k)
        have hOl := outs_len lo hi ls k
        clear hc hc1 hc2
        generalize ls.getD k 0 = x at hcx hO1 hO2
        generalize lo.getD k 0 = y at hcl hO1 hO2
        generalize hi.getD k 0 = z at hch hO1 hO2
        have HO := Lib.hid hown; clear hown
        cases hin : inB x y z
        · have HE := Lib.hid (hO2 hin)
          clear hO1 hO2
          generalize outs lo hi ls k = done at HO HE hOl
          go_wp2
          go_quiet ((go_at_call 23; exact Calls.quiet_of_same ((within_any _ _ _ _).mono fun _ _ h => ⟨h.1, h.2.symm⟩)))
          have HO2 := Lib.hid (HO.out.keep (below_drewN (Below.refl _ _) nq))
          have hbd : Below w1.heap.size wr (wr.drewN nq) := below_drewN (Below.refl _ _) nq
          generalize wr.drewN nq = wd at *
          have hsd := hbd.size
          go_wp2_with (refine list_app1 (by rfl) _ _ (by rfl) w1.heap.size rd rc done.length _ (k : Int) (by rfl) (HO2.out.keep (by go_grown)) rfl wd.heap.size (by rfl) (by simp) ⟨by omega, by omega⟩ (by omega) (by simp; omega) ?_; intro ad' cap' w2 hown2 hgr2; have hbel2 : Below w1.heap.size wd w2 := below_own (by go_grown) (HO2.out.keep (by go_grown)) hgr2 (by simp; omega) (Nat.le_refl _))
          go_roundw
          case rel => exact ⟨k + 1, ad', cap', by omega, by go_num, by rw [HE.out]; simp, by rw [HE.out]; exact hown2, hbel.trans (hbd.trans hbel2)⟩
          case measure => simp [intOf]; omega
        · have HE := Lib.hid (hO1 hin)
          clear hO1 hO2
          generalize outs lo hi ls k = done at HO HE hOl
          go_wp2
          go_quiet ((go_at_call 23; exact Calls.quiet_of_same ((within_any _ _ _ _).mono fun _ _ h => ⟨h.1, h.2.symm⟩)))
          go_wp2
          go_roundw
          case rel => exact ⟨k + 1, rd, rc, by omega, by go_num, by rw [HE.out], by rw [HE.out]; exact HO.out.keep (below_drewN (Below.refl _ _) _), below_drewN hbel _⟩
          case measure => simp [intOf]; omega
      · have HK := Lib.hid (show k = ls.length from by omega)
        go_wp2
        go_ret2
        have e := HK.out
        subst e
        exact ⟨rd, rc, rfl, hown.mono hsz, k1.trans (hbel.mono hsz)⟩
set_option maxHeartbeats 1600000 in
theorem specOutsideQuotas_any (ad : Option Addr) (cap : Nat) (zs : List Int) (bd : Option Addr) (bcap : Nat) (ls : List Int) (w : World) (hz : Ints w ad zs) (hl : Ints w bd ls) (hmax : ls.length ≤ 1073741824) :
    Calls Try.prog 15 #[.slice ad zs.length cap, .slice bd ls.length bcap] w fun e w' =>
      ∃ rd rc, e = .returned (.tuple #[.slice rd (outV zs ls).length rc, .bool (okO zs ls)]) ∧ Own w' w.heap.size rd rc (outV zs ls) ∧ Keep w w' := by
  have hlen := hz.small
  have hlen2 := hl.small
  cases h1 : okVotes zs
  · rw [show okO zs ls = false from by simp [okO, h1], show outV zs ls = [] from by simp [outV, okO, h1]]
    go_enter Try.func15, Try.ntmps15
    go_wp2_with (go_at_call 19; refine (l02Is_any ad cap zs w hz).mono ?_; rw [h1]; rintro e w' ⟨rfl, rfl⟩)
    go_ret2
    exact ⟨none, 0, rfl, Own.nil _ _, by go_grown⟩
  have l12 := okVotes_len h1
  cases h2 : seatsOk ls zs.length
  · rw [show okO zs ls = false from by simp [okO, h2], show outV zs ls = [] from by simp [outV, okO, h2]]
    go_enter Try.func15, Try.ntmps15
    go_wp2_with (first | (go_at_call 19; refine (l02Is_any ad cap zs w hz).mono ?_; rw [h1]; rintro e w' ⟨rfl, rfl⟩) | (go_at_call 30; refine (l02List_any ad zs.length cap bd bcap ls w hl hmax hlen).mono ?_; rw [h2]; rintro e w' ⟨rfl, rfl⟩))
    go_ret2
    exact ⟨none, 0, rfl, Own.nil _ _, by go_grown⟩
  · have HN := Lib.hid (seatsOk_num h2)
    have hll := seatsOk_len h2
    have l12b : ls.length ≤ 12 := by omega
    have hs := seatsOk_sum h2
    have HQ := Lib.hid (fun W (h : Ints W ad zs) => l02Quotas_any ad cap zs ls.sum W h h1 hs.1 hs.2)
    have hL1 : (qLow ls.sum zs).length = ls.length := by rw [hll]; simp [qLow]
    have hH1 : (qHigh ls.sum zs).length = ls.length := by rw [hll]; simp [qHigh]
    rw [show okO zs ls = true from by simp [okO, h1, h2], show outV zs ls = outs (qLow ls.sum zs) (qHigh ls.sum zs) ls ls.length from by simp [outV, okO, h1, h2]]
    generalize qLow ls.sum zs = lo at HQ hL1
    generalize qHigh ls.sum zs = hi at HQ hH1
    rw [hL1, hH1] at HQ
    have H2 := Lib.hid h2; have H1 := Lib.hid h1; have HLL := Lib.hid hll
    clear h2 h1 hll
    go_enter Try.func15, Try.ntmps15
    go_wp2_with (first | (go_at_call 19; refine (l02Is_any ad cap zs w hz).mono ?_; rw [H1.out]; rintro e w' ⟨rfl, rfl⟩) | (go_at_call 30; refine (l02List_any ad zs.length cap bd bcap ls w hl hmax hlen).mono ?_; rw [H2.out]; rintro e w' ⟨rfl, rfl⟩) | (go_at_call 31; refine (l02Sum_any bd bcap ls w hl (fun z hz => by have := HN.out z hz; omega) (by omega)).mono ?_; rintro e w' ⟨rfl, rfl⟩))
    refine (HQ.out _ hz).mono ?_
    rintro e w1 ⟨rd0, rc0, rd1, rc1, rfl, o1, o2, _, k1⟩
    have i1 := o1.ints
    have i2 := o2.ints
    have hl1 := hl.keep k1 (Nat.le_refl _)
    have hsz := k1.size
    clear HQ o1 o2
    have HL1 := Lib.hid hL1; have HH1 := Lib.hid hH1; clear hL1 hH1
    have o0 : Own (w1.alloc (.cells #[] 2)) w1.heap.size (some ⟨w1.heap.size, 0, none⟩) 0 [] := by
      have := World.ownsRow_lit (base := w1.heap.size) (e := 2) (size := 1) w1 #[] 0 (by simp) (by simp) rfl
      exact ⟨by simpa using this, by simp, by simp⟩
    have kb0 : Below w1.heap.size w1 (w1.alloc (.cells #[] 2)) := by go_grown
    go_wp2
    generalize hw2 : w1.alloc (.cells #[] 2) = w2 at *
    clear hw2
    go_loopw [8, 9] (fun v i wr => ∃ (k : Nat) (rd : Option Addr) (rc : Nat), k ≤ ls.length ∧ i = .int .i64 k ∧ v = .slice rd (outs lo hi ls k).length rc ∧ Own wr w1.heap.size rd rc (outs lo hi ls k) ∧ Below w1.heap.size w1 wr)
      (fun _ i _ => ls.length - (intOf i).toNat)
    case atStart => exact ⟨0, _, _, Nat.zero_le _, rfl, rfl, by simpa [outs] using o0, kb0⟩
    case round =>
      obtain ⟨k, rd, rc, hk, rfl, rfl, hown, hbel⟩ := hrel
      have hbs := hbel.size
      by_cases hlt : k < ls.length
      · rcases hl1.at_ with h | ⟨b, off, rfl, hb, hc⟩
        · subst h; simp at hlt
        rcases i1.at_ with h | ⟨b1, off1, rfl, hb1, hc1⟩
        · have := HL1.out; rw [h] at this; simp at this; omega
        rcases i2.at_ with h | ⟨b2, off2, rfl, hb2, hc2⟩
        · have := HH1.out; rw [h] at this; simp at this; omega
        have hcx : wr.cell? ⟨b, off + k, none⟩ = some (.int .i64 (ls.getD k 0)) := (hbel.cell (by exact hb)).trans (hc k hlt)
        have hcl : wr.cell? ⟨b1, off1 + k, none⟩ = some (.int .i64 (lo.getD k 0)) := (hbel.cell (by exact hb1)).trans (hc1 k (by rw [HL1.out]; exact hlt))
        have hch : wr.cell? ⟨b2, off2 + k, none⟩ = some (.int .i64 (hi.getD k 0)) := (hbel.cell (by exact hb2)).trans (hc2 k (by rw [HH1.out]; exact hlt))
        have hO1 := outs_in (lo := lo) (hi := hi) (ls := ls) (k := k)
        have hO2 := outs_out (lo := lo) (hi := hi) (ls := ls) (k := k)
        have hOl := outs_len lo hi ls k
        clear hc hc1 hc2
        generalize ls.getD k 0 = x at hcx hO1 hO2
        generalize lo.getD k 0 = y at hcl hO1 hO2
        generalize hi.getD k 0 = z at hch hO1 hO2
        have HO := Lib.hid hown; clear hown
        cases hin : inB x y z
        · have HE := Lib.hid (hO2 hin)
          clear hO1 hO2
          generalize outs lo hi ls k = done at HO HE hOl
          by_cases hxy : x < y
          all_goals
            have hzx : x < y ∨ z < x := inB_not.1 hin
            go_wp2
            go_quiet (fail)
            have HO2 := Lib.hid (HO.out.keep (below_drewN (Below.refl _ _) nq))
            have hbd : Below w1.heap.size wr (wr.drewN nq) := below_drewN (Below.refl _ _) nq
            generalize wr.drewN nq = wd at *
            have hsd := hbd.size
            go_wp2_with (refine list_app1 (by rfl) _ _ (by rfl) w1.heap.size rd rc done.length _ (k : Int) (by rfl) (HO2.out.keep (by go_grown)) rfl wd.heap.size (by rfl) (by simp) ⟨by omega, by omega⟩ (by omega) (by simp; omega) ?_; intro ad' cap' w3 hown2 hgr2; have hbel2 : Below w1.heap.size wd w3 := below_own (by go_grown) (HO2.out.keep (by go_grown)) hgr2 (by simp; omega) (Nat.le_refl _))
            go_roundw
            case rel => exact ⟨k + 1, ad', cap', by omega, by go_num, by rw [HE.out]; simp, by rw [HE.out]; exact hown2, hbel.trans (hbd.trans hbel2)⟩
            case measure => simp [intOf]; omega
        · have HE := Lib.hid (hO1 hin)
          clear hO1 hO2
          obtain ⟨hb3, hb4⟩ := inB_iff.1 hin
          generalize outs lo hi ls k = done at HO HE hOl
          go_wp2
          go_quiet (fail)
          go_wp2
          go_roundw
          case rel => exact ⟨k + 1, rd, rc, by omega, by go_num, by rw [HE.out], by rw [HE.out]; exact HO.out.keep (below_drewN (Below.refl _ _) _), below_drewN hbel _⟩
          case measure => simp [intOf]; omega
      · have HK := Lib.hid (show k = ls.length from by omega)
        go_wp2
        go_ret2
        have e := HK.out
        subst e
        exact ⟨rd, rc, rfl, hown.mono hsz, k1.trans (hbel.mono hsz)⟩
end Go.Proofs.Ytklpnllkpapdoab
