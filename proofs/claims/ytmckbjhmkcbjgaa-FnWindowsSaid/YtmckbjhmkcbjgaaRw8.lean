/- Each copy within its window: the law's look at it. -/
import Derived.Test.YtmckbjhmkcbjgaaWinI8
import Derived.Test.YtmckbjhmkcbjgaaWp8
namespace Go.Proofs.Ytmckbjhmkcbjgaa
open Go.ChangeShapes Go.WideShapes Go.ChangeAt Go.RowKit Go.Deep
set_option linter.unusedVariables false
/-- The cell of a row in memory. -/
theorem intss_cell {w : World} {ad : Option Addr} {zss : List (List Int)} (h : Intss w ad zss) {i t : Nat} (hi : i < zss.length) (ht : t < (zss.getD i []).length) :
    ∃ b off c e o, ad = some ⟨b, off, none⟩ ∧ w.cell? ⟨b, off + i, none⟩ = some (.slice (some ⟨e, o, none⟩) (zss.getD i []).length c) ∧ w.cell? ⟨e, o + t, none⟩ = some (.int .i64 ((zss.getD i []).getD t 0)) := by
  rcases h.at_ with h0 | ⟨b, off, h1, h2, h3⟩
  · rw [h0] at hi; simp at hi
  obtain ⟨p, c, e1, e2, e3⟩ := h3 i hi
  rcases e3.at_ with h0 | ⟨e, o, rfl, h4, h5⟩
  · rw [h0] at ht; simp at ht
  exact ⟨b, off, c, e, o, h1, e1, h5 t ht⟩
set_option maxHeartbeats 3200000 in
set_option maxRecDepth 100000 in
theorem r8Within_any (ad : Option Addr) (cap : Nat) (d : List Int) (bd : Option Addr) (bcap : Nat) (l : List Int) (b : Int) (w : World) (hz : Ints w ad d) (hl : Ints w bd l) (ub : In64 b) (hs : seqO d l = true) :
    Calls Try.prog 24 #[.slice ad d.length cap, .slice bd l.length bcap, .int .i64 b] w fun e w' => e = .returned (.tuple #[.bool (winB d b && inW d l b l.length), .bool (winB d b)]) ∧ Keep w w' := by
  have HW := Lib.hid (WindowsOf_any ad cap d b w hz ub)
  have hdl := hz.small
  have hll := hl.small
  cases hw : winB d b
  · rw [show fstsV d b = [] from by unfold fstsV; rw [hw]; rfl, show lstsV d b = [] from by unfold lstsV; rw [hw]; rfl, hw] at HW
    go_enter Try.func24, Try.ntmps24
    go_wp2_with (go_at_call 44; refine HW.out.mono ?_; rintro e w1 ⟨rd, rc, rA, rC, qd, qc, qA, qC, rfl, o1, o2, og, k1⟩)
    refine bodyPost_ret (v := .tuple #[.bool false, .bool false]) (by simp [results, Try.results24, go_sem]) rfl ?_
    exact ⟨rfl, k1⟩
  have hok := (winB_parts hw).1
  have hp := okD_parts hok
  have h6 := hp.2.1
  have hq := seqO_len hs
  rw [show fstsV d b = fsts d b d.length from by unfold fstsV; rw [hw]; rfl, show lstsV d b = lsts d b d.length from by unfold lstsV; rw [hw]; rfl, hw] at HW
  have HFL := fsts_len d b d.length (Nat.le_refl _)
  have HLL := lsts_len d b d.length (Nat.le_refl _)
  have HROW : Hid (∀ k, k < l.length → ∃ x t : Nat, l.getD k 0 = (x : Int) ∧ x < d.length ∧ cntI (l.take k) x = (t : Int) ∧ t ≤ 40 ∧
      t < ((fsts d b d.length).getD x []).length ∧ t < ((lsts d b d.length).getD x []).length ∧ ((fsts d b d.length).getD x []).length ≤ 40 ∧ ((lsts d b d.length).getD x []).length ≤ 40 ∧
      inAt d l b k = (decide (((fsts d b d.length).getD x []).getD t 0 ≤ (k : Int) + 1) && decide ((k : Int) + 1 ≤ ((lsts d b d.length).getD x []).getD t 0))) := Lib.hid (fun k hk => by
    have hr := rngB_at (seqO_parts hs).2.1 hk
    obtain ⟨x, hx⟩ : ∃ x : Nat, l.getD k 0 = (x : Int) := ⟨(l.getD k 0).toNat, by omega⟩
    obtain ⟨c1, c2, c3, c4⟩ := copy_lt hs hk hx
    obtain ⟨t, ht⟩ : ∃ t : Nat, cntI (l.take k) x = (t : Int) := ⟨(cntI (l.take k) x).toNat, by omega⟩
    have hd := hp.2.2.1 x c1
    obtain ⟨n, hn⟩ : ∃ n : Nat, d.getD x 0 = (n : Int) := ⟨(d.getD x 0).toNat, by omega⟩
    have e1 : (fsts d b d.length).getD x [] = fstL d.sum b (n : Int) := by
      unfold fsts; rw [List.take_length, ← hn]; simp [List.getD_eq_getElem?_getD, c1]
    have e2 : (lsts d b d.length).getD x [] = lstL d.sum b (n : Int) := by
      unfold lsts; rw [List.take_length, ← hn]; simp [List.getD_eq_getElem?_getD, c1]
    rw [ht, hn] at c3
    refine ⟨x, t, hx, c1, ht, by omega, by rw [e1, fstL_len]; omega, by rw [e2, lstL_len]; omega, by rw [e1, fstL_len]; omega, by rw [e2, lstL_len]; omega, ?_⟩
    rw [e1, e2, fstL_get _ _ _ _ (by omega), lstL_get _ _ _ _ (by omega)]
    unfold inAt
    rw [hx, Int.toNat_natCast, ht, Int.toNat_natCast, hn])
  obtain ⟨V, hV⟩ : ∃ V, V = (true && inW d l b l.length) := ⟨_, rfl⟩
  rw [← hV]
  have HV := Lib.hid hV
  have HSUC := Lib.hid (fun k => inW_succ d l b k)
  have HZ : Hid (inW d l b 0 = true) := Lib.hid rfl
  have HCD := Lib.hid (fun k (h : k ≤ l.length) i => cntI_bd l k i h)
  have HLN := Lib.hid (cntL_len d.length)
  clear hV hp hok hw hs hq
  obtain ⟨i0, hi, hz0, hz1, hz2⟩ := info_parts Try.infoI
  have hb8 : i0.bytes * d.length ≤ 281474976710656 := by rw [hz2]; omega
  have hml : d.length ≤ maxLen := by unfold maxLen; omega
  generalize fsts d b d.length = F at *
  generalize lsts d b d.length = L at *
  rw [HFL, HLL] at HW
  go_enter Try.func24, Try.ntmps24
  go_wp2_with fail
  refine HW.out.mono ?_
  rintro e w1 ⟨rd, rc, rA, rC, qd, qc, qA, qC, rfl, o1, o2, og, k1⟩
  have HI1 := Lib.hid o1.ints
  have HI2 := Lib.hid o2.ints
  have HD1 := Lib.hid (hz.keep k1 (Nat.le_refl _))
  have HL1 := Lib.hid (hl.keep k1 (Nat.le_refl _))
  have HK1 := Lib.hid k1
  clear o1 o2 og k1
  go_wp2_with (at_make; refine wpList_make_full w1 rfl _ _ 24 rfl w1.heap.size 2 i0 (.int .i64 0) 1 Try.underlying24 hi hz0 hz1 .i64 .i64 _ _ d.length rfl rfl rfl rfl hb8 hml (Nat.le_refl _) ?_)
  intro w0 hown0 hgrow0
  have hown0 : w0.ownsRow w1.heap.size 2 1 (.slice (some ⟨w1.heap.size, 0, none⟩) d.length d.length) d.length (List.replicate d.length (.int .i64 0)) := by simpa [Value.cells, toList_madeCells_one] using hown0
  have hk0 : Keep w1 w0 := (Below.refl _ _).grown hgrow0 (Nat.le_refl _) (fun k h => by cases h)
  clear hgrow0
  obtain ⟨B, hB⟩ : ∃ B, B = w1.heap.size := ⟨_, rfl⟩
  rw [← hB] at hown0 ⊢
  have HB := Lib.hid hB; clear hB
  go_wp2
  go_loopw [12, 13, 14, 15] (fun f k _ _ wr => ∃ n : Nat, n ≤ l.length ∧ k = .int .i64 n ∧ f = .bool (inW d l b n) ∧ Hid (wr.ownsRow B 2 1 (.slice (some ⟨B, 0, none⟩) d.length d.length) d.length (vals (cntL d.length (l.take n)))) ∧ Hid (Keep w1 wr))
    (fun _ k _ _ _ => l.length - (intOf k).toNat)
  case atStart => exact ⟨0, Nat.zero_le _, rfl, by rw [HZ.out], Lib.hid (by rw [List.take_zero, cntL_nil]; exact hown0), Lib.hid hk0⟩
  case round =>
    obtain ⟨k, hk, rfl, rfl, HO, HK⟩ := hrel
    by_cases hlt : k < l.length
    · rcases (HL1.out.keep HK.out (Nat.le_refl _)).at_ with h | ⟨lb, loff, rfl, hb1, hc⟩
      · subst h; simp at hlt
      have hcx := hc k hlt
      clear hc
      obtain ⟨x, t, hx, c1, ht, ht40, ht1, ht2, hr1, hr2, hin⟩ := HROW.out k hlt
      obtain ⟨fb, fo, fc, fe, feo, rfl, f1, f2⟩ := intss_cell (HI1.out.keep HK.out (Nat.le_refl _)) (i := x) (by omega) ht1
      obtain ⟨gb, go, gc, ge, geo, rfl, g1, g2⟩ := intss_cell (HI2.out.keep HK.out (Nat.le_refl _)) (i := x) (by omega) ht2
      have HS := Lib.hid (cntL_set d.length l k x hlt hx c1)
      have hcy : wr.cell? ⟨B, x, none⟩ = some (.int .i64 (t : Int)) := by rw [HO.out.cellAt x (by omega), cntL_at _ _ x c1, ht]
      have hfy := HO.out.frozenAt x
      have HST := Lib.hid (HO.out.stored x (.int .i64 ((t : Int) + 1)))
      have HN := Lib.hid (HSUC.out k)
      rw [hin] at HN
      rw [hx] at hcx
      rw [ht] at HS
      have hxi : (x : Int) < (d.length : Int) := by omega
      generalize (F.getD x []).getD t 0 = u at *
      generalize (L.getD x []).getD t 0 = v at *
      generalize (F.getD x []).length = un at *
      generalize (L.getD x []).length = vn at *
      have q1 : ¬ (un : Int) ≤ (t : Int) := by omega
      have q2 : ¬ (vn : Int) ≤ (t : Int) := by omega
      have q3 : (t : Int) < (un : Int) := by omega
      have q4 : (t : Int) < (vn : Int) := by omega
      have V1 : IntKind.i64.wrap ((k : Int) + 1) = (k : Int) + 1 := IntWalk.i64_in _ (by omega)
      have V2 : IntKind.i64.wrap ((t : Int) + 1) = (t : Int) + 1 := IntWalk.i64_in _ (by omega)
      clear hin hx ht
      cases hf : inW d l b k
      · rw [hf, Bool.false_and] at HN
        go_wp2
        go_roundw
        case rel =>
          obtain ⟨s1, s2⟩ := HST.out
          rw [HS.out] at s1
          exact ⟨k + 1, by omega, by go_num, by rw [HN.out], Lib.hid s1, Lib.hid (HK.out.setCell (by rw [HB.out]; exact Nat.le_refl _) _)⟩
        case measure => simp [intOf]; omega
      · rw [hf, Bool.true_and] at HN
        by_cases hu : u ≤ (k : Int) + 1
        · rw [decide_eq_true hu, Bool.true_and] at HN
          go_wp2
          go_roundw
          case rel =>
            obtain ⟨s1, s2⟩ := HST.out
            rw [HS.out] at s1
            exact ⟨k + 1, by omega, by go_num, by rw [HN.out], Lib.hid s1, Lib.hid (HK.out.setCell (by rw [HB.out]; exact Nat.le_refl _) _)⟩
          case measure => simp [intOf]; omega
        · rw [decide_eq_false hu, Bool.false_and] at HN
          go_wp2
          go_roundw
          case rel =>
            obtain ⟨s1, s2⟩ := HST.out
            rw [HS.out] at s1
            exact ⟨k + 1, by omega, by go_num, by rw [HN.out], Lib.hid s1, Lib.hid (HK.out.setCell (by rw [HB.out]; exact Nat.le_refl _) _)⟩
          case measure => simp [intOf]; omega
    · have HE := Lib.hid (show k = l.length by omega)
      have HF : Hid (inW d l b k = V) := Lib.hid (by rw [HV.out, HE.out, Bool.true_and])
      rw [HF.out]
      go_wp2
      refine bodyPost_ret (v := .tuple #[.bool V, .bool true]) (by simp [results, Try.results24, go_sem]) rfl ?_
      exact ⟨rfl, HK1.out.next HK.out⟩
end Go.Proofs.Ytmckbjhmkcbjgaa
