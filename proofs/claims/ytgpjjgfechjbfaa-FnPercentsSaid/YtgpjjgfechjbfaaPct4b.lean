/- Percents: the program's side, walked. -/
import Derived.Test.YtgpjjgfechjbfaaPct4
import Derived.Test.YtgpjjgfechjbfaaAsk4
import Derived.RangeFuncBox
namespace Go.Proofs.Ytgpjjgfechjbfaa
open Go.ChangeShapes Go.WideShapes Go.ChangeAt Go.RowKit Go.Deep
set_option linter.unusedVariables false
theorem choice_fix (norm g : Int) (u : Nat) (ad : Option Addr) (cap : Nat) (zs : List Int) (w : World) (sum : Int) (hz : Ints w ad zs) (hzb : ∀ z ∈ zs, -1000000000000 ≤ z ∧ z ≤ 1000000000000) (hl : zs.length ≤ 40)
    (g1 : 1 ≤ g) (g2 : g ≤ 1000000000000) (hfb : ∀ f ∈ flL g zs, -1000000 ≤ f ∧ f ≤ 1000000) (hs : sum = (flL g zs).sum + u) (hu : u ≤ gtC 0 (reL g zs)) :
    Calls Try.prog 66 #[valV g ad zs.length cap, .int .i64 sum, .int .i64 norm] w fun e w' =>
      ∃ la lc fa fc, e = .returned (chV la (upL (flL g zs) (fixL norm g zs u)).length lc fa (freeL (fixL norm g zs u)).length fc ((u - isC 1 (fixL norm g zs u) : Nat) : Int)) ∧
        Own w' w.heap.size la lc (upL (flL g zs) (fixL norm g zs u)) ∧ OwnN w' w.heap.size fa fc (freeL (fixL norm g zs u)) ∧ Keep w w' := by
  refine (choiceOf_any norm g u ad cap zs w sum hz hzb hl g1 g2 hfb hs hu).mono ?_
  rintro e w' ⟨T, S, la, lc, fa, fc, hrk, rfl, o, n, k⟩
  have hcl := fixL_cls (norm := norm) g1 hrk
  have hft := fixL_fits (norm := norm) g1 hrk
  rw [hcl] at o n ⊢
  refine ⟨la, lc, fa, fc, ?_, o, n, k⟩
  have : (u : Int) - (isC 1 (fixL norm g zs u) : Nat) = ((u - isC 1 (fixL norm g zs u) : Nat) : Int) := by omega
  rw [this]
theorem pct1_any (x W : Int) (b : Nat) (w : World) (c0 : w.cell? ⟨b, 0, none⟩ = some (.int .i64 W)) (hx : 0 ≤ x ∧ x ≤ 1000000) (hW : 0 ≤ W ∧ W ≤ 100000) :
    Calls Try.prog 86 #[.int .i64 x, .pointer (some ⟨b, 0, none⟩)] w fun e w' => e = .returned (.int .i64 (x * W)) ∧ w = w' := by
  have h1 : x * W ≤ 1000000 * 100000 := Int.mul_le_mul hx.2 hW.2 hW.1 (by omega)
  have h2 : 0 ≤ x * W := Int.mul_nonneg hx.1 hW.1
  go_enter Try.func86, Try.ntmps86
  go_wp2
  go_ret
  exact ⟨rfl, rfl⟩
set_option maxHeartbeats 1600000 in
set_option maxRecDepth 100000 in
theorem PercentsOf_any (ad : Option Addr) (cap : Nat) (cs : List Int) (p : Int) (w : World) (hz : Ints w ad cs) (up : In64 p) :
    Calls Try.prog 35 #[.slice ad cs.length cap, .int .i64 p] w fun e w' =>
      ∃ rd rc, e = .returned (.tuple #[.slice rd (pctV cs p).length rc, .bool (pctB cs p)]) ∧ Own w' w.heap.size rd rc (pctV cs p) ∧ Keep w w' := by
  cases h1 : cntsB cs
  · have hB : pctB cs p = false := by simp [pctB, h1]
    rw [show pctV cs p = [] from by simp [pctV, hB], hB]
    go_enter Try.func35, Try.ntmps35
    go_wp2_with (go_at_call 85; refine (areCounts_any _ _ _ _ hz).mono ?_; rw [h1]; rintro e w' ⟨rfl, rfl⟩)
    go_ret2
    exact ⟨none, 0, rfl, Own.nil _ _, Below.refl _ _⟩
  cases h2 : inB p 0 3
  · have hB : pctB cs p = false := by simp [pctB, h2]
    rw [show pctV cs p = [] from by simp [pctV, hB], hB]
    go_enter Try.func35, Try.ntmps35
    go_wp2_with (first | (go_at_call 85; refine (areCounts_any _ _ _ _ hz).mono ?_; rw [h1]; rintro e w' ⟨rfl, rfl⟩) | (go_at_call 84; refine (within_any _ _ _ _).mono ?_; rw [h2]; rintro e w' ⟨rfl, rfl⟩))
    go_ret2
    exact ⟨none, 0, rfl, Own.nil _ _, Below.refl _ _⟩
  have hB : pctB cs p = true := by simp [pctB, h1, h2]
  obtain ⟨⟨hl1, hl2⟩, hc3, hc4⟩ := cnts_parts h1
  obtain ⟨f1, f2, f3, f4, f5, f6⟩ := pct_facts h1 h2
  have hwb := whole_bd h2
  have hp := inB_iff.1 h2
  obtain ⟨q, rfl⟩ : ∃ q : Nat, p = q := ⟨p.toNat, by omega⟩
  have HE : Hid (pctV cs q = putL (flL cs.sum (partsP cs q)) (fixL 0 cs.sum (partsP cs q) (upsP cs q)) (upsP cs q - isC 1 (fixL 0 cs.sum (partsP cs q) (upsP cs q)))) := Lib.hid (by simp [pctV, hB])
  rw [hB]
  have HWD : Hid (wholeP q = 100 * 10 ^ q) := Lib.hid (by simp [wholeP])
  have HC3 := Lib.hid hc3
  have HBX := Lib.hid (Go.Boxed.new w 2 (.int .i64 100))
  have HK0 := Lib.hid (show Keep w (w.alloc (.cells #[.int .i64 100] 2)) by go_grown)
  have hsz0 : (w.alloc (.cells #[.int .i64 100] 2)).heap.size = w.heap.size + 1 := by simp
  have HSZ0 := Lib.hid hsz0
  clear hc3 hsz0 hp
  go_enter Try.func35, Try.ntmps35
  go_wp2_with (first | (go_at_call 85; refine (areCounts_any _ _ _ _ hz).mono ?_; rw [h1]; rintro e w' ⟨rfl, rfl⟩) | (go_at_call 84; refine (within_any _ _ _ _).mono ?_; rw [h2]; rintro e w' ⟨rfl, rfl⟩))
  generalize w.alloc (.cells #[.int .i64 100] 2) = w0 at *
  obtain ⟨s, hs⟩ : ∃ s, s = w.heap.size := ⟨_, rfl⟩
  rw [← hs] at HBX HSZ0 ⊢
  have HSS := Lib.hid hs; clear hs
  have hq3 : q ≤ 3 := by have := inB_iff.1 h2; omega
  go_loopg [17] q (fun kk i wr => ∃ k : Nat, k ≤ q ∧ kk = q - k ∧ i = .int .i64 k ∧ Hid (Go.Boxed wr s 2 (.int .i64 (100 * 10 ^ k))) ∧ Hid (Below s w wr) ∧ s < wr.heap.size)
  case atStart => exact ⟨0, Nat.zero_le _, rfl, rfl, by simpa using HBX, Lib.hid (by rw [HSS.out]; exact HK0.out), by rw [HSZ0.out]; omega⟩
  case round =>
    obtain ⟨k, hk, rfl, rfl, HX, HBl, hss⟩ := hrel
    by_cases hlt : k < q
    · have HS := Lib.hid (HX.out.set (.int .i64 (100 * 10 ^ (k + 1))))
      have c0 := HX.out.cell
      have f0 := HX.out.frozen
      have hx : (100 : Int) * 10 ^ k ≤ 100000 ∧ 0 ≤ (100 : Int) * 10 ^ k := by
        have : k = 0 ∨ k = 1 ∨ k = 2 := by omega
        rcases this with e | e | e <;> rw [e] <;> omega
      have hx2 : (100 : Int) * 10 ^ k * 10 = 100 * 10 ^ (k + 1) := by rw [Int.pow_succ, Int.mul_assoc]
      have HX2 := Lib.hid hx2; clear hx2
      generalize (100 : Int) * 10 ^ k = x at *
      go_wp2
      go_roundg (q - (k + 1))
      case measure => omega
      case rel => exact ⟨k + 1, by omega, rfl, by go_num, Lib.hid (by rw [HX2.out]; exact HS.out), Lib.hid (HBl.out.setCell (by show s ≤ s; omega) _), by simpa using hss⟩
    · have HXW : Hid (Go.Boxed wr s 2 (.int .i64 (wholeP q))) := Lib.hid (by rw [HWD.out, show q = k from by omega]; exact HX.out)
      have c0 := HXW.out.cell
      clear HX HWD
      have hzr := hz.keep (B := s) HBl.out (by rw [HSS.out]; exact Nat.le_refl _)
      have HZR := Lib.hid hzr
      have HPM : Hid (cs.map (fun n => n * wholeP q) = partsP cs q) := Lib.hid rfl
      have C1 : Hid (∀ W, Keep wr W → Calls Try.prog 69 #[.slice ad cs.length cap, .func (.func 86) #[] #[.pointer (some ⟨s, 0, none⟩)]] W fun e w' => ∃ rd rc, e = .returned (.slice rd (partsP cs q).length rc) ∧ Own w' W.heap.size rd rc (partsP cs q) ∧ Keep W w') :=
        Lib.hid (fun W k => by
          rw [← HPM.out]
          refine mappedPct_any (fun n => n * wholeP q) (.pointer (some ⟨s, 0, none⟩)) ad cap cs W (HZR.out.keep k (Nat.le_refl _)) (by omega) (fun z hz => ?_) (fun x hx W2 k2 => ?_)
          · have := f1 (z * wholeP q) (List.mem_map.2 ⟨z, hz, rfl⟩); exact ⟨by omega, by omega⟩
          · have := HC3.out x hx
            exact pct1_any x (wholeP q) s W2 ((k2.cell (p := ⟨s, 0, none⟩) (Nat.lt_of_lt_of_le hss k.size)).trans ((k.cell (p := ⟨s, 0, none⟩) hss).trans HXW.out.cell)) this (by omega))
      have HF1 := Lib.hid f1; have HF4 := Lib.hid f4; have HF5 := Lib.hid f5; have HF6 := Lib.hid f6
      have hFl := flL_len cs.sum (partsP cs q)
      have hCl := fixL_len 0 cs.sum (partsP cs q) (upsP cs q)
      have HCH : Hid (∀ (rd : Option Addr) (rc : Nat) (W : World), Ints W rd (partsP cs q) → Calls Try.prog 66 #[valV cs.sum rd (partsP cs q).length rc, .int .i64 (wholeP q), .int .i64 0] W fun e w' => ∃ la lc fa fc, e = .returned (chV la (upL (flL cs.sum (partsP cs q)) (fixL 0 cs.sum (partsP cs q) (upsP cs q))).length lc fa (freeL (fixL 0 cs.sum (partsP cs q) (upsP cs q))).length fc ((upsP cs q - isC 1 (fixL 0 cs.sum (partsP cs q) (upsP cs q)) : Nat) : Int)) ∧ Own w' W.heap.size la lc (upL (flL cs.sum (partsP cs q)) (fixL 0 cs.sum (partsP cs q) (upsP cs q))) ∧ OwnN w' W.heap.size fa fc (freeL (fixL 0 cs.sum (partsP cs q) (upsP cs q))) ∧ Keep W w') :=
        Lib.hid (fun rd rc W hi => choice_fix 0 cs.sum (upsP cs q) rd rc (partsP cs q) W (wholeP q) hi (fun z hz => by have := HF1.out z hz; omega) (by omega) hc4 (by omega) (fun f hf => by have := HF4.out f hf; omega) HF5.out HF6.out)
      have HFITS : Hid (isC 1 (fixL 0 cs.sum (partsP cs q) (upsP cs q)) ≤ upsP cs q ∧ upsP cs q ≤ isC 1 (fixL 0 cs.sum (partsP cs q) (upsP cs q)) + isC 0 (fixL 0 cs.sum (partsP cs q) (upsP cs q))) := Lib.hid (by
        obtain ⟨m, hm, _⟩ := mst_ex (norm := 0) hc4 HF6.out
        unfold fixL; rw [mst_eq hm]; exact hm.2.1.2)
      clear f1 f4 f5 f6
      generalize partsP cs q = P at *
      generalize upsP cs q = u at *
      generalize fixL 0 cs.sum P u = C at *
      have HFB4 : Hid (∀ f ∈ flL cs.sum P, 0 ≤ f ∧ f ≤ 100000) := Lib.hid HF4.out
      clear HF4 HF5 HF6
      generalize flL cs.sum P = F at *
      have hlC : F.length = C.length := by omega
      have hup : u - isC 1 C ≤ (freeL C).length := by rw [freeL_len]; have := HFITS.out; omega
      have hul : (upL F C).length ≤ 40 := by rw [upL_len F C hlC]; omega
      have hfl40 : (freeL C).length ≤ 40 := by rw [freeL_len]; have := isC_le 0 C; omega
      have HIP := Lib.hid (inc_put C F (u - isC 1 C) hlC)
      have HFI : Hid (∀ i ∈ freeL C, i < (upL F C).length) := Lib.hid (fun i hi => by have := freeL_lt C i hi; rw [upL_len F C hlC]; omega)
      have HUB : Hid (∀ z ∈ upL F C, -2000000 ≤ z ∧ z ≤ 2000000) := Lib.hid (fun z hz => by
        have h := LK_all F C hlC
        have := LK_in F C hlC 1000000 (fun f hf => by have := HFB4.out f hf; omega) F.length z (by rw [h]; exact hz)
        omega)
      have HFIR : Hid (∀ (B : Nat) (la : Option Addr) (lc : Nat) (fa : Option Addr) (fc : Nat) (W : World), Own W B la lc (upL F C) → OwnN W B fa fc (freeL C) → Calls Try.prog 67 #[chV la (upL F C).length lc fa (freeL C).length fc ((u - isC 1 C : Nat) : Int)] W fun e w' => ∃ rd rc, e = .returned (.slice rd (putL F C (u - isC 1 C)).length rc) ∧ Own w' W.heap.size rd rc (putL F C (u - isC 1 C)) ∧ Keep W w') :=
        Lib.hid (fun B la lc fa fc W ho hn => by rw [← HIP.out]; exact first_any B la lc (upL F C) fa fc (freeL C) (u - isC 1 C) W ho hn hup hul hfl40 HFI.out HUB.out)
      have HF2 := Lib.hid f2
      clear hlC hup hFl hCl HFITS HIP HFI HUB HFB4 f2 hul hfl40
      generalize upL F C = L at *
      generalize freeL C = N at *
      generalize u - isC 1 C = v at *
      generalize putL F C v = PV at *
      generalize hW : wholeP q = Wh at *
      have HTOT : Hid (∀ W, Keep wr W → Calls Try.prog 64 #[.slice ad cs.length cap] W fun e w' => e = .returned (.int .i64 cs.sum) ∧ W = w') :=
        Lib.hid (fun W k => total_any ad cap cs W (HZR.out.keep k (Nat.le_refl _)) (fun z hz => by have := HC3.out z hz; omega) (by omega))
      go_wp2_with fail
      refine (C1.out wr (Below.refl _ _)).mono ?_
      rintro e w3 ⟨rd, rc, rfl, o3, k3⟩
      have HO3 := Lib.hid o3; have HK3 := Lib.hid k3
      have HWC : Hid (∀ w', Keep w3 w' → w'.cell? ⟨s, 0, none⟩ = some (.int .i64 Wh) ∧ Keep w3 w') := Lib.hid (fun w' k => ⟨((HK3.out.next k).cell (p := ⟨s, 0, none⟩) hss).trans HXW.out.cell, k⟩)
      clear o3 k3 c0
      have c3 := (HWC.out w3 (Below.refl _ _)).1
      generalize cs.sum = sm at *
      go_wp2_with fail
      go_region_held3 (fun w' => w'.cell? ⟨s, 0, none⟩ = some (.int .i64 Wh) ∧ Keep w3 w')
        (first | exact HWC.out _ (Keep.next (Keep.next (Keep.next (by go_grown) k5) (by go_grown)) k6) | exact HWC.out _ (Keep.next (Keep.next (by go_grown) k5) (by go_grown)) | exact HWC.out _ (by go_grown))
        (first | (go_at_call 64; refine (HTOT.out _ (HK3.out.next (by go_grown))).mono ?_; rintro e w4 ⟨rfl, rfl⟩) | (go_at_call 66; refine (HCH.out rd rc _ ((HO3.out.keep (by go_grown)).ints)).mono ?_; rintro e w5 ⟨la, lc, fa, fc, rfl, o5, n5, k5⟩) | (go_at_call 67; refine (HFIR.out _ la lc fa fc _ (o5.keep (by go_grown)) (n5.keptBy (row := none) (keep_grown (by go_grown) none) (fun r h => by cases h))).mono ?_; rintro e w6 ⟨pd, pc, rfl, o6, k6⟩))
      have hkr : Keep w wr := by show Below w.heap.size w wr; rw [← HSS.out]; exact HBl.out
      have HK6 := Lib.hid ((hkr.next HK3.out).next (Keep.next (Keep.next (by go_grown) k5) k6))
      have hw35 : w3.heap.size ≤ w5.heap.size := by have := k5.size; simpa using this
      have HO6 := Lib.hid (o6.mono (B' := w.heap.size) (by have h1 := hkr.size; have h2 := HK3.out.size; omega))
      clear o5 n5 k5 o6 k6
      go_wp2
      refine bodyPost_ret (v := .tuple #[.slice pd PV.length pc, .bool true]) (by simp [results, Try.results35, go_sem]) rfl ?_
      exact ⟨pd, pc, by rw [HE.out], by rw [HE.out]; exact HO6.out, HK6.out⟩
end Go.Proofs.Ytgpjjgfechjbfaa
