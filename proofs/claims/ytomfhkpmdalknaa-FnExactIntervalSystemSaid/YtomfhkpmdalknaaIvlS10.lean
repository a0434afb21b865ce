/- Systems of intervals: the model's side. -/
import Derived.Test.YtomfhkpmdalknaaIvl10
import Derived.Test.YtomfhkpmdalknaaStep
import Derived.Deep.RegionHeld3
namespace Go.Proofs.Ytomfhkpmdalknaa
open Go.ChangeShapes Go.WideShapes Go.ChangeAt Go.RowKit Go.Deep
set_option linter.unusedVariables false
theorem l00InX (n lo hi : Int) (b : Bool) (w : World) (h : inB n lo hi = b) : Calls Try.prog 73 #[.int .i64 n, .int .i64 lo, .int .i64 hi] w fun e w' => e = .returned (.bool b) ∧ w' = w :=
  (l00In_any n lo hi w).mono fun _ _ h2 => ⟨by rw [h2.1, h], h2.2.symm⟩
theorem cellI_eq {w : World} {x y : Int} {t : Nat} (h : x = y) : (w.alloc (.cells #[.int .i64 x] t)).cell? ⟨w.heap.size, 0, none⟩ = some (.int .i64 y) := by rw [h]; simp
theorem iv_wrap {a c2 yv : Nat} (h : a ≤ c2) (h2 : c2 ≤ 11) (hn : yv = 2 ^ (c2 + 1) - 2 ^ a) :
    IntKind.i64.wrap (IntKind.i64.wrap (2 ^ min (IntKind.u64.wrap (IntKind.i64.wrap ((c2 : Int) + 1))).toNat 64) - IntKind.i64.wrap (2 ^ min (IntKind.u64.wrap (a : Int)).toNat 64)) = (yv : Int) := by
  rw [IntWalk.i64_in ((c2 : Int) + 1) (by omega), IntWalk.u64_in ((c2 : Int) + 1) (by omega), IntWalk.u64_in (a : Int) (by omega)]
  rw [show ((c2 : Int) + 1).toNat = c2 + 1 from by omega, Int.toNat_natCast, show min (c2 + 1) 64 = c2 + 1 from by omega, show min a 64 = a from by omega]
  obtain ⟨q1, q2, q3, q4, q5, q6⟩ := iv_pows (a := a) (b := c2) (by omega) (by omega)
  have e3 : IntKind.i64.wrap ((2 : Int) ^ (c2 + 1)) = ((2 ^ (c2 + 1) : Nat) : Int) := by
    rw [show ((2 : Int) ^ (c2 + 1)) = ((2 ^ (c2 + 1) : Nat) : Int) from by norm_cast]; generalize 2 ^ (c2 + 1) = P at *; exact IntWalk.i64_in _ (by omega)
  have e4 : IntKind.i64.wrap ((2 : Int) ^ a) = ((2 ^ a : Nat) : Int) := by
    rw [show ((2 : Int) ^ a) = ((2 ^ a : Nat) : Int) from by norm_cast]; generalize 2 ^ (c2 + 1) = P at *; generalize 2 ^ a = Q at *; exact IntWalk.i64_in _ (by omega)
  rw [e3, e4, hn]
  generalize 2 ^ (c2 + 1) = P at *
  generalize 2 ^ a = Q at *
  rw [IntWalk.i64_in _ (by omega)]; omega
/-- The model's two tests of an interval's ends. -/
theorem iv_model {p : Int} {es : List Int} (h : es.length = 2) : ivB p es = (inB (es.getD 0 0) 0 (p - 1) && inB (es.getD 1 0) (es.getD 0 0) (p - 1)) := by
  unfold ivB
  rw [decide_eq_true h, Bool.true_and, Bool.eq_iff_iff]
  simp only [Bool.and_eq_true, inB_iff]
  omega
set_option maxHeartbeats 16000000 in
set_option maxRecDepth 100000 in
theorem specIntervalSystem_any (p : Int) (ad : Option Addr) (cap : Nat) (ess : List (List Int)) (w : World) (up : In64 p) (hz : Intss w ad ess) :
    Calls Try.prog 47 #[.int .i64 p, .slice ad ess.length cap] w fun e w' => ∃ rd rc, e = .returned (.tuple #[valV (isvG p ess) rd (isvV p ess).length rc, .bool (isvB p ess)]) ∧ Own w' w.heap.size rd rc (isvV p ess) ∧ Keep w w' := by
  have hlen := hz.small
  have HNO : Hid (isvB p ess = false → isvG p ess = 0 ∧ isvV p ess = []) := Lib.hid (fun h => ⟨by simp [isvG, h], by simp [isvV, h]⟩)
  have HYES : Hid (isvB p ess = true → isvG p ess = p ∧ isvV p ess = ivL ess) := Lib.hid (fun h => ⟨by simp [isvG, h], by simp [isvV, h]⟩)
  cases h1 : inB p 0 12
  · have hb : isvB p ess = false := by unfold isvB; rw [h1]; rfl
    rw [hb, (HNO.out hb).1, (HNO.out hb).2]
    go_enter Try.func47, Try.ntmps47
    go_wp2_with (go_at_call 73; refine (l00In_any _ _ _ _).mono ?_; rw [h1]; rintro e w' ⟨rfl, rfl⟩)
    refine bodyPost_ret (v := .tuple #[valV 0 none 0 0, .bool false]) (by simp [results, Try.results47, go_sem]) rfl ?_
    exact ⟨none, 0, rfl, Own.nil _ _, by go_grown⟩
  have hp := inB_iff.1 h1
  by_cases h2 : ess.length ≤ 12
  case neg =>
    have hb : isvB p ess = false := by unfold isvB; rw [decide_eq_false h2, h1]; rfl
    have h12 : (12 : Int) < (ess.length : Int) := by omega
    rw [hb, (HNO.out hb).1, (HNO.out hb).2]
    go_enter Try.func47, Try.ntmps47
    go_wp2_with (go_at_call 73; refine (l00In_any _ _ _ _).mono ?_; rw [h1]; rintro e w' ⟨rfl, rfl⟩)
    refine bodyPost_ret (v := .tuple #[valV 0 none 0 0, .bool false]) (by simp [results, Try.results47, go_sem]) rfl ?_
    exact ⟨none, 0, rfl, Own.nil _ _, by go_grown⟩
  have h12 : ¬ (12 : Int) < (ess.length : Int) := by omega
  have HLN := Lib.hid (fun k => ivL_len (ess.take k))
  have HSU := Lib.hid (ivL_succ ess)
  have HFA := Lib.hid (fun k h hf => iv_no (p := p) (ess := ess) (k := k) h hf)
  have HTR := Lib.hid (fun h => iv_yes (p := p) (ess := ess) h1 h2 h)
  have HBD := Lib.hid (fun es (h : ivB p es = true) => ivN_bd h hp.2)
  have H0 : Hid (ivL (ess.take 0) = []) := Lib.hid rfl
  have HTL : Hid (ivL (ess.take ess.length) = ivL ess) := Lib.hid (by rw [List.take_length])
  have HXV : Hid (∀ es, ivX p es = if ivB p es then (ivN es : Int) else 0) := Lib.hid (fun es => rfl)
  generalize isvB p ess = VB at *
  generalize isvG p ess = VG at *
  generalize isvV p ess = VV at *
  go_enter Try.func47, Try.ntmps47
  go_wp2_with (go_at_call 73; refine (l00In_any _ _ _ _).mono ?_; rw [h1]; rintro e w' ⟨rfl, rfl⟩)
  have G0 : GrwX (w.alloc (.cells #[.int .i64 0, .slice none 0 0] 66)) (((w.alloc (.cells #[.int .i64 0, .slice none 0 0] 66)).alloc (.cells #[] 2)).alloc (.cells #[.int .i64 p, .slice (some ⟨w.heap.size + 1, 0, none⟩) 0 0] 66)) (w.heap.size + 1 + 1) p (some ⟨w.heap.size + 1, 0, none⟩) 0 [] := by
    have o := World.ownsRow_lit (base := (w.alloc (.cells #[.int .i64 0, .slice none 0 0] 66)).heap.size) (e := 2) (size := 1) (w.alloc (.cells #[.int .i64 0, .slice none 0 0] 66)) #[] 0 (Nat.le_refl _) (by simp) rfl
    have o2 : Own ((w.alloc (.cells #[.int .i64 0, .slice none 0 0] 66)).alloc (.cells #[] 2)) (w.alloc (.cells #[.int .i64 0, .slice none 0 0] 66)).heap.size (some ⟨w.heap.size + 1, 0, none⟩) 0 [] := ⟨by simpa using o, by simp, by simp⟩
    exact ⟨by simp [go_sem], by simp [go_sem], by simp [go_sem], by simp [go_sem], by simp, by first | (simp; done) | (simp; omega), o2.keep (by go_grown), fun a h => by simp at h; subst h; simp, by go_grown⟩
  have R0 : (w.alloc (.cells #[.int .i64 0, .slice none 0 0] 66)).cell? ⟨w.heap.size, 0, none⟩ = some (.int .i64 0) := by simp
  have R1 : (w.alloc (.cells #[.int .i64 0, .slice none 0 0] 66)).cell? ⟨w.heap.size, 1, none⟩ = some (.slice none 0 0) := by simp
  have F0 : (w.alloc (.cells #[.int .i64 0, .slice none 0 0] 66)).frozen? ⟨w.heap.size, 0, none⟩ = false := by simp
  have F1 : (w.alloc (.cells #[.int .i64 0, .slice none 0 0] 66)).frozen? ⟨w.heap.size, 1, none⟩ = false := by simp
  have HKA : Hid (Keep w (w.alloc (.cells #[.int .i64 0, .slice none 0 0] 66))) := Lib.hid (by go_grown)
  have hsz : (w.alloc (.cells #[.int .i64 0, .slice none 0 0] 66)).heap.size = w.heap.size + 1 := by simp
  have HG0 := Lib.hid G0; have HR0 := Lib.hid R0; have HR1 := Lib.hid R1; have HF0 := Lib.hid F0; have HF1 := Lib.hid F1; have HSZ := Lib.hid hsz
  clear G0 R0 R1 F0 F1 hsz
  generalize hwa : w.alloc (.cells #[.int .i64 0, .slice none 0 0] 66) = wa at *
  clear hwa
  have HZA := Lib.hid (hz.keep HKA.out (Nat.le_refl _))
  clear hz
  go_loopg [7] ess.length (fun kk i wr => ∃ (k : Nat) (rd : Option Addr) (rc : Nat), k ≤ ess.length ∧ kk = ess.length - k ∧ i = .int .i64 k ∧ Hid (GrwX wa wr (w.heap.size + 1 + 1) p rd rc (ivL (ess.take k))) ∧ Hid (∀ j, j < k → ivB p (ess.getD j []) = true))
  case atStart => exact ⟨0, _, _, by omega, rfl, rfl, by rw [H0.out]; exact HG0, Lib.hid (fun j h => absurd h (Nat.not_lt_zero _))⟩
  case round =>
    obtain ⟨k, rd, rc, hk, rfl, rfl, HG, HA⟩ := hrel
    have hlk : (ess.take k).length = k := by rw [List.length_take]; omega
    have HLK := Lib.hid (HLN.out k)
    rw [hlk] at HLK
    clear hlk
    have r0 := (HG.out.k.cell (p := ⟨w.heap.size, 0, none⟩) (by rw [HSZ.out]; show w.heap.size < w.heap.size + 1; omega)).trans HR0.out
    have r1 := (HG.out.k.cell (p := ⟨w.heap.size, 1, none⟩) (by rw [HSZ.out]; show w.heap.size < w.heap.size + 1; omega)).trans HR1.out
    have q0 := (HG.out.k.frozen (p := ⟨w.heap.size, 0, none⟩) (by rw [HSZ.out]; show w.heap.size < w.heap.size + 1; omega)).trans HF0.out
    have q1 := (HG.out.k.frozen (p := ⟨w.heap.size, 1, none⟩) (by rw [HSZ.out]; show w.heap.size < w.heap.size + 1; omega)).trans HF1.out
    by_cases hlt : k < ess.length
    · have hle : (k : Int) < (ess.length : Int) := by omega
      rcases (HZA.out.keep HG.out.k (Nat.le_refl _)).at_ with h | ⟨b, off, rfl, hb, hc⟩
      · subst h; simp at hlt
      obtain ⟨q, c, hcx, hqc, hints⟩ := hc k hlt
      have HSK := Lib.hid (HSU.out k hlt)
      have HFK := Lib.hid (HFA.out k hlt)
      have HAS : Hid (ivB p (ess.getD k []) = true → ∀ j, j < k + 1 → ivB p (ess.getD j []) = true) := Lib.hid (fun h j hj => by
        by_cases e : j = k
        · subst e; exact h
        · exact HA.out j (by omega))
      have HBK := Lib.hid (HBD.out (ess.getD k []))
      have hsk := hints.small
      have hbk : b < wa.heap.size := by
        rcases HZA.out.at_ with h | ⟨b', off', e, hb', _⟩
        · rw [h] at hlt; simp at hlt
        · cases e; exact hb'
      clear hc
      have b0 := HG.out.c0; have b1 := HG.out.c1
      rw [HLK.out] at b1
      have HNZ : Hid (ivN (ess.getD k []) = 2 ^ (((ess.getD k []).getD 1 0).toNat + 1) - 2 ^ ((ess.getD k []).getD 0 0).toNat) := Lib.hid rfl
      -- how it fails
      have HFL : Hid (ivB p (ess.getD k []) = false → ∀ W, Keep wr W → ∃ rd2 rc2, Ending.returned (.tuple #[valV 0 none 0 0, .bool false]) = .returned (.tuple #[valV VG rd2 VV.length rc2, .bool VB]) ∧ Own ((W.setCell ⟨w.heap.size, 0, none⟩ (.int .i64 0)).setCell ⟨w.heap.size, 1, none⟩ (.slice none 0 0)) w.heap.size rd2 rc2 VV ∧ Keep w ((W.setCell ⟨w.heap.size, 0, none⟩ (.int .i64 0)).setCell ⟨w.heap.size, 1, none⟩ (.slice none 0 0))) := Lib.hid (fun hv W k2 => by
        have hb := HFK.out hv
        obtain ⟨e1, e2⟩ := HNO.out hb
        refine ⟨none, 0, by rw [hb, e1, e2]; rfl, by rw [e2]; exact Own.nil _ _, ?_⟩
        exact ((((HKA.out.trans (HG.out.k.mono (by rw [HSZ.out]; omega))).trans (k2.mono (Nat.le_trans (by rw [HSZ.out]; omega) HG.out.k.size))).setCell (p := ⟨w.heap.size, 0, none⟩) (Nat.le_refl _) (.int .i64 0)).setCell (p := ⟨w.heap.size, 1, none⟩) (Nat.le_refl _) (.slice none 0 0)))
      have HRC : Hid (∀ W, Keep wr W → W.cell? ⟨w.heap.size, 0, none⟩ = some (.int .i64 0) ∧ W.cell? ⟨w.heap.size, 1, none⟩ = some (.slice none 0 0) ∧ W.frozen? ⟨w.heap.size, 0, none⟩ = false ∧ W.frozen? ⟨w.heap.size, 1, none⟩ = false) := Lib.hid (fun W k2 =>
        ⟨(k2.cell (p := ⟨w.heap.size, 0, none⟩) (block_lt_of_cell r0)).trans r0, (k2.cell (p := ⟨w.heap.size, 1, none⟩) (block_lt_of_cell r1)).trans r1, (k2.frozen (p := ⟨w.heap.size, 0, none⟩) (block_lt_of_cell r0)).trans q0, (k2.frozen (p := ⟨w.heap.size, 1, none⟩) (block_lt_of_cell r1)).trans q1⟩)
      clear r0 r1 q0 q1
      generalize hes : ess.getD k [] = es at *
      have HES := Lib.hid hes; clear hes
      by_cases h2l : es.length = 2
      case neg =>
        have hl2 : ((es.length : Int) != 2) = true := by simp; omega
        have hv : ivB p es = false := by unfold ivB; rw [decide_eq_false h2l]; rfl
        have HFL2 := Lib.hid (HFL.out hv)
        clear hv
        go_wp2
        go_quiet (fail)
        have HKQ := Lib.hid (show Keep wr (wr.drewN nq) from below_drewN (Below.refl _ _) _)
        obtain ⟨s0, s1, t0, t1⟩ := HRC.out _ HKQ.out
        generalize wr.drewN nq = wq at *
        have HST := Lib.hid (res_set s0 s1 (.int .i64 0) (.slice none 0 0))
        go_wp2
        refine bodyPost_ret (v := .tuple #[valV 0 none 0 0, .bool false]) (by simp [results, Try.results47, go_sem, HST.out.1, HST.out.2]) rfl ?_
        exact HFL2.out _ HKQ.out
      have HIM := Lib.hid (iv_model (p := p) h2l)
      have i0 := hints.wf _ (getD_mem es 0 (by omega))
      have i1 := hints.wf _ (getD_mem es 1 (by omega))
      rcases hints.at_ with h | ⟨qb, qo, rfl, hqb, hqc⟩
      · subst h; simp at h2l
      have HQA : Hid (qb < wa.heap.size) := Lib.hid (by
        rcases HZA.out.at_ with h | ⟨b', off', e, hb', hc'⟩
        · rw [h] at hlt; simp at hlt
        · cases e
          obtain ⟨q2, c2, z1, z2, z3⟩ := hc' k hlt
          have z4 := (HG.out.k.cell (p := ⟨b, off + k, none⟩) hb').trans z1
          rw [hcx] at z4
          simp at z4
          obtain ⟨rfl, _⟩ := z4
          rcases z3.at_ with h | ⟨b3, o3, e3, h3, _⟩
          · rw [HES.out] at h; subst h; simp at h2l
          · cases e3; exact h3)
      have e0 := hqc 0 (by omega)
      have e1 := hqc 1 (by omega)
      rw [Nat.add_zero] at e0
      have hl2 : ((es.length : Int) != 2) = false := by rw [h2l]; rfl
      rw [h2l] at hcx
      clear hqc hl2 hsk
      generalize es.getD 0 0 = x at *
      generalize es.getD 1 0 = y at *
      have w1 : IntKind.i64.wrap (p - 1) = p - 1 := IntWalk.i64_in _ (by omega)
      cases f1 : inB x 0 (p - 1)
      · have HFL2 := Lib.hid (HFL.out (by rw [HIM.out, f1]; rfl))
        go_wp2
        go_quiet ((go_at_call 73; exact Calls.quiet_of_same (l00InX _ _ _ _ _ f1)))
        have HKQ := Lib.hid (show Keep wr (wr.drewN nq) from below_drewN (Below.refl _ _) _)
        obtain ⟨s0, s1, t0, t1⟩ := HRC.out _ HKQ.out
        generalize wr.drewN nq = wq at *
        have HST := Lib.hid (res_set s0 s1 (.int .i64 0) (.slice none 0 0))
        go_wp2
        refine bodyPost_ret (v := .tuple #[valV 0 none 0 0, .bool false]) (by simp [results, Try.results47, go_sem, HST.out.1, HST.out.2]) rfl ?_
        exact HFL2.out _ HKQ.out
      cases f2 : inB y x (p - 1)
      · have HFL2 := Lib.hid (HFL.out (by rw [HIM.out, f1, f2]; rfl))
        go_wp2
        go_quiet ((go_at_call 73; first | exact Calls.quiet_of_same (l00InX _ _ _ _ _ f1) | exact Calls.quiet_of_same (l00InX _ _ _ _ _ f2)))
        have HKQ := Lib.hid (show Keep wr (wr.drewN nq) from below_drewN (Below.refl _ _) _)
        obtain ⟨s0, s1, t0, t1⟩ := HRC.out _ HKQ.out
        generalize wr.drewN nq = wq at *
        have HST := Lib.hid (res_set s0 s1 (.int .i64 0) (.slice none 0 0))
        go_wp2
        refine bodyPost_ret (v := .tuple #[valV 0 none 0 0, .bool false]) (by simp [results, Try.results47, go_sem, HST.out.1, HST.out.2]) rfl ?_
        exact HFL2.out _ HKQ.out
      have hv : ivB p es = true := by rw [HIM.out, f1, f2]; rfl
      have HAK := Lib.hid (HAS.out hv)
      have hyb := HBK.out hv
      clear hv
      have g1 := inB_iff.1 f1; have g2 := inB_iff.1 f2
      obtain ⟨a, rfl⟩ : ∃ a : Nat, x = a := ⟨x.toNat, by omega⟩
      obtain ⟨c2, rfl⟩ : ∃ c : Nat, y = c := ⟨y.toNat, by omega⟩
      go_wp2
      go_quiet ((go_at_call 73; first | exact Calls.quiet_of_same (l00InX _ _ _ _ _ f1) | exact Calls.quiet_of_same (l00InX _ _ _ _ _ f2)))
      have HKQ := Lib.hid (show Keep wr (wr.drewN nq) from below_drewN (Below.refl _ _) _)
      have HG2 := Lib.hid (HG.out.keep HKQ.out)
      have d0 := (HKQ.out.cell (p := ⟨b, off + k, none⟩) hb).trans hcx
      have d1 := (HKQ.out.cell (p := ⟨qb, qo, none⟩) hqb).trans e0
      have d2 := (HKQ.out.cell (p := ⟨qb, qo + 1, none⟩) hqb).trans e1
      clear hcx e0 e1 b0 b1
      have hqb2 : qb < (wr.drewN nq).heap.size := Nat.lt_of_lt_of_le hqb HKQ.out.size
      generalize wr.drewN nq = wq at *
      have HS : Hid (∀ W, Below wa.heap.size wa W → Below wa.heap.size wq W → (W.cell? ⟨b, off + k, none⟩ = some (.slice (some ⟨qb, qo, none⟩) 2 c) ∧ W.cell? ⟨qb, qo, none⟩ = some (.int .i64 (a : Nat)) ∧ W.cell? ⟨qb, qo + 1, none⟩ = some (.int .i64 (c2 : Nat))) ∧ Below wa.heap.size wa W) := Lib.hid (fun W ka kq =>
        ⟨⟨(kq.cell (p := ⟨b, off + k, none⟩) hbk).trans d0, (kq.cell (p := ⟨qb, qo, none⟩) HQA.out).trans d1, (kq.cell (p := ⟨qb, qo + 1, none⟩) HQA.out).trans d2⟩, ka⟩)
      have b0 := HG2.out.c0; have b1 := HG2.out.c1
      rw [HLK.out] at b1
      have bf := HG2.out.f1
      generalize ivN es = yv at *
      have HS2K : Hid (ivL (ess.take (k + 1)) = ivL (ess.take k) ++ [(yv : Int)]) := HSK
      generalize ivL (ess.take k) = L at *
      have hwq := HG2.out.k.size
      have HXL := Lib.hid HG2.out.le
      have HVW := Lib.hid (iv_wrap (a := a) (c2 := c2) (yv := yv) (by omega) (by omega) (by have hn := HNZ.out; rwa [Int.toNat_natCast, Int.toNat_natCast] at hn))
      have b1a : ∀ X, (wq.alloc X).cell? ⟨w.heap.size + 1 + 1, 1, none⟩ = some (.slice rd k rc) := fun X => by
        have := (HG2.out.keep (show Keep wq (wq.alloc X) by go_grown)).c1; rwa [HLK.out] at this
      go_wp2
      go_region_law
        (refine step_app (by rfl) _ _ (by rfl) wa.heap.size rd rc k L (yv : Int) (by rfl) (HG2.out.keep (by go_grown)).o HLK.out.symm _ (by rfl) (cellI_eq (by first | exact HVW.out | skip)) ⟨by omega, by omega⟩ (by rw [HLK.out]; omega) (by simp; omega) ?_
         intro g8 cap8 w8 hown8 hgr8 hat8
         rw [← HLK.out] at hgr8
         have G8 := Lib.hid ((HG2.out.keep (by go_grown)).app hown8 hgr8 hat8)
         have c8 := G8.out.1.1; have f8 := G8.out.1.2
         rw [HLK.out] at c8
         clear hown8 hgr8 hat8)
      all_goals go_wp2
      all_goals
        go_roundg (ess.length - (k + 1))
        case measure => omega
        case rel => exact ⟨k + 1, _, _, by omega, rfl, by go_num, Lib.hid (by rw [HS2K.out]; have h := G8.out.2; rw [HLK.out] at h; first | exact h | exact h.keep (by go_grown)), HAK⟩
    · have HE := Lib.hid (show k = ess.length by omega)
      have hle : ¬ (k : Int) < (ess.length : Int) := by omega
      have hb := HTR.out (fun j hj => HA.out j (by rw [HE.out]; exact hj))
      have HY := Lib.hid (HYES.out hb)
      have HVB := Lib.hid hb
      have b0 := HG.out.c0; have b1 := HG.out.c1
      rw [HLK.out] at b1
      have HRS := Lib.hid (res_set r0 r1 (.int .i64 p) (.slice rd k rc))
      have HO := Lib.hid ((HG.out.o.set2 (b := w.heap.size) (by rw [HSZ.out]; omega) (.int .i64 p) (.slice rd k rc)).mono (B' := w.heap.size) (by rw [HSZ.out]; omega))
      have HK := Lib.hid (((HKA.out.trans (HG.out.k.mono (by rw [HSZ.out]; omega))).setCell (p := ⟨w.heap.size, 0, none⟩) (Nat.le_refl _) (.int .i64 p)).setCell (p := ⟨w.heap.size, 1, none⟩) (Nat.le_refl _) (.slice rd k rc))
      clear hb
      go_wp2
      refine bodyPost_ret (v := .tuple #[valV p rd k rc, .bool true]) (by simp [results, Try.results47, go_sem, HRS.out.1, HRS.out.2]) rfl ?_
      refine ⟨rd, rc, ?_, ?_, HK.out⟩
      · rw [HVB.out, HY.out.1, HY.out.2, ← HTL.out, ← HE.out, HLK.out]
      · rw [HY.out.2, ← HTL.out]; have h := HO.out; rw [HE.out] at h ⊢; exact h
end Go.Proofs.Ytomfhkpmdalknaa
