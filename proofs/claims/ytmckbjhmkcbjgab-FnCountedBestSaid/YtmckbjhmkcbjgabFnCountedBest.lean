/- FnCountedBest: of all roundings with a sum, as many have the least norm as are counted, and the best rounding comes first of them: at all bytes. -/
import Derived.Test.YtmckbjhmkcbjgabGood4
import Derived.Test.YtmckbjhmkcbjgabSame8
import Derived.Test.YtmckbjhmkcbjgabRound8v
import Derived.Test.YtmckbjhmkcbjgabErr4
import Derived.Test.YtmckbjhmkcbjgabErrs
import Derived.Test.YtmckbjhmkcbjgabPut4
import Derived.BigQuiet
namespace Go.Proofs.Ytmckbjhmkcbjgab.fnCountedBest
open Go.ChangeShapes Go.WideShapes Go.ChangeAt Go.RowKit Go.Deep
set_option linter.unusedVariables false
theorem rnd_in {g : Int} {zs ls : List Int} (h : rndB g zs ls = true) : ∀ z ∈ ls, -1000000000 ≤ z ∧ z ≤ 1000000000 := by
  unfold rndB at h
  simp only [Bool.and_eq_true, decide_eq_true_eq] at h
  obtain ⟨⟨h1, h2⟩, h3⟩ := h
  intro z hz
  obtain ⟨k, hk, rfl⟩ := List.getElem_of_mem hz
  have hg := okV_den h1
  have hx := okV_num h1 _ (getD_mem zs k (by omega))
  have q1 := fl_bd (a := zs.getD k 0) (b := g) (M := 1000000) (by omega) (by omega) (by omega) (by omega)
  have q2 := ce_bd (a := zs.getD k 0) (b := g) (M := 1000000) (by omega) (by omega) (by omega) (by omega)
  have q3 := h3 k hk
  rw [getD_get ls k hk] at q3
  rcases q3 with q3 | q3 <;> omega
theorem rnd_bounds {g : Int} {zs ls : List Int} (h : rndB g zs ls = true) : sumR fl g zs ≤ ls.sum ∧ ls.sum ≤ sumR ce g zs := by
  obtain ⟨S, hl, hS, hp⟩ := rnd_sel h
  have h1 : okV g zs = true := by unfold rndB at h; simp only [Bool.and_eq_true] at h; exact h.1.1
  have hfl := flL_len g zs
  have hrl := reL_len g zs
  have e := addS_sum (flL g zs) S (by omega)
  rw [← hS] at e
  have c := le_cnt (fun r => decide (0 < r)) (reL g zs) S (by omega) (fun i hi q => by simpa using hp i (by omega) q)
  have e2 := sum_ce (okV_den h1).1 zs
  have e3 := sum_fl g zs
  change trues S ≤ gtC 0 (reL g zs) at c
  omega
/-- What stays all along. -/
structure CtxC (w W : World) (vb : Nat) (g : Int) (rd : Option Addr) (rc : Nat) (vs : List Int) (bd : Option Addr) (B : List Int) (fd : Option Addr) (F : List Int) : Prop where
  t : TwoC W vb (.int .i64 g) (.slice rd vs.length rc)
  k : Keep w W
  o : Ints W rd vs
  b : Ints W bd B
  f : Ints W fd F
theorem CtxC.keep {w W W' : World} {vb : Nat} {g : Int} {rd : Option Addr} {rc : Nat} {vs : List Int} {bd : Option Addr} {B : List Int} {fd : Option Addr} {F : List Int} (h : CtxC w W vb g rd rc vs bd B fd F) (k : Keep W W') : CtxC w W' vb g rd rc vs bd B fd F :=
  ⟨h.t.keep k h.t.lt, Keep.next h.k k, h.o.keep k (Nat.le_refl _), h.b.keep k (Nat.le_refl _), h.f.keep k (Nat.le_refl _)⟩
theorem cnt_succ (P : Nat → Bool) (k : Nat) : (List.range (k + 1)).countP P = (List.range k).countP P + (if P k = true then 1 else 0) := by
  rw [List.range_succ, List.countP_append]; simp [List.countP_cons]
theorem cnt_none {P : Nat → Bool} {k : Nat} (h : (List.range k).countP P = 0) : ∀ y, y < k → P y = false := fun y hy => by
  rw [List.countP_eq_zero] at h
  have := h y (List.mem_range.2 hy)
  simpa using this

set_option maxHeartbeats 3200000 in
set_option maxRecDepth 100000 in
theorem walk (w : World) (a0 : Option Addr) (cap0 : Nat) (z0 : List Int) (w0 : Bytes w a0 z0) (a1 : Option Addr) (cap1 : Nat) (z1 : List Int) (w1 : Bytes w a1 z1) :
    Calls Try.prog 4 #[.slice a0 z0.length cap0, .slice a1 z1.length cap1] w fun e w' => e = .returned (.bool true) ∧ Below w.heap.size w w' := by
  have s0 := w0.small
  have s1 := w1.small
  cases hl : (decide (48 < z0.length) || decide (48 < z1.length))
  case true =>
    go_enter Try.func4, Try.ntmps4
    go_wp2_with fail
    refine (r8Long_any a0 a1 cap0 cap1 _ _ _ s0 s1).mono ?_
    rw [hl]
    rintro e w' ⟨rfl, rfl⟩
    go_wp2
    go_ret
    exact ⟨rfl, Below.refl _ _⟩
  have HL := Lib.hid hl; clear hl
  go_enter Try.func4, Try.ntmps4
  go_wp2_with fail
  refine (r8Long_any a0 a1 cap0 cap1 _ _ _ s0 s1).mono ?_
  rw [HL.out]
  rintro e w' ⟨rfl, rfl⟩
  go_wp2_with fail
  refine (R8Values_any a0 cap0 z0 w w0).mono ?_
  rintro e w2 ⟨g, vs, rd, rc, rfl, o2, g0, g1, hl, hv, k2⟩
  have HV := Lib.hid hv
  have HO2 := Lib.hid o2; have K2 := Lib.hid k2
  clear o2 k2 hv
  go_wp2_with fail
  have hok : okV g vs = true := by
    unfold okV listOk allIn
    rw [inB_iff.2 ⟨by omega, by omega⟩, decide_eq_true (show vs.length ≤ 40 by omega), Bool.true_and, Bool.true_and, List.all_eq_true]
    intro z hz; have := HV.out z hz; rw [inB_iff]; omega
  have HOK := Lib.hid hok; clear hok
  have k3 : Keep w2 (w2.alloc (.cells #[.int .i64 g, .slice rd vs.length rc] 26)) := by go_grown
  have T3 : TwoC (w2.alloc (.cells #[.int .i64 g, .slice rd vs.length rc] 26)) w2.heap.size (.int .i64 g) (.slice rd vs.length rc) := ⟨by simp, by simp, by simp, by simp⟩
  have K3 := Lib.hid (Keep.next K2.out k3)
  have O3 := Lib.hid (HO2.out.keep k3).ints
  have HT3 := Lib.hid T3
  clear k3 T3 HO2 K2
  generalize w2.alloc (.cells #[.int .i64 g, .slice rd vs.length rc] 26) = w3 at *
  obtain ⟨vb, hvb⟩ : ∃ vb, vb = w2.heap.size := ⟨_, rfl⟩
  rw [← hvb] at HT3
  rw [← hvb]
  clear hvb
  refine (r8At_any a1 cap1 z1 40 3 w3 (w1.keep K3.out (Nat.le_refl _)) (by omega) (by omega) (by omega) (by omega)).mono ?_
  rintro e w' ⟨q, q0, q1, rfl, rfl⟩
  obtain ⟨c0, c1, f0, f1⟩ := HT3.out
  go_wp2_with fail
  clear c0 c1 f0 f1
  refine (R8Rounding_any a1 cap1 z1 g rd rc vs w3 (w1.keep K3.out (Nat.le_refl _)) O3.out ⟨g0, g1⟩ (by omega) (fun z hz => by have := HV.out z hz; omega)).mono ?_
  rintro e w4 ⟨ls, ld, lc, rfl, ol, hrl, hrv, k4⟩
  have hrn : rndB g vs ls = true := by
    unfold rndB
    rw [HOK.out, decide_eq_true hrl, Bool.true_and, Bool.true_and, decide_eq_true_eq]
    intro j hj; exact hrv j (by omega)
  have hll : ls.length ≤ 7 := by omega
  have hsb := rnd_bounds hrn
  have HRV := Lib.hid (rnd_in hrn)
  have hb1 := sumR_bd fl g vs (fun z hz => fl_bd (a := z) (b := g) (M := 1000001) (by omega) (by have := HV.out z hz; omega) (by have := HV.out z hz; omega) (by omega)) vs.length (Nat.le_refl _)
  have hb2 := sumR_bd ce g vs (fun z hz => ce_bd (a := z) (b := g) (M := 1000001) (by omega) (by have := HV.out z hz; omega) (by have := HV.out z hz; omega) (by omega)) vs.length (Nat.le_refl _)
  rw [List.take_length] at hb1 hb2
  have HQ : Hid (inB q 0 2 = true) := Lib.hid (inB_iff.2 ⟨by omega, by omega⟩)
  have HAK : Hid (askB q g vs ls.sum = true) := Lib.hid (by unfold askB; rw [HOK.out, HQ.out, inB_iff.2 hsb]; rfl)
  have T4 := Lib.hid (HT3.out.keep k4 HT3.out.lt)
  have K4 := Lib.hid (Keep.next K3.out k4)
  have O4 := Lib.hid (O3.out.keep k4 (Nat.le_refl _))
  have L4 := Lib.hid ol.ints
  clear ol hrl hrv k4 K3 O3 HT3
  generalize hS : ls.sum = sm at *
  have HSUM := Lib.hid hS; clear hS
  obtain ⟨P, HP0⟩ := counted HAK.out
  have HP := Lib.hid HP0; clear HP0
  have HBL := Lib.hid (fun ls' q1 q2 => best_least (ls := ls') HAK.out q1 q2)
  obtain ⟨hle0, hbr, hbs, hbl⟩ := HBL.out ls hrn HSUM.out
  have HBR := Lib.hid hbr; have HBLN := Lib.hid hbl
  have hw := ways_le HAK.out hl
  have HW := Lib.hid hw
  have HCB : Hid (cntB q g vs sm = true) := Lib.hid (by unfold cntB; rw [HAK.out, decide_eq_true (by omega)]; rfl)
  have HCV : Hid (cntV q g vs sm = ((List.range (2 ^ vs.length)).countP P : Nat)) := Lib.hid (by unfold cntV; rw [HCB.out, HP.out.all]; rfl)
  have HON : Hid (okN q g vs (bestV q g vs sm) = true) := Lib.hid (by unfold okN; rw [HBR.out, HQ.out]; rfl)
  have HLEQ : Hid (∀ ls', rndB g vs ls' = true → ls'.sum = sm → nrmV q g vs (bestV q g vs sm) ≤ nrmV q g vs ls') := Lib.hid (fun ls' q1 q2 => by
    rw [nrmV_ok HBR.out HQ.out, nrmV_ok q1 HQ.out]; exact (HBL.out ls' q1 q2).1)
  clear hle0 hbr hbs hbl hw hrn HBL
  go_wp2_with fail
  refine (r8Sum_any ld lc ls w4 L4.out HRV.out (by omega)).mono ?_
  rw [HSUM.out]
  rintro e w' ⟨rfl, rfl⟩
  obtain ⟨c0, c1, f0, f1⟩ := T4.out
  go_wp2_with fail
  refine (BestRounding_any g rd rc vs sm q w4 O4.out ⟨by omega, by omega⟩ ⟨by omega, by omega⟩).mono ?_
  rw [HAK.out]
  rintro e w5 ⟨bd, bc, rfl, ob, k5⟩
  have T5 := Lib.hid (T4.out.keep k5 T4.out.lt)
  have K5 := Lib.hid (Keep.next K4.out k5)
  have O5 := Lib.hid (O4.out.keep k5 (Nat.le_refl _))
  have B5 := Lib.hid ob.ints
  clear c0 c1 f0 f1 k5 ob T4 K4 O4 L4
  obtain ⟨c0, c1, f0, f1⟩ := T5.out
  go_wp2_with fail
  refine (CountBest_any g rd rc vs sm q w5 O5.out ⟨by omega, by omega⟩ ⟨by omega, by omega⟩).mono ?_
  rw [HCB.out, HCV.out]
  rintro e w6 ⟨rfl, k6⟩
  have T6 := Lib.hid (T5.out.keep k6 T5.out.lt)
  have K6 := Lib.hid (Keep.next K5.out k6)
  have O6 := Lib.hid (O5.out.keep k6 (Nat.le_refl _))
  have B6 := Lib.hid (B5.out.keep k6 (Nat.le_refl _))
  clear c0 c1 f0 f1 k6 T5 K5 O5 B5
  obtain ⟨c0, c1, f0, f1⟩ := T6.out
  go_wp2_with fail
  refine (ErrorOf_any g rd rc vs bd bc (bestV q g vs sm) q w6 O6.out B6.out ⟨by omega, by omega⟩).mono ?_
  rw [HON.out]
  rintro e w7 ⟨rfl, k7⟩
  have T7 := Lib.hid (T6.out.keep k7 T6.out.lt)
  have K7 := Lib.hid (Keep.next K6.out k7)
  have O7 := Lib.hid (O6.out.keep k7 (Nat.le_refl _))
  have B7 := Lib.hid (B6.out.keep k7 (Nat.le_refl _))
  clear c0 c1 f0 f1 k7 T6 K6 O6 B6
  obtain ⟨c0, c1, f0, f1⟩ := T7.out
  go_wp2_with fail
  refine (FloorsOf_any g rd rc vs w7 O7.out).mono ?_
  rw [HOK.out, show roundsV fl g vs = flL g vs from by unfold roundsV imgs; rw [HOK.out]; rfl]
  rintro e w8 ⟨fd, fc, rfl, of, k8⟩
  have C8 : Hid (CtxC w w8 vb g rd rc vs bd (bestV q g vs sm) fd (flL g vs)) := Lib.hid ⟨T7.out.keep k8 T7.out.lt, Keep.next K7.out k8, O7.out.keep k8 (Nat.le_refl _), B7.out.keep k8 (Nat.le_refl _), of.ints⟩
  clear c0 c1 f0 f1 k8 of T7 K7 O7 B7
  have HFL := Lib.hid (flL_len g vs)
  have HFB := Lib.hid (fun z (hz : z ∈ flL g vs) => flL_in HOK.out z hz)
  generalize hLe : nrmV q g vs (bestV q g vs sm) = Le at *
  have HLe := Lib.hid hLe; clear hLe
  generalize hB : bestV q g vs sm = B at *
  have HBe := Lib.hid hB; clear hB
  generalize hF : flL g vs = F at *
  have HFe := Lib.hid hF; clear hF
  have hBl : (B.length : Int) = vs.length := by rw [HBLN.out]
  have hFl : (F.length : Int) = vs.length := by rw [HFL.out]
  have hBn : ((B.length : Int) != (vs.length : Int)) = false := by rw [hBl]; simp
  have hFn : ((F.length : Int) != (vs.length : Int)) = false := by rw [hFl]; simp
  have hl7 : ¬ (7 : Int) < vs.length := by omega
  have hd7 : decide ((7 : Int) < vs.length) = false := decide_eq_false hl7
  have hpw := @wrap_pow64 vs.length (by omega)
  have hp128 : 2 ^ vs.length ≤ 128 := Nat.le_trans (Nat.pow_le_pow_right (by omega) hl) (by decide)
  go_wp2
  go_loopg [17, 18, 19, 20, 21, 22] (2 ^ vs.length) (fun kk fo xx _a _b _c _d wr => ∃ k : Nat, k ≤ 2 ^ vs.length ∧ kk = 2 ^ vs.length - k ∧ xx = .int .i64 k ∧ fo = .int .i64 ((List.range k).countP P : Nat) ∧ Hid (CtxC w wr vb g rd rc vs bd B fd F))
  case atStart => exact ⟨0, Nat.zero_le _, rfl, rfl, by simp, C8⟩
  case round =>
    obtain ⟨k, hk, rfl, rfl, rfl, C⟩ := hrel
    obtain ⟨wo, rfl⟩ : ∃ x, x = wr := ⟨wr, rfl⟩
    by_cases hkn : k < 2 ^ vs.length
    · have hki : (k : Int) < (2 : Int) ^ vs.length := by rw [show ((2 : Int) ^ vs.length) = ((2 ^ vs.length : Nat) : Int) from by norm_cast]; exact Int.ofNat_lt.2 hkn
      have HO := Lib.hid (Own.lit0 wo)
      have HK := Lib.hid (show Keep wo (wo.alloc (.cells #[] 2)) by go_grown)
      have hsz : wo.heap.size < (wo.alloc (.cells #[] 2)).heap.size := by simp
      have HSZ := Lib.hid hsz; clear hsz
      have hF7 : F.length ≤ 1048576 := by omega
      go_wp2_with (refine list_appI (by rfl) _ _ (by rfl) wo.heap.size wo.heap.size 0 0 [] (by rfl) HO.out rfl ⟨Nat.le_refl _, HSZ.out, Nat.le_refl _⟩ F fd F.length fc (by rfl) rfl wo C.out.f HK.out hF7 (by simp) (Nat.le_of_lt HSZ.out) ?_; intro gb cap2 w9 hown2 hgr2 hBg hlt2)
      have hO9 : Own w9 wo.heap.size (some ⟨gb, 0, none⟩) cap2 F := by simpa using hown2
      have K9 : Keep wo w9 := HK.out.grown hgr2 (Nat.le_of_lt HSZ.out) (fun k h => by cases h; exact Nat.le_refl _)
      have HO9 := Lib.hid hO9; have HK9 := Lib.hid K9
      clear hO9 K9 hown2 hgr2 hlt2 HO HK HSZ
      obtain ⟨S, hS⟩ : ∃ S, S = bitsS vs.length k := ⟨_, rfl⟩
      have HSe := Lib.hid hS
      have hSl : S.length = vs.length := by rw [hS, bits_len]
      have HFS : Hid (F.length = S.length) := Lib.hid (by omega)
      have HBIT : Hid (∀ j, j < vs.length → bits .and .i64 ((k : Int) / 2 ^ (vs.length - 1 - j)) 1 = if S.getD j false then 1 else 0) := Lib.hid (fun j hj => by
        rw [i64_bit, hS, bits_get _ _ _ hkn hj])
      clear hS
      go_wp2
      go_loopg [20] vs.length (fun kk i wr => ∃ j : Nat, j ≤ vs.length ∧ kk = vs.length - j ∧ i = .int .i64 j ∧ Hid (Own wr wo.heap.size (some ⟨gb, 0, none⟩) cap2 (mixL F S j)) ∧ Hid (Below wo.heap.size wo wr))
      case atStart => exact ⟨0, by omega, rfl, rfl, Lib.hid (by unfold mixL; simpa using HO9.out), HK9⟩
      case round =>
        obtain ⟨j, hj, rfl, rfl, HM, HW1⟩ := hrel
        by_cases hjn : j < vs.length
        · have hjF : j < F.length := by omega
          have hml := mix_len F S HFS.out j (by omega)
          have hmg := mix_get F S HFS.out j hjF
          have HMS := Lib.hid (mix_set F S HFS.out j hjF)
          have hcy : wr.cell? ⟨gb, j, none⟩ = some (.int .i64 (F.getD j 0)) := by
            rw [HM.out.1.cellAt j (by rw [hml]; omega)]
            rw [getD_get _ j (by rw [hml]; exact hjF)] at hmg
            simp only [vals, List.getElem?_map, List.getElem?_eq_getElem (show j < (mixL F S j).length by rw [hml]; exact hjF), Option.map_some, hmg]
          have hfy : wr.frozen? ⟨gb, j, none⟩ = false := HM.out.1.frozenAt j
          have hf := HFB.out _ (getD_mem F j hjF)
          have HB1 := HBIT.out j hjn
          have hb01 : 0 ≤ (if S.getD j false then 1 else 0 : Int) ∧ (if S.getD j false then 1 else 0 : Int) ≤ 1 := by split <;> omega
          clear hml hmg
          generalize F.getD j 0 = f at *
          generalize (if S.getD j false then 1 else 0 : Int) = bt at *
          go_wp2
          go_wp2
          go_roundg (vs.length - (j + 1))
          case measure => omega
          case rel =>
            refine ⟨j + 1, by omega, by omega, by go_num, Lib.hid ?_, Lib.hid (HW1.out.setCell hBg _)⟩
            have hst := HM.out.1.stored j (.int .i64 (f + bt))
            rw [← HMS.out]
            obtain ⟨s1, s2⟩ := hst
            refine ⟨?_, by simpa using HM.out.2.1, fun y hy => ?_⟩
            · rw [List.length_set]; unfold vals; rw [List.map_set]; exact s1
            · rcases List.mem_or_eq_of_mem_set hy with hy | rfl
              · exact HM.out.2.2 y hy
              · exact ⟨by omega, by omega⟩
        · have hje : j = vs.length := by omega
          subst hje
          have HL : Hid (Own wr wo.heap.size (some ⟨gb, 0, none⟩) cap2 (addS F S)) := Lib.hid (by have := HM.out; rw [← HFL.out, mix_all F S HFS.out] at this; exact this)
          have HLL : Hid ((addS F S).length = F.length) := Lib.hid (addS_len F S HFS.out)
          have C10 := Lib.hid (C.out.keep HW1.out)
          have HIFF := Lib.hid (HP.out.iff k hkn)
          have HNOT := Lib.hid (HP.out.not k hkn)
          have HFST := Lib.hid (HP.out.first k hkn)
          clear HM HW1
          rw [HFe.out, ← HSe.out] at HIFF HNOT HFST
          rw [HBe.out] at HIFF HFST
          rw [HLe.out] at HIFF
          generalize addS F S = L at *
          have L10 := Lib.hid HL.out.ints
          clear HL
          obtain ⟨c0, c1, f0, f1⟩ := C10.out.t
          go_wp2_with fail
          have hcall := IsRounding_any g rd rc vs (some ⟨gb, 0, none⟩) cap2 L wr C10.out.o L10.out
          rw [HLL.out] at hcall
          refine hcall.mono ?_
          clear hcall
          cases hR : rndB g vs L
          · rintro e w11 ⟨rfl, k11⟩
            have C11 := Lib.hid (C10.out.keep k11)
            have hPk : P k = false := HNOT.out (.inl hR)
            clear c0 c1 f0 f1 k11 C10 L10
            go_wp2
            go_roundg (2 ^ vs.length - (k + 1))
            case measure => omega
            case rel => exact ⟨k + 1, by omega, rfl, by go_num, by rw [cnt_succ, hPk]; simp, C11⟩
          · rintro e w11 ⟨rfl, k11⟩
            have C11 := Lib.hid (C10.out.keep k11)
            have L11 := Lib.hid (L10.out.keep k11 (Nat.le_refl _))
            have HLB := Lib.hid (rnd_in hR)
            have HRT := Lib.hid hR
            have hl40 : L.length ≤ 1073741824 := by have := HLL.out; have := HFL.out; omega
            clear c0 c1 f0 f1 k11 C10 L10 hR
            go_wp2_with fail
            have hcall := r8Sum_any (some ⟨gb, 0, none⟩) cap2 L w11 L11.out HLB.out hl40
            rw [HLL.out] at hcall
            refine hcall.mono ?_
            clear hcall
            rintro e w' ⟨rfl, rfl⟩
            by_cases hs : L.sum = sm
            · have hsb2 : (L.sum != sm) = false := by simp [hs]
              have HS2 := Lib.hid hs; clear hs
              have HON2 : Hid (okN q g vs L = true) := Lib.hid (by unfold okN; rw [HRT.out, HQ.out]; rfl)
              have hle := HLEQ.out L HRT.out HS2.out
              have HI2 := Lib.hid (HIFF.out HRT.out HS2.out)
              clear HIFF HNOT
              obtain ⟨c0, c1, f0, f1⟩ := C11.out.t
              go_wp2_with fail
              have hcall := ErrorOf_any g rd rc vs (some ⟨gb, 0, none⟩) cap2 L q w11 C11.out.o L11.out ⟨by omega, by omega⟩
              rw [HLL.out, HON2.out] at hcall
              refine hcall.mono ?_
              clear hcall
              rintro e w12 ⟨rfl, k12⟩
              have C12 := Lib.hid (C11.out.keep k12)
              have L12 := Lib.hid (L11.out.keep k12 (Nat.le_refl _))
              clear c0 c1 f0 f1 k12 C11 L11
              generalize nrmV q g vs L = en at *
              have hnl : ¬ en < Le := by omega
              by_cases he : en = Le
              · have hPk : P k = true := HI2.out.2 he
                have hcs := cnt_succ P k
                rw [hPk, if_pos rfl] at hcs
                have heb : (en == Le) = true := by simp [he]
                have hen : decide (en < Le) = false := decide_eq_false hnl
                by_cases h0 : (List.range k).countP P = 0
                · have hLB : L = B := HFST.out hPk (cnt_none h0)
                  have HCS := Lib.hid hcs
                  rw [h0] at hcs ⊢
                  have L13 := L12.out
                  clear hcs
                  subst he
                  subst hLB
                  go_wp2_with fail
                  refine (r8Same_same (some ⟨gb, 0, none⟩) bd cap2 bc L F.length L.length HLL.out.symm rfl w12 L12.out C12.out.b).mono ?_
                  rintro e w13 ⟨rfl, k13⟩
                  have C13 := Lib.hid (C12.out.keep k13)
                  clear k13 C12 L12 L13
                  go_wp2
                  go_roundg (2 ^ vs.length - (k + 1))
                  case measure => omega
                  case rel => exact ⟨k + 1, by omega, rfl, by go_num, by rw [HCS.out, h0]; rfl, C13⟩
                · have hc128 : (List.range k).countP P ≤ 128 := by
                    have := List.countP_le_length (p := P) (l := List.range k)
                    rw [List.length_range] at this; omega
                  have HCS := Lib.hid hcs; clear hcs
                  generalize (List.range k).countP P = c at *
                  have hc1 : ((c : Int) + 1 == 1) = false := by rw [beq_eq_false_iff_ne]; omega
                  subst he
                  go_wp2
                  go_roundg (2 ^ vs.length - (k + 1))
                  case measure => omega
                  case rel => exact ⟨k + 1, by omega, rfl, by go_num, by rw [HCS.out]; go_num, C12⟩
              · have hPk : P k = false := by
                  cases h : P k
                  · rfl
                  · exact absurd (HI2.out.1 h) he
                have heb : (en == Le) = false := by simp [he]
                have hen : decide (en < Le) = false := decide_eq_false hnl
                go_wp2
                go_roundg (2 ^ vs.length - (k + 1))
                case measure => omega
                case rel => exact ⟨k + 1, by omega, rfl, by go_num, by rw [cnt_succ, hPk]; simp, C12⟩
            · have hsb2 : (L.sum != sm) = true := by simp [hs]
              have hPk : P k = false := HNOT.out (.inr hs)
              clear HIFF HNOT
              go_wp2
              go_roundg (2 ^ vs.length - (k + 1))
              case measure => omega
              case rel => exact ⟨k + 1, by omega, rfl, by go_num, by rw [cnt_succ, hPk]; simp, C11⟩
    · have hki : ¬ (k : Int) < (2 : Int) ^ vs.length := by rw [show ((2 : Int) ^ vs.length) = ((2 ^ vs.length : Nat) : Int) from by norm_cast]; exact fun h => hkn (Int.ofNat_lt.1 h)
      have hke : k = 2 ^ vs.length := by omega
      subst hke
      go_wp2
      go_ret
      exact ⟨rfl, C.out.k⟩

theorem own : ownKnob Try.prog.godebug = none := by kernel_rfl
theorem laidOut : laidOutB Try.prog = true := by kernel_rfl
set_option maxRecDepth 100000 in
theorem lifted (os : Os) (started : os.Started) (H : Type) (enc : TypeId × Value → H) :
    ReturnsInHanded {} Try.checked os 4 .any (Rows.fnCountedBestSpec.pre6 enc Try.prog Try.f4 Rows.fnCountedBestRow.domain false) (Rows.fnCountedBestSpec.post enc Try.prog Try.f4 false true false false) := by
  refine returnsInHanded_of_change (C := Try.checked) own started (by kernel_rfl) Try.func4
    (ChangeSpec.witness6 (enc := enc) (C := Try.checked) false ⟨#[], #[.slice none 0 0, .slice none 0 0], []⟩ 8 (by kernel_rfl) (by kernel_rfl) (by kernel_rfl) (by kernel_rfl)) ?_
  intro W base args ds gs before hval0 hW hcnd _
  have hval : ∀ (j : Nat) t v, Try.f4.params[j]? = some t → args[j]? = some v → Value.okWide Try.prog W .any base t v := hval0
  have hW' := hW
  obtain ⟨p, q, hA0, hV, rfl, hfz, hnd⟩ := hW
  have hA : DataW.TrodAll enc Try.prog W 0 (fun _ => true) true Try.f4.params.toList args.toList ds p := hA0
  rw [Try.params4] at hA hval
  obtain ⟨v0, vs0, d0, ds0, p0, q0, hargs, rfl, rfl, h0, r0⟩ := trodAll_cons hA
  obtain ⟨v1, vs1, d1, ds1, p1, q1, rfl, rfl, rfl, h1, r1⟩ := trodAll_cons r0
  obtain ⟨rfl, rfl, rfl⟩ := trodAll_nil r1
  obtain rfl : args = #[v0, v1] := by cases args; simp_all
  obtain ⟨rfl, rfl⟩ := trodVars_none hV
  have k0 := h0
  have lt0 : ∀ x ∈ p0, x.block < W.heap.size := by obtain ⟨m, hm⟩ := k0; exact DataW.trod_lt m _ _ _ hm
  obtain ⟨a0, len0, cap0, rfl⟩ := okWide_slice Try.underlying22 (hval 0 22 v0 rfl rfl)
  obtain ⟨z0, e0, w0⟩ := bytes_open Try.underlying22 Try.underlying5 (by kernel_rfl) h0
  subst e0
  have k1 := h1
  have lt1 : ∀ x ∈ p1, x.block < W.heap.size := by obtain ⟨m, hm⟩ := k1; exact DataW.trod_lt m _ _ _ hm
  obtain ⟨a1, len1, cap1, rfl⟩ := okWide_slice Try.underlying22 (hval 1 22 v1 rfl rfl)
  obtain ⟨z1, e1, w1⟩ := bytes_open Try.underlying22 Try.underlying5 (by kernel_rfl) h1
  subst e1
  clear hA0 hval0
  refine (walk W a0 cap0 z0 w0 a1 cap1 z1 w1).mono fun e W' ⟨he, bel⟩ => ?_
  subst he
  exact ⟨_, rfl, _, _, _, [], _, [], hW', trodAll_mk1 (shut_bool Try.underlying4 _), (trodAll_cons_mk (Below.trod laidOut (by kernel_rfl) (of_decide_eq_true (by kernel_rfl)) k0 bel lt0) (trodAll_cons_mk (Below.trod laidOut (by kernel_rfl) (of_decide_eq_true (by kernel_rfl)) k1 bel lt1) trodAll_mk0)), rfl, bel.frame _, fun h => by cases h⟩
theorem over : Rows.fnCountedBestRow.holds Try.pinned (OpenSpec.ofChange Rows.fnCountedBestSpec) :=
  OpenClaim.holds_of_wide 4 Try.f4 rfl rfl rfl rfl rfl rfl rfl ⟨rfl, rfl, rfl, rfl, rfl⟩ rfl rfl rfl rfl rfl (by kernel_rfl) Try.func4 (by kernel_rfl)
    (of_decide_eq_true (by kernel_rfl)) (by unfold Func.isWrapper; first | (rw [if_pos (by decide +kernel)]; kernel_rfl) | (rw [if_neg (by decide +kernel)]; exact ⟨rfl, rfl⟩))
    (fun os started H enc _ => lifted os started H enc)
/-- THE STATEMENT. -/
theorem proved : Rows.FnCountedBestSaid := over
end Go.Proofs.Ytmckbjhmkcbjgab.fnCountedBest
