/- Percents: the model's side. -/
import Derived.Test.YtgpjjgfechjbfaaPct4
import Derived.Test.YtgpjjgfechjbfaaAsk4
import Derived.Test.YtgpjjgfechjbfaaSums
import Derived.Test.YtgpjjgfechjbfaaChoice4b
import Derived.BigQuiet
namespace Go.Proofs.Ytgpjjgfechjbfaa
open Go.ChangeShapes Go.WideShapes Go.ChangeAt Go.RowKit Go.Deep
set_option linter.unusedVariables false
theorem cnts_len {cs : List Int} (h : inB (cs.length : Int) 1 40 = false) : cntsB cs = false := by
  have := inB_not.1 h
  unfold cntsB
  rw [decide_eq_false (by omega)]; rfl
theorem cnts_out {cs : List Int} {k : Nat} (hk : k < cs.length) (h : inB (cs.getD k 0) 0 1000000 = false) : cntsB cs = false := by
  unfold cntsB
  have : cs.all (fun c => inB c 0 1000000) = false := by
    rw [List.all_eq_false]
    exact ⟨cs.getD k 0, getD_mem cs k hk, by rw [h]; simp⟩
  rw [this, Bool.false_and, Bool.and_false]
theorem cnts_zero {cs : List Int} (h : cs.sum = 0) : cntsB cs = false := by
  unfold cntsB; simp [h]
theorem cnts_yes {cs : List Int} (h1 : inB (cs.length : Int) 1 40 = true) (h2 : ∀ j, j < cs.length → inB (cs.getD j 0) 0 1000000 = true) (h3 : cs.sum ≠ 0) : cntsB cs = true := by
  have := inB_iff.1 h1
  unfold cntsB
  simp only [Bool.and_eq_true, decide_eq_true_eq, List.all_eq_true]
  refine ⟨by omega, fun c hc => ?_, h3⟩
  obtain ⟨j, hj, rfl⟩ := List.getElem_of_mem hc
  have := h2 j hj
  rwa [getD_get cs j hj] at this
/-- The list that the choice gives is that of the chosen places. -/
theorem pct_sel {cs : List Int} {p : Int} (h : cntsB cs = true) (hp : inB p 0 3 = true) {S : List Bool} (hS : Top (reL cs.sum (partsP cs p)) S) (ht : trues S = upsP cs p) :
    addS (flL cs.sum (partsP cs p)) S = putL (flL cs.sum (partsP cs p)) (fixL 0 cs.sum (partsP cs p) (upsP cs p)) (upsP cs p - isC 1 (fixL 0 cs.sum (partsP cs p) (upsP cs p))) := by
  obtain ⟨f1, f2, f3, f4, f5, f6⟩ := pct_facts h hp
  have hs := (cnts_parts h).2.2
  have hp := List.mergeSort_perm (cs.sum :: 0 :: reL cs.sum (partsP cs p)) (fun a b => decide (b ≤ a))
  have hsr : ((cs.sum :: 0 :: reL cs.sum (partsP cs p)).mergeSort (fun a b => decide (b ≤ a))).Pairwise fun a b => decide (b ≤ a) = true :=
    List.pairwise_mergeSort (fun a b c h1 h2 => by simp at *; omega) (fun a b => by simp; omega) _
  have hd : Desc ((cs.sum :: 0 :: reL cs.sum (partsP cs p)).mergeSort (fun a b => decide (b ≤ a))) := fun i j hij hj => by
    rw [List.pairwise_iff_getElem] at hsr
    have := hsr i j (by omega) hj hij
    rw [getD_get _ i (by omega), getD_get _ j hj]
    simpa using this
  have hr := ranks_of hs (rests_in hs _) f6 hp hd
  generalize ((cs.sum :: 0 :: reL cs.sum (partsP cs p)).mergeSort (fun a b => decide (b ≤ a))).getD (upsP cs p) 0 = T at hr
  generalize ((cs.sum :: 0 :: reL cs.sum (partsP cs p)).mergeSort (fun a b => decide (b ≤ a))).getD (upsP cs p + 1) 0 = Sx at hr
  have hT : 1 ≤ T := by
    by_cases e : upsP cs p = 0
    · have := hr.t0 e; omega
    · have := hr.t1 (by omega); omega
  have hc := fixL_cls (norm := 0) hs hr
  have hft := fixL_fits (norm := 0) hs hr
  have hcl : fixL 0 cs.sum (partsP cs p) (upsP cs p) = (reL cs.sum (partsP cs p)).map (clsX T T) := by
    rw [← hc]; unfold clsL loOf hiOf; simp
  have hlen := fixL_len 0 cs.sum (partsP cs p) (upsP cs p)
  have hfl := flL_len cs.sum (partsP cs p)
  generalize fixL 0 cs.sum (partsP cs p) (upsP cs p) = C at *
  have htop := top_selP (R := reL cs.sum (partsP cs p)) (C := C) (T := T) (upsP cs p - isC 1 C) hT hcl
  have htr := selP_trues C (upsP cs p - isC 1 C)
  have : S = selP C (upsP cs p - isC 1 C) := hS.unique htop (by rw [ht, htr]; omega)
  rw [this, add_put _ _ _ (by omega)]
theorem addS_len (F : List Int) (S : List Bool) (h : F.length = S.length) : (addS F S).length = F.length := by unfold addS; rw [List.length_zipWith]; omega
theorem cutS_len (F : List Int) (S : List Bool) (h : F.length = S.length) : (cutS F S).length = F.length := by unfold cutS; rw [List.length_zipWith]; omega
theorem addS_zero (F : List Int) : addS F (List.replicate F.length false) = F := by
  unfold addS
  apply List.ext_getElem (by simp)
  intro i h1 h2
  simp
theorem cutS_zero (F : List Int) : cutS F (List.replicate F.length false) = F := by
  unfold cutS
  apply List.ext_getElem (by simp)
  intro i h1 h2
  simp
theorem trues_zero (n : Nat) : trues (List.replicate n false) = 0 := by unfold trues; rw [List.countP_eq_zero]; intro a ha; rw [List.eq_of_mem_replicate ha]; simp
theorem addS_set {F : List Int} {S : List Bool} {b : Nat} (h : F.length = S.length) (hb : b < F.length) (hs : S.getD b false = false) : addS F (S.set b true) = (addS F S).set b ((addS F S).getD b 0 + 1) := by
  have e : (addS F S).getD b 0 = F.getD b 0 := by
    have := zip_get (fun f s => if s then f + 1 else f) F S h b hb
    rw [hs] at this; simpa [addS] using this
  rw [e]
  have := zip_set (fun f s => if s then f + 1 else f) F S b true h hb
  simpa [addS] using this
theorem cutS_set {F : List Int} {S : List Bool} {b : Nat} (h : F.length = S.length) (hb : b < F.length) : cutS F (S.set b true) = (cutS F S).set b 0 := by
  have := zip_set (fun r s => if s then 0 else r) F S b true h hb
  simpa [cutS] using this
theorem addS_in {F : List Int} {S : List Bool} {M : Int} (hF : ∀ f ∈ F, 0 ≤ f ∧ f ≤ M) : ∀ z ∈ addS F S, 0 ≤ z ∧ z ≤ M + 1 := by
  intro z hz
  unfold addS at hz
  induction F generalizing S with
  | nil => simp at hz
  | cons f ft ih =>
    cases S with
    | nil => simp at hz
    | cons s st =>
      rw [List.zipWith_cons_cons] at hz
      have hf := hF f (by simp)
      rcases List.mem_cons.1 hz with e | hz
      · cases s
        · rw [e]; show (0 : Int) ≤ f ∧ f ≤ M + 1; omega
        · rw [e]; show (0 : Int) ≤ f + 1 ∧ f + 1 ≤ M + 1; omega
      · exact ih (fun x hx => hF x (by simp [hx])) hz
set_option maxHeartbeats 3200000 in
set_option maxRecDepth 100000 in
theorem specPercentsOf_any (ad : Option Addr) (cap : Nat) (cs : List Int) (p : Int) (w : World) (hz : Ints w ad cs) (up : In64 p) :
    Calls Try.prog 57 #[.slice ad cs.length cap, .int .i64 p] w fun e w' =>
      ∃ rd rc, e = .returned (.tuple #[.slice rd (pctV cs p).length rc, .bool (pctB cs p)]) ∧ Own w' w.heap.size rd rc (pctV cs p) ∧ Keep w w' := by
  have hlen := hz.small
  have HNO : Hid (pctB cs p = false → pctV cs p = []) := Lib.hid (fun h => by simp [pctV, h])
  cases h1 : inB (cs.length : Int) 1 40
  · have hB : pctB cs p = false := by simp [pctB, cnts_len h1]
    rw [HNO.out hB, hB]
    go_enter Try.func57, Try.ntmps57
    go_wp2_with (go_at_call 104; refine (l00In_any _ _ _ _).mono ?_; rw [h1]; rintro e w' ⟨rfl, rfl⟩)
    go_ret2
    exact ⟨none, 0, rfl, Own.nil _ _, Below.refl _ _⟩
  have hl40 := inB_iff.1 h1
  cases h2 : inB p 0 3
  · have hB : pctB cs p = false := by simp [pctB, h2]
    rw [HNO.out hB, hB]
    go_enter Try.func57, Try.ntmps57
    go_wp2_with (first | (go_at_call 104; (with_reducible refine (l00In_any (cs.length : Int) _ _ _).mono ?_); rw [h1]; rintro e w' ⟨rfl, rfl⟩) | (go_at_call 104; (with_reducible refine (l00In_any p _ _ _).mono ?_); rw [h2]; rintro e w' ⟨rfl, rfl⟩))
    go_ret2
    exact ⟨none, 0, rfl, Own.nil _ _, Below.refl _ _⟩
  have hp := inB_iff.1 h2
  obtain ⟨q, rfl⟩ : ∃ q : Nat, p = q := ⟨p.toNat, by omega⟩
  have hq3 : q ≤ 3 := by omega
  have HPB : Hid (pctB cs q = cntsB cs) := Lib.hid (by simp [pctB, h2])
  rw [HPB.out]
  have HNC : Hid (cntsB cs = false → pctV cs q = []) := Lib.hid (fun h => HNO.out (by rw [HPB.out]; exact h))
  have HH1 := Lib.hid h1; have HH2 := Lib.hid h2
  clear HNO HPB hp
  go_enter Try.func57, Try.ntmps57
  go_wp2_with (first | (go_at_call 104; (with_reducible refine (l00In_any (cs.length : Int) _ _ _).mono ?_); rw [h1]; rintro e w' ⟨rfl, rfl⟩) | (go_at_call 104; (with_reducible refine (l00In_any (q : Int) _ _ _).mono ?_); rw [h2]; rintro e w' ⟨rfl, rfl⟩))
  clear h1 h2
  have HSB : Hid (∀ k, (∀ j, j < k → inB (cs.getD j 0) 0 1000000 = true) → k ≤ cs.length → 0 ≤ (cs.take k).sum ∧ (cs.take k).sum ≤ 40000000) := Lib.hid (fun k hk hkl => by
    have hin : ∀ c ∈ cs.take k, 0 ≤ c ∧ c ≤ 1000000 := fun c hc => by
      obtain ⟨j, hj, rfl⟩ := List.getElem_of_mem hc
      rw [List.length_take] at hj
      have := inB_iff.1 (hk j (by omega))
      rw [getD_get cs j (by omega)] at this
      rw [List.getElem_take]; exact this
    have h3 := sum_nn (fun c hc => (hin c hc).1)
    have h4 := sum_bd 1000000 (by omega) (cs.take k) (fun z hz => by have := hin z hz; omega)
    rw [List.length_take] at h4
    omega)
  go_loop [6, 7] (fun s i => ∃ k : Nat, k ≤ cs.length ∧ i = .int .i64 k ∧ s = .int .i64 (cs.take k).sum ∧ Hid (∀ j, j < k → inB (cs.getD j 0) 0 1000000 = true))
    (fun _ i => cs.length - (intOf i).toNat)
  case atStart => exact ⟨0, Nat.zero_le _, rfl, by simp, Lib.hid (fun j h => by omega)⟩
  case round =>
    obtain ⟨k, hk, rfl, rfl, HA⟩ := hrel
    have hsb := HSB.out k HA.out hk
    by_cases hlt : k < cs.length
    · rcases hz.at_ with h | ⟨b, off, rfl, hb1, hc⟩
      · subst h; simp at hlt
      have hcx := hc k hlt
      have HO := Lib.hid (fun h => cnts_out hlt h)
      have HS := Lib.hid (sum_take_succ cs k hlt)
      have HAS : Hid (inB (cs.getD k 0) 0 1000000 = true → ∀ j, j < k + 1 → inB (cs.getD j 0) 0 1000000 = true) := Lib.hid (fun h j hj => by
        by_cases e : j = k
        · subst e; exact h
        · exact HA.out j (by omega))
      clear hc
      generalize cs.getD k 0 = x at *
      generalize (cs.take k).sum = s at *
      cases hin : inB x 0 1000000
      · go_wp2_with (go_at_call 104; refine (l00In_any _ _ _ _).mono ?_; rw [hin]; rintro e w' ⟨rfl, rfl⟩)
        go_ret2
        exact ⟨none, 0, by rw [HNC.out (HO.out hin), HO.out hin]; rfl, by rw [HNC.out (HO.out hin)]; exact Own.nil _ _, Below.refl _ _⟩
      · have hx := inB_iff.1 hin
        go_wp2_with (go_at_call 104; refine (l00In_any _ _ _ _).mono ?_; rw [hin]; rintro e w' ⟨rfl, rfl⟩)
        go_round
        case rel => exact ⟨k + 1, by omega, by go_num, by rw [HS.out], Lib.hid (HAS.out hin)⟩
        case measure => simp [intOf]; omega
    · have HK := Lib.hid (show k = cs.length from by omega)
      have HST : Hid ((cs.take k).sum = cs.sum) := Lib.hid (by rw [HK.out, List.take_length])
      rw [HST.out] at hsb ⊢
      by_cases hs0 : cs.sum = 0
      · have hs0b : (cs.sum == 0) = true := by simp [hs0]
        have HZ0 := Lib.hid (cnts_zero hs0)
        clear hs0
        go_wp2
        go_ret2
        exact ⟨none, 0, by rw [HNC.out HZ0.out, HZ0.out]; rfl, by rw [HNC.out HZ0.out]; exact Own.nil _ _, Below.refl _ _⟩
      · have hs0b : (cs.sum == 0) = false := by simp [hs0]
        have HCN : Hid (cntsB cs = true) := Lib.hid (cnts_yes HH1.out (fun j hj => HA.out j (by rw [HK.out]; exact hj)) hs0)
        have hwb := whole_bd HH2.out
        have hs1 : 1 ≤ cs.sum := by omega
        clear HNC HSB HA HST
        obtain ⟨f1, f2, f3, f4, f5, f6⟩ := pct_facts HCN.out HH2.out
        have HPS : Hid (∀ S, Top (reL cs.sum (partsP cs q)) S → trues S = upsP cs q → addS (flL cs.sum (partsP cs q)) S = pctV cs q) := Lib.hid (fun S hS ht => by
          rw [pct_sel HCN.out HH2.out hS ht]; simp [pctV, pctB, HCN.out, HH2.out])
        have HWD : Hid (wholeP q = 100 * 10 ^ q) := Lib.hid (by simp [wholeP])
        have HF1 := Lib.hid f1; have HF2 := Lib.hid f2; have HF4 := Lib.hid f4; have HF5 := Lib.hid f5; have HF6 := Lib.hid f6
        have HCP := Lib.hid (cnts_parts HCN.out).2.1
        clear f1 f2 f4 f5 f6
        go_wp2
        go_loop [8, 9] (fun wh i => ∃ j : Nat, j ≤ q ∧ i = .int .i64 j ∧ wh = .int .i64 (100 * 10 ^ j))
          (fun _ i => q - (intOf i).toNat)
        case atStart => exact ⟨0, Nat.zero_le _, rfl, rfl⟩
        case round =>
          obtain ⟨j, hj, rfl, rfl⟩ := hrel
          by_cases hlt2 : j < q
          · have hx : (100 : Int) * 10 ^ j ≤ 100000 ∧ 0 ≤ (100 : Int) * 10 ^ j := by
              have : j = 0 ∨ j = 1 ∨ j = 2 := by omega
              rcases this with e | e | e <;> rw [e] <;> omega
            have HX2 := Lib.hid (show (100 : Int) * 10 ^ j * 10 = 100 * 10 ^ (j + 1) from by rw [Int.pow_succ, Int.mul_assoc])
            generalize (100 : Int) * 10 ^ j = x at *
            go_wp2
            go_round
            case rel => exact ⟨j + 1, by omega, by go_num, by rw [HX2.out]⟩
            case measure => simp [intOf]; omega
          · have HJ : Hid ((100 : Int) * 10 ^ j = wholeP q) := Lib.hid (by rw [HWD.out, show q = j from by omega])
            rw [HJ.out]
            have HO0 := Lib.hid (Own.lit0 w)
            have HK0 := Lib.hid (show Keep w (w.alloc (.cells #[] 2)) by go_grown)
            have hsz0 : (w.alloc (.cells #[] 2)).heap.size = w.heap.size + 1 := by simp
            have HSZ0 := Lib.hid hsz0
            clear HWD HJ hsz0
            have HPT : Hid (partsP cs q = cs.map fun n => wholeP q * n) := Lib.hid (by unfold partsP; apply List.map_congr_left; intro n _; exact Int.mul_comm _ _)
            generalize wholeP q = Wh at *
            generalize hsm : cs.sum = sm at *
            have HSM := Lib.hid hsm; clear hsm
            have hcl := hl40.2
            go_wp2
            go_loopg [10, 11] cs.length (fun kk v i wr => ∃ (i0 : Nat) (rd : Option Addr) (rc : Nat), i0 ≤ cs.length ∧ kk = cs.length - i0 ∧ i = .int .i64 i0 ∧ v = .slice rd i0 rc ∧ Hid (Own wr w.heap.size rd rc ((cs.take i0).map fun n => Wh * n)) ∧ Hid (Keep w wr))
            case atStart => exact ⟨0, _, _, Nat.zero_le _, rfl, rfl, rfl, by simpa using HO0, HK0⟩
            case round =>
              obtain ⟨i0, rd, rc, hi0, rfl, rfl, rfl, HO, HB⟩ := hrel
              by_cases hlt3 : i0 < cs.length
              · rcases (hz.keep HB.out (Nat.le_refl _)).at_ with h | ⟨b, off, rfl, hb, hc⟩
                · subst h; simp at hlt3
                have hcx := hc i0 hlt3
                have hx := HCP.out _ (getD_mem cs i0 hlt3)
                have HT := Lib.hid (take_map_succ (fun n => Wh * n) cs i0 hlt3)
                clear hc
                generalize cs.getD i0 0 = x at *
                have hm : Wh * x ≤ 100000 * 1000000 := Int.mul_le_mul hwb.2 hx.2 hx.1 (by omega)
                have hm0 : 0 ≤ Wh * x := Int.mul_nonneg (by omega) hx.1
                have HKL := Lib.hid (show ((cs.take i0).map fun n => Wh * n).length = i0 by simp; omega)
                have hsr := HB.out.size
                go_wp2_with (refine list_app1 (by rfl) _ _ (by rfl) w.heap.size rd rc i0 _ (Wh * x) (by rfl) (HO.out.keep (by go_grown)) HKL.out.symm wr.heap.size (by rfl) (cell_new1 _ _ _) ⟨by omega, by omega⟩ (by rw [HKL.out]; omega) (by simp; omega) ?_; intro ad' cap' w2 hown2 hgr2; have hbel2 : Below w.heap.size wr w2 := below_own (by go_grown) (HO.out.keep (by go_grown)) hgr2 (by simp; omega) (Nat.le_refl _))
                go_roundg (cs.length - (i0 + 1))
                case measure => omega
                case rel => exact ⟨i0 + 1, ad', cap', by omega, rfl, by go_num, rfl, Lib.hid (by rw [HT.out]; exact hown2), Lib.hid (HB.out.trans hbel2)⟩
              · have HI : Hid ((cs.take i0).map (fun n => Wh * n) = partsP cs q) := Lib.hid (by rw [HPT.out, show i0 = cs.length from by omega, List.take_length])
                have HOP : Hid (Own wr w.heap.size rd rc (partsP cs q)) := Lib.hid (by rw [← HI.out]; exact HO.out)
                have hil : i0 = (partsP cs q).length := by rw [HF2.out]; omega
                rw [hil]
                have hpl : (partsP cs q).length ≤ 40 := by omega
                have hpl1 : 1 ≤ (partsP cs q).length := by omega
                have hnl : ¬ (partsP cs q).length < cs.length := by omega
                clear hlt3
                clear HO HI HPT HO0 HK0 hil
                generalize partsP cs q = P at *
                generalize upsP cs q = u at *
                have hR0 := rests_in hs1 P
                have HFl := Lib.hid (flL_len sm P); have HRl := Lib.hid (reL_len sm P)
                have HRI := Lib.hid hR0
                clear hR0
                have C1 : Hid (∀ W, Keep wr W → Calls Try.prog 97 #[.slice rd P.length rc, .int .i64 sm] W fun e w' => ∃ rd rc, e = .returned (.slice rd (flL sm P).length rc) ∧ Own w' W.heap.size rd rc (flL sm P) ∧ Keep W w') :=
                  Lib.hid (fun W k => l04Floors_any rd rc P sm W ((HOP.out.keep k).ints) (fun z hz => by have := HF1.out z hz; omega) (by omega) (by omega) (by omega))
                have C2 : Hid (∀ W, Keep wr W → Calls Try.prog 95 #[.slice rd P.length rc, .int .i64 sm] W fun e w' => ∃ rd rc, e = .returned (.slice rd (reL sm P).length rc) ∧ Own w' W.heap.size rd rc (reL sm P) ∧ Keep W w') :=
                  Lib.hid (fun W k => l04Rests_any rd rc P sm W ((HOP.out.keep k).ints) (fun z hz => by have := HF1.out z hz; omega) (by omega) (by omega) (by omega))
                generalize flL sm P = F at *
                generalize reL sm P = R at *
                have hf40 : F.length ≤ 40 := by rw [HFl.out]; exact hpl
                have hr40 : R.length ≤ 40 := by rw [HRl.out]; exact hpl
                go_wp2_with fail
                refine (C1.out wr (Below.refl _ _)).mono ?_
                rintro e w5 ⟨fd, fc, rfl, o5, k5⟩
                have M5 : Mine w5 wr.heap.size w5.heap.size fd fc F := Mine.new (Nat.le_refl _) o5
                have HM5 := Lib.hid M5
                have HK5 := Lib.hid k5
                clear M5 o5 k5 C1
                go_wp2_with fail
                refine (C2.out w5 HK5.out).mono ?_
                rintro e w6 ⟨ed, ec, rfl, o6, k6⟩
                have M6 : Mine w6 w5.heap.size w6.heap.size ed ec R := Mine.new (Nat.le_refl _) o6
                have HM6 := Lib.hid M6
                have HM5b := Lib.hid (HM5.out.keep k6)
                have HK6 := Lib.hid ((HB.out.next HK5.out).next k6)
                have hw5 : wr.heap.size ≤ w5.heap.size := HK5.out.size
                have hw6 : w5.heap.size ≤ w6.heap.size := k6.size
                have hw0 : w.heap.size ≤ wr.heap.size := HB.out.size
                clear M6 o6 k6 C2 HM5
                have hfu : Wh - F.sum = (u : Int) := by have := HF5.out; omega
                have HFU := Lib.hid hfu; clear hfu
                have hsb5 := sum_bd 100000 (by omega) F (fun z hz => by have := HF4.out z hz; omega)
                have hu40 : u ≤ 40 := by have := List.countP_le_length (p := fun r => decide (0 < r)) (l := R); have h6 := HF6.out; unfold gtC at h6; omega
                go_wp2_with fail
                refine (l01Sum_any fd fc F w6 HM5b.out.ints (fun z hz => by have := HF4.out z hz; omega) (by omega)).mono ?_
                rintro e w7 ⟨rfl, rfl⟩
                go_wp2_with fail
                rw [HFU.out]
                obtain ⟨hA, hhA⟩ : ∃ x, x = wr.heap.size := ⟨_, rfl⟩
                obtain ⟨hB5, hhB⟩ : ∃ x, x = w5.heap.size := ⟨_, rfl⟩
                obtain ⟨hC6, hhC⟩ : ∃ x, x = w6.heap.size := ⟨_, rfl⟩
                rw [← hhA, ← hhB] at HM5b
                rw [← hhB, ← hhC] at HM6
                rw [← hhA, ← hhB] at hw5
                rw [← hhB, ← hhC] at hw6
                rw [← hhA] at hw0
                clear hhA hhB hhC
                have HFR : Hid (F.length = R.length) := Lib.hid (by rw [HFl.out, HRl.out])
                have HFE : Hid (F = addS F (List.replicate R.length false)) := Lib.hid (by rw [← HFR.out, addS_zero])
                have HRE : Hid (R = cutS R (List.replicate R.length false)) := Lib.hid (by rw [cutS_zero])
                have HFLn : Hid (∀ S : List Bool, Top R S → (addS F S).length = F.length) := Lib.hid (fun S h => addS_len F S (by rw [HFR.out, h.len]))
                have HRLn : Hid (∀ S : List Bool, Top R S → (cutS R S).length = R.length) := Lib.hid (fun S h => cutS_len R S h.len.symm)
                have hff : (F.length : Int) ≤ 40 := by omega
                go_loopg [14, 15, 16] u (fun kk lv _ _ wi => ∃ (t : Nat) (S : List Bool), t ≤ u ∧ kk = u - t ∧ lv = .int .i64 ((u - t : Nat) : Int) ∧ Hid (Top R S ∧ trues S = t) ∧ Hid (Mine wi hA hB5 fd fc (addS F S)) ∧ Hid (Mine wi hB5 hC6 ed ec (cutS R S)) ∧ Hid (Keep w wi))
                case atStart => exact ⟨0, List.replicate R.length false, Nat.zero_le _, rfl, by simp, Lib.hid ⟨Top.zero R, trues_zero _⟩, Lib.hid (by rw [← HFE.out]; exact HM5b.out), Lib.hid (by rw [← HRE.out]; exact HM6.out), HK6⟩
                case round =>
                  obtain ⟨t, S, ht, rfl, rfl, HT, HMf, HMr, HKw⟩ := hrel
                  have hnl4 := HFLn.out S HT.out.1
                  have hrl4 := HRLn.out S HT.out.1
                  have Hnl4 := Lib.hid hnl4; have Hrl4 := Lib.hid hrl4
                  clear hnl4 hrl4
                  by_cases htu : t < u
                  · have hpos : (0 : Int) < ((u - t : Nat) : Int) := by omega
                    have HMX : Hid (trues S < gtC 0 R) := Lib.hid (by have := HF6.out; have := HT.out.2; omega)
                    generalize hwx : wr = wx at *
                    clear hwx
                    go_wp2
                    rw [show decide (0 < u - t) = true from decide_eq_true (by omega)]
                    go_loopg [15, 16] R.length (fun kk bv i wj => ∃ (m : Nat) (bi : Int), m ≤ R.length ∧ kk = R.length - m ∧ i = .int .i64 m ∧ bv = .int .i64 bi ∧ Hid (BestTo (cutS R S) m bi) ∧ Hid (Keep wx wj))
                    case atStart => exact ⟨0, -1, Nat.zero_le _, rfl, rfl, rfl, Lib.hid (BestTo.zero _), Lib.hid (Below.refl _ _)⟩
                    case round =>
                      obtain ⟨m, bi, hm, rfl, rfl, rfl, HBT, HKj⟩ := hrel
                      have HMrj := Lib.hid (HMr.out.keep HKj.out)
                      by_cases hmr : m < R.length
                      · rcases HMrj.out.ints.at_ with h | ⟨b, off, rfl, hb, hc⟩
                        · rw [h] at Hrl4; have := Hrl4.out; simp at this; omega
                        have hcx := hc m (by rw [Hrl4.out]; exact hmr)
                        have HLow := Lib.hid (fun h => HBT.out.low h)
                        by_cases hz0 : 0 < (cutS R S).getD m 0
                        · rcases HBT.out with ⟨rfl, hall⟩ | ⟨bb, rfl, hb1, hb2, hb3⟩
                          · have HFi := Lib.hid (BestTo.first hall hz0)
                            clear hc hall
                            generalize (cutS R S).getD m 0 = x at *
                            have hz0b : decide (0 < x) = true := by simp [hz0]
                            go_wp2
                            go_quiet (fail)
                            go_wp2
                            go_roundg (R.length - (m + 1))
                            case measure => omega
                            case rel => exact ⟨m + 1, (m : Int), by omega, rfl, by go_num, rfl, HFi, Lib.hid (below_drewN HKj.out _)⟩
                          · have hcb := hc bb (by rw [Hrl4.out]; omega)
                            have HBe := Lib.hid (fun h => BestTo.better hb1 hb2 hb3 h)
                            have HWo := Lib.hid (fun h => BestTo.worse hb1 hb2 hb3 h)
                            have hb0 : ¬ (bb : Int) < 0 := by omega
                            have hbl : bb < R.length := by omega
                            clear hc hb3
                            have hlen9 : (cutS R S).length = R.length := Hrl4.out
                            have HLen9 := Lib.hid hlen9; clear hlen9
                            generalize (cutS R S).getD m 0 = x at *
                            generalize (cutS R S).getD bb 0 = y at *
                            by_cases hxy : y ≤ x
                            · go_wp2
                              go_quiet (fail)
                              go_wp2
                              go_roundg (R.length - (m + 1))
                              case measure => omega
                              case rel => exact ⟨m + 1, (m : Int), by omega, rfl, by go_num, rfl, Lib.hid (HBe.out hxy), Lib.hid (below_drewN HKj.out _)⟩
                            · have hxy2 : x < y := by omega
                              go_wp2
                              go_quiet (fail)
                              go_wp2
                              go_roundg (R.length - (m + 1))
                              case measure => omega
                              case rel => exact ⟨m + 1, (bb : Int), by omega, rfl, by go_num, rfl, Lib.hid (HWo.out hxy2), Lib.hid (below_drewN HKj.out _)⟩
                        · have HL2 := Lib.hid (HLow.out (by omega))
                          clear hc HLow
                          generalize (cutS R S).getD m 0 = x at *
                          have hz0b : decide (0 < x) = false := by simp; omega
                          go_wp2
                          go_quiet (fail)
                          go_wp2
                          go_roundg (R.length - (m + 1))
                          case measure => omega
                          case rel => exact ⟨m + 1, bi, by omega, rfl, by go_num, rfl, HL2, Lib.hid (below_drewN HKj.out _)⟩
                      · have HDN : Hid (BestTo (cutS R S) R.length bi) := Lib.hid (by have h := HBT.out; rwa [show m = R.length from by omega] at h)
                        obtain ⟨bb, hbi, hbR, hsb, hT2, htr2⟩ := HDN.out.done HT.out.1 HMX.out
                        subst hbi
                        have HMfj := Lib.hid (HMf.out.keep HKj.out)
                        have HKwj := Lib.hid (HKw.out.next HKj.out)
                        have hbF : bb < F.length := by rw [HFR.out]; exact hbR
                        have HAS := Lib.hid (addS_set (F := F) (S := S) (b := bb) (by rw [HFR.out, HT.out.1.len]) hbF hsb)
                        have HCS := Lib.hid (cutS_set (F := R) (S := S) (b := bb) HT.out.1.len.symm hbR)
                        have HT3 : Hid (Top R (S.set bb true) ∧ trues (S.set bb true) = t + 1) := Lib.hid ⟨hT2, by rw [htr2, HT.out.2]⟩
                        rcases own_block HMfj.out.own.1 with ⟨_, h2, _⟩ | ⟨fb, hfd, hfB, hfb, _⟩
                        · rw [Hnl4.out] at h2; omega
                        rcases own_block HMrj.out.own.1 with ⟨_, h2, _⟩ | ⟨rb, hed, hrB, hrb, _⟩
                        · rw [Hrl4.out] at h2; omega
                        have hfb2 := HMfj.out.below fb hfd
                        have hrb2 := HMrj.out.below rb hed
                        have hF1 : wr.cell? ⟨fb, bb, none⟩ = some (.int .i64 ((addS F S).getD bb 0)) := by
                          have hM := HMfj.out; rw [hfd] at hM
                          have := hM.own.1.cellAt bb (by rw [Hnl4.out]; omega)
                          rw [this]
                          simp [vals, List.getD_eq_getElem?_getD, show bb < (addS F S).length from by rw [Hnl4.out]; exact hbF]
                        have hF2 : wr.frozen? ⟨fb, bb, none⟩ = false := by have hM := HMfj.out; rw [hfd] at hM; exact hM.own.1.frozenAt bb
                        have hR1 : wr.cell? ⟨rb, bb, none⟩ = some (.int .i64 ((cutS R S).getD bb 0)) := by
                          have hM := HMrj.out; rw [hed] at hM
                          have := hM.own.1.cellAt bb (by rw [Hrl4.out]; omega)
                          rw [this]
                          simp [vals, List.getD_eq_getElem?_getD, show bb < (cutS R S).length from by rw [Hrl4.out]; exact hbR]
                        have hR2 : wr.frozen? ⟨rb, bb, none⟩ = false := by have hM := HMrj.out; rw [hed] at hM; exact hM.own.1.frozenAt bb
                        have hv := addS_in (S := S) HF4.out _ (getD_mem (addS F S) bb (by rw [Hnl4.out]; exact hbF))
                        have HMF1 := Lib.hid ((by have hM := HMfj.out; rw [hfd] at hM; exact hM : Mine wr hA hB5 (some ⟨fb, 0, none⟩) fc (addS F S)).stored bb ((addS F S).getD bb 0 + 1) ⟨by omega, by omega⟩)
                        have HMR1 := Lib.hid (by have hM := HMrj.out; rw [hed] at hM; exact hM : Mine wr hB5 hC6 (some ⟨rb, 0, none⟩) ec (cutS R S))
                        have HFD := Lib.hid hfd; have HED := Lib.hid hed
                        clear hT2 htr2 hsb
                        subst hfd
                        subst hed
                        generalize hvv : (addS F S).getD bb 0 = v at *
                        clear hvv
                        generalize hzz : (cutS R S).getD bb 0 = zv at *
                        clear hzz
                        have hne : ¬ rb = fb := by omega
                        have hR1b : (wr.setCell ⟨fb, bb, none⟩ (.int .i64 (v + 1))).cell? ⟨rb, bb, none⟩ = some (.int .i64 zv) := by
                          have e := (set_grown wr fb bb (.int .i64 (v + 1))).block rb (by omega) (by simp; omega)
                          exact (World.cell?_of_block (a := ⟨rb, bb, none⟩) e).trans hR1
                        have hR2b : (wr.setCell ⟨fb, bb, none⟩ (.int .i64 (v + 1))).frozen? ⟨rb, bb, none⟩ = false := by
                          have e := (set_grown wr fb bb (.int .i64 (v + 1))).block rb (by omega) (by simp; omega)
                          exact (World.frozen?_of_block (a := ⟨rb, bb, none⟩) e).trans hR2
                        go_wp2
                        go_roundg (u - (t + 1))
                        case measure => omega
                        case rel =>
                          have m1 := set_grown wr fb bb (.int .i64 (v + 1))
                          have m2 := set_grown (wr.setCell ⟨fb, bb, none⟩ (.int .i64 (v + 1))) rb bb (.int .i64 0)
                          refine ⟨t + 1, S.set bb true, by omega, rfl, ?_, HT3, Lib.hid ?_, Lib.hid ?_, Lib.hid ?_⟩
                          · congr 1; omega
                          · rw [HAS.out]
                            exact HMF1.out.out m2 (.inr (by omega))
                          · rw [HCS.out]
                            exact (HMR1.out.out m1 (.inl (by omega))).stored bb 0 ⟨by omega, by omega⟩
                          · exact (HKwj.out.setCell (by show w.heap.size ≤ fb; omega) _).setCell (by show w.heap.size ≤ rb; omega) _
                  · have HSV : Hid (addS F S = pctV cs q) := Lib.hid (HPS.out S HT.out.1 (by rw [HT.out.2]; omega))
                    have hz0 : u - t = 0 := by omega
                    rw [hz0]
                    have HOF := Lib.hid (HMf.out.own.mono (B' := w.heap.size) hw0)
                    go_wp2
                    refine bodyPost_ret (v := .tuple #[.slice fd F.length fc, .bool true]) (by simp [results, Try.results57, go_sem]) rfl ?_
                    refine ⟨fd, fc, ?_, by rw [← HSV.out]; exact HOF.out, HKw.out⟩
                    rw [← HSV.out, Hnl4.out, HCN.out]
end Go.Proofs.Ytgpjjgfechjbfaa
