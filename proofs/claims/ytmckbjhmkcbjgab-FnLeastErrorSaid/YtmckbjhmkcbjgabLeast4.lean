/- The best rounding is a rounding with the sum, and none with this sum has a lesser norm (pure). -/
import Derived.Test.YtmckbjhmkcbjgabBest4
import Derived.Test.YtmckbjhmkcbjgabSel4
import Derived.Test.YtmckbjhmkcbjgabNorm4
import Derived.Test.YtmckbjhmkcbjgabPct4f
namespace Go.Proofs.Ytmckbjhmkcbjgab
open Go.ChangeShapes Go.WideShapes Go.ChangeAt Go.RowKit Go.Deep
set_option linter.unusedVariables false
/-- The absolute error of a value with the rest r, rounded up or down. -/
def eS (g r : Int) (s : Bool) : Int := if s then g - r else r
def nst (norm s a : Int) : Int := if norm = 0 then s + a else if norm = 1 then s + a * a else mx s a
theorem nrm_errs (norm g : Int) (hg : 1 ≤ g) : ∀ (zs : List Int) (S : List Bool) (s0 : Int), S.length = zs.length →
    (errsL g zs (addS (flL g zs) S)).foldl (fun s e => nstep norm s e) s0 = (List.zipWith (eS g) (reL g zs) S).foldl (nst norm) s0
  | [], [], _, _ => rfl
  | z :: zs, s :: S, s0, h => by
    have e1 : errsL g (z :: zs) (addS (flL g (z :: zs)) (s :: S)) = (g * (if s then fl z g + 1 else fl z g) - z) :: errsL g zs (addS (flL g zs) S) := rfl
    have e2 : List.zipWith (eS g) (reL g (z :: zs)) (s :: S) = eS g (z - g * fl z g) s :: List.zipWith (eS g) (reL g zs) S := rfl
    rw [e1, e2, List.foldl_cons, List.foldl_cons, ← nrm_errs norm g hg zs S _ (by simpa using h)]
    congr 1
    have hm := fl_mul (a := z) hg
    have ha : ab (g * (if s then fl z g + 1 else fl z g) - z) = eS g (z - g * fl z g) s := by
      cases s
      · simp only [Bool.false_eq_true, if_false, eS, ab]; split <;> omega
      · simp only [if_true, eS, ab, Int.mul_add, Int.mul_one]; split <;> omega
    unfold nstep nst
    rw [ha]
  | [], _ :: _, _, h => by simp at h
  | _ :: _, [], _, h => by simp at h
theorem fold0 (A : List Int) (s0 : Int) : A.foldl (nst 0) s0 = s0 + A.sum := by
  induction A generalizing s0 with
  | nil => simp
  | cons a t ih => rw [List.foldl_cons, ih, List.sum_cons]; simp only [nst, if_true]; omega
theorem fold1 (A : List Int) (s0 : Int) : A.foldl (nst 1) s0 = s0 + (A.map fun a => a * a).sum := by
  induction A generalizing s0 with
  | nil => simp
  | cons a t ih =>
    rw [List.foldl_cons, ih, List.map_cons, List.sum_cons]
    have : nst 1 s0 a = s0 + a * a := by simp [nst]
    rw [this]; omega
theorem fold2 (A : List Int) (s0 M : Int) : A.foldl (nst 2) s0 ≤ M ↔ s0 ≤ M ∧ ∀ a ∈ A, a ≤ M := by
  induction A generalizing s0 with
  | nil => simp
  | cons a t ih =>
    rw [List.foldl_cons, ih]
    have : nst 2 s0 a = mx s0 a := by simp [nst]
    rw [this]
    simp only [List.mem_cons, forall_eq_or_imp]
    unfold mx
    constructor
    · rintro ⟨h1, h2⟩; split at h1 <;> exact ⟨by omega, by omega, h2⟩
    · rintro ⟨h1, h2, h3⟩; refine ⟨?_, h3⟩; split <;> omega
theorem lagr (f : Int → Bool → Int) (lam : Int) : ∀ (R : List Int) (S1 S2 : List Bool), S1.length = R.length → S2.length = R.length →
    (∀ i, i < R.length → f (R.getD i 0) (S1.getD i false) + (if S1.getD i false then lam else 0) ≤ f (R.getD i 0) (S2.getD i false) + (if S2.getD i false then lam else 0)) →
    (List.zipWith f R S1).sum + lam * (trues S1 : Nat) ≤ (List.zipWith f R S2).sum + lam * (trues S2 : Nat)
  | [], [], [], _, _, _ => by simp
  | r :: R, a :: S1, b :: S2, h1, h2, h => by
    have ih := lagr f lam R S1 S2 (by simpa using h1) (by simpa using h2) (fun i hi => by
      have := h (i + 1) (by simpa using hi)
      simpa only [List.getD_cons_succ] using this)
    have h0 := h 0 (by simp)
    simp only [List.getD_cons_zero] at h0
    have t1 : ∀ (s : Bool) (S : List Bool), (trues (s :: S) : Int) = (trues S : Nat) + (if s then 1 else 0) := fun s S => by
      unfold trues; rw [List.countP_cons]; cases s <;> simp
    rw [List.zipWith_cons_cons, List.zipWith_cons_cons, List.sum_cons, List.sum_cons, t1, t1, Int.mul_add, Int.mul_add]
    have e : ∀ s : Bool, lam * (if s then 1 else 0) = (if s then lam else 0) := fun s => by cases s <;> simp
    rw [e, e]; omega
  | [], _ :: _, _, h, _, _ => by simp at h
  | [], [], _ :: _, _, h, _ => by simp at h
  | _ :: _, [], _, h, _, _ => by simp at h
  | _ :: _, _ :: _, [], _, h, _ => by simp at h
theorem zip_sq (g : Int) : ∀ (R : List Int) (S : List Bool), (List.zipWith (eS g) R S).map (fun a => a * a) = List.zipWith (fun r s => eS g r s * eS g r s) R S
  | [], _ => rfl
  | _ :: _, [] => rfl
  | r :: R, s :: S => by rw [List.zipWith_cons_cons, List.map_cons, List.zipWith_cons_cons, zip_sq g R S]
/-- What is known of the places that the best rounding rounds up. -/
structure BestS (norm g : Int) (zs : List Int) (u : Nat) (S : List Bool) : Prop where
  len : S.length = zs.length
  tr : trues S = u
  pos : ∀ i, i < zs.length → S.getD i false = true → 0 < (reL g zs).getD i 0
  opt : norm ≠ 2 → ∃ T, ∀ i, i < zs.length → (S.getD i false = true → T ≤ (reL g zs).getD i 0) ∧ (S.getD i false = false → (reL g zs).getD i 0 ≤ T)
  mxm : norm = 2 → ∃ m, 0 ≤ m ∧ (∀ i, i < zs.length → eS g ((reL g zs).getD i 0) (S.getD i false) ≤ m) ∧ ∀ m', 0 ≤ m' → m' < m → ¬ fitsM 2 g m' (reL g zs) u
theorem best_sel {norm g : Int} {zs : List Int} {sum : Int} (h : askB norm g zs sum = true) : ∃ S, BestS norm g zs (upsOf g zs sum) S ∧ bestV norm g zs sum = addS (flL g zs) S := by
  obtain ⟨h1, h2, h3⟩ := ask_parts h
  have hg := (okV_den h1).1
  have hV : bestV norm g zs sum = putL (flL g zs) (fixL norm g zs (upsOf g zs sum)) (upsOf g zs sum - isC 1 (fixL norm g zs (upsOf g zs sum))) := by simp [bestV, h]
  rw [hV]; clear hV
  generalize upsOf g zs sum = u at *
  have hp := List.mergeSort_perm (g :: 0 :: reL g zs) (fun a b => decide (b ≤ a))
  have hsr : ((g :: 0 :: reL g zs).mergeSort (fun a b => decide (b ≤ a))).Pairwise fun a b => decide (b ≤ a) = true :=
    List.pairwise_mergeSort (fun a b c h1 h2 => by simp at *; omega) (fun a b => by simp; omega) _
  have hd : Desc ((g :: 0 :: reL g zs).mergeSort (fun a b => decide (b ≤ a))) := fun i j hij hj => by
    rw [List.pairwise_iff_getElem] at hsr
    have := hsr i j (by omega) hj hij
    rw [getD_get _ i (by omega), getD_get _ j hj]
    simpa using this
  have hri := rests_in hg zs
  have hr := ranks_of hg hri h3 hp hd
  generalize ((g :: 0 :: reL g zs).mergeSort (fun a b => decide (b ≤ a))).getD u 0 = T at hr
  generalize ((g :: 0 :: reL g zs).mergeSort (fun a b => decide (b ≤ a))).getD (u + 1) 0 = Sx at hr
  have hft := fixL_fits (norm := norm) hg hr
  have hfx : fixL norm g zs u = (reL g zs).map (fixX norm g (mostOf norm g T Sx)) := by unfold fixL; rw [mst_eq (isMst_of hg hri hr)]
  have hfits := fits_most (norm := norm) hg hri hr
  have hcls : ∀ i, i < zs.length → fixX norm g (mostOf norm g T Sx) ((reL g zs).getD i 0) = clsX (loOf norm g T Sx) (hiOf norm g T Sx) ((reL g zs).getD i 0) := fun i hi => by
    have hl := reL_len g zs
    refine cls_eq hg hri hr _ ?_
    rw [getD_get _ i (by omega)]; exact List.getElem_mem _
  have hlen := fixL_len norm g zs u
  have hfl := flL_len g zs
  have hrl := reL_len g zs
  have hC : ∀ i, i < zs.length → (fixL norm g zs u).getD i 0 = fixX norm g (mostOf norm g T Sx) ((reL g zs).getD i 0) := fun i hi => by
    rw [hfx, getD_get _ i (by simpa [hrl] using hi), getD_get _ i (by omega), List.getElem_map]
  generalize fixL norm g zs u = C at *
  have hup : ∀ i, i < zs.length → (selP C (u - isC 1 C)).getD i false = true → fixX norm g (mostOf norm g T Sx) ((reL g zs).getD i 0) = 1 ∨ fixX norm g (mostOf norm g T Sx) ((reL g zs).getD i 0) = 0 := fun i hi q => by
    rw [selP_get C _ i (by omega), hC i hi] at q
    simp only [Bool.or_eq_true, Bool.and_eq_true, decide_eq_true_eq] at q
    rcases q with q | q
    · exact .inl q
    · exact .inr q.1
  have hdn : ∀ i, i < zs.length → (selP C (u - isC 1 C)).getD i false = false → fixX norm g (mostOf norm g T Sx) ((reL g zs).getD i 0) ≠ 1 := fun i hi q e => by
    rw [selP_get C _ i (by omega), hC i hi, e] at q
    simp at q
  have hRi : ∀ i, i < zs.length → 0 ≤ (reL g zs).getD i 0 ∧ (reL g zs).getD i 0 < g := fun i hi => by
    rw [getD_get _ i (by omega)]; exact hri _ (List.getElem_mem _)
  refine ⟨selP C (u - isC 1 C), ⟨by rw [selP_len]; omega, by rw [selP_trues]; omega, fun i hi q => ?_, fun hn => ⟨T, fun i hi => ⟨fun q => ?_, fun q => ?_⟩⟩, fun hn => ?_⟩, by rw [add_put _ _ _ (by omega)]⟩
  · have hb := hRi i hi
    have := hup i hi q
    by_cases e : (reL g zs).getD i 0 = 0
    · rw [e] at this; simp [fixX] at this
    · omega
  · have := hup i hi q
    rw [hcls i hi] at this
    unfold clsX loOf hiOf at this
    simp only [if_neg hn] at this
    (repeat' split at this) <;> omega
  · have := hdn i hi q
    rw [hcls i hi] at this
    unfold clsX loOf hiOf at this
    simp only [if_neg hn] at this
    (repeat' split at this) <;> omega
  · subst hn
    refine ⟨mostOf 2 g T Sx, (mostOf_nn hr).1, fun i hi => ?_, fun m' h0 h1 => not_fits hg hri hr m' h0 h1⟩
    have hb := hRi i hi
    have hpo : ¬ (mostOf 2 g T Sx < (reL g zs).getD i 0 ∧ mostOf 2 g T Sx < g - (reL g zs).getD i 0) := by
      have := hfits.1
      unfold poisB at this
      simp only [decide_true, Bool.true_and] at this
      rw [List.any_eq_false] at this
      have := this ((reL g zs).getD i 0) (by rw [getD_get _ i (by omega)]; exact List.getElem_mem _)
      simpa using this
    have hm0 := (mostOf_nn (norm := 2) hr).1
    cases q : (selP C (u - isC 1 C)).getD i false
    · have := hdn i hi q
      unfold fixX at this
      simp only [eS, Bool.false_eq_true, if_false]
      by_cases e : (reL g zs).getD i 0 = 0
      · omega
      · rw [if_neg e, if_pos rfl] at this
        split at this
        · omega
        · omega
    · have := hup i hi q
      unfold fixX at this
      simp only [eS, if_true]
      by_cases e : (reL g zs).getD i 0 = 0
      · rw [if_pos e] at this; omega
      · rw [if_neg e, if_pos rfl] at this
        (repeat' split at this) <;> omega
theorem ce_of {z g : Int} (hg : 1 ≤ g) (h : 0 < z - g * fl z g) : ce z g = fl z g + 1 := by rw [ce_rest hg, if_pos h]
/-- A rounding is the floors and some of the places that have rests. -/
theorem rnd_sel {g : Int} {zs ls : List Int} (h : rndB g zs ls = true) : ∃ S, S.length = zs.length ∧ ls = addS (flL g zs) S ∧ ∀ i, i < zs.length → S.getD i false = true → 0 < (reL g zs).getD i 0 := by
  unfold rndB at h
  simp only [Bool.and_eq_true, decide_eq_true_eq] at h
  obtain ⟨⟨h1, h2⟩, h3⟩ := h
  have hg := (okV_den h1).1
  have hfl := flL_len g zs
  have hrl := reL_len g zs
  have hF : ∀ i, i < zs.length → (flL g zs).getD i 0 = fl (zs.getD i 0) g := fun i hi => by
    rw [getD_get _ i (by omega), getD_get _ i hi]; simp [flL]
  have hR : ∀ i, i < zs.length → (reL g zs).getD i 0 = zs.getD i 0 - g * fl (zs.getD i 0) g := fun i hi => by
    rw [getD_get _ i (by omega), getD_get _ i hi]; simp [reL]
  refine ⟨(List.range zs.length).map fun i => decide (ls.getD i 0 ≠ fl (zs.getD i 0) g), by simp, ?_, fun i hi q => ?_⟩
  · have hSl : (flL g zs).length = ((List.range zs.length).map fun i => decide (ls.getD i 0 ≠ fl (zs.getD i 0) g)).length := by simp [hfl]
    apply List.ext_getElem
    · rw [addS_len _ _ hSl]; omega
    · intro i i1 i2
      have hi : i < zs.length := by omega
      rw [← getD_get ls i i1, ← getD_get _ i i2]
      have : (addS (flL g zs) ((List.range zs.length).map fun i => decide (ls.getD i 0 ≠ fl (zs.getD i 0) g))).getD i 0 = _ := zip_get _ _ _ hSl i (by omega)
      rw [this, hF i hi]
      have e : (((List.range zs.length).map fun i => decide (ls.getD i 0 ≠ fl (zs.getD i 0) g)).getD i false) = decide (ls.getD i 0 ≠ fl (zs.getD i 0) g) := by
        rw [List.getD_eq_getElem?_getD, List.getElem?_map, List.getElem?_range hi]; rfl
      rw [e]
      rcases h3 i i1 with q | q
      · rw [q]; simp
      · rw [q, ce_rest hg]
        by_cases hp : 0 < zs.getD i 0 - g * fl (zs.getD i 0) g
        · rw [if_pos hp]; rw [if_pos (by rw [decide_eq_true_eq]; omega)]
        · rw [if_neg hp]; simp
  · rw [List.getD_eq_getElem?_getD, List.getElem?_map, List.getElem?_range hi] at q
    have q2 : ls.getD i 0 ≠ fl (zs.getD i 0) g := by simpa using q
    rw [hR i hi]
    rcases h3 i (by omega) with e | e
    · exact absurd e q2
    · rw [ce_rest hg] at e
      split at e
      · assumption
      · rw [Int.add_zero] at e; exact absurd e q2
theorem sel_rnd {g : Int} {zs : List Int} {S : List Bool} (h : okV g zs = true) (hl : S.length = zs.length) (hp : ∀ i, i < zs.length → S.getD i false = true → 0 < (reL g zs).getD i 0) : rndB g zs (addS (flL g zs) S) = true := by
  have hg := (okV_den h).1
  have hfl := flL_len g zs
  have hrl := reL_len g zs
  unfold rndB
  simp only [Bool.and_eq_true, decide_eq_true_eq]
  have hal := addS_len (flL g zs) S (by omega)
  refine ⟨⟨h, by omega⟩, fun i hi => ?_⟩
  have hi2 : i < zs.length := by omega
  have : (addS (flL g zs) S).getD i 0 = _ := zip_get _ _ _ (by omega) i (by omega)
  have hF : (flL g zs).getD i 0 = fl (zs.getD i 0) g := by rw [getD_get _ i (by omega), getD_get _ i hi2]; simp [flL]
  have hR : (reL g zs).getD i 0 = zs.getD i 0 - g * fl (zs.getD i 0) g := by rw [getD_get _ i (by omega), getD_get _ i hi2]; simp [reL]
  rw [this, hF]
  have hq := hp i hi2
  rw [hR] at hq
  cases e : S.getD i false
  · left; simp
  · right; rw [ce_of hg (hq e)]; simp
theorem cnt_le (p : Int → Bool) : ∀ (R : List Int) (S : List Bool), S.length = R.length → (∀ i, i < R.length → p (R.getD i 0) = true → S.getD i false = true) → R.countP p ≤ trues S
  | [], [], _, _ => by simp
  | r :: R, s :: S, h, hp => by
    have ih := cnt_le p R S (by simpa using h) (fun i hi q => by
      have := hp (i + 1) (by simpa using hi)
      simp only [List.getD_cons_succ] at this; exact this q)
    have h0 := hp 0 (by simp)
    simp only [List.getD_cons_zero] at h0
    have e : trues (s :: S) = trues S + (if s = true then 1 else 0) := by unfold trues; rw [List.countP_cons]
    rw [List.countP_cons, e]
    by_cases q : p r = true
    · rw [if_pos q, if_pos (h0 q)]; omega
    · rw [if_neg q]; omega
  | [], _ :: _, h, _ => by simp at h
  | _ :: _, [], h, _ => by simp at h
theorem le_cnt (p : Int → Bool) : ∀ (R : List Int) (S : List Bool), S.length = R.length → (∀ i, i < R.length → S.getD i false = true → p (R.getD i 0) = true) → trues S ≤ R.countP p
  | [], [], _, _ => by simp [trues]
  | r :: R, s :: S, h, hp => by
    have ih := le_cnt p R S (by simpa using h) (fun i hi q => by
      have := hp (i + 1) (by simpa using hi)
      simp only [List.getD_cons_succ] at this; exact this q)
    have h0 := hp 0 (by simp)
    simp only [List.getD_cons_zero] at h0
    have e : trues (s :: S) = trues S + (if s = true then 1 else 0) := by unfold trues; rw [List.countP_cons]
    rw [List.countP_cons, e]
    by_cases q : s = true
    · rw [if_pos q, if_pos (h0 q)]; omega
    · rw [if_neg q]; omega
  | [], _ :: _, h, _ => by simp at h
  | _ :: _, [], h, _ => by simp at h
theorem best_least {norm g : Int} {zs ls : List Int} {sum : Int} (h : askB norm g zs sum = true) (hr : rndB g zs ls = true) (hs : ls.sum = sum) :
    nrm norm (errsL g zs (bestV norm g zs sum)) ≤ nrm norm (errsL g zs ls) ∧ rndB g zs (bestV norm g zs sum) = true ∧ (bestV norm g zs sum).sum = sum ∧ (bestV norm g zs sum).length = zs.length := by
  obtain ⟨S, hB, hV⟩ := best_sel h
  obtain ⟨h1, h2, h3⟩ := ask_parts h
  have hg := (okV_den h1).1
  obtain ⟨Q, hQl, hQ, hQp⟩ := rnd_sel hr
  have hfl := flL_len g zs
  have hrl := reL_len g zs
  have hSl := hB.len
  have hRi : ∀ i, i < zs.length → 0 ≤ (reL g zs).getD i 0 ∧ (reL g zs).getD i 0 < g := fun i hi => by
    rw [getD_get _ i (by omega)]; exact rests_in hg zs _ (List.getElem_mem _)
  have hss : (addS (flL g zs) S).sum = sum := by rw [addS_sum _ _ (by omega), hB.tr]; omega
  have hQt : trues Q = upsOf g zs sum := by
    have := addS_sum (flL g zs) Q (by omega)
    rw [← hQ, hs] at this; omega
  have hn : norm = 0 ∨ norm = 1 ∨ norm = 2 := by
    unfold askB at h; rw [Bool.and_eq_true, Bool.and_eq_true] at h
    have := inB_iff.1 h.2.1; omega
  refine ⟨?_, by rw [hV]; exact sel_rnd h1 hSl hB.pos, by rw [hV]; exact hss, by rw [hV, addS_len _ _ (by omega)]; omega⟩
  rw [hV, hQ]
  unfold nrm
  rw [nrm_errs norm g hg zs S 0 hSl, nrm_errs norm g hg zs Q 0 hQl]
  rcases hn with rfl | rfl | rfl
  · rw [fold0, fold0]
    obtain ⟨T, hT⟩ := hB.opt (by omega)
    have := lagr (eS g) (2 * T - g) (reL g zs) S Q (by omega) (by omega) (fun i hi => by
      have ht := hT i (by omega)
      generalize (reL g zs).getD i 0 = r at *
      generalize Q.getD i false = b at *
      cases e : S.getD i false <;> cases b <;> simp only [e, eS, Bool.false_eq_true, if_false, if_true, forall_const, false_implies, reduceCtorEq] at * <;> omega)
    rw [hB.tr, hQt] at this; omega
  · rw [fold1, fold1, zip_sq, zip_sq]
    obtain ⟨T, hT⟩ := hB.opt (by omega)
    have := lagr (fun r s => eS g r s * eS g r s) (g * (2 * T - g)) (reL g zs) S Q (by omega) (by omega) (fun i hi => by
      have ht := hT i (by omega)
      generalize (reL g zs).getD i 0 = r at *
      generalize Q.getD i false = b at *
      have key : (g - r) * (g - r) + g * (2 * T - g) = r * r + 2 * (g * (T - r)) := by grind
      have k1 : T ≤ r → g * (T - r) ≤ 0 := fun q => by
        have := Int.mul_le_mul_of_nonneg_left (show T - r ≤ 0 by omega) (show 0 ≤ g by omega)
        rwa [Int.mul_zero] at this
      have k2 : r ≤ T → 0 ≤ g * (T - r) := fun q => Int.mul_nonneg (by omega) (by omega)
      cases e : S.getD i false
      · have := k2 (ht.2 e)
        cases b <;> simp only [eS, Bool.false_eq_true, if_false, if_true] <;> omega
      · have := k1 (ht.1 e)
        cases b <;> simp only [eS, Bool.false_eq_true, if_false, if_true] <;> omega)
    rw [hB.tr, hQt] at this; omega
  · rw [fold2]
    obtain ⟨m, m0, hm, hno⟩ := hB.mxm rfl
    have hq := (fold2 (List.zipWith (eS g) (reL g zs) Q) 0 _).1 (Int.le_refl _)
    generalize (List.zipWith (eS g) (reL g zs) Q).foldl (nst 2) 0 = M at *
    have hQe : ∀ i, i < zs.length → eS g ((reL g zs).getD i 0) (Q.getD i false) ≤ M := fun i hi => by
      have hl : (List.zipWith (eS g) (reL g zs) Q).length = zs.length := by rw [List.length_zipWith]; omega
      have := zip_get (eS g) (reL g zs) Q (by omega) i (by omega)
      rw [← this, getD_get _ i (by omega)]
      exact hq.2 _ (List.getElem_mem _)
    have hmM : m ≤ M := by
      by_cases c : m ≤ M
      · exact c
      · exfalso
        refine hno M hq.1 (by omega) ⟨?_, ?_, ?_⟩
        · unfold poisB
          simp only [decide_true, Bool.true_and]
          rw [List.any_eq_false]
          intro r hr2
          obtain ⟨i, hi, rfl⟩ := List.getElem_of_mem hr2
          have := hQe i (by omega)
          rw [← getD_get _ i hi]
          simp only [Bool.and_eq_true, decide_eq_true_eq]
          rintro ⟨q1, q2⟩
          unfold eS at this
          split at this <;> omega
        · rw [isC_map, ← hQt]
          refine cnt_le _ _ _ (by omega) (fun i hi q => ?_)
          have hb := hRi i (by omega)
          have hc := hQe i (by omega)
          generalize (reL g zs).getD i 0 = r at *
          simp only [decide_eq_true_eq] at q
          unfold fixX at q
          cases e : Q.getD i false
          · rw [e] at hc
            simp only [eS, Bool.false_eq_true, if_false] at hc
            exfalso
            (repeat' split at q) <;> omega
          · rfl
        · rw [isC_two, ← hQt]
          refine le_cnt _ _ _ (by omega) (fun i hi q => ?_)
          have hb := hRi i (by omega)
          have hc := hQe i (by omega)
          have hq3 := hQp i (by omega) q
          rw [q] at hc
          generalize (reL g zs).getD i 0 = r at *
          simp only [eS, if_true] at hc
          simp only [decide_eq_true_eq]
          unfold fixX
          rw [if_neg (by omega), if_pos rfl]
          by_cases c1 : M < r
          · left; rw [if_pos c1]
          · right; rw [if_neg c1, if_neg (by omega)]
    refine ⟨hq.1, fun a ha => ?_⟩
    obtain ⟨i, hi, rfl⟩ := List.getElem_of_mem ha
    have hi2 : i < zs.length := by rw [List.length_zipWith] at hi; omega
    have := zip_get (eS g) (reL g zs) S (by omega) i (by omega)
    rw [← getD_get _ i hi, this]
    exact Int.le_trans (hm i hi2) hmM
end Go.Proofs.Ytmckbjhmkcbjgab
