/- The roundings with the sum that are as good as the best one are exactly the good choices; the best one comes first (pure). -/
import Derived.Test.YtmckbjhmkcbjgabLeast4
import Derived.Test.YtmckbjhmkcbjgabCount4
namespace Go.Proofs.Ytmckbjhmkcbjgab
open Go.ChangeShapes Go.WideShapes Go.ChangeAt Go.RowKit Go.Deep
set_option linter.unusedVariables false
theorem fit_iff : ∀ (C : List Int) (S : List Bool), S.length = C.length → (fitS C S = true ↔ ∀ i, i < C.length → (C.getD i 0 = 1 → S.getD i false = true) ∧ (S.getD i false = true → C.getD i 0 = 1 ∨ C.getD i 0 = 0))
  | [], [], _ => by simp [fitS]
  | c :: C, s :: S, h => by
    have ih := fit_iff C S (by simpa using h)
    rw [fitS, Bool.and_eq_true, ih]
    constructor
    · rintro ⟨h1, h2⟩ i hi
      cases i with
      | zero =>
        simp only [List.getD_cons_zero]
        refine ⟨fun e => ?_, fun e => ?_⟩
        · rw [if_pos e] at h1; exact h1
        · by_cases c1 : c = 1
          · exact .inl c1
          · by_cases c0 : c = 0
            · exact .inr c0
            · rw [if_neg c1, if_neg c0, e] at h1; cases h1
      | succ i => simpa only [List.getD_cons_succ] using h2 i (by simpa using hi)
    · intro h1
      refine ⟨?_, fun i hi => by simpa only [List.getD_cons_succ] using h1 (i + 1) (by simpa using hi)⟩
      have h0 := h1 0 (by simp)
      simp only [List.getD_cons_zero] at h0
      by_cases c1 : c = 1
      · rw [if_pos c1]; exact h0.1 c1
      · rw [if_neg c1]
        by_cases c0 : c = 0
        · rw [if_pos c0]
        · rw [if_neg c0]
          cases s
          · rfl
          · have := h0.2 rfl; omega
  | [], _ :: _, h => by simp at h
  | _ :: _, [], h => by simp at h
/-- Where no place is worse and the whole is not better, each place is as good. -/
theorem lagr_eq (f : Int → Bool → Int) (lam : Int) : ∀ (R : List Int) (S1 S2 : List Bool), S1.length = R.length → S2.length = R.length →
    (∀ i, i < R.length → f (R.getD i 0) (S1.getD i false) + (if S1.getD i false then lam else 0) ≤ f (R.getD i 0) (S2.getD i false) + (if S2.getD i false then lam else 0)) →
    (List.zipWith f R S2).sum + lam * (trues S2 : Nat) ≤ (List.zipWith f R S1).sum + lam * (trues S1 : Nat) →
    ∀ i, i < R.length → f (R.getD i 0) (S2.getD i false) + (if S2.getD i false then lam else 0) ≤ f (R.getD i 0) (S1.getD i false) + (if S1.getD i false then lam else 0)
  | [], [], [], _, _, _, _ => by simp
  | r :: R, a :: S1, b :: S2, h1, h2, h, hs => by
    have hr : ∀ i, i < R.length → f (R.getD i 0) (S1.getD i false) + (if S1.getD i false then lam else 0) ≤ f (R.getD i 0) (S2.getD i false) + (if S2.getD i false then lam else 0) := fun i hi => by
      have := h (i + 1) (by simpa using hi)
      simpa only [List.getD_cons_succ] using this
    have hle := lagr f lam R S1 S2 (by simpa using h1) (by simpa using h2) hr
    have h0 := h 0 (by simp)
    simp only [List.getD_cons_zero] at h0
    have t1 : ∀ (s : Bool) (S : List Bool), (trues (s :: S) : Int) = (trues S : Nat) + (if s then 1 else 0) := fun s S => by
      unfold trues; rw [List.countP_cons]; cases s <;> simp
    rw [List.zipWith_cons_cons, List.zipWith_cons_cons, List.sum_cons, List.sum_cons, t1, t1, Int.mul_add, Int.mul_add] at hs
    have e : ∀ s : Bool, lam * (if s then 1 else 0) = (if s then lam else 0) := fun s => by cases s <;> simp
    rw [e, e] at hs
    intro i hi
    cases i with
    | zero => simp only [List.getD_cons_zero]; omega
    | succ i =>
      simp only [List.getD_cons_succ]
      exact lagr_eq f lam R S1 S2 (by simpa using h1) (by simpa using h2) hr (by omega) i (by simpa using hi)
  | [], _ :: _, _, h, _, _, _ => by simp at h
  | [], [], _ :: _, _, h, _, _ => by simp at h
  | _ :: _, [], _, h, _, _, _ => by simp at h
  | _ :: _, _ :: _, [], _, h, _, _ => by simp at h
/-- What the classes of the places are. -/
structure ClsF (norm g : Int) (zs : List Int) (u : Nat) (C : List Int) : Prop where
  len : C.length = zs.length
  lo : isC 1 C ≤ u
  hi : u ≤ isC 1 C + isC 0 C
  lin : norm ≠ 2 → ∃ T, 1 ≤ T ∧ ∀ i, i < zs.length → C.getD i 0 = clsX T T ((reL g zs).getD i 0)
  max : norm = 2 → ∃ m, 0 ≤ m ∧ (∀ i, i < zs.length → C.getD i 0 = fixX 2 g m ((reL g zs).getD i 0) ∧ ¬ (m < (reL g zs).getD i 0 ∧ m < g - (reL g zs).getD i 0)) ∧ ∀ m', 0 ≤ m' → m' < m → ¬ fitsM 2 g m' (reL g zs) u
theorem cls_facts {norm g : Int} {zs : List Int} {sum : Int} (h : askB norm g zs sum = true) : ClsF norm g zs (upsOf g zs sum) (fixL norm g zs (upsOf g zs sum)) := by
  obtain ⟨h1, h2, h3⟩ := ask_parts h
  have hg := (okV_den h1).1
  generalize upsOf g zs sum = u at *
  have hp := List.mergeSort_perm (g :: 0 :: reL g zs) (fun a b => decide (b ≤ a))
  have hsr : ((g :: 0 :: reL g zs).mergeSort (fun a b => decide (b ≤ a))).Pairwise fun a b => decide (b ≤ a) = true :=
    List.pairwise_mergeSort (fun a b c h1 h2 => by simp at *; omega) (fun a b => by simp; omega) _
  have hd : Desc ((g :: 0 :: reL g zs).mergeSort (fun a b => decide (b ≤ a))) := fun i j hij hj => by
    rw [List.pairwise_iff_getElem] at hsr
    have := hsr i j (by omega) hj hij
    rw [getD_get _ i (by omega), getD_get _ j hj]
    simpa using this
  have hri := rests_in hg zs
  have hr := ranks_of hg hri h3 hp hd
  generalize ((g :: 0 :: reL g zs).mergeSort (fun a b => decide (b ≤ a))).getD u 0 = T at hr
  generalize ((g :: 0 :: reL g zs).mergeSort (fun a b => decide (b ≤ a))).getD (u + 1) 0 = Sx at hr
  have hft := fixL_fits (norm := norm) hg hr
  have hfx : fixL norm g zs u = (reL g zs).map (fixX norm g (mostOf norm g T Sx)) := by unfold fixL; rw [mst_eq (isMst_of hg hri hr)]
  have hfits := fits_most (norm := norm) hg hri hr
  have hrl := reL_len g zs
  have hcls : ∀ i, i < zs.length → fixX norm g (mostOf norm g T Sx) ((reL g zs).getD i 0) = clsX (loOf norm g T Sx) (hiOf norm g T Sx) ((reL g zs).getD i 0) := fun i hi => by
    refine cls_eq hg hri hr _ ?_
    rw [getD_get _ i (by omega)]; exact List.getElem_mem _
  have hC : ∀ i, i < zs.length → (fixL norm g zs u).getD i 0 = fixX norm g (mostOf norm g T Sx) ((reL g zs).getD i 0) := fun i hi => by
    rw [hfx, getD_get _ i (by simpa [hrl] using hi), getD_get _ i (by omega), List.getElem_map]
  refine ⟨fixL_len norm g zs u, hft.1, hft.2, fun hn => ⟨T, ?_, fun i hi => ?_⟩, fun hn => ?_⟩
  · by_cases e : u = 0
    · rw [hr.t0 e]; exact hg
    · exact (hr.t1 (by omega)).1
  · rw [hC i hi, hcls i hi]; unfold loOf hiOf; rw [if_neg hn, if_neg hn]
  · subst hn
    refine ⟨mostOf 2 g T Sx, (mostOf_nn hr).1, fun i hi => ⟨hC i hi, ?_⟩, fun m' h0 h1 => not_fits hg hri hr m' h0 h1⟩
    have := hfits.1
    unfold poisB at this
    simp only [decide_true, Bool.true_and] at this
    rw [List.any_eq_false] at this
    have := this ((reL g zs).getD i 0) (by rw [getD_get _ i (by omega)]; exact List.getElem_mem _)
    simpa using this
theorem fold2e (g : Int) (R : List Int) (S : List Bool) (h : S.length = R.length) (m : Int) (m0 : 0 ≤ m) : (List.zipWith (eS g) R S).foldl (nst 2) 0 ≤ m ↔ ∀ i, i < R.length → eS g (R.getD i 0) (S.getD i false) ≤ m := by
  rw [fold2]
  have hl : (List.zipWith (eS g) R S).length = R.length := by rw [List.length_zipWith]; omega
  constructor
  · rintro ⟨_, h2⟩ i hi
    rw [← zip_get (eS g) R S (by omega) i hi, getD_get _ i (by omega)]
    exact h2 _ (List.getElem_mem _)
  · intro h2
    refine ⟨m0, fun a ha => ?_⟩
    obtain ⟨i, hi, rfl⟩ := List.getElem_of_mem ha
    rw [← getD_get _ i hi, zip_get (eS g) R S (by omega) i (by omega)]
    exact h2 i (by omega)
/-- The rest of what a choice with a bound on its errors tells. -/
theorem fits_of {g : Int} {zs : List Int} (hg : 1 ≤ g) {u : Nat} {P : List Bool} (hl : P.length = zs.length) (hu : trues P = u) (hp : ∀ i, i < zs.length → P.getD i false = true → 0 < (reL g zs).getD i 0) {M : Int} (M0 : 0 ≤ M)
    (he : ∀ i, i < zs.length → eS g ((reL g zs).getD i 0) (P.getD i false) ≤ M) : fitsM 2 g M (reL g zs) u := by
  have hrl := reL_len g zs
  have hRi : ∀ i, i < zs.length → 0 ≤ (reL g zs).getD i 0 ∧ (reL g zs).getD i 0 < g := fun i hi => by
    rw [getD_get _ i (by omega)]; exact rests_in hg zs _ (List.getElem_mem _)
  refine ⟨?_, ?_, ?_⟩
  · unfold poisB
    simp only [decide_true, Bool.true_and]
    rw [List.any_eq_false]
    intro r hr2
    obtain ⟨i, hi, rfl⟩ := List.getElem_of_mem hr2
    have := he i (by omega)
    rw [← getD_get _ i hi]
    simp only [Bool.and_eq_true, decide_eq_true_eq]
    rintro ⟨q1, q2⟩
    unfold eS at this
    split at this <;> omega
  · rw [isC_map, ← hu]
    refine cnt_le _ _ _ (by omega) (fun i hi q => ?_)
    have hb := hRi i (by omega)
    have hc := he i (by omega)
    generalize (reL g zs).getD i 0 = r at *
    simp only [decide_eq_true_eq] at q
    unfold fixX at q
    cases e : P.getD i false
    · rw [e] at hc
      simp only [eS, Bool.false_eq_true, if_false] at hc
      exfalso
      (repeat' split at q) <;> omega
    · rfl
  · rw [isC_two, ← hu]
    refine le_cnt _ _ _ (by omega) (fun i hi q => ?_)
    have hb := hRi i (by omega)
    have hc := he i (by omega)
    have hq3 := hp i (by omega) q
    rw [q] at hc
    generalize (reL g zs).getD i 0 = r at *
    simp only [eS, if_true] at hc
    simp only [decide_eq_true_eq]
    unfold fixX
    rw [if_neg (by omega), if_pos rfl]
    by_cases c1 : M < r
    · left; rw [if_pos c1]
    · right; rw [if_neg c1, if_neg (by omega)]
def foldN (norm g : Int) (zs : List Int) (P : List Bool) : Int := (List.zipWith (eS g) (reL g zs) P).foldl (nst norm) 0
structure Sel (g : Int) (zs : List Int) (u : Nat) (P : List Bool) : Prop where
  len : P.length = zs.length
  tr : trues P = u
  pos : ∀ i, i < zs.length → P.getD i false = true → 0 < (reL g zs).getD i 0
theorem cls_up {T r : Int} (h : clsX T T r = 1 ∨ clsX T T r = 0) : T ≤ r := by unfold clsX at h; (repeat' split at h) <;> omega
theorem cls_one {T r : Int} (h : T < r) : clsX T T r = 1 := by unfold clsX; rw [if_pos h]
theorem mul_low {g T r : Int} (hg : 1 ≤ g) (h : T ≤ r) : g * (T - r) ≤ 0 := by
  have := Int.mul_le_mul_of_nonneg_left (show T - r ≤ 0 by omega) (show 0 ≤ g by omega)
  rwa [Int.mul_zero] at this
theorem mul_high {g T r : Int} (hg : 1 ≤ g) (h : r ≤ T) : 0 ≤ g * (T - r) := Int.mul_nonneg (by omega) (by omega)
theorem mul_neg {g T r : Int} (hg : 1 ≤ g) (h : T < r) : g * (T - r) < 0 := Int.mul_neg_of_pos_of_neg (by omega) (by omega)
theorem mul_pos {g T r : Int} (hg : 1 ≤ g) (h : r < T) : 0 < g * (T - r) := Int.mul_pos (by omega) (by omega)
theorem sq_key (g T r : Int) : (g - r) * (g - r) + g * (2 * T - g) = r * r + 2 * (g * (T - r)) := by grind
/-- A good choice keeps the threshold. -/
theorem thr {g : Int} {zs : List Int} {C : List Int} {Q : List Bool} {T : Int} (hc : ∀ i, i < zs.length → (C.getD i 0 = 1 → Q.getD i false = true) ∧ (Q.getD i false = true → C.getD i 0 = 1 ∨ C.getD i 0 = 0)) (hT : ∀ i, i < zs.length → C.getD i 0 = clsX T T ((reL g zs).getD i 0)) :
    ∀ i, i < zs.length → (Q.getD i false = true → T ≤ (reL g zs).getD i 0) ∧ (Q.getD i false = false → (reL g zs).getD i 0 ≤ T) := fun i hi => by
  have h := hc i hi
  rw [hT i hi] at h
  refine ⟨fun e => cls_up (h.2 e), fun e => ?_⟩
  by_cases q : T < (reL g zs).getD i 0
  · have := h.1 (cls_one q); rw [e] at this; cases this
  · omega
theorem pt0 {g T r : Int} {a b : Bool} (h1 : a = true → T ≤ r) (h2 : a = false → r ≤ T) : eS g r a + (if a then 2 * T - g else 0) ≤ eS g r b + (if b then 2 * T - g else 0) := by
  cases a <;> cases b <;> simp only [eS, Bool.false_eq_true, if_false, if_true] <;> simp at h1 h2 <;> omega
theorem pt1 {g T r : Int} (hg : 1 ≤ g) {a b : Bool} (h1 : a = true → T ≤ r) (h2 : a = false → r ≤ T) : eS g r a * eS g r a + (if a then g * (2 * T - g) else 0) ≤ eS g r b * eS g r b + (if b then g * (2 * T - g) else 0) := by
  have key := sq_key g T r
  cases a
  · have := mul_high hg (h2 rfl)
    cases b <;> simp only [eS, Bool.false_eq_true, if_false, if_true] <;> omega
  · have := mul_low hg (h1 rfl)
    cases b <;> simp only [eS, Bool.false_eq_true, if_false, if_true] <;> omega
theorem good_low {norm g : Int} {zs : List Int} {u : Nat} {C : List Int} (hg : 1 ≤ g) (hn : norm = 0 ∨ norm = 1 ∨ norm = 2) (hF : ClsF norm g zs u C) {Q P : List Bool} (hQ : Sel g zs u Q)
    (hc : ∀ i, i < zs.length → (C.getD i 0 = 1 → Q.getD i false = true) ∧ (Q.getD i false = true → C.getD i 0 = 1 ∨ C.getD i 0 = 0)) (hP : Sel g zs u P) : foldN norm g zs Q ≤ foldN norm g zs P := by
  have hrl := reL_len g zs
  have q1 := hQ.len
  have p1 := hP.len
  unfold foldN
  rcases hn with rfl | rfl | rfl
  · rw [fold0, fold0]
    obtain ⟨T, T1, hT⟩ := hF.lin (by omega)
    have ht := thr hc hT
    have := lagr (eS g) (2 * T - g) (reL g zs) Q P (by omega) (by omega) (fun i hi => pt0 (ht i (by omega)).1 (ht i (by omega)).2)
    rw [hQ.tr, hP.tr] at this; omega
  · rw [fold1, fold1, zip_sq, zip_sq]
    obtain ⟨T, T1, hT⟩ := hF.lin (by omega)
    have ht := thr hc hT
    have := lagr (fun r s => eS g r s * eS g r s) (g * (2 * T - g)) (reL g zs) Q P (by omega) (by omega) (fun i hi => pt1 hg (ht i (by omega)).1 (ht i (by omega)).2)
    rw [hQ.tr, hP.tr] at this; omega
  · obtain ⟨m, m0, hm, hno⟩ := hF.max rfl
    have hRi : ∀ i, i < zs.length → 0 ≤ (reL g zs).getD i 0 ∧ (reL g zs).getD i 0 < g := fun i hi => by
      rw [getD_get _ i (by omega)]; exact rests_in hg zs _ (List.getElem_mem _)
    have hQm : (List.zipWith (eS g) (reL g zs) Q).foldl (nst 2) 0 ≤ m := by
      rw [fold2e g _ _ (by omega) m m0]
      intro i hi
      obtain ⟨hf, hp⟩ := hm i (by omega)
      have hc := hc i (by omega)
      have hb := hRi i (by omega)
      rw [hf] at hc
      generalize (reL g zs).getD i 0 = r at *
      unfold fixX at hc
      cases e : Q.getD i false
      · simp only [eS, Bool.false_eq_true, if_false]
        by_cases e0 : r = 0
        · omega
        · rw [if_neg e0, if_pos rfl] at hc
          by_cases q : m < r
          · rw [if_pos q] at hc; have := hc.1 rfl; rw [e] at this; cases this
          · omega
      · simp only [eS, if_true]
        have := hc.2 e
        by_cases e0 : r = 0
        · rw [if_pos e0] at this; omega
        · rw [if_neg e0, if_pos rfl] at this
          (repeat' split at this) <;> omega
    have h0 : 0 ≤ (List.zipWith (eS g) (reL g zs) P).foldl (nst 2) 0 := ((fold2 _ 0 _).1 (Int.le_refl _)).1
    have hle := (fold2e g (reL g zs) P (by omega) _ h0).1 (Int.le_refl _)
    have := fits_of hg p1 hP.tr hP.pos h0 (fun i hi => hle i (by omega))
    by_cases c : m ≤ (List.zipWith (eS g) (reL g zs) P).foldl (nst 2) 0
    · omega
    · exact absurd this (hno _ h0 (by omega))
theorem low_good {norm g : Int} {zs : List Int} {u : Nat} {C : List Int} (hg : 1 ≤ g) (hn : norm = 0 ∨ norm = 1 ∨ norm = 2) (hF : ClsF norm g zs u C) {Q P : List Bool} (hQ : Sel g zs u Q)
    (hc : ∀ i, i < zs.length → (C.getD i 0 = 1 → Q.getD i false = true) ∧ (Q.getD i false = true → C.getD i 0 = 1 ∨ C.getD i 0 = 0)) (hP : Sel g zs u P) (hle : foldN norm g zs P ≤ foldN norm g zs Q) :
    ∀ i, i < zs.length → (C.getD i 0 = 1 → P.getD i false = true) ∧ (P.getD i false = true → C.getD i 0 = 1 ∨ C.getD i 0 = 0) := by
  have hrl := reL_len g zs
  have q1 := hQ.len
  have p1 := hP.len
  have hlow := good_low hg hn hF hQ hc hQ
  unfold foldN at hle
  rcases hn with rfl | rfl | rfl
  · rw [fold0, fold0] at hle
    obtain ⟨T, T1, hT⟩ := hF.lin (by omega)
    have ht := thr hc hT
    have hall := lagr_eq (eS g) (2 * T - g) (reL g zs) Q P (by omega) (by omega) (fun i hi => pt0 (ht i (by omega)).1 (ht i (by omega)).2) (by rw [hQ.tr, hP.tr]; omega)
    intro i hi
    have h0 := hall i (by omega)
    have h1 := ht i hi
    rw [hT i hi]
    generalize (reL g zs).getD i 0 = r at *
    generalize Q.getD i false = a at *
    generalize P.getD i false = b at *
    unfold clsX
    cases a <;> cases b <;> simp only [eS, Bool.false_eq_true, if_false, if_true] at h0 <;> simp at h1 ⊢ <;> (repeat' split) <;> omega
  · rw [fold1, fold1, zip_sq, zip_sq] at hle
    obtain ⟨T, T1, hT⟩ := hF.lin (by omega)
    have ht := thr hc hT
    have hall := lagr_eq (fun r s => eS g r s * eS g r s) (g * (2 * T - g)) (reL g zs) Q P (by omega) (by omega) (fun i hi => pt1 hg (ht i (by omega)).1 (ht i (by omega)).2) (by rw [hQ.tr, hP.tr]; omega)
    intro i hi
    have h0 := hall i (by omega)
    have h1 := ht i hi
    rw [hT i hi]
    generalize (reL g zs).getD i 0 = r at *
    generalize Q.getD i false = a at *
    generalize P.getD i false = b at *
    have key := sq_key g T r
    have hb : (b = true → T ≤ r) ∧ (b = false → r ≤ T) := by
      refine ⟨fun e => ?_, fun e => ?_⟩
      · by_cases q : r < T
        · have := mul_pos hg q
          subst e
          cases a
          · simp only [eS, Bool.false_eq_true, if_false, if_true] at h0; omega
          · exact h1.1 rfl
        · omega
      · by_cases q : T < r
        · have := mul_neg hg q
          subst e
          cases a
          · exact h1.2 rfl
          · simp only [eS, Bool.false_eq_true, if_false, if_true] at h0; omega
        · omega
    unfold clsX
    cases b <;> simp at hb ⊢ <;> (repeat' split) <;> omega
  · obtain ⟨m, m0, hm, hno⟩ := hF.max rfl
    have hRi : ∀ i, i < zs.length → 0 ≤ (reL g zs).getD i 0 ∧ (reL g zs).getD i 0 < g := fun i hi => by
      rw [getD_get _ i (by omega)]; exact rests_in hg zs _ (List.getElem_mem _)
    have hQm : (List.zipWith (eS g) (reL g zs) Q).foldl (nst 2) 0 ≤ m := by
      rw [fold2e g _ _ (by omega) m m0]
      intro i hi
      obtain ⟨hf, hp⟩ := hm i (by omega)
      have hc := hc i (by omega)
      have hb := hRi i (by omega)
      rw [hf] at hc
      generalize (reL g zs).getD i 0 = r at *
      unfold fixX at hc
      cases e : Q.getD i false
      · simp only [eS, Bool.false_eq_true, if_false]
        by_cases e0 : r = 0
        · omega
        · rw [if_neg e0, if_pos rfl] at hc
          by_cases q : m < r
          · rw [if_pos q] at hc; have := hc.1 rfl; rw [e] at this; cases this
          · omega
      · simp only [eS, if_true]
        have := hc.2 e
        by_cases e0 : r = 0
        · rw [if_pos e0] at this; omega
        · rw [if_neg e0, if_pos rfl] at this
          (repeat' split at this) <;> omega
    have hPm := (fold2e g (reL g zs) P (by omega) m m0).1 (by omega)
    intro i hi
    obtain ⟨hf, hp⟩ := hm i hi
    have he := hPm i (by omega)
    have hb := hRi i hi
    have hpos := hP.pos i hi
    rw [hf]
    generalize (reL g zs).getD i 0 = r at *
    generalize P.getD i false = b at *
    unfold fixX
    cases b
    · simp only [eS, Bool.false_eq_true, if_false] at he
      refine ⟨fun q => ?_, fun q => by cases q⟩
      (repeat' split at q) <;> omega
    · simp only [eS, if_true] at he
      have := hpos rfl
      refine ⟨fun _ => rfl, fun _ => ?_⟩
      rw [if_neg (by omega), if_pos rfl]
      (repeat' split) <;> omega
theorem rnd_pos {g : Int} {zs : List Int} {Q : List Bool} (hl : Q.length = zs.length) (hr : rndB g zs (addS (flL g zs) Q) = true) : ∀ i, i < zs.length → Q.getD i false = true → 0 < (reL g zs).getD i 0 := fun i hi q => by
  unfold rndB at hr
  simp only [Bool.and_eq_true, decide_eq_true_eq] at hr
  obtain ⟨⟨h1, h2⟩, h3⟩ := hr
  have hg := (okV_den h1).1
  have hfl := flL_len g zs
  have hrl := reL_len g zs
  have hF : (flL g zs).getD i 0 = fl (zs.getD i 0) g := by rw [getD_get _ i (by omega), getD_get _ i hi]; simp [flL]
  have hR : (reL g zs).getD i 0 = zs.getD i 0 - g * fl (zs.getD i 0) g := by rw [getD_get _ i (by omega), getD_get _ i hi]; simp [reL]
  have e : (addS (flL g zs) Q).getD i 0 = _ := zip_get _ _ _ (by omega) i (by omega)
  have := h3 i (by omega)
  rw [e, q, hF, if_pos rfl, ce_rest hg] at this
  rw [hR]
  rcases this with this | this
  · omega
  · split at this
    · assumption
    · omega
/-- A choice is a rounding with the sum that is as good as the best exactly if it is good. -/
theorem good_iff {norm g : Int} {zs : List Int} {sum : Int} (h : askB norm g zs sum = true) (Q : List Bool) (hQl : Q.length = zs.length) :
    goodS (fixL norm g zs (upsOf g zs sum)) (upsOf g zs sum) Q = true ↔
      (rndB g zs (addS (flL g zs) Q) = true ∧ (addS (flL g zs) Q).sum = sum ∧ nrm norm (errsL g zs (addS (flL g zs) Q)) = nrm norm (errsL g zs (bestV norm g zs sum))) := by
  have hF := cls_facts h
  obtain ⟨h1, h2, h3⟩ := ask_parts h
  have hg := (okV_den h1).1
  have hn : norm = 0 ∨ norm = 1 ∨ norm = 2 := by
    unfold askB at h; rw [Bool.and_eq_true, Bool.and_eq_true] at h
    have := inB_iff.1 h.2.1; omega
  have hV : bestV norm g zs sum = putL (flL g zs) (fixL norm g zs (upsOf g zs sum)) (upsOf g zs sum - isC 1 (fixL norm g zs (upsOf g zs sum))) := by simp [bestV, h]
  rw [hV]; clear hV
  have hfl := flL_len g zs
  have hrl := reL_len g zs
  generalize upsOf g zs sum = u at *
  generalize fixL norm g zs u = C at *
  have hCl := hF.len
  rw [← add_put _ _ _ (by omega)]
  have hSl : (selP C (u - isC 1 C)).length = zs.length := by rw [selP_len]; omega
  have hSt : trues (selP C (u - isC 1 C)) = u := by rw [selP_trues]; have := hF.lo; have := hF.hi; omega
  have hSf : ∀ i, i < zs.length → (C.getD i 0 = 1 → (selP C (u - isC 1 C)).getD i false = true) ∧ ((selP C (u - isC 1 C)).getD i false = true → C.getD i 0 = 1 ∨ C.getD i 0 = 0) := fun i hi => by
    rw [selP_get C _ i (by omega)]
    simp only [Bool.or_eq_true, Bool.and_eq_true, decide_eq_true_eq]
    refine ⟨fun e => .inl e, fun e => ?_⟩
    rcases e with e | e
    · exact .inl e
    · exact .inr e.1
  generalize selP C (u - isC 1 C) = S at *
  have hRi : ∀ i, i < zs.length → 0 ≤ (reL g zs).getD i 0 ∧ (reL g zs).getD i 0 < g := fun i hi => by
    rw [getD_get _ i (by omega)]; exact rests_in hg zs _ (List.getElem_mem _)
  have pos : ∀ (P : List Bool), (∀ i, i < zs.length → (C.getD i 0 = 1 → P.getD i false = true) ∧ (P.getD i false = true → C.getD i 0 = 1 ∨ C.getD i 0 = 0)) → ∀ i, i < zs.length → P.getD i false = true → 0 < (reL g zs).getD i 0 := fun P hc i hi q => by
    have := (hc i hi).2 q
    have hb := hRi i hi
    rcases Classical.em (norm = 2) with e | e
    · obtain ⟨m, m0, hm, _⟩ := hF.max e
      rw [(hm i hi).1] at this
      by_cases e0 : (reL g zs).getD i 0 = 0
      · rw [e0] at this; simp [fixX] at this
      · omega
    · obtain ⟨T, T1, hT⟩ := hF.lin e
      rw [hT i hi] at this
      have := cls_up this; omega
  have hS : Sel g zs u S := ⟨hSl, hSt, pos S hSf⟩
  unfold goodS nrm
  rw [Bool.and_eq_true, decide_eq_true_eq, fit_iff C Q (by omega), hCl, nrm_errs norm g hg zs Q 0 hQl, nrm_errs norm g hg zs S 0 hSl]
  have hQs := addS_sum (flL g zs) Q (by omega)
  constructor
  · rintro ⟨hc, hu⟩
    have hQ : Sel g zs u Q := ⟨hQl, hu, pos Q hc⟩
    exact ⟨sel_rnd h1 hQl hQ.pos, by omega, Int.le_antisymm (good_low hg hn hF hQ hc hS) (good_low hg hn hF hS hSf hQ)⟩
  · rintro ⟨hr, hs, he⟩
    have hu : trues Q = u := by omega
    exact ⟨low_good hg hn hF hS hSf ⟨hQl, hu, rnd_pos hQl hr⟩ (by unfold foldN; omega), hu⟩
/-- The number whose bits a choice is, the first place the highest. -/
def valS : List Bool → Nat
  | [] => 0
  | s :: S => (if s then 2 ^ S.length else 0) + valS S
theorem valS_lt : ∀ S : List Bool, valS S < 2 ^ S.length
  | [] => by simp [valS]
  | s :: S => by
    have := valS_lt S
    rw [valS, List.length_cons, Nat.pow_succ]
    split <;> omega
theorem bits_len : ∀ n x, (bitsS n x).length = n
  | 0, _ => rfl
  | n + 1, x => by rw [bitsS, List.length_cons, bits_len]
theorem bits_val : ∀ S : List Bool, bitsS S.length (valS S) = S
  | [] => rfl
  | s :: S => by
    have h := valS_lt S
    have ih := bits_val S
    rw [List.length_cons, valS]
    cases s
    · rw [if_neg (by simp), Nat.zero_add, bits_low h, ih]
    · rw [if_pos rfl, bits_high, ih]
theorem val_bits : ∀ n x, x < 2 ^ n → valS (bitsS n x) = x
  | 0, x, h => by simp at h; subst h; rfl
  | n + 1, x, h => by
    rw [Nat.pow_succ] at h
    rw [bitsS, valS, bits_len]
    by_cases c : 2 ^ n ≤ x
    · rw [if_pos c, if_pos (by simpa using c), val_bits n _ (by omega)]; omega
    · rw [if_neg c, if_neg (by simpa using c), val_bits n _ (by omega)]; omega
theorem bits_get : ∀ n x i, x < 2 ^ n → i < n → (bitsS n x).getD i false = x.testBit (n - 1 - i)
  | 0, x, i, _, hi => by omega
  | n + 1, x, i, h, hi => by
    rw [bitsS]
    cases i with
    | zero =>
      rw [List.getD_cons_zero, Nat.add_sub_cancel, Nat.sub_zero]
      by_cases c : 2 ^ n ≤ x
      · obtain ⟨y, rfl⟩ : ∃ y, x = 2 ^ n + y := ⟨x - 2 ^ n, by omega⟩
        rw [Nat.testBit_two_pow_add_eq, Nat.testBit_lt_two_pow (by rw [Nat.pow_succ] at h; omega)]
        simp
      · rw [Nat.testBit_lt_two_pow (by omega)]; simpa using c
    | succ i =>
      rw [List.getD_cons_succ, show n + 1 - 1 - (i + 1) = n - 1 - i by omega]
      by_cases c : 2 ^ n ≤ x
      · obtain ⟨y, rfl⟩ : ∃ y, x = 2 ^ n + y := ⟨x - 2 ^ n, by omega⟩
        rw [if_pos c, Nat.add_sub_cancel_left, bits_get n y i (by rw [Nat.pow_succ] at h; omega) (by omega), Nat.testBit_two_pow_add_gt (by omega)]
      · rw [if_neg c]; exact bits_get n x i (by omega) (by omega)
theorem good_count {C : List Int} {u : Nat} {S : List Bool} (h : goodS C u S = true) : isC 1 C ≤ u ∧ u ≤ isC 1 C + isC 0 C := by
  induction C generalizing u S with
  | nil => cases S with
    | nil =>
      have h0 : 0 = u := by
        unfold goodS at h
        rw [Bool.and_eq_true, decide_eq_true_eq] at h
        exact h.2
      subst h0; simp [isC]
    | cons s S => simp [goodS, fitS] at h
  | cons c C ih => cases S with
    | nil => simp [goodS, fitS] at h
    | cons s S =>
      rw [isC_cons, isC_cons]
      cases s
      · rw [good_false, Bool.and_eq_true, decide_eq_true_eq] at h
        have := ih h.2
        rw [if_neg h.1]; split <;> omega
      · rw [good_true, Bool.and_eq_true, Bool.and_eq_true, decide_eq_true_eq, decide_eq_true_eq] at h
        have := ih h.2.2
        rcases h.1 with e | e
        · rw [if_pos e]; rw [if_neg (by omega)]; omega
        · rw [if_neg (by omega), if_pos e]; omega
/-- The first good choice. -/
theorem sel_first {C : List Int} {u : Nat} {S : List Bool} (h : goodS C u S = true) : valS (selP C (u - isC 1 C)) ≤ valS S := by
  induction C generalizing u S with
  | nil => simp [selP, valS]
  | cons c C ih => cases S with
    | nil => simp [goodS, fitS] at h
    | cons s S =>
      have hl : S.length = C.length := by
        have : ∀ (C : List Int) (S : List Bool), fitS C S = true → S.length = C.length := by
          intro C
          induction C with
          | nil => intro S h; cases S with
            | nil => rfl
            | cons s S => simp [fitS] at h
          | cons c C ih => intro S h; cases S with
            | nil => simp [fitS] at h
            | cons s S => rw [fitS, Bool.and_eq_true] at h; simp [ih S h.2]
        have := this _ _ (by unfold goodS at h; rw [Bool.and_eq_true] at h; exact h.1)
        simpa using this
      have hlt := valS_lt (selP C (u - isC 1 (c :: C)))
      rw [selP_len] at hlt
      rw [selP, valS, valS, selP_len, hl]
      cases s
      · rw [good_false, Bool.and_eq_true, decide_eq_true_eq] at h
        have hc := good_count h.2
        have := ih h.2
        have e1 : isC 1 (c :: C) = isC 1 C := by rw [isC_cons, if_neg h.1]; omega
        rw [e1]
        by_cases c0 : c = 0
        · rw [if_neg (by simp [c0]; omega)]; simpa using this
        · rw [if_neg (by simp [c0, h.1])]; simpa using this
      · rw [good_true, Bool.and_eq_true, Bool.and_eq_true, decide_eq_true_eq, decide_eq_true_eq] at h
        rw [if_pos rfl]
        have hc := good_count h.2.2
        have ih := ih h.2.2
        rcases h.1 with e | e
        · have e1 : isC 1 (c :: C) = isC 1 C + 1 := by rw [isC_cons, if_pos e]
          rw [e1, show u - (isC 1 C + 1) = u - 1 - isC 1 C by omega]
          split <;> omega
        · have e1 : isC 1 (c :: C) = isC 1 C := by rw [isC_cons, if_neg (by omega)]; omega
          rw [e1]
          rw [e1] at hlt
          by_cases q : isC 0 C < u - isC 1 C
          · rw [if_pos (by simp [e, q])]
            -- all free ones go up: the same choice with one less to place
            have : selP C (u - isC 1 C) = selP C (u - 1 - isC 1 C) := by
              have all : ∀ (D : List Int) (a b : Nat), isC 0 D ≤ a → isC 0 D ≤ b → selP D a = selP D b := by
                intro D
                induction D with
                | nil => intro a b _ _; rfl
                | cons d D ih =>
                  intro a b ha hb
                  rw [isC_cons] at ha hb
                  rw [selP, selP, ih a b (by omega) (by omega)]
                  by_cases d0 : d = 0
                  · rw [if_pos d0] at ha hb; simp [d0, show isC 0 D < a by omega, show isC 0 D < b by omega]
                  · simp [d0]
              exact all C _ _ (by omega) (by omega)
            rw [this]; omega
          · rw [if_neg (by simp [e, q])]; omega
theorem nrmV_ok {norm g : Int} {zs ls : List Int} (hr : rndB g zs ls = true) (hn : inB norm 0 2 = true) : nrmV norm g zs ls = nrm norm (errsL g zs ls) := by
  unfold nrmV okN; rw [hr, hn]; rfl
/-- What the law counts. -/
structure Counted (norm g : Int) (zs : List Int) (sum : Int) (P : Nat → Bool) : Prop where
  iff : ∀ x, x < 2 ^ zs.length → rndB g zs (addS (flL g zs) (bitsS zs.length x)) = true → (addS (flL g zs) (bitsS zs.length x)).sum = sum →
    (P x = true ↔ nrmV norm g zs (addS (flL g zs) (bitsS zs.length x)) = nrmV norm g zs (bestV norm g zs sum))
  not : ∀ x, x < 2 ^ zs.length → (rndB g zs (addS (flL g zs) (bitsS zs.length x)) = false ∨ (addS (flL g zs) (bitsS zs.length x)).sum ≠ sum) → P x = false
  first : ∀ x, x < 2 ^ zs.length → P x = true → (∀ y, y < x → P y = false) → addS (flL g zs) (bitsS zs.length x) = bestV norm g zs sum
  all : (List.range (2 ^ zs.length)).countP P = waysN norm g zs sum
theorem counted {norm g : Int} {zs : List Int} {sum : Int} (h : askB norm g zs sum = true) : ∃ P, Counted norm g zs sum P := by
  have hn : inB norm 0 2 = true := by unfold askB at h; rw [Bool.and_eq_true, Bool.and_eq_true] at h; exact h.2.1
  have hF := cls_facts h
  have hfl := flL_len g zs
  have hV : bestV norm g zs sum = addS (flL g zs) (selP (fixL norm g zs (upsOf g zs sum)) (upsOf g zs sum - isC 1 (fixL norm g zs (upsOf g zs sum)))) := by
    rw [add_put _ _ _ (by rw [hF.len]; omega)]; simp [bestV, h]
  have hgi := fun x => good_iff h (bitsS zs.length x) (bits_len _ _)
  have hSl : (selP (fixL norm g zs (upsOf g zs sum)) (upsOf g zs sum - isC 1 (fixL norm g zs (upsOf g zs sum)))).length = zs.length := by rw [selP_len, hF.len]
  obtain ⟨S0, hB, hV0⟩ := best_sel h
  obtain ⟨h1, h2, h3⟩ := ask_parts h
  have hbr : rndB g zs (bestV norm g zs sum) = true := by rw [hV0]; exact sel_rnd h1 hB.len hB.pos
  have hbs : (bestV norm g zs sum).sum = sum := by rw [hV0, addS_sum _ _ (by have := hB.len; omega), hB.tr]; omega
  have hSg := (good_iff h _ hSl).2 ⟨by rw [← hV]; exact hbr, by rw [← hV]; exact hbs, by rw [← hV]⟩
  refine ⟨fun x => goodS (fixL norm g zs (upsOf g zs sum)) (upsOf g zs sum) (bitsS zs.length x), fun x hx q1 q2 => ?_, fun x hx q => ?_, fun x hx q1 q2 => ?_, ?_⟩
  · rw [hgi x, nrmV_ok q1 hn, nrmV_ok hbr hn]
    exact ⟨fun q => q.2.2, fun q => ⟨q1, q2, q⟩⟩
  · cases e : goodS (fixL norm g zs (upsOf g zs sum)) (upsOf g zs sum) (bitsS zs.length x)
    · rfl
    · obtain ⟨e1, e2, _⟩ := (hgi x).1 e
      rcases q with q | q
      · rw [q] at e1; cases e1
      · exact absurd e2 q
  · have hle := sel_first q1
    rw [val_bits _ _ hx] at hle
    have hlt := valS_lt (selP (fixL norm g zs (upsOf g zs sum)) (upsOf g zs sum - isC 1 (fixL norm g zs (upsOf g zs sum))))
    have hbv := bits_val (selP (fixL norm g zs (upsOf g zs sum)) (upsOf g zs sum - isC 1 (fixL norm g zs (upsOf g zs sum))))
    rw [hSl] at hlt hbv
    rcases Nat.lt_or_eq_of_le hle with c | c
    · have := q2 _ c
      simp only [hbv] at this
      rw [hSg] at this; cases this
    · rw [hV, ← hbv, c]
  · have := cnt_good (fixL norm g zs (upsOf g zs sum)) (upsOf g zs sum)
    rw [hF.len, if_pos hF.lo] at this
    exact this
theorem ways_le {norm g : Int} {zs : List Int} {sum : Int} (h : askB norm g zs sum = true) (hl : zs.length ≤ 7) : waysN norm g zs sum ≤ 128 := by
  obtain ⟨P, hP⟩ := counted h
  rw [← hP.all]
  refine Nat.le_trans (List.countP_le_length ..) ?_
  rw [List.length_range]
  exact Nat.le_trans (Nat.pow_le_pow_right (by omega) hl) (by decide)
/-- A list of which the first ones are already made greater. -/
def mixL (F : List Int) (S : List Bool) (j : Nat) : List Int := (addS F S).take j ++ F.drop j
theorem mix_len (F : List Int) (S : List Bool) (h : F.length = S.length) (j : Nat) (hj : j ≤ F.length) : (mixL F S j).length = F.length := by
  unfold mixL; rw [List.length_append, List.length_take, List.length_drop, addS_len _ _ h]; omega
theorem mix_all (F : List Int) (S : List Bool) (h : F.length = S.length) : mixL F S F.length = addS F S := by
  unfold mixL
  rw [List.drop_length, List.append_nil]
  exact List.take_of_length_le (by rw [addS_len _ _ h]; omega)
theorem mix_get (F : List Int) (S : List Bool) (h : F.length = S.length) (j : Nat) (hj : j < F.length) : (mixL F S j).getD j 0 = F.getD j 0 := by
  unfold mixL
  rw [List.getD_eq_getElem?_getD, List.getElem?_append_right (by rw [List.length_take]; omega), List.length_take, addS_len _ _ h, show j - min j F.length = 0 by omega, List.getElem?_drop, Nat.add_zero, List.getD_eq_getElem?_getD]
theorem mix_set (F : List Int) (S : List Bool) (h : F.length = S.length) (j : Nat) (hj : j < F.length) : (mixL F S j).set j (F.getD j 0 + (if S.getD j false then 1 else 0)) = mixL F S (j + 1) := by
  have hl := addS_len F S h
  have e : (addS F S).getD j 0 = F.getD j 0 + (if S.getD j false then 1 else 0) := by
    have : (addS F S).getD j 0 = _ := zip_get _ _ _ h j hj
    rw [this]; cases S.getD j false <;> simp
  unfold mixL
  rw [List.set_append_right _ _ (by rw [List.length_take]; omega), List.length_take, hl, show j - min j F.length = 0 by omega, List.drop_eq_getElem_cons hj, List.set_cons_zero, List.take_succ_eq_append_getElem (by omega), List.append_assoc, ← e, getD_get _ j (by omega)]
  rfl
end Go.Proofs.Ytmckbjhmkcbjgab
