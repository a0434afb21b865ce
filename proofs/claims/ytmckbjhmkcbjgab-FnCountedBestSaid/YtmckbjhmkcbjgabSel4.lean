/- Chosen places: those with the greatest rests, of equal ones the last. Nothing here speaks of one program. -/
import Derived.Test.YtmckbjhmkcbjgabRank4
namespace Go.Proofs.Ytmckbjhmkcbjgab
set_option linter.unusedVariables false
/-- Numbers one greater, or set to 0, at chosen places. -/
def addS (F : List Int) (S : List Bool) : List Int := List.zipWith (fun f s => if s then f + 1 else f) F S
def cutS (R : List Int) (S : List Bool) : List Int := List.zipWith (fun r s => if s then 0 else r) R S
def trues (S : List Bool) : Nat := S.countP fun s => s
theorem zip_get (φ : Int → Bool → Int) (F : List Int) (S : List Bool) (h : F.length = S.length) (i : Nat) (hi : i < F.length) : (List.zipWith φ F S).getD i 0 = φ (F.getD i 0) (S.getD i false) := by
  have hl : (List.zipWith φ F S).length = F.length := by rw [List.length_zipWith]; omega
  rw [getD_get _ i (by omega), getD_get F i hi, List.getElem_zipWith]
  simp [List.getD_eq_getElem?_getD, show i < S.length from by omega]
theorem zip_set (φ : Int → Bool → Int) : ∀ (F : List Int) (S : List Bool) (b : Nat) (s : Bool), F.length = S.length → b < F.length → List.zipWith φ F (S.set b s) = (List.zipWith φ F S).set b (φ (F.getD b 0) s) := by
  intro F
  induction F with
  | nil => intro S b s _ h; simp at h
  | cons f ft ih =>
    intro S b s hl hb
    cases S with
    | nil => simp at hl
    | cons t st =>
      cases b with
      | zero => simp
      | succ b => simp only [List.set_cons_succ, List.zipWith_cons_cons, List.getD_cons_succ]; rw [ih st b s (by simpa using hl) (by simpa using hb)]
theorem trues_set (S : List Bool) (b : Nat) (hb : b < S.length) (h : S.getD b false = false) : trues (S.set b true) = trues S + 1 := by
  induction S generalizing b with
  | nil => simp at hb
  | cons s t ih =>
    cases b with
    | zero =>
      have : s = false := by simpa using h
      subst this
      simp [trues]
    | succ b =>
      have := ih b (by simpa using hb) (by simpa using h)
      unfold trues at *
      rw [List.set_cons_succ, List.countP_cons, List.countP_cons, this]; omega
/-- Chosen are those with the greatest rests, of equal ones the last. -/
structure Top (R : List Int) (S : List Bool) : Prop where
  len : S.length = R.length
  pos : ∀ i, i < R.length → S.getD i false = true → 0 < R.getD i 0
  top : ∀ i j, i < R.length → j < R.length → S.getD i false = true → S.getD j false = false → R.getD j 0 < R.getD i 0 ∨ (R.getD j 0 = R.getD i 0 ∧ j < i)
theorem trues_le {S T : List Bool} (hl : S.length = T.length) (h : ∀ i, i < S.length → S.getD i false = true → T.getD i false = true) : trues S ≤ trues T ∧ (trues S = trues T → S = T) := by
  induction S generalizing T with
  | nil =>
    have : T = [] := List.eq_nil_of_length_eq_zero (by simpa using hl.symm)
    subst this; simp
  | cons s st ih =>
    cases T with
    | nil => simp at hl
    | cons t tt =>
      have h0 := h 0 (by simp)
      have ih := ih (T := tt) (by simpa using hl) (fun i hi hs => by
        have := h (i + 1) (by simpa using hi) (by simpa using hs)
        simpa using this)
      simp at h0
      unfold trues at *
      rw [List.countP_cons, List.countP_cons]
      cases s <;> cases t
      · refine ⟨by simpa using ih.1, fun e => by rw [ih.2 (by simpa using e)]⟩
      · refine ⟨by simp; omega, fun e => by simp at e; omega⟩
      · simp at h0
      · refine ⟨by simpa using ih.1, fun e => by rw [ih.2 (by simpa using e)]⟩
theorem Top.unique {R : List Int} {S T : List Bool} (hS : Top R S) (hT : Top R T) (h : trues S = trues T) : S = T := by
  have hl : S.length = T.length := by rw [hS.len, hT.len]
  by_cases h1 : ∀ i, i < S.length → S.getD i false = true → T.getD i false = true
  · exact (trues_le hl h1).2 h
  · by_cases h2 : ∀ i, i < T.length → T.getD i false = true → S.getD i false = true
    · exact ((trues_le hl.symm h2).2 h.symm).symm
    · exfalso
      have ⟨i, hi⟩ := Classical.not_forall.1 h1
      have ⟨j, hj⟩ := Classical.not_forall.1 h2
      simp only [Classical.not_imp, Bool.not_eq_true] at hi hj
      obtain ⟨i1, i2, i3⟩ := hi
      obtain ⟨j1, j2, j3⟩ := hj
      have a := hS.top i j (by rw [← hS.len]; exact i1) (by rw [← hT.len]; exact j1) i2 j3
      have b := hT.top j i (by rw [← hT.len]; exact j1) (by rw [← hS.len]; exact i1) j2 i3
      omega
/-- One more is chosen. -/
theorem Top.step {R : List Int} {S : List Bool} (h : Top R S) {b : Nat} (hb : b < R.length) (h1 : S.getD b false = false) (h2 : 0 < R.getD b 0) (h3 : ∀ j, j < R.length → S.getD j false = false → R.getD j 0 < R.getD b 0 ∨ (R.getD j 0 = R.getD b 0 ∧ j ≤ b)) : Top R (S.set b true) := by
  have hbS : b < S.length := by rw [h.len]; exact hb
  have g : ∀ i, i < R.length → (S.set b true).getD i false = if i = b then true else S.getD i false := fun i hi => by
    rw [List.getD_eq_getElem?_getD, List.getElem?_set]
    by_cases e : b = i
    · subst e; simp [hbS]
    · have e2 : ¬ i = b := fun q => e q.symm
      simp [e, e2, List.getD_eq_getElem?_getD]
  refine ⟨by rw [List.length_set]; exact h.len, fun i hi q => ?_, fun i j hi hj qi qj => ?_⟩
  · rw [g i hi] at q
    by_cases e : i = b
    · subst e; exact h2
    · rw [if_neg e] at q; exact h.pos i hi q
  · rw [g i hi] at qi
    rw [g j hj] at qj
    by_cases ej : j = b
    · rw [if_pos ej] at qj; cases qj
    · rw [if_neg ej] at qj
      by_cases ei : i = b
      · subst ei
        have := h3 j hj qj; omega
      · rw [if_neg ei] at qi
        exact h.top i j hi hj qi qj
theorem Top.zero (R : List Int) : Top R (List.replicate R.length false) := by
  have g : ∀ i, (List.replicate R.length false).getD i false = false := fun i => by
    rw [List.getD_eq_getElem?_getD, List.getElem?_replicate]; split <;> rfl
  exact ⟨by simp, (fun i _ q => by rw [g] at q; cases q), (fun i j _ _ q _ => by rw [g] at q; cases q)⟩
theorem more_left {R : List Int} {S : List Bool} (hl : S.length = R.length) (h : trues S < gtC 0 R) : ∃ i, i < R.length ∧ S.getD i false = false ∧ 0 < R.getD i 0 := by
  induction R generalizing S with
  | nil => simp [gtC] at h
  | cons r rt ih =>
    cases S with
    | nil => simp at hl
    | cons s st =>
      by_cases e : s = false ∧ 0 < r
      · exact ⟨0, by simp, by simpa using e.1, by simpa using e.2⟩
      · have h2 : trues st < gtC 0 rt := by
          unfold trues gtC at *
          rw [List.countP_cons, List.countP_cons] at h
          cases s
          · have : ¬ 0 < r := fun q => e ⟨rfl, q⟩
            simp [this] at h; exact h
          · simp at h; split at h <;> omega
        obtain ⟨i, h3, h4, h5⟩ := ih (by simpa using hl) h2
        exact ⟨i + 1, by simpa using h3, by simpa using h4, by simpa using h5⟩
/-- What the look through the rests has found. -/
def BestTo (Z : List Int) (k : Nat) (bv : Int) : Prop :=
  (bv = -1 ∧ ∀ j, j < k → Z.getD j 0 ≤ 0) ∨ ∃ b : Nat, bv = b ∧ b < k ∧ 0 < Z.getD b 0 ∧ ∀ j, j < k → Z.getD j 0 < Z.getD b 0 ∨ (Z.getD j 0 = Z.getD b 0 ∧ j ≤ b)
theorem BestTo.zero (Z : List Int) : BestTo Z 0 (-1) := .inl ⟨rfl, fun j h => by omega⟩
theorem BestTo.low {Z : List Int} {k : Nat} {bv : Int} (h : BestTo Z k bv) (h0 : Z.getD k 0 ≤ 0) : BestTo Z (k + 1) bv := by
  rcases h with ⟨rfl, h⟩ | ⟨b, rfl, h1, h2, h3⟩
  · exact .inl ⟨rfl, fun j hj => by by_cases e : j = k; subst e; exact h0; exact h j (by omega)⟩
  · exact .inr ⟨b, rfl, by omega, h2, fun j hj => by by_cases e : j = k; subst e; left; omega; exact h3 j (by omega)⟩
theorem BestTo.first {Z : List Int} {k : Nat} (h : ∀ j, j < k → Z.getD j 0 ≤ 0) (h0 : 0 < Z.getD k 0) : BestTo Z (k + 1) k :=
  .inr ⟨k, rfl, by omega, h0, fun j hj => by
    by_cases e : j = k
    · subst e; right; omega
    · left; have := h j (by omega); omega⟩
theorem BestTo.better {Z : List Int} {k b : Nat} (h1 : b < k) (h2 : 0 < Z.getD b 0) (h3 : ∀ j, j < k → Z.getD j 0 < Z.getD b 0 ∨ (Z.getD j 0 = Z.getD b 0 ∧ j ≤ b)) (h : Z.getD b 0 ≤ Z.getD k 0) : BestTo Z (k + 1) k :=
  .inr ⟨k, rfl, by omega, by omega, fun j hj => by
    by_cases e : j = k
    · subst e; right; omega
    · have := h3 j (by omega); omega⟩
theorem BestTo.worse {Z : List Int} {k b : Nat} (h1 : b < k) (h2 : 0 < Z.getD b 0) (h3 : ∀ j, j < k → Z.getD j 0 < Z.getD b 0 ∨ (Z.getD j 0 = Z.getD b 0 ∧ j ≤ b)) (h : Z.getD k 0 < Z.getD b 0) : BestTo Z (k + 1) b :=
  .inr ⟨b, rfl, by omega, h2, fun j hj => by
    by_cases e : j = k
    · subst e; left; exact h
    · exact h3 j (by omega)⟩
/-- At the end of the look: a step. -/
theorem BestTo.done {R : List Int} {S : List Bool} {bv : Int} (hT : Top R S) (h : BestTo (cutS R S) R.length bv) (hm : trues S < gtC 0 R) :
    ∃ b : Nat, bv = b ∧ b < R.length ∧ S.getD b false = false ∧ Top R (S.set b true) ∧ trues (S.set b true) = trues S + 1 := by
  have hc : ∀ i, i < R.length → (cutS R S).getD i 0 = if S.getD i false then 0 else R.getD i 0 := fun i hi => zip_get _ R S hT.len.symm i hi
  obtain ⟨i, i1, i2, i3⟩ := more_left hT.len hm
  rcases h with ⟨_, h⟩ | ⟨b, rfl, h1, h2, h3⟩
  · have := h i i1
    rw [hc i i1, i2] at this
    simp only [Bool.false_eq_true, if_false] at this; omega
  · have hsb : S.getD b false = false := by
      cases q : S.getD b false
      · rfl
      · rw [hc b h1, q] at h2; simp at h2
    rw [hc b h1, hsb] at h2 h3
    simp only [Bool.false_eq_true, if_false] at h2 h3
    refine ⟨b, rfl, h1, hsb, hT.step h1 hsb h2 (fun j hj q => ?_), trues_set S b (by rw [hT.len]; exact h1) hsb⟩
    have := h3 j hj
    rw [hc j hj, q] at this
    simpa using this
/-- The choice by the greatest rest T: which are rounded up. -/
def selP : List Int → Nat → List Bool
  | c :: ct, left => (decide (c = 1) || (decide (c = 0) && decide (isC 0 ct < left))) :: selP ct left
  | [], _ => []
theorem selP_len (C : List Int) (left : Nat) : (selP C left).length = C.length := by
  induction C with
  | nil => rfl
  | cons c t ih => simp [selP, ih]
theorem selP_get (C : List Int) (left i : Nat) (hi : i < C.length) : (selP C left).getD i false = (decide (C.getD i 0 = 1) || (decide (C.getD i 0 = 0) && decide (isC 0 (C.drop (i + 1)) < left))) := by
  induction C generalizing i with
  | nil => simp at hi
  | cons c t ih =>
    cases i with
    | zero => simp [selP]
    | succ i => simp only [selP, List.getD_cons_succ, List.drop_succ_cons]; exact ih i (by simpa using hi)
theorem selP_trues (C : List Int) (left : Nat) : trues (selP C left) = isC 1 C + min left (isC 0 C) := by
  induction C with
  | nil => simp [selP, trues, isC]
  | cons c t ih =>
    have e1 : isC 1 (c :: t) = isC 1 t + (if c = 1 then 1 else 0) := by unfold isC; rw [List.countP_cons]; simp
    have e0 : isC 0 (c :: t) = isC 0 t + (if c = 0 then 1 else 0) := by unfold isC; rw [List.countP_cons]; simp
    rw [e1, e0]
    unfold trues at *
    rw [selP, List.countP_cons, ih]
    by_cases c1 : c = 1
    · have c0 : ¬ c = 0 := by omega
      simp [c1]; omega
    · by_cases c0 : c = 0
      · by_cases q : isC 0 t < left
        · simp [c0, q]; omega
        · simp [c0, q]; omega
      · simp [c1, c0]
theorem isC_drop_le (c : Int) (C : List Int) (i j : Nat) (h : i ≤ j) : isC c (C.drop j) ≤ isC c (C.drop i) := by
  unfold isC
  have e : C.drop j = (C.drop i).drop (j - i) := by rw [List.drop_drop]; congr 1; omega
  rw [e]
  exact List.Sublist.countP_le (List.drop_sublist _ _)
theorem add_put : ∀ (F C : List Int) (left : Nat), F.length = C.length → addS F (selP C left) = putL F C left := by
  intro F
  induction F with
  | nil => intro C left h; cases C <;> simp [addS, putL, selP]
  | cons f ft ih =>
    intro C left h
    cases C with
    | nil => simp at h
    | cons c ct =>
      have := ih ct left (by simpa using h)
      unfold addS at *
      rw [selP, putL, List.zipWith_cons_cons, this]
      by_cases c1 : c = 1
      · simp [c1]
      · by_cases c0 : c = 0
        · by_cases q : isC 0 ct < left <;> simp [c0, q]
        · simp [c1, c0]
theorem top_selP {R C : List Int} {T : Int} (left : Nat) (hT : 1 ≤ T) (hC : C = R.map (clsX T T)) : Top R (selP C left) := by
  have hl : C.length = R.length := by rw [hC, List.length_map]
  have g : ∀ i, i < R.length → C.getD i 0 = clsX T T (R.getD i 0) := fun i hi => by
    rw [getD_get C i (by omega), getD_get R i hi]; subst hC; simp
  refine ⟨by rw [selP_len, hl], fun i hi q => ?_, fun i j hi hj qi qj => ?_⟩
  · rw [selP_get C left i (by omega), g i hi] at q
    unfold clsX at q
    generalize R.getD i 0 = x at *
    by_cases a : T < x
    · omega
    · by_cases b : T ≤ x
      · omega
      · simp [a, b] at q
  · rw [selP_get C left i (by omega), g i hi] at qi
    rw [selP_get C left j (by omega), g j hj] at qj
    have hd := isC_drop_le 0 C (i + 1) (j + 1)
    generalize R.getD i 0 = x at *
    generalize R.getD j 0 = y at *
    unfold clsX at qi qj
    by_cases a : T < y
    · simp [a] at qj
    · by_cases b : T ≤ y
      · simp [a, b] at qj
        by_cases a2 : T < x
        · left; omega
        · by_cases b2 : T ≤ x
          · simp [a2, b2] at qi
            right
            refine ⟨by omega, ?_⟩
            by_cases e : i ≤ j
            · have := hd (by omega); omega
            · omega
          · simp [a2, b2] at qi
      · by_cases a2 : T < x
        · left; omega
        · by_cases b2 : T ≤ x
          · left; omega
          · simp [a2, b2] at qi
end Go.Proofs.Ytmckbjhmkcbjgab
