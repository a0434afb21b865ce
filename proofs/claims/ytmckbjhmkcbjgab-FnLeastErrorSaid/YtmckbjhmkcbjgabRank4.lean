/- Rests by their ranks; lists with so many of their places one greater; how many ways. Nothing here speaks of one program. -/
import Derived.Test.YtmckbjhmkcbjgabPlain
namespace Go.Proofs.Ytmckbjhmkcbjgab
set_option linter.unusedVariables false
/-- How many of a list's numbers are greater than x, and at least x. -/
def gtC (x : Int) (L : List Int) : Nat := L.countP fun r => decide (x < r)
def geC (x : Int) (L : List Int) : Nat := L.countP fun r => decide (x ≤ r)
/-- Descending. -/
def Desc (L : List Int) : Prop := ∀ i j, i < j → j < L.length → L.getD j 0 ≤ L.getD i 0
theorem gtC_at {L : List Int} (h : Desc L) {i : Nat} (hi : i < L.length) : gtC (L.getD i 0) L ≤ i := by
  have e : L = L.take i ++ L.drop i := (List.take_append_drop i L).symm
  unfold gtC
  generalize hx : L.getD i 0 = x
  conv => lhs; rw [e]
  rw [List.countP_append]
  have h1 : (L.take i).countP (fun r => decide (x < r)) ≤ i := by
    have := List.countP_le_length (p := fun r => decide (x < r)) (l := L.take i)
    rw [List.length_take] at this; omega
  have h2 : (L.drop i).countP (fun r => decide (x < r)) = 0 := by
    rw [List.countP_eq_zero]
    intro r hr
    obtain ⟨j, hj, rfl⟩ := List.getElem_of_mem hr
    rw [List.length_drop] at hj
    rw [List.getElem_drop]
    simp only [decide_eq_true_eq]
    by_cases e : j = 0
    · subst e; rw [← hx, getD_get L i hi]; simp
    · have := h i (i + j) (by omega) (by omega)
      rw [hx, getD_get L _ (by omega)] at this; omega
  omega
theorem geC_at {L : List Int} (h : Desc L) {i : Nat} (hi : i < L.length) : i + 1 ≤ geC (L.getD i 0) L := by
  have e : L = L.take (i + 1) ++ L.drop (i + 1) := (List.take_append_drop (i + 1) L).symm
  unfold geC
  generalize hx : L.getD i 0 = x
  conv => rhs; rw [e]
  rw [List.countP_append]
  have h1 : (L.take (i + 1)).countP (fun r => decide (x ≤ r)) = (L.take (i + 1)).length := by
    rw [List.countP_eq_length]
    intro r hr
    obtain ⟨j, hj, rfl⟩ := List.getElem_of_mem hr
    rw [List.length_take] at hj
    rw [List.getElem_take]
    simp only [decide_eq_true_eq]
    by_cases e : j = i
    · subst e; rw [← hx, getD_get L j hi]; omega
    · have := h j i (by omega) hi
      rw [hx, getD_get L j (by omega)] at this; omega
  rw [h1, List.length_take]; omega
theorem gtC_perm {x : Int} {A B : List Int} (h : A.Perm B) : gtC x A = gtC x B := h.countP_eq _
theorem geC_perm {x : Int} {A B : List Int} (h : A.Perm B) : geC x A = geC x B := h.countP_eq _
theorem gtC_le_geC {x y : Int} (h : y ≤ x) (L : List Int) : gtC x L ≤ geC y L := by
  unfold gtC geC
  apply List.countP_mono_left
  intro r _ hr
  simp only [decide_eq_true_eq] at *; omega
theorem geC_le_gtC {x y : Int} (h : x < y) (L : List Int) : geC y L ≤ gtC x L := by
  unfold gtC geC
  apply List.countP_mono_left
  intro r _ hr
  simp only [decide_eq_true_eq] at *; omega
theorem gtC_mono {x y : Int} (h : y ≤ x) (L : List Int) : gtC x L ≤ gtC y L := by
  unfold gtC
  apply List.countP_mono_left
  intro r _ hr
  simp only [decide_eq_true_eq] at *; omega
theorem geC_mono {x y : Int} (h : y ≤ x) (L : List Int) : geC x L ≤ geC y L := by
  unfold geC
  apply List.countP_mono_left
  intro r _ hr
  simp only [decide_eq_true_eq] at *; omega
/-- What the sorted list tells of the rests: O holds den, 0 and the rests, descending. -/
structure Ranks (den : Int) (rests : List Int) (ups : Nat) (T S : Int) : Prop where
  t0 : ups = 0 → T = den
  t1 : 0 < ups → 1 ≤ T ∧ T < den
  s0 : 0 ≤ S ∧ S < den
  gt : gtC T rests < ups ∨ ups = 0
  ge : ups ≤ geC T rests
  gs : gtC S rests ≤ ups
  gse : S = 0 ∨ ups + 1 ≤ geC S rests
theorem ranks_of {den : Int} {rests O : List Int} {ups : Nat} (hd : 1 ≤ den) (hr : ∀ r ∈ rests, 0 ≤ r ∧ r < den) (hu : ups ≤ gtC 0 rests) (hp : O.Perm (den :: 0 :: rests)) (hs : Desc O) : Ranks den rests ups (O.getD ups 0) (O.getD (ups + 1) 0) := by
  have hl : O.length = rests.length + 2 := by rw [hp.length_eq]; simp
  have hul : ups ≤ rests.length := Nat.le_trans hu (List.countP_le_length ..)
  have h1 := gtC_at hs (i := ups) (by omega)
  have h2 := geC_at hs (i := ups) (by omega)
  have h3 := gtC_at hs (i := ups + 1) (by omega)
  have h4 := geC_at hs (i := ups + 1) (by omega)
  have m1 : O.getD ups 0 ∈ O := by rw [getD_get O _ (by omega)]; exact List.getElem_mem _
  have m2 : O.getD (ups + 1) 0 ∈ O := by rw [getD_get O _ (by omega)]; exact List.getElem_mem _
  rw [hp.mem_iff] at m1 m2
  rw [gtC_perm hp] at h1 h3
  rw [geC_perm hp] at h2 h4
  generalize O.getD ups 0 = T at *
  generalize O.getD (ups + 1) 0 = S at *
  have bd : ∀ x, x ∈ den :: 0 :: rests → 0 ≤ x ∧ x ≤ den := by
    intro x hx
    simp only [List.mem_cons] at hx
    rcases hx with rfl | rfl | hx
    · omega
    · omega
    · have := hr x hx; omega
  have bT := bd T m1
  have bS := bd S m2
  have cg : ∀ x, gtC x (den :: 0 :: rests) = gtC x rests + (if x < 0 then 1 else 0) + (if x < den then 1 else 0) := by
    intro x; unfold gtC; rw [List.countP_cons, List.countP_cons]; simp
  have cge : ∀ x, geC x (den :: 0 :: rests) = geC x rests + (if x ≤ 0 then 1 else 0) + (if x ≤ den then 1 else 0) := by
    intro x; unfold geC; rw [List.countP_cons, List.countP_cons]; simp
  have zge : geC den rests = 0 := by
    unfold geC; rw [List.countP_eq_zero]; intro r hx; have := hr r hx; simp only [decide_eq_true_eq]; omega
  have hge0 : geC 1 rests = gtC 0 rests := by
    unfold geC gtC; congr 1
  rw [cg] at h1 h3
  rw [cge] at h2 h4
  rw [if_neg (by omega)] at h1 h3
  rw [if_pos bT.2] at h2
  rw [if_pos bS.2] at h4
  have hSd : S < den := by
    by_cases e : S = den
    · exfalso; subst e; rw [zge, if_neg (by omega)] at h4; omega
    · omega
  rw [if_pos hSd] at h3
  refine ⟨fun e => ?_, fun e => ?_, ⟨bS.1, hSd⟩, ?_, ?_, by omega, ?_⟩
  · by_cases h : T < den
    · rw [if_pos h] at h1; omega
    · omega
  · have hTd : T < den := by
      by_cases e2 : T = den
      · exfalso; subst e2; rw [zge, if_neg (by omega)] at h2; omega
      · omega
    refine ⟨?_, hTd⟩
    by_cases h : T = 0
    · exfalso; subst h; rw [if_pos hTd] at h1; omega
    · omega
  · by_cases h : T < den
    · rw [if_pos h] at h1; left; omega
    · right
      have e : T = den := by omega
      subst e
      rw [zge, if_neg (by omega)] at h2; omega
  · by_cases h : T ≤ 0
    · have e : T = 0 := by omega
      subst e
      have := gtC_le_geC (x := 0) (y := 0) (by omega) rests; omega
    · rw [if_neg h] at h2; omega
  · by_cases h : S ≤ 0
    · left; omega
    · right; rw [if_neg h] at h4; omega

/-- What must be done with a rest: 1 up, -1 down, 0 either. -/
def fixX (norm den most r : Int) : Int :=
  if r = 0 then -1 else if norm = 2 then (if most < r then 1 else if most < den - r then -1 else 0) else (if den - most < r then 1 else if r < den - most then -1 else 0)
def clsX (lo hi r : Int) : Int := if hi < r then 1 else if lo ≤ r then 0 else -1
def isC (c : Int) (L : List Int) : Nat := L.countP fun x => decide (x = c)
/-- No rest that must go both up and down. -/
def poisB (norm den most : Int) (rests : List Int) : Bool := decide (norm = 2) && rests.any fun r => decide (most < r) && decide (most < den - r)
def fitsM (norm den most : Int) (rests : List Int) (ups : Nat) : Prop :=
  poisB norm den most rests = false ∧ isC 1 (rests.map (fixX norm den most)) ≤ ups ∧ ups ≤ isC 1 (rests.map (fixX norm den most)) + isC 0 (rests.map (fixX norm den most))
def mostOf (norm den T S : Int) : Int := if norm = 2 then (if S < den - T then den - T else S) else den - T
def loOf (norm den T S : Int) : Int := if norm = 2 then den - mostOf norm den T S else T
def hiOf (norm den T S : Int) : Int := if norm = 2 then mostOf norm den T S else T
theorem isC_map (c : Int) (f : Int → Int) (L : List Int) : isC c (L.map f) = L.countP fun r => decide (f r = c) := by
  unfold isC; rw [List.countP_map]; rfl
theorem isC_two (f : Int → Int) (L : List Int) : isC 1 (L.map f) + isC 0 (L.map f) = L.countP fun r => decide (f r = 1 ∨ f r = 0) := by
  rw [isC_map, isC_map]
  induction L with
  | nil => rfl
  | cons a t ih =>
    rw [List.countP_cons, List.countP_cons, List.countP_cons]
    have key : ∀ (p q : Prop) [Decidable p] [Decidable q], (p → ¬ q) → (if decide p = true then 1 else 0) + (if decide q = true then 1 else 0) = (if decide (p ∨ q) = true then 1 else 0) := by
      intro p q _ _ h
      by_cases hp : p
      · simp [hp, h hp]
      · by_cases hq : q <;> simp [hp, hq]
    have := key (f a = 1) (f a = 0) (by omega)
    omega
theorem cls_eq {norm den : Int} {rests : List Int} {ups : Nat} {T S : Int} (hd : 1 ≤ den) (hr : ∀ r ∈ rests, 0 ≤ r ∧ r < den) (h : Ranks den rests ups T S) (r : Int) (hm : r ∈ rests) :
    fixX norm den (mostOf norm den T S) r = clsX (loOf norm den T S) (hiOf norm den T S) r := by
  have hb := hr r hm
  have h1 := h.t1
  have h0 := h.t0
  have hs := h.s0
  unfold fixX clsX loOf hiOf mostOf
  by_cases hn : norm = 2
  · simp only [hn, if_true]
    by_cases hu : ups = 0
    · have := h0 hu
      repeat' split
      all_goals first | rfl | omega
    · have := h1 (by omega)
      repeat' split
      all_goals first | rfl | omega
  · simp only [hn, if_false]
    by_cases hu : ups = 0
    · have := h0 hu
      repeat' split
      all_goals first | rfl | omega
    · have := h1 (by omega)
      repeat' split
      all_goals first | rfl | omega
theorem fits_most {norm den : Int} {rests : List Int} {ups : Nat} {T S : Int} (hd : 1 ≤ den) (hr : ∀ r ∈ rests, 0 ≤ r ∧ r < den) (h : Ranks den rests ups T S) : fitsM norm den (mostOf norm den T S) rests ups := by
  have h1 := h.t1
  have h0 := h.t0
  have hs := h.s0
  have hgt := h.gt
  have hge := h.ge
  have hgs := h.gs
  refine ⟨?_, ?_, ?_⟩
  · unfold poisB
    by_cases hn : norm = 2
    · simp only [hn, decide_true, Bool.true_and]
      rw [List.any_eq_false]
      intro r hm
      have hb := hr r hm
      simp only [Bool.and_eq_true, decide_eq_true_eq]
      rintro ⟨q1, q2⟩
      have hmS : S ≤ mostOf 2 den T S ∧ den - T ≤ mostOf 2 den T S := by unfold mostOf; simp only [if_true]; split <;> omega
      -- r is greater than S: so at least T
      have : T ≤ r := by
        rcases hgt with hgt | hgt
        · by_cases hh : T ≤ r
          · exact hh
          · exfalso
            -- r between S and T: then more than ups rests are greater than S
            have q3 : geC T rests + 1 ≤ gtC S rests := by
              unfold geC gtC
              have : ∀ L : List Int, r ∈ L → L.countP (fun r => decide (T ≤ r)) + 1 ≤ L.countP (fun r => decide (S < r)) := by
                intro L
                induction L with
                | nil => simp
                | cons a t ih =>
                  intro hm
                  rw [List.countP_cons, List.countP_cons]
                  have hmono : t.countP (fun r => decide (T ≤ r)) ≤ t.countP (fun r => decide (S < r)) := by
                    apply List.countP_mono_left; intro x _ hx; simp only [decide_eq_true_eq] at *; omega
                  rcases List.mem_cons.1 hm with e | hm
                  · subst e
                    simp only [decide_eq_true_eq]
                    rw [if_neg hh, if_pos (by omega)]; omega
                  · have := ih hm
                    simp only [decide_eq_true_eq]
                    split <;> split <;> omega
              exact this rests hm
            omega
        · have := h0 hgt
          exfalso
          have q3 : 0 < gtC S rests := by
            unfold gtC; rw [List.countP_pos_iff]; exact ⟨r, hm, by simp only [decide_eq_true_eq]; omega⟩
          omega
      omega
    · simp [hn]
  · rw [isC_map]
    refine Nat.le_trans (List.countP_mono_left (q := fun r => decide (hiOf norm den T S < r)) ?_) ?_
    · intro r hm hx
      rw [cls_eq hd hr h r hm] at hx
      simp only [decide_eq_true_eq] at *
      unfold clsX at hx
      split at hx
      · assumption
      · split at hx <;> omega
    · change gtC (hiOf norm den T S) rests ≤ ups
      unfold hiOf
      by_cases hn : norm = 2
      · simp only [hn, if_true]
        have : S ≤ mostOf 2 den T S := by unfold mostOf; simp only [if_true]; split <;> omega
        exact Nat.le_trans (gtC_mono this rests) hgs
      · simp only [hn, if_false]
        rcases hgt with hgt | hgt
        · omega
        · have := h0 hgt; subst this
          have : gtC T rests = 0 := by unfold gtC; rw [List.countP_eq_zero]; intro r hm; have := hr r hm; simp only [decide_eq_true_eq]; omega
          omega
  · rw [isC_two]
    by_cases hu : ups = 0
    · omega
    have ht := h1 (by omega)
    refine Nat.le_trans hge (List.countP_mono_left ?_)
    intro r hm hx
    rw [cls_eq hd hr h r hm]
    simp only [decide_eq_true_eq] at *
    have : loOf norm den T S ≤ r := by
      unfold loOf
      by_cases hn : norm = 2
      · simp only [hn, if_true]
        have : den - T ≤ mostOf 2 den T S := by unfold mostOf; simp only [if_true]; split <;> omega
        omega
      · simp only [hn, if_false]; exact hx
    unfold clsX
    split
    · left; rfl
    · right; rfl
theorem not_fits {norm den : Int} {rests : List Int} {ups : Nat} {T S : Int} (hd : 1 ≤ den) (hr : ∀ r ∈ rests, 0 ≤ r ∧ r < den) (h : Ranks den rests ups T S) (most : Int) (hm0 : 0 ≤ most) (h2 : most < mostOf norm den T S) : ¬ fitsM norm den most rests ups := by
  have h1 := h.t1
  have h0 := h.t0
  have hs := h.s0
  have hgt := h.gt
  have hge := h.ge
  have hgs := h.gs
  rintro ⟨hp, hu1, hu2⟩
  rw [isC_two] at hu2
  rw [isC_map] at hu1
  by_cases hn : norm = 2
  · subst hn
    unfold mostOf at h2
    simp only [if_true] at h2
    by_cases hS : most < S
    · -- more than ups rests go up
      rcases h.gse with e | e
      · omega
      · have : geC S rests ≤ rests.countP (fun r => decide (fixX 2 den most r = 1)) := by
          unfold geC
          apply List.countP_mono_left
          intro r hm hx
          have := hr r hm
          simp only [decide_eq_true_eq] at *
          unfold fixX
          rw [if_neg (by omega), if_pos rfl, if_pos (by omega)]
        omega
    · have hT : most < den - T := by split at h2 <;> omega
      have hup : ups ≠ 0 := fun e => by have := h0 e; omega
      have ht := h1 (by omega)
      have : rests.countP (fun r => decide (fixX 2 den most r = 1 ∨ fixX 2 den most r = 0)) ≤ gtC T rests := by
        unfold gtC
        apply List.countP_mono_left
        intro r hm hx
        have hb := hr r hm
        simp only [decide_eq_true_eq] at *
        have hpr : ¬ (most < r ∧ most < den - r) := by
          unfold poisB at hp
          simp only [decide_true, Bool.true_and] at hp
          rw [List.any_eq_false] at hp
          have := hp r hm
          simpa using this
        unfold fixX at hx
        by_cases hr0 : r = 0
        · rw [if_pos hr0] at hx; omega
        · rw [if_neg hr0, if_pos rfl] at hx
          repeat' split at hx
          all_goals omega
      omega
  · unfold mostOf at h2
    rw [if_neg hn] at h2
    have hup : ups ≠ 0 ∨ T = den := by by_cases e : ups = 0; exact .inr (h0 e); exact .inl e
    rcases hup with hup | hup
    · have : rests.countP (fun r => decide (fixX norm den most r = 1 ∨ fixX norm den most r = 0)) ≤ gtC T rests := by
        unfold gtC
        apply List.countP_mono_left
        intro r hm hx
        have hb := hr r hm
        simp only [decide_eq_true_eq] at *
        unfold fixX at hx
        by_cases hr0 : r = 0
        · rw [if_pos hr0] at hx; omega
        · rw [if_neg hr0, if_neg hn] at hx
          repeat' split at hx
          all_goals omega
      omega
    · omega
/-- Floors, for what must be done: of those that may go either way, the last ones go up. -/
def putL : List Int → List Int → Nat → List Int
  | f :: ft, c :: ct, left => (if c = 1 then f + 1 else if c = 0 ∧ isC 0 ct < left then f + 1 else f) :: putL ft ct left
  | fs, _, _ => fs
theorem putL_len : ∀ (fs cs : List Int) (left : Nat), (putL fs cs left).length = fs.length := by
  intro fs
  induction fs with
  | nil => intro cs left; cases cs <;> rfl
  | cons f ft ih =>
    intro cs left
    cases cs with
    | nil => rfl
    | cons c ct => simp [putL, ih]
theorem putL_get : ∀ (fs cs : List Int) (left i : Nat), fs.length = cs.length → i < fs.length → (putL fs cs left).getD i 0 = fs.getD i 0 + (if cs.getD i 0 = 1 then 1 else if cs.getD i 0 = 0 ∧ isC 0 (cs.drop (i + 1)) < left then 1 else 0) := by
  intro fs
  induction fs with
  | nil => intro cs left i _ h; simp at h
  | cons f ft ih =>
    intro cs left i hl hi
    cases cs with
    | nil => simp at hl
    | cons c ct =>
      cases i with
      | zero =>
        simp only [putL, List.getD_cons_zero, List.drop_succ_cons, List.drop_zero]
        repeat' split
        all_goals omega
      | succ i =>
        simp only [putL, List.getD_cons_succ, List.drop_succ_cons]
        exact ih ct left i (by simpa using hl) (by simpa using hi)
/-- Numbers at some places made one greater, one after the other. -/
def incL (base : List Int) (is : List Nat) : List Int := is.foldl (fun l i => l.set i (l.getD i 0 + 1)) base
theorem incL_len (base : List Int) (is : List Nat) : (incL base is).length = base.length := by
  unfold incL
  induction is generalizing base with
  | nil => rfl
  | cons a t ih => simp only [List.foldl_cons]; rw [ih]; simp
theorem incL_succ (base : List Int) (is : List Nat) (k : Nat) (h : k < is.length) : incL base (is.take (k + 1)) = (incL base (is.take k)).set (is.getD k 0) ((incL base (is.take k)).getD (is.getD k 0) 0 + 1) := by
  have e : is.take (k + 1) = is.take k ++ [is.getD k 0] := by
    rw [List.take_succ_eq_append_getElem h]; simp [List.getD_eq_getElem?_getD, h]
  unfold incL
  rw [e, List.foldl_append]; rfl
theorem incL_shift (b : Int) : ∀ (is : List Nat) (bt : List Int), incL (b :: bt) (is.map (· + 1)) = b :: incL bt is := by
  intro is
  induction is with
  | nil => intro bt; rfl
  | cons a t ih =>
    intro bt
    unfold incL at *
    simp only [List.map_cons, List.foldl_cons, List.set_cons_succ, List.getD_cons_succ]
    exact ih _
/-- The places of those that may go either way. -/
def freeL : List Int → List Nat
  | [] => []
  | c :: ct => (if c = 0 then [0] else []) ++ (freeL ct).map (· + 1)
theorem freeL_len (cs : List Int) : (freeL cs).length = isC 0 cs := by
  induction cs with
  | nil => rfl
  | cons c t ih =>
    unfold isC at *
    rw [freeL, List.length_append, List.length_map, ih, List.countP_cons]
    by_cases h : c = 0
    · subst h; simp; omega
    · simp [h]
theorem freeL_snoc (cs : List Int) (c : Int) : freeL (cs ++ [c]) = freeL cs ++ (if c = 0 then [cs.length] else []) := by
  induction cs with
  | nil => simp [freeL]
  | cons a t ih =>
    rw [List.cons_append, freeL, freeL, ih, List.map_append, List.append_assoc]
    congr 2
    by_cases h : c = 0 <;> simp [h]
theorem freeL_lt (cs : List Int) : ∀ i ∈ freeL cs, i < cs.length := by
  induction cs with
  | nil => intro i hi; simp [freeL] at hi
  | cons c t ih =>
    intro i hi
    rw [freeL, List.mem_append] at hi
    rcases hi with hi | hi
    · split at hi <;> simp at hi; subst hi; simp
    · obtain ⟨j, hj, rfl⟩ := List.mem_map.1 hi
      have := ih j hj
      simp; omega
/-- Rounded up at once are those that must. -/
def upL (fs cs : List Int) : List Int := List.zipWith (fun f c => if c = 1 then f + 1 else f) fs cs
theorem inc_put : ∀ (cs fs : List Int) (left : Nat), fs.length = cs.length → incL (upL fs cs) ((freeL cs).drop ((freeL cs).length - left)) = putL fs cs left := by
  intro cs
  induction cs with
  | nil =>
    intro fs left h
    have : fs = [] := List.eq_nil_of_length_eq_zero (by simpa using h)
    subst this; simp [upL, freeL, incL, putL]
  | cons c ct ih =>
    intro fs left h
    cases fs with
    | nil => simp at h
    | cons f ft =>
      have hl : ft.length = ct.length := by simpa using h
      have ih := ih ft left hl
      have hfl := freeL_len ct
      rw [freeL, putL]
      unfold upL at *
      rw [List.zipWith_cons_cons]
      by_cases h1 : c = 1
      · have h0 : ¬ c = 0 := by omega
        rw [if_neg h0, if_pos h1, if_pos h1, List.nil_append, List.length_map, ← List.map_drop, incL_shift, ih]
      · rw [if_neg h1, if_neg h1]
        by_cases h0 : c = 0
        · subst h0
          rw [if_pos rfl, List.length_append, List.length_map]
          by_cases hlt : isC 0 ct < left
          · rw [if_pos ⟨rfl, hlt⟩]
            have e : [0].length + (freeL ct).length - left = 0 := by simp; omega
            rw [e, List.drop_zero]
            have e2 : (freeL ct).length - left = 0 := by omega
            rw [e2, List.drop_zero] at ih
            rw [List.singleton_append]
            show incL (f :: _) (0 :: _) = _
            unfold incL
            simp only [List.foldl_cons, List.set_cons_zero, List.getD_cons_zero]
            have := incL_shift (f + 1) (freeL ct) (List.zipWith (fun f c => if c = 1 then f + 1 else f) ft ct)
            unfold incL at this ih
            rw [this, ih]
          · rw [if_neg (fun q => hlt q.2)]
            have e : [0].length + (freeL ct).length - left = ((freeL ct).length - left) + 1 := by simp; omega
            rw [e, List.singleton_append, List.drop_succ_cons, ← List.map_drop, incL_shift, ih]
        · rw [if_neg h0, if_neg (fun q => h0 q.1), List.nil_append, List.length_map, ← List.map_drop, incL_shift, ih]
/-- How many ways: so many of so many. -/
def chs : Nat → Nat → Nat
  | _, 0 => 1
  | 0, _ + 1 => 0
  | n + 1, k + 1 => chs n k + chs n (k + 1)
theorem chs_step : ∀ n k, chs n (k + 1) * (k + 1) = chs n k * (n - k) := by
  intro n
  induction n with
  | zero => intro k; cases k <;> simp [chs]
  | succ n ih =>
    intro k
    cases k with
    | zero =>
      have h1 := ih 0
      simp only [chs, Nat.sub_zero, Nat.zero_add, Nat.mul_one, Nat.one_mul] at *
      have e : chs n 0 = 1 := by cases n <;> rfl
      rw [e] at *
      omega
    | succ k =>
      have h1 := ih k
      have h2 := ih (k + 1)
      rw [chs, Nat.add_mul, h2]
      have e : n + 1 - (k + 1) = n - k := by omega
      rw [e, chs, Nat.add_mul]
      have e2 : chs n (k + 1) * (k + 1 + 1) = chs n (k + 1) * (k + 1) + chs n (k + 1) := by rw [Nat.mul_add, Nat.mul_one]
      rw [e2, h1]
      by_cases hk : k + 1 ≤ n
      · have e3 : n - k = (n - (k + 1)) + 1 := by omega
        rw [e3, Nat.mul_add (chs n (k + 1)), Nat.mul_one]; omega
      · have z : chs n (k + 1) = 0 := by
          have : ∀ n k, n < k → chs n k = 0 := by
            intro n
            induction n with
            | zero => intro k h; cases k with | zero => omega | succ k => rfl
            | succ n ih => intro k h; cases k with | zero => omega | succ k => rw [chs, ih k (by omega), ih (k + 1) (by omega)]
          exact this n (k + 1) (by omega)
        rw [z]; simp
theorem chs_big : ∀ n k, n < k → chs n k = 0 := by
  intro n
  induction n with
  | zero => intro k h; cases k with | zero => omega | succ k => rfl
  | succ n ih => intro k h; cases k with | zero => omega | succ k => rw [chs, ih k (by omega), ih (k + 1) (by omega)]
theorem chs_all : ∀ n, chs n n = 1 := by
  intro n
  induction n with
  | zero => rfl
  | succ n ih => rw [chs, ih, chs_big n (n + 1) (by omega)]
theorem chs_zero (n : Nat) : chs n 0 = 1 := by cases n <;> rfl
theorem chs_sym : ∀ n k, k ≤ n → chs n (n - k) = chs n k := by
  intro n
  induction n with
  | zero =>
    intro k h
    have e : k = 0 := by omega
    subst e; rfl
  | succ n ih =>
    intro k h
    cases k with
    | zero => rw [Nat.sub_zero, chs_all, chs_zero]
    | succ k =>
      by_cases e : k = n
      · subst e; rw [Nat.sub_self, chs_zero, chs_all]
      · have e1 : n + 1 - (k + 1) = (n - (k + 1)) + 1 := by omega
        rw [e1, chs, chs, ih (k + 1) (by omega)]
        have e2 : n - (k + 1) + 1 = n - k := by omega
        rw [e2, ih k (by omega)]; omega
theorem chs_le : ∀ n k, chs n k ≤ 2 ^ n := by
  intro n
  induction n with
  | zero => intro k; cases k <;> simp [chs]
  | succ n ih =>
    intro k
    cases k with
    | zero => rw [chs_zero]; exact Nat.one_le_two_pow
    | succ k => rw [chs, Nat.pow_succ]; have := ih k; have := ih (k + 1); omega
theorem chs_div (n k : Nat) : chs n k * (n - k) / (k + 1) = chs n (k + 1) := by
  rw [← chs_step]; exact Nat.mul_div_cancel _ (by omega)
end Go.Proofs.Ytmckbjhmkcbjgab
