/- Sets of indices as bits: what is true of them. -/
import Derived.Test.YtpdcmhnaedhkdaaLam4b
import Derived.Test.YtpdcmhnaedhkdaaGrp4
namespace Go.Proofs.Ytpdcmhnaedhkdaa
set_option linter.unusedVariables false
def bitsOf (zs : List Int) : Nat := zs.foldl (fun s i => s ||| 2 ^ i.toNat) 0
theorem foldl_or (zs : List Int) (s : Nat) : zs.foldl (fun s i => s ||| 2 ^ i.toNat) s = s ||| bitsOf zs := by
  induction zs generalizing s with
  | nil => simp [bitsOf]
  | cons a t ih =>
    unfold bitsOf
    simp only [List.foldl_cons]
    rw [ih, ih (0 ||| 2 ^ a.toNat), Nat.zero_or, Nat.or_assoc]
theorem bitsOf_cons (a : Int) (t : List Int) : bitsOf (a :: t) = 2 ^ a.toNat ||| bitsOf t := by
  show List.foldl _ _ t = _
  rw [foldl_or]; simp
theorem bitsOf_snoc (t : List Int) (a : Int) : bitsOf (t ++ [a]) = bitsOf t ||| 2 ^ a.toNat := by
  unfold bitsOf; rw [List.foldl_append]; rfl
theorem bitsOf_test (zs : List Int) (h : ∀ z ∈ zs, 0 ≤ z) (j : Nat) : (bitsOf zs).testBit j = decide ((j : Int) ∈ zs) := by
  induction zs with
  | nil => simp [bitsOf]
  | cons a t ih =>
    rw [bitsOf_cons, Nat.testBit_or, ih (fun z hz => h z (by simp [hz])), Nat.testBit_two_pow]
    have ha := h a (by simp)
    by_cases e : a.toNat = j
    · have : (j : Int) = a := by omega
      simp [e, this]
    · have : ¬ (j : Int) = a := by omega
      simp [e, this]
theorem bitsOf_lt (zs : List Int) (n : Nat) (h : ∀ z ∈ zs, 0 ≤ z ∧ z < n) : bitsOf zs < 2 ^ n := by
  apply Nat.lt_pow_two_of_testBit
  intro i hi
  rw [bitsOf_test zs (fun z hz => (h z hz).1)]
  simp only [decide_eq_false_iff_not]
  intro hm; have := (h _ hm).2; omega
theorem bitsOf_zero (zs : List Int) (h : ∀ z ∈ zs, 0 ≤ z) : bitsOf zs = 0 ↔ zs = [] := by
  constructor
  · intro e
    cases zs with
    | nil => rfl
    | cons a t =>
      exfalso
      have := bitsOf_test (a :: t) h a.toNat
      rw [e] at this
      have ha := h a (by simp)
      have e2 : ((a.toNat : Nat) : Int) = a := by omega
      rw [e2] at this
      simp at this
  · intro e; subst e; rfl

theorem cnt_cons_le (x : Int) (a t : List Int) (ha : a.Nodup) : cnt a (x :: t) ≤ cnt a t + (if x ∈ a then 1 else 0) := by
  induction a with
  | nil => simp [cnt]
  | cons y s ih =>
    obtain ⟨h1, h2⟩ := List.nodup_cons.1 ha
    have ih := ih h2
    unfold cnt at *
    rw [List.countP_cons, List.countP_cons]
    by_cases e : x = y
    · subst e
      rw [if_neg h1] at ih
      simp only [hasB, List.mem_cons, true_or, if_true]
      have : (if decide (x ∈ x :: t) = true then 1 else 0) = 1 := by simp
      simp only [hasB] at ih
      split <;> simp_all <;> omega
    · have e1 : (x ∈ y :: s) ↔ x ∈ s := by simp [e]
      have e2 : hasB (x :: t) y = hasB t y := by
        unfold hasB; simp; intro h; exact absurd h.symm e
      rw [e2]
      simp only [e1]
      omega
theorem cnt_le_right (a : List Int) (ha : a.Nodup) : ∀ b : List Int, cnt a b ≤ b.length := by
  intro b
  induction b with
  | nil => simp [cnt, hasB]
  | cons x t ih =>
    have h1 := cnt_cons_le x a t ha
    rw [List.length_cons]
    split at h1 <;> omega
theorem cnt_full_right (a : List Int) (ha : a.Nodup) : ∀ b : List Int, b.length ≤ cnt a b → ∀ x ∈ b, x ∈ a := by
  intro b
  induction b with
  | nil => intro _ x hx; simp at hx
  | cons y t ih =>
    intro h x hx
    have h1 := cnt_cons_le y a t ha
    have h2 := cnt_le_right a ha t
    rw [List.length_cons] at h
    by_cases e : y ∈ a
    · rw [if_pos e] at h1
      rcases List.mem_cons.1 hx with rfl | hx
      · exact e
      · exact ih (by omega) x hx
    · rw [if_neg e] at h1; omega
theorem cnt_sub_right (a : List Int) : ∀ b : List Int, b.Nodup → (∀ x ∈ b, x ∈ a) → b.length ≤ cnt a b := by
  intro b
  induction b with
  | nil => simp
  | cons y t ih =>
    intro hn h
    obtain ⟨h1, h2⟩ := List.nodup_cons.1 hn
    have ih := ih h2 (fun x hx => h x (by simp [hx]))
    have hy := h y (by simp)
    rw [List.length_cons]
    -- y is one more
    obtain ⟨s, u, rfl⟩ := List.append_of_mem hy
    unfold cnt at *
    rw [List.countP_append, List.countP_cons] at *
    have m : ∀ l : List Int, l.countP (fun x => hasB t x) ≤ l.countP (fun x => hasB (y :: t) x) := by
      intro l
      apply List.countP_mono_left
      intro x _ hx
      unfold hasB at *; simp at *; exact .inr hx
    have m1 := m s; have m2 := m u
    have e1 : hasB t y = false := by unfold hasB; simpa using h1
    have e2 : hasB (y :: t) y = true := by unfold hasB; simp
    rw [e1] at ih; rw [e2]
    simp at ih ⊢
    omega
theorem cnt_zero {a b : List Int} : cnt a b = 0 ↔ ∀ x ∈ a, x ∉ b := by
  unfold cnt
  rw [List.countP_eq_zero]
  constructor
  · intro h x hx hb; have := h x hx; unfold hasB at this; simp [hb] at this
  · intro h x hx; have := h x hx; unfold hasB; simpa using this
theorem cnt_full_left {a b : List Int} : cnt a b = a.length ↔ ∀ x ∈ a, x ∈ b := by
  unfold cnt
  rw [List.countP_eq_length]
  constructor
  · intro h x hx; have := h x hx; unfold hasB at this; simpa using this
  · intro h x hx; unfold hasB; simpa using h x hx
theorem bits_sub (a b : List Int) (ha : ∀ z ∈ a, 0 ≤ z) (hb : ∀ z ∈ b, 0 ≤ z) : bitsOf a &&& bitsOf b = bitsOf a ↔ ∀ x ∈ a, x ∈ b := by
  constructor
  · intro h x hx
    have h0 := ha x hx
    have := congrArg (fun n => n.testBit x.toNat) h
    simp only [Nat.testBit_and, bitsOf_test a ha, bitsOf_test b hb] at this
    rw [show ((x.toNat : Nat) : Int) = x from by omega] at this
    simpa [hx] using this
  · intro h
    apply Nat.eq_of_testBit_eq
    intro j
    rw [Nat.testBit_and, bitsOf_test a ha, bitsOf_test b hb]
    by_cases e : (j : Int) ∈ a
    · simp [e, h _ e]
    · simp [e]
theorem bits_none (a b : List Int) (ha : ∀ z ∈ a, 0 ≤ z) (hb : ∀ z ∈ b, 0 ≤ z) : bitsOf a &&& bitsOf b = 0 ↔ ∀ x ∈ a, x ∉ b := by
  constructor
  · intro h x hx hxb
    have h0 := ha x hx
    have := congrArg (fun n => n.testBit x.toNat) h
    simp only [Nat.testBit_and, bitsOf_test a ha, bitsOf_test b hb, Nat.zero_testBit] at this
    rw [show ((x.toNat : Nat) : Int) = x from by omega] at this
    simp [hx, hxb] at this
  · intro h
    apply Nat.eq_of_testBit_eq
    intro j
    rw [Nat.testBit_and, bitsOf_test a ha, bitsOf_test b hb, Nat.zero_testBit]
    by_cases e : (j : Int) ∈ a
    · simp [e, h _ e]
    · simp [e]
/-- The test on bits. m: the new set, o: the other one. -/
def nestB (m o : Nat) : Bool := decide (m &&& o = 0) || (decide (m &&& o = m) || decide (m &&& o = o))
theorem fit_nest (a b : List Int) (ha : ∀ z ∈ a, 0 ≤ z) (hb : ∀ z ∈ b, 0 ≤ z) (na : a.Nodup) (nb : b.Nodup) : fitB a b = nestB (bitsOf b) (bitsOf a) := by
  have c1 := cnt_le_right a na b
  have c2 := List.countP_le_length (p := fun x => hasB b x) (l := a)
  change cnt a b ≤ a.length at c2
  have e1 : bitsOf b &&& bitsOf a = 0 ↔ cnt a b = 0 := by
    rw [Nat.and_comm, bits_none a b ha hb, cnt_zero]
  have e2 : bitsOf b &&& bitsOf a = bitsOf b ↔ b.length ≤ cnt a b := by
    rw [bits_sub b a hb ha]
    exact ⟨fun h => cnt_sub_right a b nb h, fun h => cnt_full_right a na b h⟩
  have e3 : bitsOf b &&& bitsOf a = bitsOf a ↔ cnt a b = a.length := by
    rw [Nat.and_comm, bits_sub a b ha hb, cnt_full_left]
  unfold fitB nestB
  rw [show decide (bitsOf b &&& bitsOf a = 0) = decide (cnt a b = 0) from decide_eq_decide.2 e1, show decide (bitsOf b &&& bitsOf a = bitsOf b) = decide (b.length ≤ cnt a b) from decide_eq_decide.2 e2, show decide (bitsOf b &&& bitsOf a = bitsOf a) = decide (cnt a b = a.length) from decide_eq_decide.2 e3]
  by_cases h0 : cnt a b = 0
  · simp [h0]
  · by_cases h1 : b.length ≤ cnt a b
    · simp [h1, show ¬ cnt a b < b.length from by omega]
    · by_cases h2 : cnt a b = a.length
      · simp [h2]
      · simp [h0, h1, h2]; omega

/-- The sum of the numbers of a list at the bits of a set. -/
def selS (zs : List Int) (m : Nat) : Nat → Int
  | 0 => 0
  | k + 1 => selS zs m k + (if m.testBit k then zs.getD k 0 else 0)
theorem selS_or (zs : List Int) (a m : Nat) (h : m.testBit a = false) (k : Nat) : selS zs (2 ^ a ||| m) k = selS zs m k + (if a < k then zs.getD a 0 else 0) := by
  induction k with
  | zero => simp [selS]
  | succ k ih =>
    rw [selS, selS, ih, Nat.testBit_or, Nat.testBit_two_pow]
    by_cases e : a = k
    · subst e; simp [h]
    · by_cases h2 : a < k
      · simp [e, h2, show a < k + 1 from by omega]; omega
      · simp [e, h2, show ¬ a < k + 1 from by omega]
theorem selS_zero (zs : List Int) (k : Nat) : selS zs 0 k = 0 := by
  induction k with
  | zero => rfl
  | succ k ih => rw [selS, ih]; simp
theorem selS_set (zs : List Int) (n : Nat) : ∀ set : List Int, set.Nodup → (∀ i ∈ set, 0 ≤ i ∧ i < (n : Int)) → selS zs (bitsOf set) n = partS zs set := by
  intro set
  induction set with
  | nil => intro _ _; rw [show bitsOf [] = 0 from rfl, selS_zero]; simp [partS, atL]
  | cons a t ih =>
    intro hn h
    obtain ⟨h1, h2⟩ := List.nodup_cons.1 hn
    have ha := h a (by simp)
    have ht := ih h2 (fun i hi => h i (by simp [hi]))
    have hb : (bitsOf t).testBit a.toNat = false := by
      rw [bitsOf_test t (fun z hz => (h z (by simp [hz])).1), show ((a.toNat : Nat) : Int) = a from by omega]; simpa using h1
    rw [bitsOf_cons, selS_or zs _ _ hb, ht, if_pos (by omega)]
    unfold partS atL
    rw [List.map_cons, List.sum_cons]; omega
theorem selS_all (zs : List Int) (n : Nat) (k : Nat) (h : k ≤ n) : selS zs (2 ^ n - 1) k = (zs.take k).sum + 0 := by
  induction k with
  | zero => simp [selS]
  | succ k ih =>
    rw [selS, ih (by omega), Nat.testBit_two_pow_sub_one]
    simp only [show k < n from by omega, decide_true, if_true]
    by_cases hl : k < zs.length
    · rw [sum_take_succ zs k hl]; omega
    · rw [List.take_of_length_le (by omega), List.take_of_length_le (by omega)]
      simp [List.getD_eq_getElem?_getD, List.getElem?_eq_none (by omega : zs.length ≤ k)]
theorem partS_all (zs : List Int) : partS zs (allI zs.length) = zs.sum := by
  unfold partS atL allI
  rw [List.map_map]
  congr 1
  apply List.ext_getElem (by simp)
  intro i h1 h2
  simp at h1
  simp [List.getD_eq_getElem?_getD, h1]
theorem selS_whole (zs : List Int) (n : Nat) (h : zs.length = n) : selS zs (2 ^ n - 1) n = partS zs (allI n) := by
  subst h
  rw [selS_all zs _ _ (Nat.le_refl _), List.take_length, partS_all]; omega
theorem selS_bd (M : Int) (hM : 0 ≤ M) (zs : List Int) (h : ∀ z ∈ zs, -M ≤ z ∧ z ≤ M) (m k : Nat) (hk : k ≤ zs.length) : -(M * (k : Int)) ≤ selS zs m k ∧ selS zs m k ≤ M * (k : Int) := by
  induction k with
  | zero => simp [selS]
  | succ k ih =>
    have h1 := ih (by omega)
    have h2 := h _ (getD_mem zs k (by omega))
    rw [selS, show ((k + 1 : Nat) : Int) = (k : Int) + 1 from by omega, Int.mul_add]
    split <;> omega

open Classical in
theorem rises_to {zs : List Int} {lo hi : Int} (h : risesB zs lo hi = true) : RisesTo zs lo hi zs.length := by unfold risesB at h; rw [decide_eq_true_eq] at h; exact h
theorem RisesTo.lt {zs : List Int} {lo hi : Int} {k : Nat} (h : RisesTo zs lo hi k) : ∀ j i : Nat, i < j → j < k → zs.getD i 0 < zs.getD j 0 := by
  intro j
  induction j with
  | zero => intro i h1; omega
  | succ j ih =>
    intro i h1 h2
    have h3 := (h (j + 1) h2).2 (by omega)
    rw [Nat.add_sub_cancel] at h3
    by_cases e : i = j
    · subst e; exact h3
    · have := ih i (by omega) (by omega); omega
theorem rises_nodup {zs : List Int} {lo hi : Int} (h : RisesTo zs lo hi zs.length) : zs.Nodup := by
  rw [List.nodup_iff_pairwise_ne, List.pairwise_iff_getElem]
  intro i j hi hj hij e
  have := h.lt j i hij hj
  rw [getD_get zs i hi, getD_get zs j hj] at this
  omega
theorem rises_nn {zs : List Int} {hi : Int} (h : RisesTo zs 0 hi zs.length) : ∀ z ∈ zs, 0 ≤ z ∧ z ≤ hi := by
  intro z hz
  obtain ⟨j, hj, rfl⟩ := List.getElem_of_mem hz
  have := inB_iff.1 (h j hj).1
  rw [getD_get zs j hj] at this
  exact this
end Go.Proofs.Ytpdcmhnaedhkdaa
