/- The needy sequence (pure). -/
import Derived.Test.YtpdcmhnaedhkdaaDev8
import Derived.Test.YtpdcmhnaedhkdaaSeq8
namespace Go.Proofs.Ytpdcmhnaedhkdaa
open Go.ChangeShapes Go.WideShapes Go.ChangeAt Go.RowKit Go.Deep
set_option linter.unusedVariables false
/-- How much a product would deviate. -/
def ndv (d : List Int) (f : Nat → Int) (k : Int) (i : Nat) : Int := d.sum * f i - k * d.getD i 0
/-- The product that is needed most among the first i; -1: none of them is left. -/
def nbst (d : List Int) (f : Nat → Int) (k : Int) : Nat → Int
  | 0 => -1
  | i + 1 => if f i < d.getD i 0 ∧ (nbst d f k i < 0 ∨ ndv d f k i < ndv d f k (nbst d f k i).toNat) then (i : Int) else nbst d f k i
theorem nbst_ok (d : List Int) (f : Nat → Int) (k : Int) : ∀ i, (nbst d f k i = -1 ∧ ∀ j, j < i → d.getD j 0 ≤ f j) ∨ (∃ b : Nat, nbst d f k i = b ∧ b < i ∧ f b < d.getD b 0) := by
  intro i
  induction i with
  | zero => exact .inl ⟨rfl, fun j h => by omega⟩
  | succ i ih =>
    by_cases h : f i < d.getD i 0 ∧ (nbst d f k i < 0 ∨ ndv d f k i < ndv d f k (nbst d f k i).toNat)
    · right
      exact ⟨i, by unfold nbst; rw [if_pos h], by omega, h.1⟩
    · have e : nbst d f k (i + 1) = nbst d f k i := by rw [nbst, if_neg h]
      rw [e]
      rcases ih with ⟨h1, h2⟩ | ⟨b, h1, h2, h3⟩
      · by_cases c : f i < d.getD i 0
        · exact absurd ⟨c, .inl (by omega)⟩ h
        · left
          refine ⟨h1, fun j hj => ?_⟩
          by_cases c2 : j = i
          · subst c2; omega
          · exact h2 j (by omega)
      · exact .inr ⟨b, h1, by omega, h3⟩
theorem nbst_same {d : List Int} {f g : Nat → Int} {k : Int} : ∀ i, (∀ j, j < i → f j = g j) → nbst d f k i = nbst d g k i := by
  intro i
  induction i with
  | zero => intro _; rfl
  | succ i ih =>
    intro h
    have e := ih (fun j hj => h j (by omega))
    unfold nbst
    rw [← e, h i (by omega)]
    rcases nbst_ok d f k i with ⟨h1, _⟩ | ⟨b, h1, h2, _⟩
    · simp [h1, ndv, h i (by omega)]
    · rw [h1, Int.toNat_natCast]
      unfold ndv
      rw [h i (by omega), h b (by omega)]
/-- The first k elements. -/
def ndL (d : List Int) : Nat → List Int
  | 0 => []
  | k + 1 => ndL d k ++ [nbst d (cntI (ndL d k)) ((k : Int) + 1) d.length]
def ndV (d : List Int) : List Int := if okD d then ndL d d.sum.toNat else []
theorem ndL_len (d : List Int) : ∀ k, (ndL d k).length = k := by
  intro k
  induction k with
  | zero => rfl
  | succ k ih => show (ndL d k ++ [_]).length = _; simp [ih]
theorem cntI_app (l : List Int) (x : Int) (i : Nat) : cntI (l ++ [x]) i = cntI l i + (if x = (i : Int) then 1 else 0) := by
  unfold cntI
  rw [List.countP_append, List.countP_singleton]
  by_cases c : x = (i : Int)
  · rw [if_pos c, if_pos (by simpa using c)]; rfl
  · rw [if_neg c, if_neg (by simpa using c)]; rfl
theorem ndL_ok {d : List Int} (hok : okD d = true) : ∀ k : Nat, (k : Int) ≤ d.sum → (∀ z ∈ ndL d k, 0 ≤ z ∧ z < (d.length : Int)) ∧ (∀ i, i < d.length → cntI (ndL d k) i ≤ d.getD i 0) := by
  intro k
  induction k with
  | zero => intro _; exact ⟨fun z hz => by simp [ndL] at hz, fun i hi => by have := (okD_parts hok).2.2.1 i hi; show cntI [] i ≤ _; rw [cntI_nil]; omega⟩
  | succ k ih =>
    intro hk
    obtain ⟨h1, h2⟩ := ih (by omega)
    have hs := cnt_sum (ndL d k) d.length h1
    rw [ndL_len] at hs
    rcases nbst_ok d (cntI (ndL d k)) ((k : Int) + 1) d.length with ⟨e, h3⟩ | ⟨b, e, h3, h4⟩
    · exfalso
      have : cntL d.length (ndL d k) = d := by
        refine List.ext_getElem (by rw [cntL_len]) fun i a b => ?_
        have q1 := h3 i b
        have q2 := h2 i b
        rw [← getD_get _ i a, cntL_get d.length (ndL d k) i b, ← getD_get d i b]; omega
      rw [this] at hs; omega
    · show (∀ z ∈ ndL d k ++ [nbst d (cntI (ndL d k)) ((k : Int) + 1) d.length], _) ∧ (∀ i, i < d.length → cntI (ndL d k ++ [nbst d (cntI (ndL d k)) ((k : Int) + 1) d.length]) i ≤ _)
      rw [e]
      refine ⟨fun z hz => ?_, fun i hi => ?_⟩
      · rcases List.mem_append.1 hz with h | h
        · exact h1 z h
        · simp at h; subst h; omega
      · rw [cntI_app]
        have := h2 i hi
        by_cases c : (b : Int) = (i : Int)
        · rw [if_pos c]
          have c' : b = i := by omega
          subst c'; omega
        · rw [if_neg c]; omega
/-- The next element is a product that is left. -/
theorem ndL_next {d : List Int} (hok : okD d = true) (k : Nat) (hk : (k : Int) < d.sum) : ∃ b : Nat, nbst d (cntI (ndL d k)) ((k : Int) + 1) d.length = b ∧ b < d.length ∧ cntI (ndL d k) b < d.getD b 0 := by
  rcases nbst_ok d (cntI (ndL d k)) ((k : Int) + 1) d.length with ⟨e, h3⟩ | h
  · exfalso
    obtain ⟨h1, h2⟩ := ndL_ok hok k (by omega)
    have hs := cnt_sum (ndL d k) d.length h1
    rw [ndL_len] at hs
    have : cntL d.length (ndL d k) = d := by
      refine List.ext_getElem (by rw [cntL_len]) fun i a b => ?_
      have q1 := h3 i b
      have q2 := h2 i b
      rw [← getD_get _ i a, cntL_get d.length (ndL d k) i b, ← getD_get d i b]; omega
    rw [this] at hs; omega
  · exact h
theorem ndL_set {d : List Int} {k b : Nat} (hb : nbst d (cntI (ndL d k)) ((k : Int) + 1) d.length = b) (hn : b < d.length) : (vals (cntL d.length (ndL d k))).set b (.int .i64 (cntI (ndL d k) b + 1)) = vals (cntL d.length (ndL d (k + 1))) := by
  have e : ndL d (k + 1) = ndL d k ++ [(b : Int)] := by show ndL d k ++ [_] = _; rw [hb]
  have h := cntL_set d.length (ndL d (k + 1)) k b (by rw [ndL_len]; omega) (by rw [e, List.getD_eq_getElem?_getD, List.getElem?_append_right (by rw [ndL_len]; omega), ndL_len]; simp) hn
  have t1 : (ndL d (k + 1)).take k = ndL d k := by rw [e]; exact List.take_left' (ndL_len d k)
  have t2 : (ndL d (k + 1)).take (k + 1) = ndL d (k + 1) := List.take_of_length_le (by rw [ndL_len]; omega)
  rw [t1, t2] at h
  exact h
theorem nbst_yes {d : List Int} {f : Nat → Int} {k : Int} {i : Nat} (h : f i < d.getD i 0 ∧ (nbst d f k i < 0 ∨ ndv d f k i < ndv d f k (nbst d f k i).toNat)) : nbst d f k (i + 1) = i := by rw [nbst, if_pos h]
theorem nbst_not {d : List Int} {f : Nat → Int} {k : Int} {i : Nat} (h : ¬ (f i < d.getD i 0 ∧ (nbst d f k i < 0 ∨ ndv d f k i < ndv d f k (nbst d f k i).toNat))) : nbst d f k (i + 1) = nbst d f k i := by rw [nbst, if_neg h]
end Go.Proofs.Ytpdcmhnaedhkdaa
