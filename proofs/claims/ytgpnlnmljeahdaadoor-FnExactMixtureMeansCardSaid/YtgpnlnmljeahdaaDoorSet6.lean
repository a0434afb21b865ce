/- Lists told apart by their texts: how many keys a map has that holds the texts of lists (no row of a program). -/
import Derived.Test.YtgpnlnmljeahdaaDoorMix6
import Derived.Test.YtgpnlnmljeahdaaDoorBack
import Derived.Maps.Views
import Derived.Maps.Own
namespace Go.Proofs.YtgpnlnmljeahdaaDoor
open Go.RowKit Go.Deep Go.Maps
set_option linter.unusedVariables false
/-- What the text of row k reads as. -/
def key6 (zss : List (List Int)) (k : Nat) : Lit := .string (txt (zss.getD k []))
def keys6 (zss : List (List Int)) (k : Nat) : List Lit := (List.range k).map (key6 zss)
def Set6 {H : Type} (zss : List (List Int)) (k : Nat) : DataW H := setOf (.lit (.bool true)) (keys6 zss k)
theorem keys6_succ (zss : List (List Int)) (k : Nat) : keys6 zss (k + 1) = keys6 zss k ++ [key6 zss k] := by
  unfold keys6; rw [List.range_succ, List.map_append]; rfl
theorem keys6_ok (zss : List (List Int)) (k : Nat) : ∀ x ∈ keys6 zss k, WideAt.IsKeyLit x := by
  intro x hx
  obtain ⟨j, _, rfl⟩ := List.mem_map.1 hx
  trivial
theorem Set6_succ {H : Type} (zss : List (List Int)) (k : Nat) : Set6 (H := H) zss (k + 1) = (Set6 zss k).put (key6 zss k) (.lit (.bool true)) := by
  unfold Set6; rw [keys6_succ, setOf_snoc]
theorem Set6_zero {H : Type} (zss : List (List Int)) : Set6 (H := H) zss 0 = .map [] := by simp [Set6, keys6, setOf]
theorem txt_inj {a b : List Int} (ha : a.length ≤ 40) (hb : b.length ≤ 40) (ha2 : ∀ z ∈ a, -1000000000 ≤ z ∧ z ≤ 1000000000) (hb2 : ∀ z ∈ b, -1000000000 ≤ z ∧ z ≤ 1000000000) (h : txt a = txt b) : a = b := by
  rw [← (rds_txt a ha ha2).2, ← (rds_txt b hb hb2).2, h]
theorem has6 {H : Type} {zss : List (List Int)} (hb : ∀ k, k < zss.length → (zss.getD k []).length ≤ 40 ∧ ∀ x ∈ zss.getD k [], -1000000000 ≤ x ∧ x ≤ 1000000000) (k : Nat) (hk : k < zss.length) : has (Set6 (H := H) zss k) (key6 zss k) = !uniqB zss k := by
  unfold Set6 uniqB
  rw [has_setOf _ _ _ (keys6_ok zss k), Bool.eq_iff_iff]
  unfold keys6
  simp only [List.any_eq_true, List.mem_map, List.mem_range, Bool.not_eq_true', List.all_eq_false]
  constructor
  · rintro ⟨x, ⟨j, hj, rfl⟩, hs⟩
    have e := WideAt.sameKey_eq hs
    unfold key6 at e
    injection e with e
    have h1 := hb j (by omega); have h2 := hb k hk
    exact ⟨j, hj, by rw [txt_inj h1.1 h2.1 h1.2 h2.2 e]; simp [eqB]⟩
  · rintro ⟨j, hj, hs⟩
    refine ⟨key6 zss j, ⟨j, hj, rfl⟩, ?_⟩
    have e : zss.getD j [] = zss.getD k [] := by simpa [eqB] using hs
    rw [show key6 zss j = key6 zss k from by unfold key6; rw [e]]
    exact WideAt.sameKey_self trivial
def difB (zss : List (List Int)) : Bool := (List.range zss.length).all (uniqB zss)
theorem size6 {H : Type} {zss : List (List Int)} (hb : ∀ k, k < zss.length → (zss.getD k []).length ≤ 40 ∧ ∀ x ∈ zss.getD k [], -1000000000 ≤ x ∧ x ≤ 1000000000) : ∀ k, k ≤ zss.length →
    Maps.size (Set6 (H := H) zss k) ≤ k ∧ (Maps.size (Set6 (H := H) zss k) = k ↔ (List.range k).all (uniqB zss) = true) := by
  intro k
  induction k with
  | zero => intro _; rw [Set6_zero]; simp [Maps.size]
  | succ k ih =>
    intro hk
    obtain ⟨h1, h2⟩ := ih (by omega)
    have ht : Tidy (Set6 (H := H) zss k) := tidy_setOf _ _ (keys6_ok zss k)
    rw [Set6_succ, size_put ht, has6 hb k (by omega), range_all_succ]
    cases hu : uniqB zss k
    · simp only [Bool.not_false, if_true, Bool.and_false]
      exact ⟨by omega, fun h => by omega, fun h => by cases h⟩
    · simp only [Bool.not_true, Bool.false_eq_true, if_false, Bool.and_true]
      exact ⟨by omega, fun h => h2.1 (by omega), fun h => by have := h2.2 h; omega⟩
theorem size6_eq {H : Type} {zss : List (List Int)} (hb : ∀ k, k < zss.length → (zss.getD k []).length ≤ 40 ∧ ∀ x ∈ zss.getD k [], -1000000000 ≤ x ∧ x ≤ 1000000000) : ((Maps.size (Set6 (H := H) zss zss.length) : Int) == (zss.length : Int)) = difB zss := by
  have h := (size6 (H := H) hb zss.length (Nat.le_refl _)).2
  unfold difB
  rw [Bool.eq_iff_iff, ← h, beq_iff_eq]
  omega
/-- The weights of some mixture. -/
def weB (us : List Int) : Bool := inB (us.length : Int) 1 64 && (us.all (fun x => inB x 1 1000000) && decide (us.sum ≤ 1000000))
def likeR (zss : List (List Int)) (k : Nat) : Bool := decide ((zss.getD k []).length = (zss.getD 0 []).length) && listOk (zss.getD k []) 1000000
def likeB (zss : List (List Int)) : Bool := (List.range zss.length).all (likeR zss)
theorem numB6_all (z : List Int) : numB6 z = allIn z 1000000 := rfl
theorem mixB_eq (us : List Int) (zss : List (List Int)) : mixB us zss = (weB us && (decide (zss.length = us.length) && (likeB zss && difB zss))) := by
  by_cases hl : us.length = zss.length
  · unfold mixB weB likeB difB
    rw [decide_eq_true hl, decide_eq_true hl.symm, hl, Bool.true_and, Bool.true_and, Bool.and_assoc]
    cases hn : inB (zss.length : Int) 1 64
    · rfl
    have hb := inB_iff.1 hn
    rw [Bool.true_and, Bool.true_and, Bool.eq_iff_iff]
    simp only [Bool.and_eq_true, decide_eq_true_eq, List.all_eq_true, List.mem_range, mixRow, likeR, listOk, numB6_all]
    constructor
    · rintro ⟨h1, h2, h3⟩
      refine ⟨⟨fun x hx => ?_, h3⟩, fun k hk => ?_, fun k hk => (h2 k hk).2.2.2⟩
      · obtain ⟨j, hj, rfl⟩ := List.getElem_of_mem hx
        have := (h2 j (by omega)).1
        rwa [getD_get us j hj] at this
      · have h := h2 k hk
        exact ⟨h.2.1, by rw [h.2.1]; exact h1, h.2.2.1⟩
    · rintro ⟨⟨h1, h2⟩, h3, h4⟩
      refine ⟨(h3 0 (by omega)).2.1, fun k hk => ⟨?_, (h3 k hk).1, (h3 k hk).2.2, h4 k hk⟩, h2⟩
      rw [getD_get us k (by omega)]
      exact h1 _ (List.getElem_mem (by omega))
  · unfold mixB
    have hl2 : ¬ zss.length = us.length := fun h => hl h.symm
    rw [decide_eq_false hl, decide_eq_false hl2]
    simp
theorem like_row {zss : List (List Int)} (h : likeB zss = true) {k : Nat} (hk : k < zss.length) : (zss.getD k []).length = (zss.getD 0 []).length ∧ (zss.getD k []).length ≤ 40 ∧ ∀ x ∈ zss.getD k [], -1000000 ≤ x ∧ x ≤ 1000000 := by
  have h1 := List.all_eq_true.1 h k (List.mem_range.2 hk)
  unfold likeR listOk allIn at h1
  simp only [Bool.and_eq_true, decide_eq_true_eq, List.all_eq_true] at h1
  exact ⟨h1.1, h1.2.1, fun x hx => inB_iff.1 (h1.2.2 x hx)⟩
end Go.Proofs.YtgpnlnmljeahdaaDoor
