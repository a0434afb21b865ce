/- What must be done for the least norm: the model's side. -/
import Derived.Test.YtmckbjhmkcbjgabBest4
import Derived.Test.YtmckbjhmkcbjgabNorm4
import Derived.Test.YtmckbjhmkcbjgabCopyL
namespace Go.Proofs.Ytmckbjhmkcbjgab
open Go.ChangeShapes Go.WideShapes Go.ChangeAt Go.RowKit Go.Deep
set_option linter.unusedVariables false
theorem poisB_take_succ (norm den most : Int) (R : List Int) (i : Nat) (h : i < R.length) :
    poisB norm den most (R.take (i + 1)) = (poisB norm den most (R.take i) || (decide (norm = 2) && (decide (most < R.getD i 0) && decide (most < den - R.getD i 0)))) := by
  unfold poisB
  rw [take_succ_getD R i h, List.any_append]
  cases decide (norm = 2) <;> simp
/-- How far the counter of those that go up has come: exact, or beyond what may be. -/
def UpIs (norm den most : Int) (R : List Int) (u : Nat) (i : Nat) (up : Int) : Prop :=
  0 ≤ up ∧ up ≤ u + 1 + i + (isC 1 ((R.take i).map (fixX norm den most)) : Nat) ∧ (poisB norm den most (R.take i) = false → up = (isC 1 ((R.take i).map (fixX norm den most)) : Nat)) ∧ (poisB norm den most (R.take i) = true → (u : Int) < up)
theorem UpIs.zero (norm den most : Int) (R : List Int) (u : Nat) : UpIs norm den most R u 0 0 := ⟨by omega, by omega, fun _ => by simp [isC], fun h => by simp [poisB] at h⟩
theorem isC_map_succ (c : Int) (f : Int → Int) (R : List Int) (i : Nat) (h : i < R.length) : isC c ((R.take (i + 1)).map f) = isC c ((R.take i).map f) + (if f (R.getD i 0) = c then 1 else 0) := by
  unfold isC; rw [take_map_succ f R i h, List.countP_append, List.countP_cons, List.countP_nil]; simp
/-- One more: it is poison, or it is not. -/
theorem UpIs.poison {norm den most : Int} {R : List Int} {u i : Nat} {up : Int} (h : UpIs norm den most R u i up) (hi : i < R.length) (hn : norm = 2) (h1 : most < R.getD i 0) (h2 : most < den - R.getD i 0) (hx : fixX norm den most (R.getD i 0) = 1) : UpIs norm den most R u (i + 1) (u + 1 + 1) := by
  have hp := poisB_take_succ norm den most R i hi
  have hc := isC_map_succ 1 (fixX norm den most) R i hi
  rw [hx, if_pos rfl] at hc
  generalize R.getD i 0 = r at *
  have hp2 : poisB norm den most (R.take (i + 1)) = true := by rw [hp]; simp [hn, h1, h2]
  obtain ⟨a1, a2, a3, a4⟩ := h
  exact ⟨by omega, (by rw [hc]; omega), (fun q => by rw [hp2] at q; cases q), fun _ => by omega⟩
theorem UpIs.plain {norm den most : Int} {R : List Int} {u i : Nat} {up : Int} (h : UpIs norm den most R u i up) (hi : i < R.length) (hq : ¬ (norm = 2 ∧ most < R.getD i 0 ∧ most < den - R.getD i 0)) : UpIs norm den most R u (i + 1) (up + (if fixX norm den most (R.getD i 0) = 1 then 1 else 0)) := by
  have hp0 := poisB_take_succ norm den most R i hi
  have hc := isC_map_succ 1 (fixX norm den most) R i hi
  generalize R.getD i 0 = r at *
  have hp : poisB norm den most (R.take (i + 1)) = poisB norm den most (R.take i) := by
    rw [hp0]
    have : (decide (norm = 2) && (decide (most < r) && decide (most < den - r))) = false := by
      by_cases a : norm = 2 <;> by_cases b : most < r <;> by_cases c : most < den - r <;> simp_all
    rw [this, Bool.or_false]
  obtain ⟨h1, h2, h3, h4⟩ := h
  unfold UpIs
  rw [hp, hc]
  refine ⟨?_, ?_, fun q => ?_, fun q => ?_⟩
  · split <;> omega
  · split <;> omega
  · have := h3 q; split <;> omega
  · have := h4 q; split <;> omega
/-- The model's look at the end of a round. -/
theorem UpIs.fits {norm den most : Int} {R : List Int} {u : Nat} {up : Int} (h : UpIs norm den most R u R.length up) :
    fitsM norm den most R u ↔ (up ≤ u ∧ (u : Int) ≤ up + (isC 0 (R.map (fixX norm den most)) : Nat)) := by
  obtain ⟨h1, h2, h3, h4⟩ := h
  rw [List.take_length] at h3 h4
  unfold fitsM
  cases hp : poisB norm den most R
  · have := h3 hp
    simp only [true_and]
    omega
  · have := h4 hp
    constructor
    · intro q; cases q.1
    · intro q; omega
end Go.Proofs.Ytmckbjhmkcbjgab
