/- Sums at some indices; all indices: the model's side. -/
import Derived.Test.YtpdcmhnaedhkdaaLam4c
namespace Go.Proofs.Ytpdcmhnaedhkdaa
open Go.ChangeShapes Go.WideShapes Go.ChangeAt Go.RowKit
set_option linter.unusedVariables false
/-- The numbers at some indices. -/
def atL (zs set : List Int) : List Int := set.map fun i => zs.getD i.toNat 0
theorem atL_len (zs set : List Int) : (atL zs set).length = set.length := by simp [atL]
theorem atL_get (zs set : List Int) (k : Nat) (h : k < set.length) : (atL zs set).getD k 0 = zs.getD (set.getD k 0).toNat 0 := by
  rw [getD_get _ k (by rw [atL_len]; exact h), getD_get set k h]; simp [atL]
theorem atL_bd (M : Int) (zs set : List Int) (hM : 0 ≤ M) (h : ∀ z ∈ zs, -M ≤ z ∧ z ≤ M) : ∀ z ∈ atL zs set, -M ≤ z ∧ z ≤ M := by
  intro z hz
  unfold atL at hz
  obtain ⟨i, _, rfl⟩ := List.mem_map.1 hz
  by_cases hi : i.toNat < zs.length
  · exact h _ (getD_mem zs _ hi)
  · rw [List.getD_eq_getElem?_getD, List.getElem?_eq_none (by omega)]; simp; omega
/-- The sum of a list's numbers at some indices. -/
def partS (zs set : List Int) : Int := (atL zs set).sum
theorem partS_bd (M L : Int) (zs set : List Int) (hM : 0 ≤ M) (h : ∀ z ∈ zs, -M ≤ z ∧ z ≤ M) (hl : (set.length : Int) ≤ L) : -(M * L) ≤ partS zs set ∧ partS zs set ≤ M * L := by
  have := sum_take_bd M L hM (atL zs set) (atL_bd M zs set hM h) (by rw [atL_len]; exact hl) set.length
  rw [List.take_of_length_le (by rw [atL_len]; exact Nat.le_refl _)] at this
  exact this
/-- All indices of a list. -/
def allI (n : Nat) : List Int := (List.range n).map fun (i : Nat) => (i : Int)
theorem allI_len (n : Nat) : (allI n).length = n := by simp [allI]
theorem allI_succ (n : Nat) : allI (n + 1) = allI n ++ [(n : Int)] := by simp [allI, List.range_succ]
end Go.Proofs.Ytpdcmhnaedhkdaa
