/- Running errors; whether a list runs. -/
import Derived.Test.YtpdcmhnaedhkdaaRuns
namespace Go.Proofs.Ytpdcmhnaedhkdaa
open Go.ChangeShapes Go.WideShapes Go.ChangeAt Go.RowKit
set_option linter.unusedVariables false
def okR (g : Int) (zs ls : List Int) : Bool := okV g zs && decide (ls.length = zs.length) && listOk ls 1000000
def rnV (g : Int) (zs ls : List Int) : List Int := if okR g zs ls then preS (errsL g zs ls) else []
theorem listOk_more {zs : List Int} (h : listOk zs 1000000 = true) : listOk zs 1000000000 = true := by
  have h1 := listOk_num h
  have h2 := listOk_len h
  unfold listOk allIn; simp only [Bool.and_eq_true, decide_eq_true_eq, List.all_eq_true]
  exact ⟨h2, fun z hz => inB_iff.2 (by have := h1 z hz; omega)⟩
theorem okE_okR {g : Int} {zs ls : List Int} (h : listOk ls 1000000 = true) : okE g zs ls = okR g zs ls := by
  unfold okE okR; rw [h, listOk_more h]
theorem okR_iff {g : Int} {zs ls : List Int} : okR g zs ls = true ↔ okV g zs = true ∧ ls.length = zs.length ∧ listOk ls 1000000 = true := by
  unfold okR; simp only [Bool.and_eq_true, decide_eq_true_eq, and_assoc]
theorem errsL_bd {g : Int} {zs ls : List Int} (h : okR g zs ls = true) : ∀ z ∈ errsL g zs ls, -2000000000 ≤ z ∧ z ≤ 2000000000 := by
  obtain ⟨h1, h2, h3⟩ := okR_iff.1 h
  intro z hz
  obtain ⟨k, hk, rfl⟩ := List.getElem_of_mem hz
  rw [errsL_len g zs ls h2] at hk
  have e := errsL_get g zs ls h2 k hk
  rw [getD_get _ k (by rw [errsL_len g zs ls h2]; exact hk)] at e
  rw [e]
  have d := okV_den h1
  have n1 := okV_num h1 _ (getD_mem zs k (by omega))
  have n2 := listOk_num h3 _ (getD_mem ls k hk)
  have e1 : g * ls.getD k 0 ≤ g * 1000000 := Int.mul_le_mul_of_nonneg_left n2.2 (by omega)
  have e2 : g * (-1000000) ≤ g * ls.getD k 0 := Int.mul_le_mul_of_nonneg_left n2.1 (by omega)
  omega
def runB (g : Int) (zs ls : List Int) : Bool := rndB g zs ls && decide (∀ s ∈ preS (errsL g zs ls), -g < s ∧ s < g)
theorem rndB_iff {g : Int} {zs ls : List Int} : rndB g zs ls = true ↔ okV g zs = true ∧ ls.length = zs.length ∧ RndTo g zs ls ls.length := by
  unfold rndB RndTo; simp only [Bool.and_eq_true, decide_eq_true_eq, and_assoc]
theorem rndB_okR {g : Int} {zs ls : List Int} (h : rndB g zs ls = true) : okR g zs ls = true := by
  obtain ⟨h1, h2, h3⟩ := rndB_iff.1 h
  refine okR_iff.2 ⟨h1, h2, ?_⟩
  have hl := okV_len h1
  have hn := okV_num h1
  have hg := okV_den h1
  unfold listOk allIn; simp only [Bool.and_eq_true, decide_eq_true_eq, List.all_eq_true]
  refine ⟨by omega, fun z hz => inB_iff.2 ?_⟩
  obtain ⟨k, hk, rfl⟩ := List.getElem_of_mem hz
  have hx := hn _ (getD_mem zs k (by omega))
  have h4 := h3 k hk
  rw [getD_get ls k hk] at h4
  rcases h4 with h4 | h4
  · rw [h4]; exact fl_bd hg.1 hx.1 hx.2 (by omega)
  · rw [h4]; exact ce_bd hg.1 hx.1 hx.2 (by omega)
theorem specRunB {g : Int} {zs ls : List Int} (h : rndB g zs ls = false) : runB g zs ls = false := by simp [runB, h]
end Go.Proofs.Ytpdcmhnaedhkdaa
