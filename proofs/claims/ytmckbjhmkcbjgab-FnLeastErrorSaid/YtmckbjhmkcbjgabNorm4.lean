/- Norms of roundings: the model's side. -/
import Derived.Test.YtmckbjhmkcbjgabErrs
import Derived.Test.YtmckbjhmkcbjgabGreat
namespace Go.Proofs.Ytmckbjhmkcbjgab
open Go.ChangeShapes Go.WideShapes Go.ChangeAt Go.RowKit
set_option linter.unusedVariables false
def nstep (norm s e : Int) : Int := if norm = 0 then s + ab e else if norm = 1 then s + ab e * ab e else mx s (ab e)
/-- The norm of errors. -/
def nrm (norm : Int) (es : List Int) : Int := es.foldl (fun s e => nstep norm s e) 0
theorem nrm_step (norm : Int) (es : List Int) (k : Nat) (h : k < es.length) : nrm norm (es.take (k + 1)) = nstep norm (nrm norm (es.take k)) (es.getD k 0) := by
  rw [take_succ_getD es k h]; unfold nrm; rw [List.foldl_append]; rfl
theorem nstep_bd {norm s e : Int} {k : Nat} (hs : 0 ≤ s ∧ s ≤ 1000000 * (k : Int)) (he : -1000 ≤ e ∧ e ≤ 1000) : 0 ≤ nstep norm s e ∧ nstep norm s e ≤ 1000000 * ((k + 1 : Nat) : Int) := by
  have h1 := ab_bd (M := 1000) (n := e) he
  have h2 : ab e * ab e ≤ 1000 * 1000 := Int.mul_le_mul h1.2 h1.2 h1.1 (by omega)
  have h3 : 0 ≤ ab e * ab e := Int.mul_nonneg h1.1 h1.1
  unfold nstep mx
  (repeat' split) <;> omega
theorem nrm_bd (norm : Int) (es : List Int) (h : ∀ e ∈ es, -1000 ≤ e ∧ e ≤ 1000) (k : Nat) (hk : k ≤ es.length) : 0 ≤ nrm norm (es.take k) ∧ nrm norm (es.take k) ≤ 1000000 * (k : Int) := by
  induction k with
  | zero => simp [nrm]
  | succ k ih =>
    rw [nrm_step norm es k (by omega)]
    exact nstep_bd (ih (by omega)) (h _ (getD_mem es k (by omega)))
theorem rnd_errs {g : Int} {zs ls : List Int} (h : rndB g zs ls = true) : ∀ e ∈ errsL g zs ls, -1000 ≤ e ∧ e ≤ 1000 := by
  unfold rndB at h
  simp only [Bool.and_eq_true, decide_eq_true_eq] at h
  obtain ⟨⟨h1, h2⟩, h3⟩ := h
  have hg := okV_den h1
  intro e he
  obtain ⟨k, hk, rfl⟩ := List.getElem_of_mem he
  have hk2 : k < ls.length := by rw [errsL_len g zs ls h2] at hk; exact hk
  have e1 := errsL_get g zs ls h2 k hk2
  rw [getD_get _ k hk] at e1
  rw [e1]
  have q := fl_mul (a := zs.getD k 0) hg.1
  have q2 := fl_mul (a := -zs.getD k 0) hg.1
  rcases h3 k hk2 with h4 | h4
  · rw [h4]; omega
  · rw [h4, ce_eq, Int.mul_neg]; omega
def okN (norm g : Int) (zs ls : List Int) : Bool := rndB g zs ls && inB norm 0 2
def nrmV (norm g : Int) (zs ls : List Int) : Int := if okN norm g zs ls then nrm norm (errsL g zs ls) else 0
end Go.Proofs.Ytmckbjhmkcbjgab
