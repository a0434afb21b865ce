/- The errors of a list; whether a list is a rounding. -/
import Derived.Test.YtjklmdlkhkmfpaaDoorVals
namespace Go.Proofs.YtjklmdlkhkmfpaaDoor
open Go.ChangeShapes Go.WideShapes Go.ChangeAt Go.RowKit
set_option linter.unusedVariables false
def okE (g : Int) (zs ls : List Int) : Bool := okV g zs && decide (ls.length = zs.length) && listOk ls 1000000000
def errsV (g : Int) (zs ls : List Int) : List Int := if okE g zs ls then errsL g zs ls else []
theorem errsL_in {g : Int} {zs ls : List Int} (h : okE g zs ls = true) : ∀ z ∈ errsL g zs ls, In64 z := by
  unfold okE at h; simp only [Bool.and_eq_true, decide_eq_true_eq] at h
  obtain ⟨⟨h1, h2⟩, h3⟩ := h
  intro z hz
  obtain ⟨k, hk, rfl⟩ := List.getElem_of_mem hz
  rw [errsL_len g zs ls h2] at hk
  have e := errsL_get g zs ls h2 k hk
  rw [getD_get _ k (by rw [errsL_len g zs ls h2]; exact hk)] at e
  rw [e]
  have d := okV_den h1
  have n1 := okV_num h1 _ (getD_mem zs k (by omega))
  have n2 := listOk_num h3 _ (getD_mem ls k hk)
  have := err_bd d.1 d.2 n2.1 n2.2 n1.1 n1.2
  exact ⟨by omega, by omega⟩
theorem ownsRow_mono {w : World} {B B' e : Nat} {v : Value} {n : Nat} {xs : List Value} (h : w.ownsRow B e 1 v n xs) (hB : B' ≤ B) : w.ownsRow B' e 1 v n xs := by
  refine ⟨h.1, ?_⟩
  rcases h.2 with h1 | ⟨g, c, cur, h1, h2, h3⟩
  · exact .inl h1
  · exact .inr ⟨g, c, cur, h1, by omega, h3⟩

/-- The first k numbers of a list are floors or ceilings. -/
def RndTo (g : Int) (zs ls : List Int) (k : Nat) : Prop := ∀ j, j < k → ls.getD j 0 = fl (zs.getD j 0) g ∨ ls.getD j 0 = ce (zs.getD j 0) g
theorem RndTo.succ {g : Int} {zs ls : List Int} {k : Nat} (h : RndTo g zs ls k) (h2 : ls.getD k 0 = fl (zs.getD k 0) g ∨ ls.getD k 0 = ce (zs.getD k 0) g) : RndTo g zs ls (k + 1) := by
  intro j hj
  rcases Nat.lt_or_eq_of_le (Nat.le_of_lt_succ hj) with h3 | h3
  · exact h j h3
  · subst h3; exact h2
theorem RndTo.zero (g : Int) (zs ls : List Int) : RndTo g zs ls 0 := fun j hj => by omega
def rndB (g : Int) (zs ls : List Int) : Bool := okV g zs && decide (ls.length = zs.length) && decide (∀ j, j < ls.length → ls.getD j 0 = fl (zs.getD j 0) g ∨ ls.getD j 0 = ce (zs.getD j 0) g)
theorem rndB_no {g : Int} {zs ls : List Int} {k : Nat} (hk : k < ls.length) (h1 : ls.getD k 0 ≠ fl (zs.getD k 0) g) (h2 : ls.getD k 0 ≠ ce (zs.getD k 0) g) : rndB g zs ls = false := by
  unfold rndB
  rw [Bool.and_eq_false_iff]; right
  rw [decide_eq_false_iff_not]
  intro h; rcases h k hk with h | h
  · exact h1 h
  · exact h2 h
theorem rndB_yes {g : Int} {zs ls : List Int} (h1 : okV g zs = true) (h2 : ls.length = zs.length) (h : RndTo g zs ls ls.length) : rndB g zs ls = true := by
  unfold rndB
  rw [h1, decide_eq_true h2, decide_eq_true (show ∀ j, j < ls.length → ls.getD j 0 = fl (zs.getD j 0) g ∨ ls.getD j 0 = ce (zs.getD j 0) g from h)]; rfl
end Go.Proofs.YtjklmdlkhkmfpaaDoor
