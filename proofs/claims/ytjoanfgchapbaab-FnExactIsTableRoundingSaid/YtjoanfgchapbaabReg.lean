/- Calls of functions in regions that draw their order; two cells that can be read and written. -/
import Derived.Test.YtjoanfgchapbaabMem
import Derived.Deep.DeepCutAuto
import Derived.Deep.RegionLaw
namespace Go.Proofs.Ytjoanfgchapbaab
open Go.ChangeShapes Go.WideShapes Go.ChangeAt Go.RowKit
set_option linter.unusedVariables false
theorem at_fn {P : Program} {ops : Array Oper} {o : Oper} {a : Act} {w : World} {K : Act → World → Prop} {Q : Exit → Act → World → Prop} {E : Prop} (F : Nat) (x : Array Operand) (T : Array TypeId)
    (ho : o.op = .call { callee := .value (.func F), args := x, argTypes := T }) (h : if Region.wanted o (yielded ops a.tmps) = true then Oper.wp P o a w K Q else E) : if Region.wanted o (yielded ops a.tmps) = true then Oper.wp P o a w K Q else E := h
structure Duo (W : World) (b : Nat) (u0 u1 : Value) : Prop where
  c0 : W.cell? ⟨b, 0, none⟩ = some u0
  c1 : W.cell? ⟨b, 1, none⟩ = some u1
  f0 : W.frozen? ⟨b, 0, none⟩ = false
  f1 : W.frozen? ⟨b, 1, none⟩ = false
theorem Duo.lt {W : World} {b : Nat} {u0 u1 : Value} (h : Duo W b u0 u1) : b < W.heap.size := World.block_lt_of_cell? _ _ h.c0
theorem Duo.keep {W W' : World} {b : Nat} {u0 u1 : Value} {B : Nat} (h : Duo W b u0 u1) (k : Below B W W') (hb : b < B) : Duo W' b u0 u1 :=
  ⟨(k.cell (p := ⟨b, 0, none⟩) hb).trans h.c0, (k.cell (p := ⟨b, 1, none⟩) hb).trans h.c1, (k.frozen (p := ⟨b, 0, none⟩) hb).trans h.f0, (k.frozen (p := ⟨b, 1, none⟩) hb).trans h.f1⟩
theorem Duo.new (W : World) (u0 u1 : Value) (T : Nat) : Duo (W.alloc (.cells #[u0, u1] T)) W.heap.size u0 u1 := ⟨by simp, by simp, by simp, by simp⟩
theorem Duo.set {W : World} {b : Nat} {u0 u1 : Value} (h : Duo W b u0 u1) (v0 v1 : Value) : Duo ((W.setCell ⟨b, 0, none⟩ v0).setCell ⟨b, 1, none⟩ v1) b v0 v1 := by
  have g : ∀ (W : World) (i j : Nat) (v u : Value), i ≠ j → W.cell? ⟨b, i, none⟩ = some u → (W.setCell ⟨b, j, none⟩ v).cell? ⟨b, i, none⟩ = some u := fun W i j v u hij h => by
    rw [World.cell?_setCell_other _ _ _ _ (by first | (simp; done) | (simp; exact hij))]; exact h
  refine ⟨?_, ?_, by simpa using h.f0, by simpa using h.f1⟩
  · exact g _ _ _ _ _ (by decide) (World.cell?_setCell_same _ _ _ h.c0)
  · exact World.cell?_setCell_same _ _ _ (g _ _ _ _ _ (by decide) h.c1)
end Go.Proofs.Ytjoanfgchapbaab
