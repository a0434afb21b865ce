/- A block of two cells that can be read and written. -/
import Derived.Test.YtpdcmhnaedhkdaaMem
namespace Go.Proofs.Ytpdcmhnaedhkdaa
open Go.ChangeShapes Go.WideShapes Go.ChangeAt Go.RowKit Go.Deep
set_option linter.unusedVariables false
/-- Two cells that can be read and written. -/
structure DuY (W : World) (b : Nat) (x y : Value) : Prop where
  c0 : W.cell? ⟨b, 0, none⟩ = some x
  c1 : W.cell? ⟨b, 1, none⟩ = some y
  f0 : W.frozen? ⟨b, 0, none⟩ = false
  f1 : W.frozen? ⟨b, 1, none⟩ = false
theorem DuY.lt {W : World} {b : Nat} {x y : Value} (h : DuY W b x y) : b < W.heap.size := World.block_lt_of_cell? _ _ h.c0
theorem DuY.keep {W W' : World} {b : Nat} {x y : Value} (h : DuY W b x y) (k : Keep W W') : DuY W' b x y := by
  have e := k.block b h.lt
  exact ⟨(World.cell?_of_block (a := ⟨b, 0, none⟩) e).trans h.c0, (World.cell?_of_block (a := ⟨b, 1, none⟩) e).trans h.c1, (World.frozen?_of_block (a := ⟨b, 0, none⟩) e).trans h.f0, (World.frozen?_of_block (a := ⟨b, 1, none⟩) e).trans h.f1⟩
theorem DuY.new (W : World) (x y : Value) (T : Nat) : DuY (W.alloc (.cells #[x, y] T)) W.heap.size x y := ⟨by simp, by simp, by simp, by simp⟩
/-- Behind the store of both cells. -/
theorem DuY.put {W : World} {b : Nat} {x y : Value} (h : DuY W b x y) (v0 v1 : Value) : DuY ((W.setCell ⟨b, 0, none⟩ v0).setCell ⟨b, 1, none⟩ v1) b v0 v1 :=
  ⟨by rw [World.cell?_setCell_other _ _ _ _ (by simp), World.cell?_setCell_same _ _ _ h.c0], World.cell?_setCell_same _ _ _ (by rw [World.cell?_setCell_other _ _ _ _ (by simp)]; exact h.c1), by simpa using h.f0, by simpa using h.f1⟩
theorem keep_put {W0 W : World} {b : Nat} (k : Keep W0 W) (hb : W0.heap.size ≤ b) (v0 v1 : Value) : Keep W0 ((W.setCell ⟨b, 0, none⟩ v0).setCell ⟨b, 1, none⟩ v1) :=
  (k.setCell (p := ⟨b, 0, none⟩) hb v0).setCell (p := ⟨b, 1, none⟩) hb v1
end Go.Proofs.Ytpdcmhnaedhkdaa
