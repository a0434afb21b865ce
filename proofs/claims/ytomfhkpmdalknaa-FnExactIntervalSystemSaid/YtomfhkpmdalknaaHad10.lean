/- Systems of even common bits: the program's side, and the model's. -/
import Derived.Test.YtomfhkpmdalknaaAvg10
import Derived.Test.YtomfhkpmdalknaaCnt10
import Derived.Deep.LoopGhost
namespace Go.Proofs.Ytomfhkpmdalknaa
open Go.ChangeShapes Go.WideShapes Go.ChangeAt Go.RowKit Go.Deep
set_option linter.unusedVariables false
/-- A struct of a number and a list that grows, at block b; the list lies elsewhere, from the end of W0 on. -/
structure GrwX (W0 W : World) (b : Nat) (g : Int) (rd : Option Addr) (rc : Nat) (vs : List Int) : Prop where
  c0 : W.cell? ⟨b, 0, none⟩ = some (.int .i64 g)
  c1 : W.cell? ⟨b, 1, none⟩ = some (.slice rd vs.length rc)
  f0 : W.frozen? ⟨b, 0, none⟩ = false
  f1 : W.frozen? ⟨b, 1, none⟩ = false
  lt : b < W.heap.size
  le : W0.heap.size ≤ b
  o : Own W W0.heap.size rd rc vs
  ne : ∀ a, rd = some a → a.block ≠ b
  k : Keep W0 W
theorem GrwX.keep {W0 W W' : World} {b : Nat} {g : Int} {rd : Option Addr} {rc : Nat} {vs : List Int} (h : GrwX W0 W b g rd rc vs) (k : Keep W W') : GrwX W0 W' b g rd rc vs :=
  ⟨(k.cell (p := ⟨b, 0, none⟩) h.lt).trans h.c0, (k.cell (p := ⟨b, 1, none⟩) h.lt).trans h.c1, (k.frozen (p := ⟨b, 0, none⟩) h.lt).trans h.f0, (k.frozen (p := ⟨b, 1, none⟩) h.lt).trans h.f1, Nat.lt_of_lt_of_le h.lt k.size, h.le, h.o.keep k, h.ne, Keep.next h.k k⟩
theorem GrwX.app {W0 W W' : World} {b : Nat} {g : Int} {rd : Option Addr} {rc : Nat} {vs : List Int} {g' cap' : Nat} {y : Int} (h : GrwX W0 W b g rd rc vs)
    (o : Own W' W0.heap.size (some ⟨g', 0, none⟩) cap' (vs ++ [y])) (gr : W.grownBy W' (Value.slice rd vs.length rc).ownBlock) (hat : rd = some ⟨g', 0, none⟩ ∨ W.heap.size ≤ g') :
    (W'.cell? ⟨b, 1, none⟩ = some (.slice rd vs.length rc) ∧ W'.frozen? ⟨b, 1, none⟩ = false) ∧ GrwX W0 (W'.setCell ⟨b, 1, none⟩ (.slice (some ⟨g', 0, none⟩) (vs.length + 1) cap')) b g (some ⟨g', 0, none⟩) cap' (vs ++ [y]) := by
  have k1 : Keep W0 W' := h.k.trans (below_own (Below.refl _ _) h.o gr h.k.size (Nat.le_refl _))
  have hr : some b ≠ (Value.slice rd vs.length rc).ownBlock := by
    intro e
    rcases own_block h.o.1 with ⟨rfl, _⟩ | ⟨k, rfl, _⟩
    · simp [Value.ownBlock] at e
    · simp [Value.ownBlock] at e; exact h.ne _ rfl e.symm
  have hblk := gr.block b h.lt hr
  have hne : g' ≠ b := by
    rcases hat with e | e
    · exact h.ne _ e
    · have := h.lt; omega
  have d0 : W'.cell? ⟨b, 0, none⟩ = some (.int .i64 g) := (World.cell?_of_block (w := W) hblk).trans h.c0
  have d1 : W'.cell? ⟨b, 1, none⟩ = some (.slice rd vs.length rc) := (World.cell?_of_block (w := W) hblk).trans h.c1
  have e0 : W'.frozen? ⟨b, 0, none⟩ = false := (World.frozen?_of_block (w := W) hblk).trans h.f0
  have e1 : W'.frozen? ⟨b, 1, none⟩ = false := (World.frozen?_of_block (w := W) hblk).trans h.f1
  have hlt := Nat.lt_of_lt_of_le h.lt gr.size
  refine ⟨⟨d1, e1⟩, ?_, ?_, by simpa using e0, by simpa using e1, by simpa using hlt, h.le, o.set (by show b ≠ g'; omega) _, fun a e => by simp at e; subst e; exact hne, k1.setCell (p := ⟨b, 1, none⟩) h.le _⟩
  · rw [World.cell?_setCell_other _ _ _ _ (by simp)]; exact d0
  · rw [List.length_append]; exact World.cell?_setCell_same _ _ _ d1
theorem grwX_nil (W0 W : World) (b : Nat) (g : Int) (c0 : W.cell? ⟨b, 0, none⟩ = some (.int .i64 g)) (c1 : W.cell? ⟨b, 1, none⟩ = some (.slice none 0 0)) (f0 : W.frozen? ⟨b, 0, none⟩ = false) (f1 : W.frozen? ⟨b, 1, none⟩ = false) (le : W0.heap.size ≤ b) (k : Keep W0 W) : GrwX W0 W b g none 0 [] :=
  ⟨c0, c1, f0, f1, block_lt_of_cell c0, le, Own.nil _ _, fun a h => by simp at h, k⟩
/-- The result's box, behind the last store. -/
theorem res_set {W : World} {b : Nat} {u0 u1 : Value} (h0 : W.cell? ⟨b, 0, none⟩ = some u0) (h1 : W.cell? ⟨b, 1, none⟩ = some u1) (v0 v1 : Value) :
    ((W.setCell ⟨b, 0, none⟩ v0).setCell ⟨b, 1, none⟩ v1).cell? ⟨b, 0, none⟩ = some v0 ∧ ((W.setCell ⟨b, 0, none⟩ v0).setCell ⟨b, 1, none⟩ v1).cell? ⟨b, 1, none⟩ = some v1 :=
  ⟨by rw [World.cell?_setCell_other _ _ _ _ (by simp), World.cell?_setCell_same _ _ _ h0], World.cell?_setCell_same _ _ _ (by rw [World.cell?_setCell_other _ _ _ _ (by simp)]; exact h1)⟩
theorem Own.set2 {W : World} {B b : Nat} {rd : Option Addr} {rc : Nat} {vs : List Int} (h : Own W B rd rc vs) (hb : b < B) (v0 v1 : Value) : Own ((W.setCell ⟨b, 0, none⟩ v0).setCell ⟨b, 1, none⟩ v1) B rd rc vs := by
  rcases own_block h.1 with ⟨rfl, h2, h3⟩ | ⟨k, rfl, h1, _⟩
  · obtain rfl : vs = [] := List.length_eq_zero_iff.1 h2
    first
      | (subst h3; exact Own.nil _ _)
      | exact ⟨h.1.kept (row := some b) (by
          exact grownBy_trans (Go.grownBy_setCell' W b v0) (Go.grownBy_setCell' _ b v1)) (.inl rfl), h.2⟩
  · exact (h.set (a := ⟨b, 0, none⟩) (by show b ≠ k; omega) _).set (a := ⟨b, 1, none⟩) (by show b ≠ k; omega) _
def hadOk (k : Int) : Bool := inB k 0 3
def hadG (k : Int) : Int := if hadOk k then ((2 ^ k.toNat : Nat) : Int) else 0
def hadV (k : Int) : List Int := if hadOk k then hadL (2 ^ k.toNat) (2 ^ k.toNat) else []
theorem pow3 {k : Int} (h : hadOk k = true) : ∃ n : Nat, k = n ∧ n ≤ 3 ∧ 1 ≤ 2 ^ n ∧ 2 ^ n ≤ 8 := by
  have := inB_iff.1 h
  obtain ⟨n, rfl⟩ : ∃ n : Nat, k = n := ⟨k.toNat, by omega⟩
  have hn : n ≤ 3 := by omega
  have h3 : 2 ^ n ≤ 2 ^ 3 := Nat.pow_le_pow_right (by omega) hn
  exact ⟨n, rfl, hn, Nat.one_le_two_pow, by simpa using h3⟩
theorem hadS_bd (j : Nat) {t : Nat} (ht : t ≤ 8) : hadS j t < 256 := by
  have h := hadS_lt j t
  have h3 : 2 ^ t ≤ 2 ^ 8 := Nat.pow_le_pow_right (by omega) ht
  omega
/-- One step of a set: the bit t, or not. -/
theorem had_step (j t : Nat) (hj : j < 8) (ht : t < 8) : ∃ c P : Nat, c = pc (t &&& j) ∧ P = 2 ^ t ∧ wrap64 ((2 : Int) ^ t) = (P : Int) ∧ P ≤ 256 ∧
    bits .or .i64 ((hadS j t : Nat) : Int) (P : Int) = ((hadS j t ||| P : Nat) : Int) ∧ bits .and .i64 (t : Int) (j : Int) = ((t &&& j : Nat) : Int) ∧ t &&& j < 4096 ∧ hadS j (t + 1) = if c % 2 = 0 then hadS j t ||| P else hadS j t := by
  have h3 : 2 ^ t ≤ 2 ^ 8 := Nat.pow_le_pow_right (by omega) (by omega)
  have h4 : t &&& j ≤ t := Nat.and_le_left
  refine ⟨_, _, rfl, rfl, ?_, by omega, ?_, i64_andX t j (by omega) (by omega), by omega, rfl⟩
  · rw [show ((2 : Int) ^ t) = ((2 ^ t : Nat) : Int) from by norm_cast]; generalize 2 ^ t = q at *; exact IntWalk.wrap64_in _ (by omega)
  · have := hadS_bd j (t := t) (by omega); exact i64_orX _ _ (by omega) (by omega)
end Go.Proofs.Ytomfhkpmdalknaa
