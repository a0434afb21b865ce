/- A calendar that grows: a struct of two numbers and a list that an append makes longer; the years that are picked (pure). -/
import Derived.Test.YtomfhkpmdalknabCalM
import Derived.Test.YtomfhkpmdalknabStep
namespace Go.Proofs.Ytomfhkpmdalknab
open Go.ChangeShapes Go.WideShapes Go.ChangeAt Go.RowKit Go.Deep
set_option linter.unusedVariables false
/-- The numbers below n with a property. -/
def pickL (p : Nat → Bool) (n : Nat) : List Int := ((List.range n).filter p).map fun (i : Nat) => (i : Int)
theorem pickL_succ (p : Nat → Bool) (n : Nat) : pickL p (n + 1) = if p n then pickL p n ++ [(n : Int)] else pickL p n := by
  unfold pickL
  rw [List.range_succ, List.filter_append, List.map_append]
  by_cases c : p n
  · rw [if_pos c, List.filter_cons_of_pos c]; rfl
  · rw [if_neg c, List.filter_cons_of_neg c]; simp
theorem pickL_len (p : Nat → Bool) (n : Nat) : (pickL p n).length ≤ n := by
  unfold pickL; rw [List.length_map]
  exact Nat.le_trans (List.length_filter_le p (List.range n)) (by rw [List.length_range]; exact Nat.le_refl _)
theorem pickL_mem {p : Nat → Bool} {n : Nat} {z : Int} : z ∈ pickL p n ↔ ∃ i : Nat, z = i ∧ i < n ∧ p i = true := by
  unfold pickL
  rw [List.mem_map]
  constructor
  · rintro ⟨i, hi, rfl⟩
    have h := List.mem_filter.1 hi
    exact ⟨i, rfl, List.mem_range.1 h.1, h.2⟩
  · rintro ⟨i, rfl, hi, hp⟩
    exact ⟨i, List.mem_filter.2 ⟨List.mem_range.2 hi, hp⟩, rfl⟩
/-- A struct of two numbers and a list that grows, at block b; the list lies elsewhere, from the end of W0 on. -/
structure GrwC (W0 W : World) (b : Nat) (g gh : Int) (rd : Option Addr) (rc : Nat) (vs : List Int) : Prop where
  c0 : W.cell? ⟨b, 0, none⟩ = some (.int .i64 g)
  c1 : W.cell? ⟨b, 1, none⟩ = some (.int .i64 gh)
  c2 : W.cell? ⟨b, 2, none⟩ = some (.slice rd vs.length rc)
  f2 : W.frozen? ⟨b, 2, none⟩ = false
  lt : b < W.heap.size
  le : W0.heap.size ≤ b
  o : Own W W0.heap.size rd rc vs
  ne : ∀ a, rd = some a → a.block ≠ b
  k : Keep W0 W
theorem GrwC.keep {W0 W W' : World} {b : Nat} {g gh : Int} {rd : Option Addr} {rc : Nat} {vs : List Int} (h : GrwC W0 W b g gh rd rc vs) (k : Keep W W') : GrwC W0 W' b g gh rd rc vs :=
  ⟨(k.cell (p := ⟨b, 0, none⟩) h.lt).trans h.c0, (k.cell (p := ⟨b, 1, none⟩) h.lt).trans h.c1, (k.cell (p := ⟨b, 2, none⟩) h.lt).trans h.c2, (k.frozen (p := ⟨b, 2, none⟩) h.lt).trans h.f2, Nat.lt_of_lt_of_le h.lt k.size, h.le, h.o.keep k, h.ne, Keep.next h.k k⟩
theorem GrwC.app {W0 W W' : World} {b : Nat} {g gh : Int} {rd : Option Addr} {rc : Nat} {vs : List Int} {g' cap' : Nat} {y : Int} (h : GrwC W0 W b g gh rd rc vs)
    (o : Own W' W0.heap.size (some ⟨g', 0, none⟩) cap' (vs ++ [y])) (gr : W.grownBy W' (Value.slice rd vs.length rc).ownBlock) (hat : rd = some ⟨g', 0, none⟩ ∨ W.heap.size ≤ g') :
    (W'.cell? ⟨b, 2, none⟩ = some (.slice rd vs.length rc) ∧ W'.frozen? ⟨b, 2, none⟩ = false) ∧ GrwC W0 (W'.setCell ⟨b, 2, none⟩ (.slice (some ⟨g', 0, none⟩) (vs.length + 1) cap')) b g gh (some ⟨g', 0, none⟩) cap' (vs ++ [y]) := by
  have k1 : Keep W0 W' := h.k.trans (below_own (Below.refl _ _) h.o gr h.k.size (Nat.le_refl _))
  have hr : some b ≠ (Value.slice rd vs.length rc).ownBlock := by
    intro e
    rcases own_block h.o.1 with ⟨rfl, _⟩ | ⟨k, rfl, _⟩
    · simp [Value.ownBlock] at e
    · simp [Value.ownBlock] at e; exact h.ne _ rfl e.symm
  have hblk := gr.block b h.lt hr
  have hne : g' ≠ b := by
    rcases hat with e | e
    · exact h.ne _ e
    · have := h.lt; omega
  have d0 : W'.cell? ⟨b, 0, none⟩ = some (.int .i64 g) := (World.cell?_of_block (w := W) hblk).trans h.c0
  have d1 : W'.cell? ⟨b, 1, none⟩ = some (.int .i64 gh) := (World.cell?_of_block (w := W) hblk).trans h.c1
  have d2 : W'.cell? ⟨b, 2, none⟩ = some (.slice rd vs.length rc) := (World.cell?_of_block (w := W) hblk).trans h.c2
  have e2 : W'.frozen? ⟨b, 2, none⟩ = false := (World.frozen?_of_block (w := W) hblk).trans h.f2
  have hlt := Nat.lt_of_lt_of_le h.lt gr.size
  refine ⟨⟨d2, e2⟩, ?_, ?_, ?_, by simpa using e2, by simpa using hlt, h.le, o.set (by show b ≠ g'; omega) _, fun a e => by simp at e; subst e; exact hne, k1.setCell (p := ⟨b, 2, none⟩) h.le _⟩
  · rw [World.cell?_setCell_other _ _ _ _ (by simp)]; exact d0
  · rw [World.cell?_setCell_other _ _ _ _ (by simp)]; exact d1
  · rw [List.length_append]; exact World.cell?_setCell_same _ _ _ d2
/-- The result's box. -/
structure ResC (W : World) (b : Nat) (u0 u1 u2 : Value) : Prop where
  c0 : W.cell? ⟨b, 0, none⟩ = some u0
  c1 : W.cell? ⟨b, 1, none⟩ = some u1
  c2 : W.cell? ⟨b, 2, none⟩ = some u2
  f0 : W.frozen? ⟨b, 0, none⟩ = false
  f1 : W.frozen? ⟨b, 1, none⟩ = false
  f2 : W.frozen? ⟨b, 2, none⟩ = false
theorem ResC.lt {W : World} {b : Nat} {u0 u1 u2 : Value} (h : ResC W b u0 u1 u2) : b < W.heap.size := World.block_lt_of_cell? _ _ h.c0
theorem ResC.keep {W W' : World} {b : Nat} {u0 u1 u2 : Value} (h : ResC W b u0 u1 u2) {B : Nat} (k : Below B W W') (hb : b < B) : ResC W' b u0 u1 u2 :=
  ⟨(k.cell (p := ⟨b, 0, none⟩) hb).trans h.c0, (k.cell (p := ⟨b, 1, none⟩) hb).trans h.c1, (k.cell (p := ⟨b, 2, none⟩) hb).trans h.c2, (k.frozen (p := ⟨b, 0, none⟩) hb).trans h.f0, (k.frozen (p := ⟨b, 1, none⟩) hb).trans h.f1, (k.frozen (p := ⟨b, 2, none⟩) hb).trans h.f2⟩
theorem ResC.new (W : World) (u0 u1 u2 : Value) (T : Nat) : ResC (W.alloc (.cells #[u0, u1, u2] T)) W.heap.size u0 u1 u2 := ⟨by simp, by simp, by simp, by simp, by simp, by simp⟩
theorem ResC.put {W : World} {b : Nat} {u0 u1 u2 : Value} (h : ResC W b u0 u1 u2) (v0 v1 v2 : Value) : ResC (((W.setCell ⟨b, 0, none⟩ v0).setCell ⟨b, 1, none⟩ v1).setCell ⟨b, 2, none⟩ v2) b v0 v1 v2 := by
  refine ⟨?_, ?_, ?_, by simpa using h.f0, by simpa using h.f1, by simpa using h.f2⟩
  · rw [World.cell?_setCell_other _ _ _ _ (by simp), World.cell?_setCell_other _ _ _ _ (by simp), World.cell?_setCell_same _ _ _ h.c0]
  · rw [World.cell?_setCell_other _ _ _ _ (by simp), World.cell?_setCell_same _ _ _ (by rw [World.cell?_setCell_other _ _ _ _ (by simp)]; exact h.c1)]
  · exact World.cell?_setCell_same _ _ _ (by rw [World.cell?_setCell_other _ _ _ _ (by simp), World.cell?_setCell_other _ _ _ _ (by simp)]; exact h.c2)
theorem keep_put3 {W0 W : World} {b B : Nat} (k : Below B W0 W) (hb : B ≤ b) (v0 v1 v2 : Value) : Below B W0 (((W.setCell ⟨b, 0, none⟩ v0).setCell ⟨b, 1, none⟩ v1).setCell ⟨b, 2, none⟩ v2) :=
  ((k.setCell (p := ⟨b, 0, none⟩) hb v0).setCell (p := ⟨b, 1, none⟩) hb v1).setCell (p := ⟨b, 2, none⟩) hb v2
theorem Own.set3 {W : World} {B b : Nat} {rd : Option Addr} {rc : Nat} {vs : List Int} (h : Own W B rd rc vs) (hb : b < B) (v0 v1 v2 : Value) : Own (((W.setCell ⟨b, 0, none⟩ v0).setCell ⟨b, 1, none⟩ v1).setCell ⟨b, 2, none⟩ v2) B rd rc vs := by
  rcases own_block h.1 with ⟨rfl, h2, h3⟩ | ⟨k, rfl, h1, _⟩
  · obtain rfl : vs = [] := List.length_eq_zero_iff.1 h2
    subst h3; exact Own.nil _ _
  · exact ((h.set (a := ⟨b, 0, none⟩) (by show b ≠ k; omega) _).set (a := ⟨b, 1, none⟩) (by show b ≠ k; omega) _).set (a := ⟨b, 2, none⟩) (by show b ≠ k; omega) _
def coB (g gh : Int) : Bool := inB g 1 400 && inB gh 1 1000
def coG (g gh : Int) : Int := if coB g gh then g else 0
def coH (g gh : Int) : Int := if coB g gh then gh else 0
def coL (g gh : Int) (p : Nat → Bool) : List Int := if coB g gh then pickL p g.toNat else []
theorem ints_nil (w : World) : Ints w none [] := ⟨by simp, by simp, .inl rfl⟩
end Go.Proofs.Ytomfhkpmdalknab
