/- Mixtures as arguments: a slice of numbers and a slice of rows; the laws' helpers on them. -/
import Derived.Test.YtpdcmhnaedhkdaaLists
namespace Go.Proofs.Ytpdcmhnaedhkdaa
open Go.ChangeShapes Go.WideShapes Go.ChangeAt Go.RowKit Go.Joins Go.Deep
set_option linter.unusedVariables false
abbrev mixV (ad : Option Addr) (n cap : Nat) (bd : Option Addr) (m bcap : Nat) : Value := .agg #[.slice ad n cap, .slice bd m bcap]
/-- A box that holds a struct of two slices. -/
structure BoxM (w : World) (b : Nat) (ad : Option Addr) (n cap : Nat) (bd : Option Addr) (m bcap : Nat) : Prop where
  c0 : w.cell? ⟨b, 0, none⟩ = some (.slice ad n cap)
  c1 : w.cell? ⟨b, 1, none⟩ = some (.slice bd m bcap)
  lt : b < w.heap.size
theorem BoxM.keep {w w' : World} {b : Nat} {ad bd : Option Addr} {n cap m bcap : Nat} (h : BoxM w b ad n cap bd m bcap) (k : Keep w w') : BoxM w' b ad n cap bd m bcap :=
  ⟨(k.cell (p := ⟨b, 0, none⟩) (by exact h.lt)).trans h.c0, (k.cell (p := ⟨b, 1, none⟩) (by exact h.lt)).trans h.c1, Nat.lt_of_lt_of_le h.lt k.size⟩
theorem mix_open {H : Type} {enc : TypeId × Value → H} {P : Program} {W : World} {t e e2 q : TypeId} {n0 n1 : Field} {d : DataW H} {p : List MemPlace} {r : Reach} {b0 : Nat} {v : Value} (hs : P.underlying t = some (.struct #[n0, n1])) (hone : oneCellFields P #[n0, n1] = true) (hC : P.cellsOf t = 2)
    (h0 : P.underlying n0.type = some (.slice e)) (he0 : P.underlying e = some (.int .i64)) (hc0 : P.cellsOf e = 1) (h1 : P.underlying n1.type = some (.slice e2)) (he : P.underlying e2 = some (.slice q)) (hq : P.underlying q = some (.int .i64)) (ce : P.cellsOf e2 = 1) (cq : P.cellsOf q = 1) (hv : Value.okWide P W r b0 t v)
    (h : DataW.Trod enc P W 0 (fun _ => true) true t v d p) : ∃ (ad : Option Addr) (cap : Nat) (zs : List Int) (bd : Option Addr) (bcap : Nat) (zss : List (List Int)), v = mixV ad zs.length cap bd zss.length bcap ∧ Ints W ad zs ∧ Intss W bd zss := by
  obtain ⟨c0, c1, y0, y1, m, rfl, rfl, rfl, hy0, hy1⟩ := open_agg2 hs hone hC hv h
  obtain ⟨ad, len, cap, e0⟩ := slice_form h0 hy0
  simp at e0; subst e0
  obtain ⟨zs, rfl, hz⟩ := ints_open (ad := ad) (len := len) (cap := cap) h0 he0 hc0 ⟨_, by simpa [Value.cells] using hy0⟩
  obtain ⟨bd, len2, bcap, e1⟩ := slice_form h1 hy1
  simp at e1; subst e1
  obtain ⟨zss, rfl, hz2⟩ := intss_open (ad := bd) (len := len2) (cap := bcap) h1 he hq ce cq ⟨_, by simpa [Value.cells] using hy1⟩
  exact ⟨ad, cap, zs, bd, bcap, zss, rfl, hz, hz2⟩
theorem Mine.lower {w : World} {lo lo' hi : Nat} {ad : Option Addr} {cap : Nat} {zs : List Int} (h : lo' ≤ lo) (m : Mine w lo hi ad cap zs) : Mine w lo' hi ad cap zs := ⟨m.own.mono h, m.below⟩
theorem OwnSS.setm {w : World} {B : Nat} {G : Nat → Nat} {zss : List (List Int)} (h : OwnSS w B G zss) {a : Addr} (ha : a.block < B) (u : Value) : OwnSS (w.setCell a u) B G zss := by
  refine ⟨h.small, ownsRow_setCell_other h.row (by simp [Value.ownBlock]; omega) u, by simpa using h.lt, fun j hj => ?_, h.rise⟩
  have := h.each j hj
  rcases own_block this.1 with ⟨e, _⟩ | ⟨g, e, h2, _⟩
  · cases e
  · simp at e; exact this.set (by omega) u
end Go.Proofs.Ytpdcmhnaedhkdaa
