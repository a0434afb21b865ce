/- Tables: a denominator and rows of numbers; the laws' helpers on them. -/
import Derived.Test.YtjoanfgchapbaaaLists
namespace Go.Proofs.Ytjoanfgchapbaaa
open Go.ChangeShapes Go.WideShapes Go.ChangeAt Go.RowKit Go.Joins Go.Deep
set_option linter.unusedVariables false
theorem tables_open {H : Type} {enc : TypeId × Value → H} {P : Program} {W : World} {t e q : TypeId} {n0 n1 : Field} {d : DataW H} {p : List MemPlace} {r : Reach} {b0 : Nat} {v : Value} (hs : P.underlying t = some (.struct #[n0, n1])) (hone : oneCellFields P #[n0, n1] = true) (hC : P.cellsOf t = 2)
    (h0 : P.underlying n0.type = some (.int .i64)) (h1 : P.underlying n1.type = some (.slice e)) (he : P.underlying e = some (.slice q)) (hq : P.underlying q = some (.int .i64)) (ce : P.cellsOf e = 1) (cq : P.cellsOf q = 1) (hv : Value.okWide P W r b0 t v)
    (h : DataW.Trod enc P W 0 (fun _ => true) true t v d p) : ∃ (g : Int) (ad : Option Addr) (cap : Nat) (zss : List (List Int)), v = .agg #[.int .i64 g, .slice ad zss.length cap] ∧ In64 g ∧ Intss W ad zss := by
  obtain ⟨c0, c1, y0, y1, m, rfl, rfl, rfl, hy0, hy1⟩ := open_agg2 hs hone hC hv h
  obtain ⟨g, e0, rfl, wg⟩ := DataW.trod_int h0 hy0
  simp at e0; subst e0
  obtain ⟨ad, len, cap, e1⟩ := slice_form h1 hy1
  simp at e1; subst e1
  obtain ⟨zss, rfl, hz⟩ := intss_open (ad := ad) (len := len) (cap := cap) h1 he hq ce cq ⟨_, by simpa [Value.cells] using hy1⟩
  exact ⟨g, ad, cap, zss, rfl, in64 wg, hz⟩
theorem OwnSS.setc {w : World} {B : Nat} {G : Nat → Nat} {zss : List (List Int)} (h : OwnSS w B G zss) {a : Addr} (ha : a.block < B) (u : Value) : OwnSS (w.setCell a u) B G zss := by
  refine ⟨h.small, ownsRow_setCell_other h.row (by simp [Value.ownBlock]; omega) u, by simpa using h.lt, fun j hj => ?_, h.rise⟩
  have := h.each j hj
  rcases own_block this.1 with ⟨e, _⟩ | ⟨g, e, h2, _⟩
  · cases e
  · simp at e; exact this.set (by omega) u
end Go.Proofs.Ytjoanfgchapbaaa
