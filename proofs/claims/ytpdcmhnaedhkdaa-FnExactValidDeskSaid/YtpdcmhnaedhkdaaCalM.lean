/- Calendars in memory: what the laws' helpers do with a struct of two numbers and a slice of numbers. -/
import Derived.Test.YtpdcmhnaedhkdaaMem
namespace Go.Proofs.Ytpdcmhnaedhkdaa
open Go.ChangeShapes Go.WideShapes Go.ChangeAt Go.RowKit Go.Joins Go.Deep
set_option linter.unusedVariables false
/-- A calendar: its cycle, its common days, and its leap years in memory. -/
abbrev calV (g gh : Int) (ad : Option Addr) (n cap : Nat) : Value := .agg #[.int .i64 g, .int .i64 gh, .slice ad n cap]
/-- A box that holds a calendar. -/
structure BoxC (w : World) (b : Nat) (g gh : Int) (ad : Option Addr) (n cap : Nat) : Prop where
  c0 : w.cell? ⟨b, 0, none⟩ = some (.int .i64 g)
  c1 : w.cell? ⟨b, 1, none⟩ = some (.int .i64 gh)
  c2 : w.cell? ⟨b, 2, none⟩ = some (.slice ad n cap)
  lt : b < w.heap.size
theorem BoxC.keep {w w' : World} {b : Nat} {g gh : Int} {ad : Option Addr} {n cap : Nat} (h : BoxC w b g gh ad n cap) (k : Keep w w') : BoxC w' b g gh ad n cap := by
  have hb := block_lt_of_cell h.c0
  exact ⟨by rw [k.cell (by exact hb)]; exact h.c0, by rw [k.cell (by exact hb)]; exact h.c1, by rw [k.cell (by exact hb)]; exact h.c2, Nat.lt_of_lt_of_le h.lt k.size⟩
theorem BoxC.past {w w' : World} {b : Nat} {g gh : Int} {ad : Option Addr} {n cap : Nat} {lo2 hi2 : Nat} {ad2 : Option Addr} {cap2 n2 : Nat} {zs2 : List Int} (h : BoxC w b g gh ad n cap) (x : Mine w' lo2 hi2 ad2 cap2 zs2) (m : w.grownBy w' (Value.slice ad2 n2 cap2).ownBlock)
    (sep : b < lo2 ∨ hi2 ≤ b) : BoxC w' b g gh ad n cap := by
  have hr : some b ≠ (Value.slice ad2 n2 cap2).ownBlock := by
    rcases own_block x.own.1 with ⟨rfl, _⟩ | ⟨k2, rfl, h4, h5, _⟩
    · simp [Value.ownBlock]
    · have h6 := x.below k2 rfl
      simp [Value.ownBlock]; omega
  have e := m.block b h.lt hr
  exact ⟨by rw [World.cell?_of_block (w := w) e]; exact h.c0, by rw [World.cell?_of_block (w := w) e]; exact h.c1, by rw [World.cell?_of_block (w := w) e]; exact h.c2, Nat.lt_of_lt_of_le h.lt m.size⟩
/-- Out of the reading of an argument that is a struct of two numbers and a slice of numbers. -/
theorem cal_open {H : Type} {enc : TypeId × Value → H} {P : Program} {W : World} {t e : TypeId} {n0 n1 n2 : Field} {d : DataW H} {p : List MemPlace} {r : Reach} {b0 : Nat} {v : Value} (hs : P.underlying t = some (.struct #[n0, n1, n2])) (hone : oneCellFields P #[n0, n1, n2] = true) (hC : P.cellsOf t = 3)
    (h0 : P.underlying n0.type = some (.int .i64)) (h2 : P.underlying n2.type = some (.slice e)) (he : P.underlying e = some (.int .i64)) (hc : P.cellsOf e = 1) (hv : Value.okWide P W r b0 t v)
    (h : DataW.Trod enc P W 0 (fun _ => true) true t v d p) (h1 : P.underlying n1.type = some (.int .i64) := by kernel_rfl) : ∃ (g gh : Int) (ad : Option Addr) (cap : Nat) (zs : List Int), v = .agg #[.int .i64 g, .int .i64 gh, .slice ad zs.length cap] ∧ In64 g ∧ In64 gh ∧ Ints W ad zs := by
  obtain ⟨c0, c1, c2, y0, y1, y2, m, rfl, rfl, rfl, hy0, hy1, hy2⟩ := open_agg3 hs hone hC hv h
  obtain ⟨g, e0, rfl, wg⟩ := DataW.trod_int h0 hy0
  simp at e0; subst e0
  obtain ⟨gh, e1, rfl, wgh⟩ := DataW.trod_int h1 hy1
  simp at e1; subst e1
  obtain ⟨ad, len, cap, e2⟩ := slice_form h2 hy2
  simp at e2; subst e2
  obtain ⟨zs, rfl, hz⟩ := ints_open (ad := ad) (len := len) (cap := cap) h2 he hc ⟨_, by simpa [Value.cells] using hy2⟩
  exact ⟨g, gh, ad, cap, zs, rfl, in64 wg, in64 wgh, hz⟩
end Go.Proofs.Ytpdcmhnaedhkdaa
