/- Tables: a denominator and rows of numbers; the laws' helpers on them. -/
import Derived.Test.YtpdcmhnaedhkdaaDoorLists
namespace Go.Proofs.YtpdcmhnaedhkdaaDoor
open Go.ChangeShapes Go.WideShapes Go.ChangeAt Go.RowKit Go.Joins Go.Deep
set_option linter.unusedVariables false
theorem tables_open {H : Type} {enc : TypeId × Value → H} {P : Program} {W : World} {t e q : TypeId} {n0 n1 : Field} {d : DataW H} {p : List MemPlace} {r : Reach} {b0 : Nat} {v : Value} (hs : P.underlying t = some (.struct #[n0, n1])) (hone : oneCellFields P #[n0, n1] = true) (hC : P.cellsOf t = 2)
    (h0 : P.underlying n0.type = some (.int .i64)) (h1 : P.underlying n1.type = some (.slice e)) (he : P.underlying e = some (.slice q)) (hq : P.underlying q = some (.int .i64)) (ce : P.cellsOf e = 1) (cq : P.cellsOf q = 1) (hv : Value.okWide P W r b0 t v)
    (h : DataW.Trod enc P W 0 (fun _ => true) true t v d p) : ∃ (g : Int) (ad : Option Addr) (cap : Nat) (zss : List (List Int)), v = .agg #[.int .i64 g, .slice ad zss.length cap] ∧ In64 g ∧ Intss W ad zss := by
  obtain ⟨c0, c1, y0, y1, m, rfl, rfl, rfl, hy0, hy1⟩ := open_agg2 hs hone hC hv h
  obtain ⟨g, e0, rfl, wg⟩ := DataW.trod_int h0 hy0
  simp at e0; subst e0
  obtain ⟨ad, len, cap, e1⟩ := slice_form h1 hy1
  simp at e1; subst e1
  obtain ⟨zss, rfl, hz⟩ := intss_open (ad := ad) (len := len) (cap := cap) h1 he hq ce cq ⟨_, by simpa [Value.cells] using hy1⟩
  exact ⟨g, ad, cap, zss, rfl, in64 wg, hz⟩
theorem OwnSS.setc {w : World} {B : Nat} {G : Nat → Nat} {zss : List (List Int)} (h : OwnSS w B G zss) {a : Addr} (ha : a.block < B) (u : Value) : OwnSS (w.setCell a u) B G zss := by
  refine ⟨h.small, ownsRow_setCell_other h.row (by simp [Value.ownBlock]; omega) u, by simpa using h.lt, fun j hj => ?_, h.rise⟩
  have := h.each j hj
  rcases own_block this.1 with ⟨e, _⟩ | ⟨g, e, h2, _⟩
  · cases e
  · simp at e; exact this.set (by omega) u
theorem szTable_ex (g : Int) (ad : Option Addr) (cap : Nat) (zss : List (List Int)) (left : Int) (w : World) (hz : Intss w ad zss) (h1 : 0 ≤ left) (h2 : left ≤ 1048576) :
    Calls Tryd.prog 17 #[valV g ad zss.length cap, .int .i64 left] w fun e w' => e = .returned (.int .i64 (if left < (zss.length : Int) + tot zss then -1 else left - zss.length - tot zss)) ∧ Keep w w' := by
  have hbl : Below w.heap.size w (w.alloc (.cells #[.int .i64 g, .slice ad zss.length cap] 46)) := by go_grown
  by_cases h : left < (zss.length : Int) + tot zss
  · rw [if_pos h]
    go_enter Tryd.func17, Tryd.ntmps17
    go_wp2_with fail
    refine (szInt64SS_ex ad cap zss left _ (hz.keep hbl (Nat.le_refl _)) h1 h2).mono ?_
    rw [if_pos h]
    rintro e w1 ⟨rfl, k1⟩
    have hk1 : Below w.heap.size w w1 := (Below.trans hbl (k1.mono (by simp <;> omega)))
    go_wp2
    go_ret
    exact ⟨rfl, hk1⟩
  · rw [if_neg h]
    have hnn : ¬ (left - (zss.length : Int) - (tot zss : Int) < 0) := by omega
    go_enter Tryd.func17, Tryd.ntmps17
    go_wp2_with fail
    refine (szInt64SS_ex ad cap zss left _ (hz.keep hbl (Nat.le_refl _)) h1 h2).mono ?_
    rw [if_neg (by omega)]
    rintro e w1 ⟨rfl, k1⟩
    have hk1 : Below w.heap.size w w1 := (Below.trans hbl (k1.mono (by simp <;> omega)))
    go_wp2
    go_ret
    exact ⟨rfl, hk1⟩
theorem toTable_ex (g : Int) (ad : Option Addr) (cap : Nat) (zss : List (List Int)) (w : World) (hz : Intss w ad zss) (hs : zss.length ≤ 1099511627776) (hss : tot zss ≤ 1099511627776) :
    Calls Tryd.prog 19 #[valV g ad zss.length cap] w fun e w' =>
      ∃ b G, e = .returned (valV g (some ⟨b, 0, none⟩) zss.length zss.length) ∧ (w.heap.size ≤ b ∧ OwnSS w' b G zss) ∧ Keep w w' := by
  go_enter Tryd.func19, Tryd.ntmps19
  go_wp2_with fail
  refine (toInt64SS_any ad cap zss _ (hz.keep (B := w.heap.size) (by go_grown) (Nat.le_refl _)) hs hss).mono ?_
  rintro e w1 ⟨rfl, ⟨G, hown⟩, hkeep⟩
  obtain ⟨hc, hf⟩ := bcell hkeep
  have hk1 : Below w.heap.size w w1 := (Below.trans (by go_grown) (hkeep.mono (by simp; omega)))
  simp only [World.size_alloc] at hown ⊢
  have HO := Lib.hid hown; clear hown
  have HK := Lib.hid hkeep; clear hkeep
  go_wp2
  refine bodyPost_ret (v := valV g (some ⟨w.heap.size + 1 + 1 + 1, 0, none⟩) zss.length zss.length) (by simp [results, Tryd.results19, go_sem, hc]) rfl ?_
  exact ⟨_, G, rfl, ⟨by omega, ((HO.out.setc (by simp) _).setc (by simp) _).setc (by simp) _⟩, ((hk1.setCell (by simp; omega) _).setCell (by simp) _).setCell (by simp) _⟩
theorem eqTable_same (g : Int) (ad bd : Option Addr) (ca cb : Nat) (zss : List (List Int)) (w : World) (ha : Intss w ad zss) (hb : Intss w bd zss) :
    Calls Tryd.prog 21 #[valV g ad zss.length ca, valV g bd zss.length cb] w fun e w' => e = .returned (.bool true) ∧ Keep w w' := by
  have hne : (g != g) = false := by simp
  have hbl : Below w.heap.size w ((w.alloc (.cells #[.int .i64 g, .slice ad zss.length ca] 49)).alloc (.cells #[.int .i64 g, .slice bd zss.length cb] 49)) := by go_grown
  go_enter Tryd.func21, Tryd.ntmps21
  go_wp2_with fail
  refine (eqInt64SS_same ad bd ca cb zss _ (ha.keep hbl (Nat.le_refl _)) (hb.keep hbl (Nat.le_refl _))).mono ?_
  rintro e w1 ⟨rfl, hk⟩
  have hk1 : Below w.heap.size w w1 := (Below.trans hbl (hk.mono (by simp <;> omega)))
  go_wp2
  go_ret
  exact ⟨rfl, hk1⟩
end Go.Proofs.YtpdcmhnaedhkdaaDoor
