/- Calendars in memory: what the laws' helpers do with a struct of two numbers and a slice of numbers. -/
import Derived.Test.YtomfhkpmdalknaaMem
namespace Go.Proofs.Ytomfhkpmdalknaa
open Go.ChangeShapes Go.WideShapes Go.ChangeAt Go.RowKit Go.Joins Go.Deep
set_option linter.unusedVariables false
/-- A calendar: its cycle, its common days, and its leap years in memory. -/
abbrev calV (g gh : Int) (ad : Option Addr) (n cap : Nat) : Value := .agg #[.int .i64 g, .int .i64 gh, .slice ad n cap]
/-- A box that holds a calendar. -/
structure BoxC (w : World) (b : Nat) (g gh : Int) (ad : Option Addr) (n cap : Nat) : Prop where
  c0 : w.cell? ⟨b, 0, none⟩ = some (.int .i64 g)
  c1 : w.cell? ⟨b, 1, none⟩ = some (.int .i64 gh)
  c2 : w.cell? ⟨b, 2, none⟩ = some (.slice ad n cap)
  lt : b < w.heap.size
theorem BoxC.keep {w w' : World} {b : Nat} {g gh : Int} {ad : Option Addr} {n cap : Nat} (h : BoxC w b g gh ad n cap) (k : Keep w w') : BoxC w' b g gh ad n cap := by
  have hb := block_lt_of_cell h.c0
  exact ⟨by rw [k.cell (by exact hb)]; exact h.c0, by rw [k.cell (by exact hb)]; exact h.c1, by rw [k.cell (by exact hb)]; exact h.c2, Nat.lt_of_lt_of_le h.lt k.size⟩
theorem BoxC.past {w w' : World} {b : Nat} {g gh : Int} {ad : Option Addr} {n cap : Nat} {lo2 hi2 : Nat} {ad2 : Option Addr} {cap2 n2 : Nat} {zs2 : List Int} (h : BoxC w b g gh ad n cap) (x : Mine w' lo2 hi2 ad2 cap2 zs2) (m : w.grownBy w' (Value.slice ad2 n2 cap2).ownBlock)
    (sep : b < lo2 ∨ hi2 ≤ b) : BoxC w' b g gh ad n cap := by
  have hr : some b ≠ (Value.slice ad2 n2 cap2).ownBlock := by
    rcases own_block x.own.1 with ⟨rfl, _⟩ | ⟨k2, rfl, h4, h5, _⟩
    · simp [Value.ownBlock]
    · have h6 := x.below k2 rfl
      simp [Value.ownBlock]; omega
  have e := m.block b h.lt hr
  exact ⟨by rw [World.cell?_of_block (w := w) e]; exact h.c0, by rw [World.cell?_of_block (w := w) e]; exact h.c1, by rw [World.cell?_of_block (w := w) e]; exact h.c2, Nat.lt_of_lt_of_le h.lt m.size⟩
/-- Out of the reading of an argument that is a struct of two numbers and a slice of numbers. -/
theorem cal_open {H : Type} {enc : TypeId × Value → H} {P : Program} {W : World} {t e : TypeId} {n0 n1 n2 : Field} {d : DataW H} {p : List MemPlace} {r : Reach} {b0 : Nat} {v : Value} (hs : P.underlying t = some (.struct #[n0, n1, n2])) (hone : oneCellFields P #[n0, n1, n2] = true) (hC : P.cellsOf t = 3)
    (h0 : P.underlying n0.type = some (.int .i64)) (h2 : P.underlying n2.type = some (.slice e)) (he : P.underlying e = some (.int .i64)) (hc : P.cellsOf e = 1) (hv : Value.okWide P W r b0 t v)
    (h : DataW.Trod enc P W 0 (fun _ => true) true t v d p) (h1 : P.underlying n1.type = some (.int .i64) := by kernel_rfl) : ∃ (g gh : Int) (ad : Option Addr) (cap : Nat) (zs : List Int), v = .agg #[.int .i64 g, .int .i64 gh, .slice ad zs.length cap] ∧ In64 g ∧ In64 gh ∧ Ints W ad zs := by
  obtain ⟨c0, c1, c2, y0, y1, y2, m, rfl, rfl, rfl, hy0, hy1, hy2⟩ := open_agg3 hs hone hC hv h
  obtain ⟨g, e0, rfl, wg⟩ := DataW.trod_int h0 hy0
  simp at e0; subst e0
  obtain ⟨gh, e1, rfl, wgh⟩ := DataW.trod_int h1 hy1
  simp at e1; subst e1
  obtain ⟨ad, len, cap, e2⟩ := slice_form h2 hy2
  simp at e2; subst e2
  obtain ⟨zs, rfl, hz⟩ := ints_open (ad := ad) (len := len) (cap := cap) h2 he hc ⟨_, by simpa [Value.cells] using hy2⟩
  exact ⟨g, gh, ad, cap, zs, rfl, in64 wg, in64 wgh, hz⟩
theorem szCalendar_any (g gh : Int) (ad : Option Addr) (cap n : Nat) (left : Int) (w : World) (h1 : 0 ≤ left) (h2 : left ≤ 1048576) (hn : n ≤ 9223372036854775807) :
    Calls Try.prog 15 #[.agg #[.int .i64 g, .int .i64 gh, .slice ad n cap], .int .i64 left] w fun e w' => e = .returned (.int .i64 (if left < n then -1 else left - n)) ∧ Keep w w' := by
  by_cases h : left < n
  · rw [if_pos h]
    go_enter Try.func15, Try.ntmps15
    go_wp2_with (go_at_call 58; refine (szInt64S_any _ _ _ _ _ h1 h2 hn).mono ?_; rw [if_pos h]; rintro e w' ⟨rfl, rfl⟩)
    go_ret
    exact ⟨rfl, by go_grown⟩
  · rw [if_neg h]
    go_enter Try.func15, Try.ntmps15
    go_wp2_with (go_at_call 58; refine (szInt64S_any _ _ _ _ _ h1 h2 hn).mono ?_; rw [if_neg h]; rintro e w' ⟨rfl, rfl⟩)
    go_ret
    exact ⟨rfl, by go_grown⟩
set_option maxHeartbeats 400000 in
theorem toCalendar_any (g gh : Int) (ad : Option Addr) (cap : Nat) (zs : List Int) (w : World) (hz : Ints w ad zs) (hs : zs.length ≤ 1099511627776) :
    Calls Try.prog 17 #[calV g gh ad zs.length cap] w fun e w' =>
      ∃ b, e = .returned (calV g gh (some ⟨b, 0, none⟩) zs.length zs.length) ∧ Own w' w.heap.size (some ⟨b, 0, none⟩) zs.length zs ∧ Keep w w' := by
  go_enter Try.func17, Try.ntmps17
  go_wp2_with fail
  refine (toInt64S_any ad cap zs _ (hz.keep (B := w.heap.size) (by go_grown) (Nat.le_refl _)) hs).mono ?_
  rintro e w1 ⟨rfl, hown, hkeep⟩
  obtain ⟨hc, hf⟩ := bcell hkeep
  have hk1 : Below w.heap.size w w1 := (Below.trans (by go_grown) (hkeep.mono (by simp; omega)))
  have hown := hown.mono (B' := w.heap.size) (by simp; omega)
  simp only [World.size_alloc] at hown ⊢
  have HO := Lib.hid hown; clear hown
  have HK := Lib.hid hkeep; clear hkeep
  go_wp2
  refine bodyPost_ret (v := calV g gh (some ⟨w.heap.size + 1 + 1 + 1, 0, none⟩) zs.length zs.length) (by simp [results, Try.results17, go_sem, hc]) rfl ?_
  exact ⟨_, rfl, (((HO.out.set (by simp) _).set (by simp) _).set (by simp) _).set (by simp) _, (((hk1.setCell (by simp; omega) _).setCell (by simp) _).setCell (by simp) _).setCell (by simp) _⟩
theorem eqCalendar_any (g1 g2 gh1 gh2 : Int) (ad bd : Option Addr) (ca cb : Nat) (xs ys : List Int) (w : World) (ha : Ints w ad xs) (hb : Ints w bd ys) :
    Calls Try.prog 19 #[calV g1 gh1 ad xs.length ca, calV g2 gh2 bd ys.length cb] w fun e w' => e = .returned (.bool (decide (g1 = g2) && (decide (gh1 = gh2) && eqB xs ys))) ∧ Keep w w' := by
  by_cases hg : g1 = g2
  · subst hg
    have hne : (g1 != g1) = false := by simp
    rw [decide_eq_true rfl, Bool.true_and]
    by_cases hgh : gh1 = gh2
    · subst hgh
      have hne2 : (gh1 != gh1) = false := by simp
      have hbl : Below w.heap.size w ((w.alloc (.cells #[.int .i64 g1, .int .i64 gh1, .slice ad xs.length ca] 27)).alloc (.cells #[.int .i64 g1, .int .i64 gh1, .slice bd ys.length cb] 27)) := by go_grown
      rw [decide_eq_true rfl, Bool.true_and]
      cases hq : eqB xs ys
      all_goals
        go_enter Try.func19, Try.ntmps19
        go_wp2_with fail
        refine (eqInt64S_any ad bd ca cb xs ys _ (ha.keep hbl (Nat.le_refl _)) (hb.keep hbl (Nat.le_refl _))).mono ?_
        rw [hq]
        rintro e w1 ⟨rfl, hk⟩
        have hk1 : Below w.heap.size w w1 := (Below.trans hbl (hk.mono (by simp <;> omega)))
        go_wp2
        go_ret
        exact ⟨rfl, hk1⟩
    · have hne2 : (gh1 != gh2) = true := by simp [hgh]
      rw [decide_eq_false hgh, Bool.false_and]
      go_enter Try.func19, Try.ntmps19
      go_wp2
      go_ret
      exact ⟨rfl, by go_grown⟩
  · have hne : (g1 != g2) = true := by simp [hg]
    rw [decide_eq_false hg, Bool.false_and]
    go_enter Try.func19, Try.ntmps19
    go_wp2
    go_ret
    exact ⟨rfl, by go_grown⟩
theorem eqCalendar_same (g gh : Int) (ad bd : Option Addr) (ca cb : Nat) (xs : List Int) (w : World) (ha : Ints w ad xs) (hb : Ints w bd xs) :
    Calls Try.prog 19 #[calV g gh ad xs.length ca, calV g gh bd xs.length cb] w fun e w' => e = .returned (.bool true) ∧ Keep w w' := by
  have h := eqCalendar_any g g gh gh ad bd ca cb xs xs w ha hb
  rw [show (decide (g = g) && (decide (gh = gh) && eqB xs xs)) = true from by simp [eqB]] at h
  exact h
theorem markCalendar_any (B : Nat) (g gh : Int) (ad : Option Addr) (cap : Nat) (zs : List Int) (k : Int) (w : World) (h : Own w B ad cap zs) (hk : -1099511627776 ≤ k) (hk2 : k ≤ 35184372088832) (hs : zs.length ≤ 1099511627776) :
    Calls Try.prog 37 #[calV g gh ad zs.length cap, .int .i64 k] w fun e w' =>
      e = .returned (.int .i64 (k + zs.length)) ∧ Own w' B ad cap (ups k zs.length) ∧ w.grownBy w' (Value.slice ad zs.length cap).ownBlock := by
  go_enter Try.func37, Try.ntmps37
  go_wp2_with fail
  refine (markInt64S_any B ad cap zs k _ (h.keep (by go_grown)) hk hk2 hs).mono ?_
  rintro e w1 ⟨rfl, ho, hgr, _⟩
  go_wp2
  go_ret
  refine ⟨rfl, ho, ?_⟩
  exact grownBy_trans (keep_grown (by go_grown) _) hgr
theorem heldCalendar_any (g gh : Int) (ad : Option Addr) (cap : Nat) (k : Int) (n : Nat) (w : World) (h : Ints w ad (ups k n)) (hk : -1099511627776 ≤ k) (hk2 : k ≤ 35184372088832) (hs : n ≤ 1099511627776) (h0 : 0 ≤ k) :
    Calls Try.prog 38 #[calV g gh ad n cap, .int .i64 k] w fun e w' => e = .returned (.int .i64 (k + n)) ∧ Keep w w' := by
  have hnn : ¬ (k + (n : Int) < 0) := by omega
  have hbl : Below w.heap.size w (w.alloc (.cells #[.int .i64 g, .int .i64 gh, .slice ad n cap] 27)) := by go_grown
  go_enter Try.func38, Try.ntmps38
  go_wp2_with fail
  refine (heldInt64S_any ad cap k n _ (h.keep hbl (Nat.le_refl _)) hk hk2 hs).mono ?_
  rintro e w1 ⟨rfl, hk⟩
  have hk1 : Below w.heap.size w w1 := (Below.trans hbl (hk.mono (by simp <;> omega)))
  go_wp2
  go_ret
  exact ⟨rfl, hk1⟩
end Go.Proofs.Ytomfhkpmdalknaa
