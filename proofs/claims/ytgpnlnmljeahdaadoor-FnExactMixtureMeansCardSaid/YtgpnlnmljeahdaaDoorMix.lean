/- Mixtures as arguments: a slice of numbers and a slice of rows; the laws' helpers on them. -/
import Derived.Test.YtgpnlnmljeahdaaDoorLists
namespace Go.Proofs.YtgpnlnmljeahdaaDoor
open Go.ChangeShapes Go.WideShapes Go.ChangeAt Go.RowKit Go.Joins Go.Deep
set_option linter.unusedVariables false
abbrev mixV (ad : Option Addr) (n cap : Nat) (bd : Option Addr) (m bcap : Nat) : Value := .agg #[.slice ad n cap, .slice bd m bcap]
/-- A box that holds a struct of two slices. -/
structure BoxM (w : World) (b : Nat) (ad : Option Addr) (n cap : Nat) (bd : Option Addr) (m bcap : Nat) : Prop where
  c0 : w.cell? ⟨b, 0, none⟩ = some (.slice ad n cap)
  c1 : w.cell? ⟨b, 1, none⟩ = some (.slice bd m bcap)
  lt : b < w.heap.size
theorem BoxM.keep {w w' : World} {b : Nat} {ad bd : Option Addr} {n cap m bcap : Nat} (h : BoxM w b ad n cap bd m bcap) (k : Keep w w') : BoxM w' b ad n cap bd m bcap :=
  ⟨(k.cell (p := ⟨b, 0, none⟩) (by exact h.lt)).trans h.c0, (k.cell (p := ⟨b, 1, none⟩) (by exact h.lt)).trans h.c1, Nat.lt_of_lt_of_le h.lt k.size⟩
theorem mix_open {H : Type} {enc : TypeId × Value → H} {P : Program} {W : World} {t e e2 q : TypeId} {n0 n1 : Field} {d : DataW H} {p : List MemPlace} {r : Reach} {b0 : Nat} {v : Value} (hs : P.underlying t = some (.struct #[n0, n1])) (hone : oneCellFields P #[n0, n1] = true) (hC : P.cellsOf t = 2)
    (h0 : P.underlying n0.type = some (.slice e)) (he0 : P.underlying e = some (.int .i64)) (hc0 : P.cellsOf e = 1) (h1 : P.underlying n1.type = some (.slice e2)) (he : P.underlying e2 = some (.slice q)) (hq : P.underlying q = some (.int .i64)) (ce : P.cellsOf e2 = 1) (cq : P.cellsOf q = 1) (hv : Value.okWide P W r b0 t v)
    (h : DataW.Trod enc P W 0 (fun _ => true) true t v d p) : ∃ (ad : Option Addr) (cap : Nat) (zs : List Int) (bd : Option Addr) (bcap : Nat) (zss : List (List Int)), v = mixV ad zs.length cap bd zss.length bcap ∧ Ints W ad zs ∧ Intss W bd zss := by
  obtain ⟨c0, c1, y0, y1, m, rfl, rfl, rfl, hy0, hy1⟩ := open_agg2 hs hone hC hv h
  obtain ⟨ad, len, cap, e0⟩ := slice_form h0 hy0
  simp at e0; subst e0
  obtain ⟨zs, rfl, hz⟩ := ints_open (ad := ad) (len := len) (cap := cap) h0 he0 hc0 ⟨_, by simpa [Value.cells] using hy0⟩
  obtain ⟨bd, len2, bcap, e1⟩ := slice_form h1 hy1
  simp at e1; subst e1
  obtain ⟨zss, rfl, hz2⟩ := intss_open (ad := bd) (len := len2) (cap := bcap) h1 he hq ce cq ⟨_, by simpa [Value.cells] using hy1⟩
  exact ⟨ad, cap, zs, bd, bcap, zss, rfl, hz, hz2⟩
theorem Mine.lower {w : World} {lo lo' hi : Nat} {ad : Option Addr} {cap : Nat} {zs : List Int} (h : lo' ≤ lo) (m : Mine w lo hi ad cap zs) : Mine w lo' hi ad cap zs := ⟨m.own.mono h, m.below⟩
theorem OwnSS.setm {w : World} {B : Nat} {G : Nat → Nat} {zss : List (List Int)} (h : OwnSS w B G zss) {a : Addr} (ha : a.block < B) (u : Value) : OwnSS (w.setCell a u) B G zss := by
  refine ⟨h.small, ownsRow_setCell_other h.row (by simp [Value.ownBlock]; omega) u, by simpa using h.lt, fun j hj => ?_, h.rise⟩
  have := h.each j hj
  rcases own_block this.1 with ⟨e, _⟩ | ⟨g, e, h2, _⟩
  · cases e
  · simp at e; exact this.set (by omega) u
theorem szMixture_ex (ad : Option Addr) (cap : Nat) (zs : List Int) (bd : Option Addr) (bcap : Nat) (zss : List (List Int)) (left : Int) (w : World) (hz : Ints w ad zs) (hzz : Intss w bd zss) (h1 : 0 ≤ left) (h2 : left ≤ 1048576) :
    Calls Tryd.prog 36 #[mixV ad zs.length cap bd zss.length bcap, .int .i64 left] w fun e w' => e = .returned (.int .i64 (if left < (zs.length : Int) + (zss.length : Int) + tot zss then -1 else left - zs.length - zss.length - tot zss)) ∧ Keep w w' := by
  have hn := hz.small
  have hbl : Below w.heap.size w (w.alloc (.cells #[.slice ad zs.length cap, .slice bd zss.length bcap] 54)) := by go_grown
  by_cases h : left < (zs.length : Int)
  · rw [if_pos (by omega)]
    go_enter Tryd.func36, Tryd.ntmps36
    go_wp2_with (go_at_call 99; refine (szInt64S_any _ _ _ _ _ h1 h2 hn).mono ?_; rw [if_pos h]; rintro e w' ⟨rfl, rfl⟩)
    go_ret
    exact ⟨rfl, by go_grown⟩
  have hl0 : 0 ≤ left - (zs.length : Int) := by omega
  by_cases h' : left - (zs.length : Int) < (zss.length : Int) + tot zss
  · rw [if_pos (by omega)]
    go_enter Tryd.func36, Tryd.ntmps36
    go_wp2_with (go_at_call 99; refine (szInt64S_any _ _ _ _ _ h1 h2 hn).mono ?_; rw [if_neg h]; rintro e w' ⟨rfl, rfl⟩)
    refine (szInt64SS_ex bd bcap zss _ _ (hzz.keep hbl (Nat.le_refl _)) hl0 (by omega)).mono ?_
    rw [if_pos (by omega)]
    rintro e w1 ⟨rfl, k1⟩
    have hk1 : Below w.heap.size w w1 := (Below.trans hbl (k1.mono (by simp <;> omega)))
    go_wp2
    go_ret
    exact ⟨rfl, hk1⟩
  · rw [if_neg (by omega)]
    have hnn : ¬ (left - (zs.length : Int) - (zss.length : Int) - (tot zss : Int) < 0) := by omega
    go_enter Tryd.func36, Tryd.ntmps36
    go_wp2_with (go_at_call 99; refine (szInt64S_any _ _ _ _ _ h1 h2 hn).mono ?_; rw [if_neg h]; rintro e w' ⟨rfl, rfl⟩)
    refine (szInt64SS_ex bd bcap zss _ _ (hzz.keep hbl (Nat.le_refl _)) hl0 (by omega)).mono ?_
    rw [if_neg (by omega)]
    rintro e w1 ⟨rfl, k1⟩
    have hk1 : Below w.heap.size w w1 := (Below.trans hbl (k1.mono (by simp <;> omega)))
    go_wp2
    go_ret
    exact ⟨rfl, hk1⟩
set_option maxHeartbeats 800000 in
theorem toMixture_ex (ad : Option Addr) (cap : Nat) (zs : List Int) (bd : Option Addr) (bcap : Nat) (zss : List (List Int)) (w : World) (hz : Ints w ad zs) (hzz : Intss w bd zss) (hl : zs.length ≤ 1099511627776) (hs : zss.length ≤ 1099511627776) (hss : tot zss ≤ 1099511627776) :
    Calls Tryd.prog 38 #[mixV ad zs.length cap bd zss.length bcap] w fun e w' =>
      ∃ b c G mid, e = .returned (mixV (some ⟨b, 0, none⟩) zs.length zs.length (some ⟨c, 0, none⟩) zss.length zss.length) ∧ Mine w' w.heap.size mid (some ⟨b, 0, none⟩) zs.length zs ∧ MineSS w' mid w'.heap.size c G zss ∧ (w.heap.size ≤ mid ∧ mid ≤ w'.heap.size) ∧ Keep w w' := by
  go_enter Tryd.func38, Tryd.ntmps38
  go_wp2_with fail
  refine (toInt64S_any ad cap zs _ (hz.keep (B := w.heap.size) (by go_grown) (Nat.le_refl _)) hl).mono ?_
  rintro e w1 ⟨rfl, hown, hkeep⟩
  obtain ⟨hc, hf⟩ := bcell hkeep
  have hk1 : Below w.heap.size w w1 := (Below.trans (by go_grown) (hkeep.mono (by simp; omega)))
  have hsz := hkeep.size
  have hb1 : w.heap.size + 1 + 1 + 1 < w1.heap.size := by
    rcases own_block hown.1 with ⟨h, _⟩ | ⟨g, h, _, h2, _⟩
    · cases h
    · simp at h; omega
  simp only [World.size_alloc] at hown hsz ⊢
  have HO := Lib.hid hown; clear hown
  have HK := Lib.hid hkeep; clear hkeep
  have HZ := Lib.hid (fun W (k : Below w.heap.size w W) => hzz.keep k (Nat.le_refl _))
  have D0 : w1.cell? ⟨w.heap.size + 1 + 1, 0, none⟩ = some (.slice none 0 0) ∧ w1.cell? ⟨w.heap.size + 1 + 1, 1, none⟩ = some (.slice none 0 0) ∧ w1.frozen? ⟨w.heap.size + 1 + 1, 0, none⟩ = false ∧ w1.frozen? ⟨w.heap.size + 1 + 1, 1, none⟩ = false := ⟨(hc (w.heap.size + 1 + 1) 0 (by first | (simp; done) | (simp; omega))).trans (by first | (simp; done) | (simp [go_sem]; done) | (simp [World.cell?_alloc_lt, World.cell?_alloc_at]; done)), (hc (w.heap.size + 1 + 1) 1 (by first | (simp; done) | (simp; omega))).trans (by first | (simp; done) | (simp [go_sem]; done) | (simp [World.cell?_alloc_lt, World.cell?_alloc_at]; done)), (hf (w.heap.size + 1 + 1) 0 (by first | (simp; done) | (simp; omega))).trans (by first | (simp; done) | (simp [go_sem]; done) | (simp [World.cell?_alloc_lt, World.cell?_alloc_at]; done)), (hf (w.heap.size + 1 + 1) 1 (by first | (simp; done) | (simp; omega))).trans (by first | (simp; done) | (simp [go_sem]; done) | (simp [World.cell?_alloc_lt, World.cell?_alloc_at]; done))⟩
  have E0 : w1.cell? ⟨w.heap.size + 1, 0, none⟩ = some (.slice none 0 0) ∧ w1.cell? ⟨w.heap.size + 1, 1, none⟩ = some (.slice none 0 0) ∧ w1.frozen? ⟨w.heap.size + 1, 0, none⟩ = false ∧ w1.frozen? ⟨w.heap.size + 1, 1, none⟩ = false := ⟨(hc (w.heap.size + 1) 0 (by first | (simp; done) | (simp; omega))).trans (by first | (simp; done) | (simp [go_sem]; done) | (simp [World.cell?_alloc_lt, World.cell?_alloc_at]; done)), (hc (w.heap.size + 1) 1 (by first | (simp; done) | (simp; omega))).trans (by first | (simp; done) | (simp [go_sem]; done) | (simp [World.cell?_alloc_lt, World.cell?_alloc_at]; done)), (hf (w.heap.size + 1) 0 (by first | (simp; done) | (simp; omega))).trans (by first | (simp; done) | (simp [go_sem]; done) | (simp [World.cell?_alloc_lt, World.cell?_alloc_at]; done)), (hf (w.heap.size + 1) 1 (by first | (simp; done) | (simp; omega))).trans (by first | (simp; done) | (simp [go_sem]; done) | (simp [World.cell?_alloc_lt, World.cell?_alloc_at]; done))⟩
  have P0 : w1.cell? ⟨w.heap.size, 1, none⟩ = some (.slice bd zss.length bcap) := (hc (w.heap.size) 1 (by first | (simp; done) | (simp; omega))).trans (by first | (simp; done) | (simp [go_sem]; done) | (simp [World.cell?_alloc_lt, World.cell?_alloc_at]; done))
  obtain ⟨D00, D01, D02, D03⟩ := D0
  obtain ⟨E00, E01, E02, E03⟩ := E0
  clear hc hf
  have kx : Below w.heap.size w (w1.setCell ⟨w.heap.size + 1 + 1, 0, none⟩ (.slice (some ⟨w.heap.size + 1 + 1 + 1, 0, none⟩) zs.length zs.length)) := hk1.setCell (by simp; omega) _
  have HO2 : Hid (Own (w1.setCell ⟨w.heap.size + 1 + 1, 0, none⟩ (.slice (some ⟨w.heap.size + 1 + 1 + 1, 0, none⟩) zs.length zs.length)) (w.heap.size + 1 + 1 + 1) (some ⟨w.heap.size + 1 + 1 + 1, 0, none⟩) zs.length zs) := Lib.hid (HO.out.set (by simp) _)
  have X0 : (w1.setCell ⟨w.heap.size + 1 + 1, 0, none⟩ (.slice (some ⟨w.heap.size + 1 + 1 + 1, 0, none⟩) zs.length zs.length)).cell? ⟨w.heap.size + 1 + 1, 0, none⟩ = some (.slice (some ⟨w.heap.size + 1 + 1 + 1, 0, none⟩) zs.length zs.length) := World.cell?_setCell_same' _ _ _ (by rw [D00]; rfl)
  go_wp2_with fail
  refine (toInt64SS_any bd bcap zss _ (HZ.out _ kx) hs hss).mono ?_
  rintro e w2 ⟨rfl, ⟨G, o2⟩, k2⟩
  obtain ⟨hc2, hf2⟩ := bcell k2
  have hsz2 := k2.size
  simp only [World.size_setCell] at o2 hsz2 hc2 hf2 ⊢
  have hlt2 := o2.lt
  have F0 : w2.cell? ⟨w.heap.size + 1 + 1, 0, none⟩ = some (.slice (some ⟨w.heap.size + 1 + 1 + 1, 0, none⟩) zs.length zs.length) := by rw [hc2 _ _ (by omega)]; exact X0
  have F1 : w2.cell? ⟨w.heap.size + 1 + 1, 1, none⟩ = some (.slice none 0 0) := by rw [hc2 _ _ (by omega), World.cell?_setCell_other _ _ _ _ (by simp)]; exact D01
  have F2 : w2.frozen? ⟨w.heap.size + 1 + 1, 0, none⟩ = false := by rw [hf2 _ _ (by omega), World.frozen?_setCell]; exact D02
  have F3 : w2.frozen? ⟨w.heap.size + 1 + 1, 1, none⟩ = false := by rw [hf2 _ _ (by omega), World.frozen?_setCell]; exact D03
  have F4 : w2.cell? ⟨w.heap.size + 1, 0, none⟩ = some (.slice none 0 0) := by rw [hc2 _ _ (by omega), World.cell?_setCell_other _ _ _ _ (by simp)]; exact E00
  have F5 : w2.cell? ⟨w.heap.size + 1, 1, none⟩ = some (.slice none 0 0) := by rw [hc2 _ _ (by omega), World.cell?_setCell_other _ _ _ _ (by simp)]; exact E01
  have F6 : w2.frozen? ⟨w.heap.size + 1, 0, none⟩ = false := by rw [hf2 _ _ (by omega), World.frozen?_setCell]; exact E02
  have F7 : w2.frozen? ⟨w.heap.size + 1, 1, none⟩ = false := by rw [hf2 _ _ (by omega), World.frozen?_setCell]; exact E03
  have g2 : Below w.heap.size w w2 := kx.trans (k2.mono (by simp; omega))
  have HO3 := Lib.hid (HO2.out.keep k2)
  have HS3 := Lib.hid o2
  have G2 := Lib.hid g2
  clear o2 k2 g2 hc2 hf2 X0 D00 D01 D02 D03 E00 E01 E02 E03 kx HO HO2 HK
  go_wp2
  refine bodyPost_ret (v := mixV (some ⟨w.heap.size + 1 + 1 + 1, 0, none⟩) zs.length zs.length (some ⟨w1.heap.size, 0, none⟩) zss.length zss.length) (by simp [results, Tryd.results38, go_sem, F4, F5]) rfl ?_
  have hB : w.heap.size + 1 + 1 < w1.heap.size := by omega
  refine ⟨w.heap.size + 1 + 1 + 1, w1.heap.size, G, w1.heap.size, rfl, ⟨((((HO3.out.set (by simp) _).set (by simp) _).set (by simp) _).mono (by omega)), fun k hk => by cases hk; omega⟩, ?_, ⟨by omega, by simp; omega⟩, ((G2.out.setCell (by simp; omega) _).setCell (by simp) _).setCell (by simp) _⟩
  have hss := ((HS3.out.setm (a := ⟨w.heap.size + 1 + 1, 1, none⟩) (by simpa using hB) (.slice (some ⟨w1.heap.size, 0, none⟩) zss.length zss.length)).setm (a := ⟨w.heap.size + 1, 0, none⟩) (by simp; omega) (.slice (some ⟨w.heap.size + 1 + 1 + 1, 0, none⟩) zs.length zs.length)).setm (a := ⟨w.heap.size + 1, 1, none⟩) (by simp; omega) (.slice (some ⟨w1.heap.size, 0, none⟩) zss.length zss.length)
  refine ⟨hss, Nat.le_refl _, hss.lt, fun j hj => ?_⟩
  rcases own_block (hss.each j hj).1 with ⟨h, _⟩ | ⟨g, h, _, h2, _⟩
  · cases h
  · simp at h; omega
theorem eqMixture_same (ad bd : Option Addr) (ca cb : Nat) (zs : List Int) (ed fd : Option Addr) (ce cf : Nat) (zss : List (List Int)) (w : World) (ha : Ints w ad zs) (hb : Ints w bd zs) (he : Intss w ed zss) (hf : Intss w fd zss) :
    Calls Tryd.prog 39 #[mixV ad zs.length ca ed zss.length ce, mixV bd zs.length cb fd zss.length cf] w fun e w' => e = .returned (.bool true) ∧ Keep w w' := by
  have hbl : Keep w ((w.alloc (.cells #[.slice ad zs.length ca, .slice ed zss.length ce] 31)).alloc (.cells #[.slice bd zs.length cb, .slice fd zss.length cf] 31)) := by go_grown
  have B1 : BoxM ((w.alloc (.cells #[.slice ad zs.length ca, .slice ed zss.length ce] 31)).alloc (.cells #[.slice bd zs.length cb, .slice fd zss.length cf] 31)) w.heap.size ad zs.length ca ed zss.length ce := ⟨by simp, by simp, by simp; omega⟩
  have B2 : BoxM ((w.alloc (.cells #[.slice ad zs.length ca, .slice ed zss.length ce] 31)).alloc (.cells #[.slice bd zs.length cb, .slice fd zss.length cf] 31)) (w.heap.size + 1) bd zs.length cb fd zss.length cf := ⟨by simp, by simp, by simp⟩
  go_enter Tryd.func39, Tryd.ntmps39
  go_wp2_with fail
  refine (eqInt64S_same ad bd ca cb zs _ (ha.keep hbl (Nat.le_refl _)) (hb.keep hbl (Nat.le_refl _))).mono ?_
  rintro e w1 ⟨rfl, k1⟩
  have g1 : Keep w w1 := hbl.next k1
  obtain ⟨p0, p1, p2⟩ := B1.keep k1
  obtain ⟨q0, q1, q2⟩ := B2.keep k1
  clear B1 B2 hbl k1
  go_wp2_with fail
  refine (eqInt64SS_same ed fd ce cf zss _ (he.keep g1 (Nat.le_refl _)) (hf.keep g1 (Nat.le_refl _))).mono ?_
  rintro e w2 ⟨rfl, k2⟩
  have g2 := Lib.hid (g1.next k2)
  go_wp2
  go_ret
  exact ⟨rfl, g2.out⟩
end Go.Proofs.YtgpnlnmljeahdaaDoor
