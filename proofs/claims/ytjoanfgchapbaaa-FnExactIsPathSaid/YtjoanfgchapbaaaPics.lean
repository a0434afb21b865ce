/- Pictures: a struct of rows of numbers; the laws' helpers on them. -/
import Derived.Test.YtjoanfgchapbaaaMarks
import Derived.Test.YtjoanfgchapbaaaTabs
namespace Go.Proofs.Ytjoanfgchapbaaa
open Go.ChangeShapes Go.WideShapes Go.ChangeAt Go.RowKit Go.Joins Go.Deep
set_option linter.unusedVariables false
abbrev picV (ad : Option Addr) (n cap : Nat) : Value := .agg #[.slice ad n cap]
/-- A block that holds a picture's rows. -/
structure BoxP (w : World) (b : Nat) (ad : Option Addr) (n cap : Nat) : Prop where
  c0 : w.cell? ⟨b, 0, none⟩ = some (.slice ad n cap)
  c1 : w.cell? ⟨b, 0, none⟩ = some (.slice ad n cap)
  lt : b < w.heap.size
theorem BoxP.keep {w w' : World} {b : Nat} {ad : Option Addr} {n cap : Nat} (h : BoxP w b ad n cap) (k : Keep w w') : BoxP w' b ad n cap :=
  ⟨(k.cell (p := ⟨b, 0, none⟩) (by exact h.lt)).trans h.c0, (k.cell (p := ⟨b, 0, none⟩) (by exact h.lt)).trans h.c0, Nat.lt_of_lt_of_le h.lt k.size⟩
theorem BoxP.span {w w' : World} {b : Nat} {ad : Option Addr} {n cap lo hi : Nat} (h : BoxP w b ad n cap) (s : Span w w' lo hi) (sep : b < lo ∨ hi ≤ b) : BoxP w' b ad n cap := by
  have e := (World.cell?_of_block (w := w) (s.block b h.lt sep)).trans h.c0
  exact ⟨e, e, Nat.lt_of_lt_of_le h.lt s.size⟩
theorem BoxP.past {w w' : World} {b : Nat} {ad : Option Addr} {n cap : Nat} {lo2 hi2 : Nat} {ad2 : Option Addr} {cap2 n2 : Nat} {zs2 : List Int} (h : BoxP w b ad n cap) (g : Mine w' lo2 hi2 ad2 cap2 zs2) (k : w.grownBy w' (Value.slice ad2 n2 cap2).ownBlock) (sep : b < lo2 ∨ hi2 ≤ b) : BoxP w' b ad n cap := by
  have e : w'.heap[b]? = w.heap[b]? := k.block b h.lt (fun e => by
    rcases own_block g.own.1 with ⟨rfl, _⟩ | ⟨k2, rfl, h4, _⟩
    · simp [Value.ownBlock] at e
    · simp [Value.ownBlock] at e; have := g.below k2 rfl; omega)
  have e2 := (World.cell?_of_block (w := w) e).trans h.c0
  exact ⟨e2, e2, Nat.lt_of_lt_of_le h.lt k.size⟩
theorem array1 {α : Type} {cs : Array α} (h : cs.size = 1) : ∃ c0, cs = #[c0] := by
  obtain ⟨l⟩ := cs
  match l, h with
  | [c0], _ => exact ⟨c0, rfl⟩
theorem pic_open {H : Type} {enc : TypeId × Value → H} {P : Program} {W : World} {t e q : TypeId} {n0 : Field} {d : DataW H} {p : List MemPlace} {r : Reach} {b0 : Nat} {v : Value} (hs : P.underlying t = some (.struct #[n0])) (hone : oneCellFields P #[n0] = true) (hC : P.cellsOf t = 1)
    (h1 : P.underlying n0.type = some (.slice e)) (he : P.underlying e = some (.slice q)) (hq : P.underlying q = some (.int .i64)) (ce : P.cellsOf e = 1) (cq : P.cellsOf q = 1) (hv : Value.okWide P W r b0 t v)
    (h : DataW.Trod enc P W 0 (fun _ => true) true t v d p) : ∃ (ad : Option Addr) (cap : Nat) (zss : List (List Int)), v = picV ad zss.length cap ∧ Intss W ad zss := by
  obtain ⟨cs, rfl, hsz⟩ := okWide_struct hs hv
  obtain ⟨c0, rfl⟩ := array1 (hsz.trans hC)
  obtain ⟨fuel, hf⟩ := h
  obtain ⟨y0, n, hx, _, g0⟩ := trod_struct1 hs hf
  obtain ⟨o0, k0⟩ := hone_of hone 0 n0 rfl
  have g0 : DataW.trod enc P W 0 (fun _ => true) true n n0.type [c0] = some y0 := by simpa [Value.cells, o0, k0] using g0
  obtain ⟨ad, len, cap, e1⟩ := slice_form h1 g0
  simp at e1; subst e1
  obtain ⟨zss, rfl, hz⟩ := intss_open (ad := ad) (len := len) (cap := cap) h1 he hq ce cq ⟨_, by simpa [Value.cells] using g0⟩
  exact ⟨ad, cap, zss, rfl, hz⟩
theorem szPicture_ex (ad : Option Addr) (cap : Nat) (zss : List (List Int)) (left : Int) (w : World) (hz : Intss w ad zss) (h1 : 0 ≤ left) (h2 : left ≤ 1048576) :
    Calls Try.prog 15 #[picV ad zss.length cap, .int .i64 left] w fun e w' => e = .returned (.int .i64 (if left < (zss.length : Int) + tot zss then -1 else left - zss.length - tot zss)) ∧ Keep w w' := by
  have hbl : Below w.heap.size w (w.alloc (.cells #[.slice ad zss.length cap] 24)) := by go_grown
  by_cases h : left < (zss.length : Int) + tot zss
  · rw [if_pos h]
    go_enter Try.func15, Try.ntmps15
    go_wp2_with fail
    refine (szInt64SS_ex ad cap zss left _ (hz.keep hbl (Nat.le_refl _)) h1 h2).mono ?_
    rw [if_pos h]
    rintro e w1 ⟨rfl, k1⟩
    have hk1 : Below w.heap.size w w1 := (Below.trans hbl (k1.mono (by simp <;> omega)))
    go_wp2
    go_ret
    exact ⟨rfl, hk1⟩
  · rw [if_neg h]
    have hnn : ¬ (left - (zss.length : Int) - (tot zss : Int) < 0) := by omega
    go_enter Try.func15, Try.ntmps15
    go_wp2_with fail
    refine (szInt64SS_ex ad cap zss left _ (hz.keep hbl (Nat.le_refl _)) h1 h2).mono ?_
    rw [if_neg (by omega)]
    rintro e w1 ⟨rfl, k1⟩
    have hk1 : Below w.heap.size w w1 := (Below.trans hbl (k1.mono (by simp <;> omega)))
    go_wp2
    go_ret
    exact ⟨rfl, hk1⟩
theorem toPicture_ex (ad : Option Addr) (cap : Nat) (zss : List (List Int)) (w : World) (hz : Intss w ad zss) (hs : zss.length ≤ 1099511627776) (hss : tot zss ≤ 1099511627776) :
    Calls Try.prog 17 #[picV ad zss.length cap] w fun e w' =>
      ∃ b G, e = .returned (picV (some ⟨b, 0, none⟩) zss.length zss.length) ∧ (w.heap.size ≤ b ∧ OwnSS w' b G zss) ∧ Keep w w' := by
  go_enter Try.func17, Try.ntmps17
  go_wp2_with fail
  refine (toInt64SS_any ad cap zss _ (hz.keep (B := w.heap.size) (by go_grown) (Nat.le_refl _)) hs hss).mono ?_
  rintro e w1 ⟨rfl, ⟨G, hown⟩, hkeep⟩
  obtain ⟨hc, hf⟩ := bcell hkeep
  have hk1 : Below w.heap.size w w1 := (Below.trans (by go_grown) (hkeep.mono (by simp; omega)))
  simp only [World.size_alloc] at hown ⊢
  have HO := Lib.hid hown; clear hown
  have HK := Lib.hid hkeep; clear hkeep
  go_wp2
  refine bodyPost_ret (v := picV (some ⟨w.heap.size + 1 + 1 + 1, 0, none⟩) zss.length zss.length) (by simp [results, Try.results17, go_sem, hc]) rfl ?_
  exact ⟨_, G, rfl, ⟨by omega, (HO.out.setc (by simp) _).setc (by simp) _⟩, (hk1.setCell (by simp; omega) _).setCell (by simp) _⟩
theorem eqPicture_same (ad bd : Option Addr) (ca cb : Nat) (zss : List (List Int)) (w : World) (ha : Intss w ad zss) (hb : Intss w bd zss) :
    Calls Try.prog 19 #[picV ad zss.length ca, picV bd zss.length cb] w fun e w' => e = .returned (.bool true) ∧ Keep w w' := by
  have hbl : Below w.heap.size w ((w.alloc (.cells #[.slice ad zss.length ca] 27)).alloc (.cells #[.slice bd zss.length cb] 27)) := by go_grown
  go_enter Try.func19, Try.ntmps19
  go_wp2_with fail
  refine (eqInt64SS_same ad bd ca cb zss _ (ha.keep hbl (Nat.le_refl _)) (hb.keep hbl (Nat.le_refl _))).mono ?_
  rintro e w1 ⟨rfl, hk⟩
  have hk1 : Below w.heap.size w w1 := (Below.trans hbl (hk.mono (by simp <;> omega)))
  go_wp2
  go_ret
  exact ⟨rfl, hk1⟩
theorem markPicture_ex (lo hi B : Nat) (G : Nat → Nat) (zss : List (List Int)) (k : Int) (w : World) (h : MineSS w lo hi B G zss) (hk : -1099511627776 ≤ k) (hk2 : k ≤ 17592186044416) (hs : tot zss ≤ 1099511627776) :
    Calls Try.prog 33 #[picV (some ⟨B, 0, none⟩) zss.length zss.length, .int .i64 k] w fun e w' =>
      e = .returned (.int .i64 (k + tot zss)) ∧ OwnSS w' B G (upsS k zss) ∧ Span w w' lo hi := by
  go_enter Try.func33, Try.ntmps33
  go_wp2_with fail
  refine (markInt64SS_ex lo hi B G zss k _ (h.keep (by go_grown)) hk hk2 hs).mono ?_
  rintro e w1 ⟨rfl, ho, hsp⟩
  go_wp2
  go_ret
  exact ⟨rfl, ho, (Span.of_keep (w := w) (by go_grown)).trans hsp⟩
end Go.Proofs.Ytjoanfgchapbaaa
