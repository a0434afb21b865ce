/- Rows of a call's own as an answer, wherever each of them lies (rows may share one block, apart from one another): kept, marked, held. -/
import Derived.Test.YtjoanfgchapbaaaRowR
import Derived.Laws.Rows
namespace Go.Proofs.Ytjoanfgchapbaaa
open Go.ChangeShapes Go.WideShapes Go.ChangeAt Go.RowKit Go.Deep
set_option linter.unusedVariables false
/-- The numbers zs lie at block g, from cell o on; nothing of the block is frozen. -/
def RowAt (w : World) (g o : Nat) (zs : List Int) : Prop :=
  ∃ cs t, w.heap[g]? = some (.cells cs t (0, 0)) ∧ o + zs.length ≤ cs.size ∧ ∀ i, i < zs.length → cs[o + i]? = some (.int .i64 (zs.getD i 0))
theorem RowAt.lt {w : World} {g o : Nat} {zs : List Int} (h : RowAt w g o zs) : g < w.heap.size := by
  obtain ⟨cs, t, h1, _⟩ := h
  exact (Array.getElem?_eq_some_iff.1 h1).1
theorem RowAt.cell {w : World} {g o : Nat} {zs : List Int} (h : RowAt w g o zs) (i : Nat) (hi : i < zs.length) : w.cell? ⟨g, o + i, none⟩ = some (.int .i64 (zs.getD i 0)) := by
  obtain ⟨cs, t, h1, _, h3⟩ := h
  rw [cell_of_row w g (o + i) _ _ _ h1, h3 i hi]
theorem RowAt.frozen {w : World} {g o : Nat} {zs : List Int} (h : RowAt w g o zs) (i : Nat) : w.frozen? ⟨g, i, none⟩ = false := by
  obtain ⟨cs, t, h1, _⟩ := h
  exact frozen_of_row w g i _ _ h1
theorem RowAt.same {w w' : World} {g o : Nat} {zs : List Int} (h : RowAt w g o zs) (e : w'.heap[g]? = w.heap[g]?) : RowAt w' g o zs := by
  obtain ⟨cs, t, h1, h2⟩ := h
  exact ⟨cs, t, e.trans h1, h2⟩
theorem RowAt.keep {w w' : World} {g o : Nat} {zs : List Int} (h : RowAt w g o zs) (k : Keep w w') : RowAt w' g o zs := h.same (k.block g h.lt)
theorem getD_set_ne (zs : List Int) (i j : Nat) (v : Int) (h : i ≠ j) : (zs.set i v).getD j 0 = zs.getD j 0 := by
  simp [List.getD_eq_getElem?_getD, List.getElem?_set_ne h]
theorem getD_set_eq (zs : List Int) (i : Nat) (v : Int) (h : i < zs.length) : (zs.set i v).getD i 0 = v := by
  simp [List.getD_eq_getElem?_getD, h]
theorem RowAt.set {w : World} {g o : Nat} {zs : List Int} (h : RowAt w g o zs) (i : Nat) (hi : i < zs.length) (v : Int) : RowAt (w.setCell ⟨g, o + i, none⟩ (.int .i64 v)) g o (zs.set i v) := by
  obtain ⟨cs, t, h1, h2, h3⟩ := h
  refine ⟨_, t, heap_setCell_same w g (o + i) cs t _ h1, by simpa using h2, fun j hj => ?_⟩
  rw [List.length_set] at hj
  by_cases e : i = j
  · subst e
    rw [getD_set_eq zs i v hi, Array.getElem?_setIfInBounds, if_pos rfl, if_pos (by omega)]
  · rw [getD_set_ne zs i j v e, Array.getElem?_setIfInBounds, if_neg (by omega)]
    exact h3 j hj
theorem RowAt.part {w : World} {g o : Nat} {zs : List Int} (h : RowAt w g o zs) (a n : Nat) (hn : a + n ≤ zs.length) : RowAt w g (o + a) ((zs.drop a).take n) := by
  obtain ⟨cs, t, h1, h2, h3⟩ := h
  have hl : ((zs.drop a).take n).length = n := by rw [List.length_take, List.length_drop]; omega
  refine ⟨cs, t, h1, by omega, fun i hi => ?_⟩
  rw [hl] at hi
  rw [Nat.add_assoc, h3 (a + i) (by omega)]
  simp [List.getD_eq_getElem?_getD, hi]
theorem RowAt.nil {w : World} {g o : Nat} {zs : List Int} (h : RowAt w g o zs) : RowAt w g o [] := by
  obtain ⟨cs, t, h1, h2, h3⟩ := h
  exact ⟨cs, t, h1, by simp; omega, fun i hi => by simp at hi⟩
theorem Own.rowAt {w : World} {B g cap : Nat} {zs : List Int} (h : Own w B (some ⟨g, 0, none⟩) cap zs) : RowAt w g 0 zs := by
  rcases h.1.2 with ⟨h1, _⟩ | ⟨g', c, cur, h1, _, h3, h4, _, h6, h7⟩
  · cases h1
  · simp at h1
    obtain ⟨rfl, rfl⟩ := h1
    have hn : zs.length ≤ cur.size := by omega
    refine ⟨cur, _, h3, by omega, fun i hi => ?_⟩
    rw [Nat.zero_add]
    have e : (cur.toList.take (zs.length * 1))[i]? = some (.int .i64 (zs.getD i 0)) := by
      rw [h7]; simp [vals, List.getD_eq_getElem?_getD, hi]
    rw [List.getElem?_take, if_pos (by omega)] at e
    simpa using e
/-- Nothing but cells lo to hi of block g has turned. -/
structure Cut (w w' : World) (g lo hi : Nat) : Prop where
  os : w'.os = w.os
  tape : w'.tape = w.tape
  output : w'.output = w.output
  size : w'.heap.size = w.heap.size
  other : ∀ j, j ≠ g → w'.heap[j]? = w.heap[j]?
  same : ∀ cs t, w.heap[g]? = some (.cells cs t (0, 0)) → ∃ cs', w'.heap[g]? = some (.cells cs' t (0, 0)) ∧ cs'.size = cs.size ∧ ∀ i, i < lo ∨ hi ≤ i → cs'[i]? = cs[i]?
theorem Cut.refl (w : World) (g lo hi : Nat) : Cut w w g lo hi := ⟨rfl, rfl, rfl, rfl, fun _ _ => rfl, fun cs t h => ⟨cs, h, rfl, fun _ _ => rfl⟩⟩
theorem Cut.set {w w1 : World} {g lo hi : Nat} (h : Cut w w1 g lo hi) (i : Nat) (h1 : lo ≤ i) (h2 : i < hi) (v : Value) : Cut w (w1.setCell ⟨g, i, none⟩ v) g lo hi := by
  refine ⟨h.os, h.tape, h.output, by simpa using h.size, fun j hj => (heap_setCell_other w1 _ j v hj).trans (h.other j hj), fun cs t hc => ?_⟩
  obtain ⟨cs', e1, e2, e3⟩ := h.same cs t hc
  refine ⟨_, heap_setCell_same w1 g i cs' t v e1, by simpa using e2, fun j hj => ?_⟩
  rw [Array.getElem?_setIfInBounds, if_neg (by omega)]
  exact e3 j hj
theorem RowAt.cut {w w' : World} {g o g' lo hi : Nat} {zs : List Int} (h : RowAt w g o zs) (c : Cut w w' g' lo hi) (sep : g ≠ g' ∨ o + zs.length ≤ lo ∨ hi ≤ o) : RowAt w' g o zs := by
  by_cases e : g = g'
  · subst e
    obtain ⟨cs, t, h1, h2, h3⟩ := h
    obtain ⟨cs', e1, e2, e3⟩ := c.same cs t h1
    exact ⟨cs', t, e1, by omega, fun i hi => (e3 _ (by omega)).trans (h3 i hi)⟩
  · exact h.same (c.other g e)
theorem Wrote.of_cut {w w' : World} {g lo hi : Nat} {F : Nat → Prop} (c : Cut w w' g lo hi) (h : F g) : Wrote w w' F :=
  ⟨c.os, c.tape, c.output, Nat.le_of_eq c.size.symm, fun j _ hn => c.other j (fun e => hn (e ▸ h))⟩
theorem mark_step (k : Int) (zs : List Int) (j : Nat) (h : j < zs.length) : (ups k j ++ zs.drop j).set j (k + j) = ups k (j + 1) ++ zs.drop (j + 1) := by
  have e : zs.drop j = zs[j] :: zs.drop (j + 1) := List.drop_eq_getElem_cons h
  rw [List.set_append_right _ _ (by rw [ups_length]; exact Nat.le_refl _), ups_length, Nat.sub_self, e, List.set_cons_zero, ups_succ, List.append_assoc]; rfl
set_option maxHeartbeats 400000 in
theorem markAt_any (g o cap : Nat) (zs : List Int) (k : Int) (w : World) (h : RowAt w g o zs) (hk : -1099511627776 ≤ k) (hk2 : k ≤ 35184372088832) (hs : zs.length ≤ 1099511627776) :
    Calls Try.prog 66 #[.slice (some ⟨g, o, none⟩) zs.length cap, .int .i64 k] w fun e w' =>
      e = .returned (.int .i64 (k + zs.length)) ∧ RowAt w' g o (ups k zs.length) ∧ Cut w w' g o (o + zs.length) := by
  go_enter Try.func66, Try.ntmps66
  go_wp2
  go_loopw [1, 5] (fun kk i wr => ∃ j : Nat, j ≤ zs.length ∧ i = .int .i64 j ∧ kk = .int .i64 (k + j) ∧ Hid (RowAt wr g o (ups k j ++ zs.drop j)) ∧ Hid (Cut w wr g o (o + zs.length)))
    (fun _ i _ => zs.length - (intOf i).toNat)
  case atStart => exact ⟨0, Nat.zero_le _, rfl, by simp, Lib.hid (by simpa [ups] using h), Lib.hid (Cut.refl _ _ _ _)⟩
  case round =>
    obtain ⟨j, hj, rfl, rfl, HR, HC⟩ := hrel
    by_cases hlt : j < zs.length
    · have hl : (ups k j ++ zs.drop j).length = zs.length := by rw [List.length_append, ups_length, List.length_drop]; omega
      have hcy := HR.out.cell j (by omega)
      have hfy := HR.out.frozen (o + j)
      have HST := Lib.hid (HR.out.set j (by omega) (k + j))
      clear hl
      generalize (ups k j ++ zs.drop j).getD j 0 = v0 at *
      go_wp2
      go_roundw
      case rel =>
        refine ⟨j + 1, by omega, by go_num, by go_num, Lib.hid ?_, Lib.hid (HC.out.set (o + j) (by omega) (by omega) _)⟩
        have s := HST.out
        rw [mark_step k zs j hlt] at s; exact s
      case measure => simp [intOf]; omega
    · have HJ := Lib.hid (show j = zs.length from by omega)
      go_wp2
      go_ret
      refine ⟨ret_i64 (by rw [HJ.out]), ?_, HC.out⟩
      have s := HR.out
      rw [HJ.out, List.drop_length, List.append_nil] at s; exact s
/-- The blocks of such rows. -/
def footG (ad : Option Addr) (AD : Nat → Option Addr) (n : Nat) (k : Nat) : Prop := ad = some ⟨k, 0, none⟩ ∨ ∃ j o, j < n ∧ AD j = some ⟨k, o, none⟩
structure OwnG (w : World) (lo : Nat) (ad : Option Addr) (cap : Nat) (AD : Nat → Option Addr) (CP : Nat → Nat) (zss : List (List Int)) : Prop where
  small : zss.length ≤ 1099511627776
  all : tot zss ≤ 1099511627776
  row : w.ownsRow lo 69 1 (.slice ad zss.length cap) zss.length (rowC AD CP zss)
  wf : ∀ j, j < zss.length → ∀ z ∈ zss.getD j [], In64 z
  each : ∀ j, j < zss.length → (AD j = none ∧ zss.getD j [] = []) ∨ ∃ g o, AD j = some ⟨g, o, none⟩ ∧ lo ≤ g ∧ RowAt w g o (zss.getD j [])
  caps : ∀ j, j < zss.length → (zss.getD j []).length ≤ CP j
  apart : ∀ i j g o o', i < zss.length → j < zss.length → i ≠ j → AD i = some ⟨g, o, none⟩ → AD j = some ⟨g, o', none⟩ → o + (zss.getD i []).length ≤ o' ∨ o' + (zss.getD j []).length ≤ o
  off : ∀ j g o, j < zss.length → AD j = some ⟨g, o, none⟩ → ad = some ⟨g, 0, none⟩ → False
theorem OwnG.lt {w : World} {lo cap : Nat} {ad : Option Addr} {AD : Nat → Option Addr} {CP : Nat → Nat} {zss : List (List Int)} (h : OwnG w lo ad cap AD CP zss) : ∀ k, footG ad AD zss.length k → lo ≤ k ∧ k < w.heap.size := by
  intro k hk
  rcases hk with hk | ⟨j, o, hj, hk⟩
  · rcases own_block h.row with ⟨e, _⟩ | ⟨g, e, h1, h2, _⟩
    · rw [e] at hk; cases hk
    · rw [e] at hk; simp at hk; omega
  · rcases h.each j hj with ⟨e, _⟩ | ⟨g, o', e, h1, h2⟩
    · rw [e] at hk; cases hk
    · rw [e] at hk; simp at hk; have := h2.lt; omega
theorem OwnG.wrote {w w' : World} {lo cap : Nat} {ad : Option Addr} {AD : Nat → Option Addr} {CP : Nat → Nat} {zss : List (List Int)} {F : Nat → Prop} (h : OwnG w lo ad cap AD CP zss) (m : Wrote w w' F) (sep : ∀ k, footG ad AD zss.length k → ¬ F k) : OwnG w' lo ad cap AD CP zss :=
  ⟨h.small, h.all, row_same h.row (fun g e hg => m.block g hg (sep g (.inl e))), h.wf, fun j hj => by
    rcases h.each j hj with e | ⟨g, o, e, h1, h2⟩
    · exact .inl e
    · exact .inr ⟨g, o, e, h1, h2.same (m.block g h2.lt (sep g (.inr ⟨j, o, hj, e⟩)))⟩, h.caps, h.apart, h.off⟩
theorem OwnG.keep {w w' : World} {lo cap : Nat} {ad : Option Addr} {AD : Nat → Option Addr} {CP : Nat → Nat} {zss : List (List Int)} (h : OwnG w lo ad cap AD CP zss) (k : Keep w w') : OwnG w' lo ad cap AD CP zss :=
  h.wrote (F := fun _ => False) (Wrote.of_keep k) (fun _ _ h => h)
theorem OwnG.mono {w : World} {lo lo' cap : Nat} {ad : Option Addr} {AD : Nat → Option Addr} {CP : Nat → Nat} {zss : List (List Int)} (h : OwnG w lo ad cap AD CP zss) (k : lo' ≤ lo) : OwnG w lo' ad cap AD CP zss := by
  refine ⟨h.small, h.all, ⟨h.row.1, ?_⟩, h.wf, fun j hj => ?_, h.caps, h.apart, h.off⟩
  · rcases h.row.2 with h1 | ⟨g, c, cur, h1, h2, h3⟩
    · exact .inl h1
    · exact .inr ⟨g, c, cur, h1, by omega, h3⟩
  · rcases h.each j hj with e | ⟨g, o, e, h1, h2⟩
    · exact .inl e
    · exact .inr ⟨g, o, e, by omega, h2⟩
theorem OwnG.ints {w : World} {lo cap : Nat} {ad : Option Addr} {AD : Nat → Option Addr} {CP : Nat → Nat} {zss : List (List Int)} (h : OwnG w lo ad cap AD CP zss) : Intss w ad zss := by
  refine ⟨Nat.le_trans h.small (by omega), ?_⟩
  rcases own_block h.row with ⟨_, h2, _⟩ | ⟨g, rfl, h1, h2, _⟩
  · exact .inl (List.eq_nil_of_length_eq_zero h2)
  · refine .inr ⟨g, 0, rfl, h2, fun i hi => ⟨AD i, CP i, ?_, h.caps i hi, ?_⟩⟩
    · rw [Nat.zero_add, h.row.cellAt i (by omega), rowC_get AD CP zss i hi]
    · have hl : (zss.getD i []).length ≤ tot zss := by
        have a1 := tot_take_succ zss i hi
        have a2 := tot_take_le zss (i + 1)
        omega
      have ha := h.all
      refine ⟨by omega, h.wf i hi, ?_⟩
      rcases h.each i hi with e | ⟨g2, o, e, _, h4⟩
      · exact .inl e.2
      · exact .inr ⟨g2, o, e, h4.lt, fun j hj => h4.cell j hj⟩
theorem OwnG.nil (w : World) (lo : Nat) : OwnG w lo none 0 (fun _ => none) (fun _ => 0) [] :=
  ⟨by simp, by simp [tot], World.ownsRow_nil _ _ _ _, fun j hj => by simp at hj, fun j hj => by simp at hj, fun j hj => by simp at hj, fun i j g o o' hi => by simp at hi, fun j g o hj => by simp at hj⟩
/-- Rows each in a block of its own are such rows. -/
theorem OwnR.g {w : World} {lo cap : Nat} {ad : Option Addr} {AD : Nat → Option Addr} {CP : Nat → Nat} {zss : List (List Int)} (h : OwnR w lo ad cap AD CP zss) : OwnG w lo ad cap AD CP zss := by
  have H : ∀ j, j < zss.length → ∀ g o, AD j = some ⟨g, o, none⟩ → o = 0 := by
    intro j hj g o e
    rcases own_block (h.each j hj).1 with ⟨e2, _⟩ | ⟨g2, e2, _⟩
    · rw [e2] at e; cases e
    · rw [e2] at e; simp at e; exact e.2.symm
  refine ⟨h.small, h.all, h.row, fun j hj => (h.each j hj).2.2, fun j hj => ?_, fun j hj => ?_, fun i j g o o' hi hj hij e1 e2 => ?_, fun j g o hj e1 e2 => ?_⟩
  · have o := h.each j hj
    rcases own_block o.1 with ⟨e, h2, _⟩ | ⟨g, e, h1, _⟩
    · exact .inl ⟨e, List.eq_nil_of_length_eq_zero h2⟩
    · refine .inr ⟨g, 0, e, h1, ?_⟩
      rw [e] at o
      exact o.rowAt
  · rcases own_block (h.each j hj).1 with ⟨_, h3, _⟩ | ⟨_, _, _, _, h3⟩
    · omega
    · exact h3
  · have a := H i hi g o e1
    have b := H j hj g o' e2
    subst a; subst b
    exact (h.apart i j hi hj hij g e1 e2).elim
  · have a := H j hj g o e1
    subst a
    exact h.off j hj g e2 e1
structure MineG (w : World) (lo hi : Nat) (ad : Option Addr) (cap : Nat) (AD : Nat → Option Addr) (CP : Nat → Nat) (zss : List (List Int)) : Prop where
  own : OwnG w lo ad cap AD CP zss
  below : ∀ k, footG ad AD zss.length k → k < hi
theorem MineG.new {W w' : World} {lo cap : Nat} {ad : Option Addr} {AD : Nat → Option Addr} {CP : Nat → Nat} {zss : List (List Int)} (hq : lo ≤ W.heap.size) (o : OwnG w' W.heap.size ad cap AD CP zss) : MineG w' lo w'.heap.size ad cap AD CP zss :=
  ⟨o.mono hq, fun k hk => (o.lt k hk).2⟩
theorem MineG.keep {w w' : World} {lo hi cap : Nat} {ad : Option Addr} {AD : Nat → Option Addr} {CP : Nat → Nat} {zss : List (List Int)} (h : MineG w lo hi ad cap AD CP zss) (k : Keep w w') : MineG w' lo hi ad cap AD CP zss := ⟨h.own.keep k, h.below⟩
theorem MineG.ints {w : World} {lo hi cap : Nat} {ad : Option Addr} {AD : Nat → Option Addr} {CP : Nat → Nat} {zss : List (List Int)} (h : MineG w lo hi ad cap AD CP zss) : Intss w ad zss := h.own.ints
theorem MineG.wrote {w w' : World} {lo hi cap : Nat} {ad : Option Addr} {AD : Nat → Option Addr} {CP : Nat → Nat} {zss : List (List Int)} {F : Nat → Prop} (h : MineG w lo hi ad cap AD CP zss) (m : Wrote w w' F) (sep : ∀ k, footG ad AD zss.length k → ¬ F k) : MineG w' lo hi ad cap AD CP zss :=
  ⟨h.own.wrote m sep, h.below⟩
theorem MineG.span {w w' : World} {lo hi lo2 hi2 cap : Nat} {ad : Option Addr} {AD : Nat → Option Addr} {CP : Nat → Nat} {zss : List (List Int)} (h : MineG w lo hi ad cap AD CP zss) (s : Span w w' lo2 hi2) (sep : hi ≤ lo2 ∨ hi2 ≤ lo) : MineG w' lo hi ad cap AD CP zss :=
  h.wrote (F := fun j => lo2 ≤ j ∧ j < hi2) ⟨s.os, s.tape, s.output, s.size, fun j hj hn => s.block j hj (by omega)⟩ (fun k hk hc => by
    have h1 := h.below k hk
    have h2 := (h.own.lt k hk).1
    omega)
theorem MineG.past {w w' : World} {lo hi lo2 hi2 cap : Nat} {ad : Option Addr} {AD : Nat → Option Addr} {CP : Nat → Nat} {zss : List (List Int)} {ad2 : Option Addr} {cap2 n2 : Nat} {zs2 : List Int} (h : MineG w lo hi ad cap AD CP zss) (g : Mine w' lo2 hi2 ad2 cap2 zs2) (m : w.grownBy w' (Value.slice ad2 n2 cap2).ownBlock)
    (sep : hi ≤ lo2 ∨ hi2 ≤ lo) : MineG w' lo hi ad cap AD CP zss :=
  h.span (Span.of_grown (lo := lo2) (hi := hi2) m (fun k hk => by
    rcases own_block g.own.1 with ⟨rfl, _⟩ | ⟨k2, rfl, h4, h5, _⟩
    · simp [Value.ownBlock] at hk
    · have h6 := g.below k2 rfl
      simp [Value.ownBlock] at hk; omega)) sep
theorem MineG.marked {w w' : World} {lo hi cap : Nat} {ad : Option Addr} {AD : Nat → Option Addr} {CP : Nat → Nat} {zss : List (List Int)} {k : Int} (h : MineG w lo hi ad cap AD CP zss) (o : OwnG w' lo ad cap AD CP (upsS k zss)) : MineG w' lo hi ad cap AD CP (upsS k zss) :=
  ⟨o, fun b hb => h.below b (by rw [← upsS_length zss k]; exact hb)⟩
set_option maxHeartbeats 800000 in
theorem markNil_any (cap : Nat) (k : Int) (w : World) :
    Calls Try.prog 66 #[.slice none 0 cap, .int .i64 k] w fun e w' => e = .returned (.int .i64 k) ∧ w = w' := by
  go_enter Try.func66, Try.ntmps66
  go_wp2
  go_loopw [1, 5] (fun kk i wr => i = .int .i64 0 ∧ kk = .int .i64 k ∧ w = wr) (fun _ i _ => 0)
  case atStart => exact ⟨rfl, rfl, rfl⟩
  case round =>
    obtain ⟨rfl, rfl, rfl⟩ := hrel
    go_wp2
    go_ret
    exact ⟨rfl, rfl⟩
set_option maxHeartbeats 800000 in
theorem markInt64SG_any (lo cap : Nat) (ad : Option Addr) (AD : Nat → Option Addr) (CP : Nat → Nat) (zss : List (List Int)) (k : Int) (w : World) (h : OwnG w lo ad cap AD CP zss) (hk : -1099511627776 ≤ k) (hk2 : k ≤ 17592186044416) :
    Calls Try.prog 27 #[.slice ad zss.length cap, .int .i64 k] w fun e w' =>
      e = .returned (.int .i64 (k + tot zss)) ∧ OwnG w' lo ad cap AD CP (upsS k zss) ∧ Wrote w w' (footG ad AD zss.length) := by
  have hlen := h.small
  have hs := h.all
  have HH := Lib.hid h
  clear h
  go_enter Try.func27, Try.ntmps27
  go_wp2
  go_loopw [1, 5] (fun kk i wr => ∃ j : Nat, j ≤ zss.length ∧ i = .int .i64 j ∧ kk = .int .i64 (k + tot (zss.take j)) ∧
      Hid (∀ i g o, i < j → AD i = some ⟨g, o, none⟩ → RowAt wr g o (ups (k + tot (zss.take i)) (zss.getD i []).length)) ∧
      Hid (∀ i g o, j ≤ i → i < zss.length → AD i = some ⟨g, o, none⟩ → RowAt wr g o (zss.getD i [])) ∧ Hid (Wrote w wr (fun b => ∃ j o, j < zss.length ∧ AD j = some ⟨b, o, none⟩)))
    (fun _ i _ => zss.length - (intOf i).toNat)
  case atStart => exact ⟨0, Nat.zero_le _, rfl, by simp [tot], Lib.hid (fun i g o hi => by omega), Lib.hid (fun i g o _ hi e => by
      rcases HH.out.each i hi with ⟨e2, _⟩ | ⟨g2, o2, e2, _, h2⟩
      · rw [e2] at e; cases e
      · rw [e2] at e; simp at e; obtain ⟨rfl, rfl⟩ := e; exact h2), Lib.hid (Wrote.refl _ _)⟩
  case round =>
    obtain ⟨j, hj, rfl, rfl, HA, HB, HS⟩ := hrel
    have hrow : wr.ownsRow lo 69 1 (.slice ad zss.length cap) zss.length (rowC AD CP zss) := row_same HH.out.row (fun g e hg => HS.out.block g hg (fun ⟨i, o, hi, e2⟩ => HH.out.off i g o hi e2 e))
    by_cases hlt : j < zss.length
    · rcases own_block hrow with ⟨_, e0, _⟩ | ⟨B, rfl, hB1, hB2, _⟩
      · omega
      have hcx : wr.cell? ⟨B, j, none⟩ = some (.slice (AD j) (zss.getD j []).length (CP j)) := by rw [hrow.cellAt j (by omega), rowC_get AD CP zss j hlt]
      have HT := Lib.hid (tot_take_succ zss j hlt)
      have t1 := tot_take_le zss (j + 1)
      have t2 := tot_take_le zss j
      have t3 := tot_take_succ zss j hlt
      have t4 : (zss.getD j []).length ≤ 1099511627776 := by omega
      have t5 : tot (zss.take j) ≤ 1099511627776 := by omega
      clear hrow t1 t2 t3
      rcases HH.out.each j hlt with ⟨ea, ez⟩ | ⟨g, o, ea, _, _⟩
      · have HEZ := Lib.hid ez
        rw [ea, ez] at hcx
        rw [ez] at HT t4
        clear ez
        have HEA := Lib.hid ea; clear ea
        generalize htj : tot (zss.take j) = tj at HT t5 ⊢
        have HTJ := Lib.hid htj; clear htj
        go_wp2_with fail
        refine (markNil_any _ _ wr).mono ?_
        rintro e w1 ⟨rfl, rfl⟩
        go_wp2
        go_roundw
        case rel =>
          refine ⟨j + 1, by omega, by go_num, ?_, Lib.hid (fun i g o hi e => ?_), Lib.hid (fun i g o hi hin e => HB.out i g o (by omega) hin e), HS⟩
          · rw [HT.out]; simp
          · by_cases hij : i = j
            · subst hij; rw [HEA.out] at e; cases e
            · exact HA.out i g o (by omega) e
        case measure => simp [intOf]; omega
      have hown := HB.out j g o (Nat.le_refl _) hlt ea
      have HEA := Lib.hid ea
      rw [ea] at hcx
      clear ea
      generalize hln : zss.getD j [] = zj at hcx hown HT t4
      have HZJ := Lib.hid hln; clear hln
      generalize htj : tot (zss.take j) = tj at HT t5 ⊢
      have HTJ := Lib.hid htj; clear htj
      go_wp2_with fail
      refine (markAt_any g o _ zj _ wr hown (by omega) (by omega) t4).mono ?_
      rintro e w1 ⟨rfl, hown1, hcut⟩
      have HO1 := Lib.hid hown1; clear hown1
      have HCU := Lib.hid hcut; clear hcut
      clear hown
      have HSP : Hid (Wrote w w1 (fun b => ∃ j o, j < zss.length ∧ AD j = some ⟨b, o, none⟩)) := Lib.hid (HS.out.trans (Wrote.of_cut HCU.out ⟨j, o, hlt, HEA.out⟩))
      have other : Hid (∀ i g' o' zs, i ≠ j → i < zss.length → AD i = some ⟨g', o', none⟩ → zs.length = (zss.getD i []).length → RowAt wr g' o' zs → RowAt w1 g' o' zs) := Lib.hid (fun i g' o' zs hij hi e hl r => by
        refine r.cut HCU.out ?_
        by_cases eg : g' = g
        · subst eg
          have a := HH.out.apart i j g' o' o hi hlt hij e HEA.out
          rw [HZJ.out] at a
          right; omega
        · exact .inl eg)
      go_wp2
      go_roundw
      case rel =>
        refine ⟨j + 1, by omega, by go_num, ?_, Lib.hid (fun i g' o' hi e => ?_), Lib.hid (fun i g' o' hi hin e => other.out i g' o' _ (by omega) hin e rfl (HB.out i g' o' (by omega) hin e)), HSP⟩
        · rw [HT.out]; congr 1; omega
        · by_cases hij : i = j
          · subst hij
            rw [HEA.out] at e; simp at e
            obtain ⟨rfl, rfl⟩ := e
            rw [HZJ.out, HTJ.out]; exact HO1.out
          · exact other.out i g' o' _ hij (by omega) e (by rw [ups_length]) (HA.out i g' o' (by omega) e)
      case measure => simp [intOf]; omega
    · have HJ := Lib.hid (show j = zss.length from by omega)
      have HROW := Lib.hid hrow; clear hrow
      go_wp2
      go_ret
      have e := HJ.out
      refine ⟨ret_i64 (by rw [e, List.take_length]), ?_, HS.out.wider (fun b hb => .inr hb)⟩
      have hl2 := upsS_length zss k
      have hg2 : ∀ i, i < zss.length → (upsS k zss).getD i [] = ups (k + tot (zss.take i)) (zss.getD i []).length := fun i hi => upsS_get zss k i hi
      have hrs : rowC AD CP (upsS k zss) = rowC AD CP zss := rowC_same AD CP _ _ hl2 (fun i hi => by rw [hg2 i hi, ups_length])
      refine ⟨by rw [hl2]; exact hlen, by rw [tot_upsS]; exact hs, by rw [hl2, hrs]; exact HROW.out, fun i hi => ?_, fun i hi => ?_, fun i hi => ?_, fun i i' g o o' h1 h2 hij e1 e2 => ?_, fun i g o h1 e1 e2 => HH.out.off i g o (by rw [← hl2]; exact h1) e1 e2⟩
      · rw [hl2] at hi
        rw [hg2 i hi]
        have a1 := tot_take_succ zss i hi
        have a2 := tot_take_le zss (i + 1)
        exact ups_in _ _ (by omega) (by omega)
      · rw [hl2] at hi
        rw [hg2 i hi]
        rcases HH.out.each i hi with ⟨e1, e2⟩ | ⟨g, o, e1, e2, _⟩
        · exact .inl ⟨e1, by rw [e2]; rfl⟩
        · exact .inr ⟨g, o, e1, e2, HA.out i g o (by omega) e1⟩
      · rw [hl2] at hi
        rw [hg2 i hi, ups_length]; exact HH.out.caps i hi
      · rw [hl2] at h1 h2
        rw [hg2 i h1, hg2 i' h2, ups_length, ups_length]
        exact HH.out.apart i i' g o o' h1 h2 hij e1 e2
theorem markInt64SG_ex (lo hi cap : Nat) (ad : Option Addr) (AD : Nat → Option Addr) (CP : Nat → Nat) (zss : List (List Int)) (k : Int) (w : World) (h : MineG w lo hi ad cap AD CP zss) (hk : -1099511627776 ≤ k) (hk2 : k ≤ 17592186044416) :
    Calls Try.prog 27 #[.slice ad zss.length cap, .int .i64 k] w fun e w' =>
      e = .returned (.int .i64 (k + tot zss)) ∧ OwnG w' lo ad cap AD CP (upsS k zss) ∧ Wrote w w' (footG ad AD zss.length) ∧ Span w w' lo hi :=
  (markInt64SG_any lo cap ad AD CP zss k w h.own hk hk2).mono fun _ _ ⟨h1, h2, h3⟩ => ⟨h1, h2, h3, h3.span (fun j hj => ⟨(h.own.lt j hj).1, h.below j hj⟩)⟩
end Go.Proofs.Ytjoanfgchapbaaa
