/- A valid desk: lists of values in memory, as the laws' helpers have them (counted, copied, compared); desks. -/
import Derived.Test.YtpdcmhnaedhkdaaVdC11
import Derived.Test.YtpdcmhnaedhkdaaTx11
import Derived.Test.YtpdcmhnaedhkdaaMix
import Derived.Deep.SlicePairs
namespace Go.Proofs.Ytpdcmhnaedhkdaa
open Go.ChangeShapes Go.WideShapes Go.ChangeAt Go.RowKit Go.Joins Go.Deep
set_option linter.unusedVariables false
theorem Txs.nms {w : World} {ad : Option Addr} {zs : List ByteArray} (h : Txs w ad zs) (h1 : zs.length ≤ 1048576) (h2 : totT zs ≤ 1048576) : Nms w ad zs :=
  ⟨h1, fun z hz => Nat.le_trans (totT_mem hz) h2, h.at_⟩
/-- A list of values in memory, however long. -/
structure Vlw (w : World) (ad : Option Addr) (L : List (Int × List Int)) : Prop where
  small : L.length ≤ 9223372036854775807
  at_ : L = [] ∨ ∃ b off, ad = some ⟨b, off, none⟩ ∧ b < w.heap.size ∧ ∀ i, i < L.length → ∃ p c, w.cell? ⟨b, off + i * 2, none⟩ = some (.int .i64 (L.getD i (0, [])).1) ∧ w.cell? ⟨b, off + i * 2 + 1, none⟩ = some (.slice p (L.getD i (0, [])).2.length c) ∧ Ints w p (L.getD i (0, [])).2
theorem Vlw.keep {w w' : World} {ad : Option Addr} {L : List (Int × List Int)} {B : Nat} (h : Vlw w ad L) (hb : Below B w w') (hB : w.heap.size ≤ B) : Vlw w' ad L := by
  refine ⟨h.small, ?_⟩
  rcases h.at_ with h1 | ⟨b, off, h1, h2, h3⟩
  · exact .inl h1
  · refine .inr ⟨b, off, h1, Nat.lt_of_lt_of_le h2 hb.size, fun i hi => ?_⟩
    obtain ⟨p, c, g1, g2, g3⟩ := h3 i hi
    exact ⟨p, c, (hb.cell (p := ⟨b, off + i * 2, none⟩) (by show b < B; omega)).trans g1, (hb.cell (p := ⟨b, off + i * 2 + 1, none⟩) (by show b < B; omega)).trans g2, g3.keep hb hB⟩
theorem Vlw.vls {w : World} {ad : Option Addr} {L : List (Int × List Int)} (h : Vlw w ad L) (h1 : L.length ≤ 1048576) : Vls w ad L := ⟨h1, h.at_⟩
/-- How many numbers they hold. -/
def totV : List (Int × List Int) → Nat
  | [] => 0
  | z :: t => z.2.length + totV t
theorem totV_take_succ : ∀ (L : List (Int × List Int)) (k : Nat), k < L.length → totV (L.take (k + 1)) = totV (L.take k) + (L.getD k (0, [])).2.length := by
  intro L
  induction L with
  | nil => intro k h; simp at h
  | cons a t ih =>
    intro k h
    cases k with
    | zero => simp [totV]
    | succ k =>
      have := ih k (by simpa using h)
      rw [List.take_succ_cons, List.take_succ_cons, totV, totV, this, List.getD_cons_succ]; omega
theorem totV_take_le (L : List (Int × List Int)) : ∀ k, totV (L.take k) ≤ totV L := by
  induction L with
  | nil => intro k; simp
  | cons a t ih =>
    intro k
    cases k with
    | zero => simp [totV]
    | succ k => rw [List.take_succ_cons, totV, totV]; have := ih k; omega
/-- Out of the reading of an argument that is a slice of structs of a number and a slice of numbers. -/
theorem vals_open {H : Type} {enc : TypeId × Value → H} {P : Program} {W : World} {t e q : TypeId} {f0 f1 : Field} {d : DataW H} {p : List MemPlace} {ad : Option Addr} {len cap : Nat} (ht : P.underlying t = some (.slice e)) (he : P.underlying e = some (.struct #[f0, f1]))
    (ce : P.cellsOf e = 2) (o0 : f0.offset = 0) (o1 : f1.offset = 1) (c0 : P.cellsOf f0.type = 1) (c1 : P.cellsOf f1.type = 1) (h0 : P.underlying f0.type = some (.int .i64)) (h1 : P.underlying f1.type = some (.slice q)) (hq : P.underlying q = some (.int .i64)) (cq : P.cellsOf q = 1)
    (h : DataW.Trod enc P W 0 (fun _ => true) true t (.slice ad len cap) d p) : ∃ L : List (Int × List Int), L.length = len ∧ Vlw W ad L := by
  obtain ⟨fuel, hf⟩ := h
  rcases open_slice_pairs ht he ce o0 o1 c0 c1 hf with ⟨hcs, _⟩ | ⟨a, l, c, m, n, V0, V1, D0, D1, P0, P1, hcs, _, hl, hm, hmm, _, hi⟩
  · simp [Value.cells] at hcs
    obtain ⟨rfl, rfl, rfl⟩ := hcs
    exact ⟨[], rfl, by simp, .inl rfl⟩
  · simp [Value.cells] at hcs
    obtain ⟨rfl, rfl, rfl⟩ := hcs
    simp only [if_true] at hmm
    subst hmm
    have each : ∀ i, i < len → ∃ y : (Int × List Int) × (Option Addr × Nat), W.cell? (a.add (i * 2)) = some (.int .i64 y.1.1) ∧ W.cell? (a.add (i * 2 + 1)) = some (.slice y.2.1 y.1.2.length y.2.2) ∧ Ints W y.2.1 y.1.2 := by
      intro i hil
      obtain ⟨x0, x1, x2, x3⟩ := hi i (by omega)
      obtain ⟨z0, e0, _, _⟩ := DataW.trod_int h0 x2
      simp at e0
      obtain ⟨pd, plen, pcap, e1⟩ := slice_form h1 x3
      simp at e1
      rw [e0] at x0; rw [e1] at x1 x3
      obtain ⟨zs, rfl, hz⟩ := ints_open (ad := pd) (len := plen) (cap := pcap) h1 hq cq ⟨_, by simpa [Value.cells] using x3⟩
      exact ⟨((z0, zs), (pd, pcap)), x0, x1, hz⟩
    obtain ⟨y, hy⟩ := choose_lt each
    refine ⟨(List.range len).map fun j => (y j).1, by simp, by unfold maxLen at hm; simp; omega, ?_⟩
    by_cases hz : len = 0
    · left; subst hz; rfl
    · right
      obtain ⟨b, off, spot⟩ := a
      have hspot : spot = none := by simpa [Addr.add] using World.cell?_spot (hy 0 (by omega)).1
      subst hspot
      refine ⟨b, off, rfl, ?_, fun j hj => ?_⟩
      · have := (hy 0 (by omega)).1
        rw [Go.WideShapes.add_plain] at this
        exact World.block_lt_of_cell? _ _ this
      · simp only [List.length_map, List.length_range] at hj
        have hh := hy j hj
        simp only [Go.WideShapes.add_plain] at hh
        have hg : ((List.range len).map fun j => (y j).1).getD j (0, []) = (y j).1 := by simp [List.getD_eq_getElem?_getD, hj]
        rw [hg]
        exact ⟨(y j).2.1, (y j).2.2, hh.1, by rw [Nat.add_assoc]; exact hh.2.1, hh.2.2⟩
theorem desk_open {H : Type} {enc : TypeId × Value → H} {P : Program} {W : World} {t e e2 q : TypeId} {n0 n1 f0 f1 : Field} {d : DataW H} {p : List MemPlace} {r : Reach} {b0 : Nat} {v : Value} (hs : P.underlying t = some (.struct #[n0, n1])) (hone : oneCellFields P #[n0, n1] = true) (hC : P.cellsOf t = 2)
    (h0 : P.underlying n0.type = some (.slice e)) (he0 : P.underlying e = some .string) (hc0 : P.cellsOf e = 1) (h1 : P.underlying n1.type = some (.slice e2)) (he : P.underlying e2 = some (.struct #[f0, f1])) (ce : P.cellsOf e2 = 2) (o0 : f0.offset = 0) (o1 : f1.offset = 1) (c0 : P.cellsOf f0.type = 1) (c1 : P.cellsOf f1.type = 1)
    (g0 : P.underlying f0.type = some (.int .i64)) (g1 : P.underlying f1.type = some (.slice q)) (hq : P.underlying q = some (.int .i64)) (cq : P.cellsOf q = 1) (hv : Value.okWide P W r b0 t v)
    (h : DataW.Trod enc P W 0 (fun _ => true) true t v d p) : ∃ (ad : Option Addr) (cap : Nat) (zs : List ByteArray) (bd : Option Addr) (bcap : Nat) (L : List (Int × List Int)), v = deskV ad zs.length cap bd L.length bcap ∧ Txs W ad zs ∧ Vlw W bd L := by
  obtain ⟨c0', c1', y0, y1, m, rfl, rfl, rfl, hy0, hy1⟩ := open_agg2 hs hone hC hv h
  obtain ⟨ad, len, cap, e0⟩ := slice_form h0 hy0
  simp at e0; subst e0
  obtain ⟨zs, rfl, hz⟩ := texts_open (ad := ad) (len := len) (cap := cap) h0 he0 hc0 ⟨_, by simpa [Value.cells] using hy0⟩
  obtain ⟨bd, len2, bcap, e1⟩ := slice_form h1 hy1
  simp at e1; subst e1
  obtain ⟨L, rfl, hz2⟩ := vals_open (ad := bd) (len := len2) (cap := bcap) h1 he ce o0 o1 c0 c1 g0 g1 hq cq ⟨_, by simpa [Value.cells] using hy1⟩
  exact ⟨ad, cap, zs, bd, bcap, L, rfl, hz, hz2⟩
/-- What is left of a budget. -/
def leftV (left : Int) (L : List (Int × List Int)) : Int := if left < (L.length : Int) + totV L then -1 else left - L.length - totV L
set_option maxHeartbeats 800000 in
theorem szValuesS_any (ad : Option Addr) (cap : Nat) (L : List (Int × List Int)) (left : Int) (w : World) (hz : Vlw w ad L) (h1 : 0 ≤ left) (h2 : left ≤ 1048576) :
    Calls Try.prog 74 #[.slice ad L.length cap, .int .i64 left] w fun e w' => e = .returned (.int .i64 (leftV left L)) ∧ Keep w w' := by
  have hsm := hz.small
  by_cases h0 : left < (L.length : Int)
  · rw [show leftV left L = -1 from by unfold leftV; rw [if_pos (by omega)]]
    go_enter Try.func74, Try.ntmps74
    go_wp2
    go_ret
    exact ⟨rfl, Below.refl _ _⟩
  · go_enter Try.func74, Try.ntmps74
    go_wp2
    go_loopw [1, 5] (fun l i wr => ∃ k : Nat, k ≤ L.length ∧ i = .int .i64 k ∧ l = .int .i64 (left - L.length - totV (L.take k)) ∧ (0 : Int) ≤ left - L.length - totV (L.take k) ∧ Hid (Keep w wr))
      (fun _ i _ => L.length - (intOf i).toNat)
    case atStart => exact ⟨0, Nat.zero_le _, rfl, by simp [totV], by simp [totV]; omega, Lib.hid (Below.refl _ _)⟩
    case round =>
      obtain ⟨k, hk, rfl, rfl, hnn, HK⟩ := hrel
      by_cases hlt : k < L.length
      · rcases hz.at_ with h | ⟨b, off, rfl, hb, hc⟩
        · subst h; simp at hlt
        obtain ⟨p, c, x0, x1, x2⟩ := hc k hlt
        have hsm2 := x2.small
        have y0 := (HK.out.cell (p := ⟨b, off + k * 2, none⟩) (by exact hb)).trans x0
        have y1 := (HK.out.cell (p := ⟨b, off + k * 2 + 1, none⟩) (by exact hb)).trans x1
        have HT := Lib.hid (totV_take_succ L k hlt)
        have HLE := Lib.hid (totV_take_le L (k + 1))
        clear hc x2 x0 x1
        obtain ⟨v, hv⟩ : ∃ v, v = L.getD k (0, []) := ⟨_, rfl⟩
        rw [← hv] at y0 y1 hsm2 HT
        clear hv
        obtain ⟨g, zs⟩ := v
        simp only at y0 y1 hsm2 HT
        generalize hln : zs.length = ln at *
        clear hln
        generalize htk : totV (L.take k) = tk at hnn HT
        clear htk
        by_cases hneg : left - L.length - tk < (ln : Int)
        · go_wp2_with (go_at_call 31; refine (szValues_any _ _ _ _ _ _ (by omega) (by omega) (by omega)).mono ?_; rw [if_pos (by omega)]; rintro e w' ⟨rfl, k1⟩)
          go_ret
          refine ⟨ret_i64 ?_, Keep.next HK.out (Keep.next (by go_grown) k1)⟩
          have a1 := HT.out; have a2 := HLE.out
          unfold leftV; rw [if_pos (by omega)]
        · go_wp2_with (go_at_call 31; refine (szValues_any _ _ _ _ _ _ (by omega) (by omega) (by omega)).mono ?_; rw [if_neg (by omega)]; rintro e w' ⟨rfl, k1⟩)
          go_roundw
          case rel => exact ⟨k + 1, by omega, by go_num, by rw [HT.out]; congr 1; omega, by rw [HT.out]; omega, Lib.hid (Keep.next HK.out (Keep.next (by go_grown) k1))⟩
          case measure => simp [intOf]; omega
      · have HE := Lib.hid (show k = L.length by omega)
        go_wp2
        go_ret
        refine ⟨ret_i64 ?_, HK.out⟩
        have e := HE.out
        rw [e, List.take_length] at hnn ⊢
        unfold leftV; rw [if_neg (by omega)]
theorem szValuesS_ex (ad : Option Addr) (cap : Nat) (L : List (Int × List Int)) (left : Int) (w : World) (hz : Vlw w ad L) (h1 : 0 ≤ left) (h2 : left ≤ 1048576) :
    Calls Try.prog 74 #[.slice ad L.length cap, .int .i64 left] w fun e w' => e = .returned (.int .i64 (if left < (L.length : Int) + totV L then -1 else left - L.length - totV L)) ∧ Keep w w' :=
  szValuesS_any ad cap L left w hz h1 h2
theorem Try.infoVl : (Try.prog.info? 57).map (fun i => (i.zero, i.size, i.bytes)) = some (some (.agg #[.int .i64 0, .slice none 0 0]), 2, 32) := by kernel_rfl
/-- A block of values, the first k of which are there. -/
def VlB (w : World) (B n k : Nat) (L : List (Int × List Int)) : Prop :=
  ∃ (cs : Array Value) (t : TypeId) (G : Nat → Nat), w.heap[B]? = some (.cells cs t (0, 0)) ∧ cs.size = n * 2 ∧ ∀ j, j < k → cs[j * 2]? = some (.int .i64 (L.getD j (0, [])).1) ∧ cs[j * 2 + 1]? = some (.slice (some ⟨G j, 0, none⟩) (L.getD j (0, [])).2.length (L.getD j (0, [])).2.length) ∧ Own w (B + 1) (some ⟨G j, 0, none⟩) (L.getD j (0, [])).2.length (L.getD j (0, [])).2
theorem VlB.lt {w : World} {B n k : Nat} {L : List (Int × List Int)} (h : VlB w B n k L) : B < w.heap.size := by
  obtain ⟨cs, t, G, h1, _⟩ := h
  exact (Array.getElem?_eq_some_iff.1 h1).1
theorem VlB.keep {w w' : World} {B n k : Nat} {L : List (Int × List Int)} (h : VlB w B n k L) (kk : Keep w w') : VlB w' B n k L := by
  have hl := h.lt
  obtain ⟨cs, t, G, h1, h2, h3⟩ := h
  exact ⟨cs, t, G, (kk.block B hl).trans h1, h2, fun j hj => ⟨(h3 j hj).1, (h3 j hj).2.1, (h3 j hj).2.2.keep kk⟩⟩
theorem VlB.cells {w : World} {B n k : Nat} {L : List (Int × List Int)} (h : VlB w B n k L) (j : Nat) (hj : j < n * 2) : ∃ v, w.cell? ⟨B, j, none⟩ = some v := by
  obtain ⟨cs, t, G, h1, h2, _⟩ := h
  rw [cell_of_row w B j _ _ _ h1]
  exact ⟨cs[j], by rw [Array.getElem?_eq_getElem]⟩
theorem VlB.frozen {w : World} {B n k : Nat} {L : List (Int × List Int)} (h : VlB w B n k L) (j : Nat) : w.frozen? ⟨B, j, none⟩ = false := by
  obtain ⟨cs, t, G, h1, _⟩ := h
  exact frozen_of_row w B j _ _ h1
theorem VlB.put {w : World} {B n k g : Nat} {L : List (Int × List Int)} (h : VlB w B n k L) (hk : k < n) (o : Own w (B + 1) (some ⟨g, 0, none⟩) (L.getD k (0, [])).2.length (L.getD k (0, [])).2) :
    VlB ((w.setCell ⟨B, k * 2, none⟩ (.int .i64 (L.getD k (0, [])).1)).setCell ⟨B, k * 2 + 1, none⟩ (.slice (some ⟨g, 0, none⟩) (L.getD k (0, [])).2.length (L.getD k (0, [])).2.length)) B n (k + 1) L := by
  obtain ⟨cs, t, G, h1, h2, h3⟩ := h
  have e1 := heap_setCell_same w B (k * 2) cs t (.int .i64 (L.getD k (0, [])).1) h1
  have e2 := heap_setCell_same (w.setCell ⟨B, k * 2, none⟩ (.int .i64 (L.getD k (0, [])).1)) B (k * 2 + 1) _ t (.slice (some ⟨g, 0, none⟩) (L.getD k (0, [])).2.length (L.getD k (0, [])).2.length) e1
  refine ⟨_, t, fun j => if j = k then g else G j, e2, by simpa using h2, fun j hj => ?_⟩
  by_cases hjk : j = k
  · subst hjk
    dsimp only
    rw [if_pos rfl]
    refine ⟨?_, ?_, ?_⟩
    · rw [Array.getElem?_setIfInBounds_ne (by omega), Array.getElem?_setIfInBounds_self_of_lt (by omega)]
    · rw [Array.getElem?_setIfInBounds_self_of_lt (by simp; omega)]
    · refine (o.set (a := ⟨B, j * 2, none⟩) ?_ _).set ?_ _ <;>
      · rcases own_block o.1 with ⟨h, _⟩ | ⟨g', h, h2', _⟩
        · cases h
        · cases h; show B ≠ _; omega
  · dsimp only
    rw [if_neg hjk]
    obtain ⟨a1, a2, a3⟩ := h3 j (by omega)
    refine ⟨?_, ?_, ?_⟩
    · rw [Array.getElem?_setIfInBounds_ne (by omega), Array.getElem?_setIfInBounds_ne (by omega)]; exact a1
    · rw [Array.getElem?_setIfInBounds_ne (by omega), Array.getElem?_setIfInBounds_ne (by omega)]; exact a2
    · refine (a3.set (a := ⟨B, k * 2, none⟩) ?_ _).set ?_ _ <;>
      · rcases own_block a3.1 with ⟨h, _⟩ | ⟨g', h, h2', _⟩
        · cases h
        · cases h; show B ≠ _; omega
theorem VlB.set {w : World} {B n k : Nat} {L : List (Int × List Int)} (h : VlB w B n k L) {a : Addr} (ha : a.block < B) (u : Value) : VlB (w.setCell a u) B n k L := by
  obtain ⟨cs, t, G, h1, h2, h3⟩ := h
  refine ⟨cs, t, G, (heap_setCell_other w a B u (by omega)).trans h1, h2, fun j hj => ⟨(h3 j hj).1, (h3 j hj).2.1, (h3 j hj).2.2.set ?_ u⟩⟩
  rcases own_block (h3 j hj).2.2.1 with ⟨h, _⟩ | ⟨g', h, h2', _⟩
  · cases h
  · cases h; omega
theorem VlB.vlw {w : World} {B n : Nat} {L : List (Int × List Int)} (h : VlB w B n n L) (hn : n = L.length) (hs : n ≤ 9223372036854775807) : Vlw w (some ⟨B, 0, none⟩) L := by
  have hl := h.lt
  subst hn
  refine ⟨hs, .inr ⟨B, 0, rfl, hl, fun i hi => ?_⟩⟩
  obtain ⟨cs, t, G, h1, h2, h3⟩ := h
  obtain ⟨a1, a2, a3⟩ := h3 i hi
  refine ⟨some ⟨G i, 0, none⟩, (L.getD i (0, [])).2.length, ?_, ?_, a3.ints⟩
  · rw [cell_of_row w B _ _ _ _ h1, Nat.zero_add]; exact a1
  · rw [cell_of_row w B _ _ _ _ h1, Nat.zero_add]; exact a2
set_option maxHeartbeats 1600000 in
set_option maxRecDepth 100000 in
theorem toValuesS_ex (ad : Option Addr) (cap : Nat) (L : List (Int × List Int)) (w : World) (hz : Vlw w ad L) (hs : L.length ≤ 1048576) (hss : totV L ≤ 1048576) :
    Calls Try.prog 77 #[.slice ad L.length cap] w fun e w' => ∃ b, e = .returned (.slice (some ⟨b, 0, none⟩) L.length L.length) ∧ w.heap.size ≤ b ∧ VlB w' b L.length L.length L ∧ Keep w w' := by
  obtain ⟨i0, hi, hz0, hz1, hz2⟩ := info_parts Try.infoVl
  have hb8 : i0.bytes * L.length ≤ 281474976710656 := by rw [hz2]; omega
  have hml : L.length ≤ maxLen := by unfold maxLen; omega
  go_enter Try.func77, Try.ntmps77
  go_wp2_with (at_make; refine wpList_make_full w rfl _ _ 70 rfl w.heap.size 57 i0 (.agg #[.int .i64 0, .slice none 0 0]) 2 Try.underlying70 hi hz0 hz1 .i64 .i64 _ _ L.length rfl rfl rfl rfl hb8 hml (Nat.le_refl _) ?_)
  intro w0 hown0 hgrow0
  have hk0 : Keep w w0 := (Below.refl _ _).grown hgrow0 (Nat.le_refl _) (fun k h => by cases h)
  clear hgrow0
  obtain ⟨B, hB⟩ : ∃ B, B = w.heap.size := ⟨_, rfl⟩
  rw [← hB] at hown0 ⊢
  have HR0 : Hid (VlB w0 B L.length 0 L) := Lib.hid (by
    rcases hown0.2 with ⟨e, _⟩ | ⟨g', q, cur, e, _, h3, _, _, h6, h7⟩
    · cases e
    · simp at e
      obtain ⟨rfl, rfl⟩ := e
      exact ⟨cur, _, fun _ => 0, h3, by first | exact h6 | (simpa using h6) | omega, fun j hj => by omega⟩)
  have hBlt : B < w0.heap.size := HR0.out.lt
  have HK0 : Hid (Below B w w0) := Lib.hid (by rw [hB]; exact hk0)
  have HB := Lib.hid hB
  clear hown0 hk0 hB
  go_wp2
  go_loopw [4] (fun i wr => ∃ k : Nat, k ≤ L.length ∧ i = .int .i64 k ∧ Hid (VlB wr B L.length k L) ∧ Hid (Below B w wr)) (fun i _ => L.length - (intOf i).toNat)
  case atStart => exact ⟨0, Nat.zero_le _, rfl, HR0, HK0⟩
  case round =>
    obtain ⟨k, hk, rfl, HR, HK⟩ := hrel
    by_cases hlt : k < L.length
    · rcases hz.at_ with h | ⟨b, off, rfl, hb, hc⟩
      · subst h; simp at hlt
      have hb2 : b < B := by rw [HB.out]; exact hb
      obtain ⟨p, c, x0, x1, x2⟩ := hc k hlt
      have c0 := (HK.out.cell (p := ⟨b, off + k * 2, none⟩) (by exact hb2)).trans x0
      have c1 := (HK.out.cell (p := ⟨b, off + k * 2 + 1, none⟩) (by exact hb2)).trans x1
      have HI : Hid (Ints wr p (L.getD k (0, [])).2) := Lib.hid (x2.keep (B := B) HK.out (by rw [HB.out]; exact Nat.le_refl _))
      have hl2 : (L.getD k (0, [])).2.length ≤ 1099511627776 := by have a1 := totV_take_succ L k hlt; have a2 := totV_take_le L (k + 1); omega
      have HP := Lib.hid (fun (W : World) (g : Nat) (h : VlB W B L.length k L) => h.put (g := g) hlt)
      clear hc x0 x1 x2
      generalize (L.getD k (0, [])).2 = zs at *
      generalize (L.getD k (0, [])).1 = g at *
      go_wp2_with fail
      refine (toValues_any g p c zs _ (HI.out.keep (B := _) (by go_grown) (Nat.le_refl _)) hl2).mono ?_
      rintro e w1 ⟨b1, rfl, o1, k1⟩
      have KK : Keep wr w1 := Keep.next (by go_grown) k1
      have R1 := HR.out.keep KK
      have hBw : B < wr.heap.size := HR.out.lt
      obtain ⟨d0, hd0⟩ := R1.cells (k * 2) (by omega)
      obtain ⟨d1, hd1⟩ := R1.cells (k * 2 + 1) (by omega)
      have f0 := R1.frozen (k * 2); have f1 := R1.frozen (k * 2 + 1)
      have HS := Lib.hid (HP.out w1 b1 R1 (o1.mono (by have := KK.size; simp <;> omega)))
      have HK1 : Hid (Below B w w1) := Lib.hid (HK.out.trans (KK.mono (by omega)))
      clear R1 k1 KK o1
      go_wp2
      go_roundw
      case rel => exact ⟨k + 1, by omega, by go_num, HS, Lib.hid ((HK1.out.setCell (Nat.le_refl _) _).setCell (Nat.le_refl _) _)⟩
      case measure => simp [intOf]; omega
    · have HE := Lib.hid (show k = L.length by omega)
      go_wp2
      go_ret
      have hBB := HB.out
      refine ⟨B, rfl, by omega, ?_, by have h := HK.out; rw [hBB] at h; exact h⟩
      have h := HR.out
      rw [HE.out] at h
      exact h
set_option maxHeartbeats 1600000 in
theorem eqValuesS_same (ad bd : Option Addr) (ca cb : Nat) (L : List (Int × List Int)) (w : World) (ha : Vlw w ad L) (hb : Vlw w bd L) :
    Calls Try.prog 86 #[.slice ad L.length ca, .slice bd L.length cb] w fun e w' => e = .returned (.bool true) ∧ Keep w w' := by
  have hla := ha.small
  have hl2 : ((L.length : Int) != (L.length : Int)) = false := by simp
  go_enter Try.func86, Try.ntmps86
  go_wp2
  go_loopw [5] (fun i wr => ∃ k : Nat, k ≤ L.length ∧ i = .int .i64 k ∧ Hid (Keep w wr))
    (fun i _ => L.length - (intOf i).toNat)
  case atStart => exact ⟨0, Nat.zero_le _, rfl, Lib.hid (Below.refl _ _)⟩
  case round =>
    obtain ⟨k, hk, rfl, HK⟩ := hrel
    by_cases hlt : k < L.length
    · rcases ha.at_ with h | ⟨b, off, rfl, hb1, hc⟩
      · subst h; simp at hlt
      rcases hb.at_ with h | ⟨b2, off2, rfl, hb2, hc2⟩
      · subst h; simp at hlt
      obtain ⟨p, c, x0, x1, x2⟩ := hc k hlt
      obtain ⟨p2, c2, y0, y1, y2⟩ := hc2 k hlt
      obtain ⟨v, hv⟩ : ∃ v, v = L.getD k (0, []) := ⟨_, rfl⟩
      rw [← hv] at x0 x1 x2 y0 y1 y2
      clear hv
      obtain ⟨g, zs⟩ := v
      simp only at x0 x1 x2 y0 y1 y2
      have HS : Hid (∀ w', Keep wr w' → ((w'.cell? ⟨b, off + k * 2, none⟩ = some (.int .i64 g) ∧ w'.cell? ⟨b, off + k * 2 + 1, none⟩ = some (.slice p zs.length c)) ∧ w'.cell? ⟨b2, off2 + k * 2, none⟩ = some (.int .i64 g) ∧ w'.cell? ⟨b2, off2 + k * 2 + 1, none⟩ = some (.slice p2 zs.length c2)) ∧ Keep wr w') :=
        Lib.hid (fun w' kk => ⟨⟨⟨((HK.out.next kk).cell (p := ⟨b, off + k * 2, none⟩) (by exact hb1)).trans x0, ((HK.out.next kk).cell (p := ⟨b, off + k * 2 + 1, none⟩) (by exact hb1)).trans x1⟩, ((HK.out.next kk).cell (p := ⟨b2, off2 + k * 2, none⟩) (by exact hb2)).trans y0, ((HK.out.next kk).cell (p := ⟨b2, off2 + k * 2 + 1, none⟩) (by exact hb2)).trans y1⟩, kk⟩)
      have HI : Hid (∀ w', Keep wr w' → Ints w' p zs ∧ Ints w' p2 zs) := Lib.hid (fun w' kk => ⟨x2.keep (HK.out.next kk) (Nat.le_refl _), y2.keep (HK.out.next kk) (Nat.le_refl _)⟩)
      obtain ⟨⟨⟨q0, q1⟩, q2, q3⟩, _⟩ := HS.out wr (Below.refl _ _)
      clear hc hc2 x0 x1 x2 y0 y1 y2
      go_wp2
      go_region_held3 (fun w' => ((w'.cell? ⟨b, off + k * 2, none⟩ = some (.int .i64 g) ∧ w'.cell? ⟨b, off + k * 2 + 1, none⟩ = some (.slice p zs.length c)) ∧ w'.cell? ⟨b2, off2 + k * 2, none⟩ = some (.int .i64 g) ∧ w'.cell? ⟨b2, off2 + k * 2 + 1, none⟩ = some (.slice p2 zs.length c2)) ∧ Keep wr w')
        (first | exact HS.out _ (Keep.next (by go_grown) k1) | exact HS.out _ k1 | exact HS.out _ (by go_grown))
        (first | (go_at_call 37; refine (eqValues_same g _ _ _ _ zs _ (HI.out _ (by first | assumption | go_grown)).1 (HI.out _ (by first | assumption | go_grown)).2).mono ?_; rintro e w1 ⟨rfl, k1⟩))
      go_wp2
      go_roundw
      case rel => exact ⟨k + 1, by omega, by go_num, Lib.hid (HK.out.next (by first | assumption | exact Keep.next (by go_grown) k1 | go_grown))⟩
      case measure => simp [intOf]; omega
    · go_wp2
      go_ret
      exact ⟨rfl, HK.out⟩
theorem szDesk_ex (ad : Option Addr) (cap : Nat) (zs : List ByteArray) (bd : Option Addr) (bcap : Nat) (L : List (Int × List Int)) (left : Int) (w : World) (hz : Txs w ad zs) (hzz : Vlw w bd L) (h1 : 0 ≤ left) (h2 : left ≤ 1048576) :
    Calls Try.prog 40 #[deskV ad zs.length cap bd L.length bcap, .int .i64 left] w fun e w' => e = .returned (.int .i64 (if left < (zs.length : Int) + totT zs + L.length + totV L then -1 else left - zs.length - totT zs - L.length - totV L)) ∧ Keep w w' := by
  have hbl : Below w.heap.size w (w.alloc (.cells #[.slice ad zs.length cap, .slice bd L.length bcap] 67)) := by go_grown
  have B0 : BoxM (w.alloc (.cells #[.slice ad zs.length cap, .slice bd L.length bcap] 67)) w.heap.size ad zs.length cap bd L.length bcap := ⟨by simp, by simp, by simp⟩
  by_cases h : left < (zs.length : Int) + totT zs
  · rw [if_pos (by omega)]
    go_enter Try.func40, Try.ntmps40
    go_wp2_with fail
    refine (szStringS_ex ad cap zs left _ (hz.keep hbl (Nat.le_refl _)) h1 h2).mono ?_
    rw [if_pos h]
    rintro e w1 ⟨rfl, k1⟩
    go_wp2
    go_ret
    exact ⟨rfl, Keep.next hbl k1⟩
  have hl0 : 0 ≤ left - (zs.length : Int) - (totT zs : Int) := by omega
  have hl1 : ¬ (left - (zs.length : Int) - (totT zs : Int) < 0) := by omega
  by_cases h' : left - (zs.length : Int) - totT zs < (L.length : Int) + totV L
  · rw [if_pos (by omega)]
    go_enter Try.func40, Try.ntmps40
    go_wp2_with fail
    refine (szStringS_ex ad cap zs left _ (hz.keep hbl (Nat.le_refl _)) h1 h2).mono ?_
    rw [if_neg (by omega)]
    rintro e w1 ⟨rfl, k1⟩
    obtain ⟨p0, p1, p2⟩ := B0.keep k1
    have g1 : Keep w w1 := Keep.next hbl k1
    go_wp2_with fail
    refine (szValuesS_ex bd bcap L _ _ (hzz.keep g1 (Nat.le_refl _)) hl0 (by omega)).mono ?_
    rw [if_pos (by omega)]
    rintro e w2 ⟨rfl, k2⟩
    go_wp2
    go_ret
    exact ⟨rfl, g1.next k2⟩
  · rw [if_neg (by omega)]
    have hnn : ¬ (left - (zs.length : Int) - (totT zs : Int) - (L.length : Int) - (totV L : Int) < 0) := by omega
    go_enter Try.func40, Try.ntmps40
    go_wp2_with fail
    refine (szStringS_ex ad cap zs left _ (hz.keep hbl (Nat.le_refl _)) h1 h2).mono ?_
    rw [if_neg (by omega)]
    rintro e w1 ⟨rfl, k1⟩
    obtain ⟨p0, p1, p2⟩ := B0.keep k1
    have g1 : Keep w w1 := Keep.next hbl k1
    go_wp2_with fail
    refine (szValuesS_ex bd bcap L _ _ (hzz.keep g1 (Nat.le_refl _)) hl0 (by omega)).mono ?_
    rw [if_neg (by omega)]
    rintro e w2 ⟨rfl, k2⟩
    go_wp2
    go_ret
    exact ⟨rfl, g1.next k2⟩
set_option maxHeartbeats 1600000 in
theorem toDesk_ex (ad : Option Addr) (cap : Nat) (zs : List ByteArray) (bd : Option Addr) (bcap : Nat) (L : List (Int × List Int)) (w : World) (hz : Txs w ad zs) (hzz : Vlw w bd L) (hl : zs.length ≤ 1048576) (hs : L.length ≤ 1048576) (hss : totV L ≤ 1048576) :
    Calls Try.prog 42 #[deskV ad zs.length cap bd L.length bcap] w fun e w' =>
      ∃ b c, e = .returned (deskV (some ⟨b, 0, none⟩) zs.length zs.length (some ⟨c, 0, none⟩) L.length L.length) ∧ Txs w' (some ⟨b, 0, none⟩) zs ∧ Vlw w' (some ⟨c, 0, none⟩) L ∧ Keep w w' := by
  have HZ := Lib.hid (fun W (k : Below w.heap.size w W) => hz.keep k (Nat.le_refl _))
  have HZZ := Lib.hid (fun W (k : Below w.heap.size w W) => hzz.keep k (Nat.le_refl _))
  clear hz hzz
  obtain ⟨W0, hW0⟩ : ∃ W0, W0 = ((w.alloc (.cells #[.slice ad zs.length cap, .slice bd L.length bcap] 67)).alloc (.cells #[.slice none 0 0, .slice none 0 0] 72)).alloc (.cells #[.slice none 0 0, .slice none 0 0] 72) := ⟨_, rfl⟩
  have K0 : Keep w W0 := by rw [hW0]; go_grown
  have hsz : W0.heap.size = w.heap.size + 3 := by rw [hW0]; simp
  have P0 : DuY W0 w.heap.size (.slice ad zs.length cap) (.slice bd L.length bcap) := by rw [hW0]; exact ⟨by simp [go_sem], by simp [go_sem], by simp [go_sem], by simp [go_sem]⟩
  have P1 : DuY W0 (w.heap.size + 1) (.slice none 0 0) (.slice none 0 0) := by rw [hW0]; exact ⟨by simp [go_sem], by simp [go_sem], by simp [go_sem], by simp [go_sem]⟩
  have P2 : DuY W0 (w.heap.size + 1 + 1) (.slice none 0 0) (.slice none 0 0) := by rw [hW0]; exact ⟨by simp [go_sem], by simp [go_sem], by simp [go_sem], by simp [go_sem]⟩
  go_enter Try.func42, Try.ntmps42
  go_wp2_with fail
  rw [← hW0]
  clear hW0
  refine (toStringS_ex ad cap zs W0 (HZ.out W0 K0) (by omega)).mono ?_
  rintro e w1 ⟨b, rfl, o1, k1⟩
  have hb : w.heap.size + 3 ≤ b ∧ b < w1.heap.size := by
    rcases own_block o1.1 with ⟨h, _⟩ | ⟨g', h, h2, h3, _⟩
    · cases h
    · cases h; exact ⟨by omega, h3⟩
  have HO1 := Lib.hid o1
  have HK1 := Lib.hid (K0.next k1)
  obtain ⟨p0, p1, pf0, pf1⟩ := P0.keep k1
  have Q2 := P2.keep k1
  have HQ1 := Lib.hid (P1.keep k1)
  have HP0 := Lib.hid (P0.keep k1)
  have hs1 := k1.size
  obtain ⟨q0, q1, qf0, qf1⟩ := Q2
  clear o1 k1 P0 P1 P2 K0
  have HX : Hid (DuY (w1.setCell ⟨w.heap.size + 1 + 1, 0, none⟩ (.slice (some ⟨b, 0, none⟩) zs.length zs.length)) (w.heap.size + 1 + 1) (.slice (some ⟨b, 0, none⟩) zs.length zs.length) (.slice none 0 0)) := Lib.hid
    ⟨World.cell?_setCell_same _ _ _ q0, by rw [World.cell?_setCell_other _ _ _ _ (by simp)]; exact q1, by simpa using qf0, by simpa using qf1⟩
  have HY : Hid (DuY (w1.setCell ⟨w.heap.size + 1 + 1, 0, none⟩ (.slice (some ⟨b, 0, none⟩) zs.length zs.length)) (w.heap.size + 1) (.slice none 0 0) (.slice none 0 0)) := Lib.hid
    ⟨by rw [World.cell?_setCell_other _ _ _ _ (by simp)]; exact HQ1.out.c0, by rw [World.cell?_setCell_other _ _ _ _ (by simp)]; exact HQ1.out.c1, by simpa using HQ1.out.f0, by simpa using HQ1.out.f1⟩
  have HKX : Hid (Keep w (w1.setCell ⟨w.heap.size + 1 + 1, 0, none⟩ (.slice (some ⟨b, 0, none⟩) zs.length zs.length))) := Lib.hid (HK1.out.setCell (p := ⟨w.heap.size + 1 + 1, 0, none⟩) (by simp; omega) _)
  have HOX : Hid (OwnX (w1.setCell ⟨w.heap.size + 1 + 1, 0, none⟩ (.slice (some ⟨b, 0, none⟩) zs.length zs.length)) W0.heap.size (some ⟨b, 0, none⟩) zs.length zs) := Lib.hid (HO1.out.set (a := ⟨w.heap.size + 1 + 1, 0, none⟩) (by simp; omega) _)
  have HSX : Hid ((w1.setCell ⟨w.heap.size + 1 + 1, 0, none⟩ (.slice (some ⟨b, 0, none⟩) zs.length zs.length)).heap.size = w1.heap.size) := Lib.hid (by simp)
  clear HO1 HQ1
  go_wp2_with fail
  generalize w1.setCell ⟨w.heap.size + 1 + 1, 0, none⟩ (.slice (some ⟨b, 0, none⟩) zs.length zs.length) = w2 at *
  refine (toValuesS_ex bd bcap L _ (HZZ.out _ HKX.out) hs hss).mono ?_
  rintro e w3 ⟨c, rfl, hc, v3, k3⟩
  have hc2 : w.heap.size + 3 ≤ c := by have := HSX.out; omega
  obtain ⟨x0, x1, xf0, xf1⟩ := HX.out.keep k3
  obtain ⟨y0, y1, yf0, yf1⟩ := HY.out.keep k3
  have HO3 := Lib.hid (HOX.out.keep k3)
  have HV3 := Lib.hid v3
  have HK3 := Lib.hid (HKX.out.next k3)
  have HL := Lib.hid (show L.length ≤ 9223372036854775807 by omega)
  clear v3 k3 p0 p1 pf0 pf1 q0 q1 qf0 qf1 HX HY HOX HKX HSX hs1 hsz
  go_wp2
  refine bodyPost_ret (v := deskV (some ⟨b, 0, none⟩) zs.length zs.length (some ⟨c, 0, none⟩) L.length L.length) (by simp [results, Try.results42, go_sem, y0, y1]) rfl ?_
  refine ⟨b, c, rfl, OwnX.texts (B := W0.heap.size) (cap := zs.length) ?_, VlB.vlw (n := L.length) ?_ rfl HL.out, ?_⟩
  · exact ((HO3.out.set (by simp; omega) _).set (by simp; omega) _).set (by simp; omega) _
  · exact ((HV3.out.set (by simp; omega) _).set (by simp; omega) _).set (by simp; omega) _
  · exact ((HK3.out.setCell (by simp; omega) _).setCell (by simp) _).setCell (by simp) _
theorem eqDesk_same (ad bd : Option Addr) (ca cb : Nat) (zs : List ByteArray) (ed fd : Option Addr) (ce cf : Nat) (L : List (Int × List Int)) (w : World) (ha : Txs w ad zs) (hb : Txs w bd zs) (he : Vlw w ed L) (hf : Vlw w fd L) :
    Calls Try.prog 44 #[deskV ad zs.length ca ed L.length ce, deskV bd zs.length cb fd L.length cf] w fun e w' => e = .returned (.bool true) ∧ Keep w w' := by
  have hbl : Keep w ((w.alloc (.cells #[.slice ad zs.length ca, .slice ed L.length ce] 72)).alloc (.cells #[.slice bd zs.length cb, .slice fd L.length cf] 72)) := by go_grown
  have B1 : BoxM ((w.alloc (.cells #[.slice ad zs.length ca, .slice ed L.length ce] 72)).alloc (.cells #[.slice bd zs.length cb, .slice fd L.length cf] 72)) w.heap.size ad zs.length ca ed L.length ce := ⟨by simp, by simp, by simp; omega⟩
  have B2 : BoxM ((w.alloc (.cells #[.slice ad zs.length ca, .slice ed L.length ce] 72)).alloc (.cells #[.slice bd zs.length cb, .slice fd L.length cf] 72)) (w.heap.size + 1) bd zs.length cb fd L.length cf := ⟨by simp, by simp, by simp⟩
  go_enter Try.func44, Try.ntmps44
  go_wp2_with fail
  refine (eqStringS_same ad bd ca cb zs _ (ha.keep hbl (Nat.le_refl _)) (hb.keep hbl (Nat.le_refl _))).mono ?_
  rintro e w1 ⟨rfl, k1⟩
  have g1 : Keep w w1 := hbl.next k1
  obtain ⟨p0, p1, p2⟩ := B1.keep k1
  obtain ⟨q0, q1, q2⟩ := B2.keep k1
  clear B1 B2 hbl k1
  go_wp2_with fail
  refine (eqValuesS_same ed fd ce cf L _ (he.keep g1 (Nat.le_refl _)) (hf.keep g1 (Nat.le_refl _))).mono ?_
  rintro e w2 ⟨rfl, k2⟩
  go_wp2
  go_ret
  exact ⟨rfl, g1.next k2⟩
end Go.Proofs.Ytpdcmhnaedhkdaa
