/- Lists of texts in memory: what the laws' helpers do with them (counted, copied, compared, marked). -/
import Derived.Test.YtpdcmhnaedhkdabDoorMem
import Derived.SliceStrings
namespace Go.Proofs.YtpdcmhnaedhkdabDoor
open Go.ChangeShapes Go.WideShapes Go.ChangeAt Go.RowKit Go.Deep
set_option linter.unusedVariables false
/-- No text. -/
abbrev noT : ByteArray := ⟨#[]⟩
/-- The slice at ad holds the texts zs. (Nothing is asked of the address of an empty one.) -/
structure Txs (w : World) (ad : Option Addr) (zs : List ByteArray) : Prop where
  small : zs.length ≤ 9223372036854775807
  len : ∀ z ∈ zs, z.size ≤ 9223372036854775807
  at_ : zs = [] ∨ ∃ b off, ad = some ⟨b, off, none⟩ ∧ b < w.heap.size ∧ ∀ i, i < zs.length → w.cell? ⟨b, off + i, none⟩ = some (.string (zs.getD i noT))
theorem Txs.keep {w w' : World} {ad : Option Addr} {zs : List ByteArray} {B : Nat} (h : Txs w ad zs) (hb : Below B w w') (hB : w.heap.size ≤ B) : Txs w' ad zs := by
  refine ⟨h.small, h.len, ?_⟩
  rcases h.at_ with h1 | ⟨b, off, h1, h2, h3⟩
  · exact .inl h1
  · exact .inr ⟨b, off, h1, Nat.lt_of_lt_of_le h2 hb.size, fun i hi => (hb.cell (p := ⟨b, off + i, none⟩) (by show b < B; omega)).trans (h3 i hi)⟩
theorem getT_mem (zs : List ByteArray) (k : Nat) (h : k < zs.length) : zs.getD k noT ∈ zs := by
  rw [List.getD_eq_getElem?_getD, List.getElem?_eq_getElem h]; exact List.getElem_mem h
/-- Out of the reading of an argument that is a slice of strings. -/
theorem texts_open {H : Type} {enc : TypeId × Value → H} {P : Program} {W : World} {t e : TypeId} {d : DataW H} {p : List MemPlace} {ad : Option Addr} {len cap : Nat} (ht : P.underlying t = some (.slice e)) (he : P.underlying e = some .string) (hc : P.cellsOf e = 1)
    (h : DataW.Trod enc P W 0 (fun _ => true) true t (.slice ad len cap) d p) : ∃ zs : List ByteArray, zs.length = len ∧ Txs W ad zs := by
  obtain ⟨fuel, hf⟩ := h
  rcases open_strings ht he hc hf with ⟨hcs, _⟩ | ⟨x, l, c, zs, hcs, _, hl, hm, hz, _, hcell, hwz⟩
  · simp [Value.cells] at hcs
    obtain ⟨rfl, rfl, rfl⟩ := hcs
    exact ⟨[], rfl, by simp, by simp, .inl rfl⟩
  · simp [Value.cells] at hcs
    obtain ⟨rfl, rfl, rfl⟩ := hcs
    simp only [if_true] at hz
    unfold maxLen at hm hwz
    refine ⟨zs.take len, by rw [List.length_take]; omega, by rw [List.length_take]; omega, fun z hzm => Nat.le_trans (hwz z (List.mem_of_mem_take hzm)) (by omega), ?_⟩
    by_cases h0 : len = 0
    · left; subst h0; rfl
    · right
      obtain ⟨b, off, spot⟩ := x
      have hspot : spot = none := by simpa [Addr.add] using World.cell?_spot (hcell 0 (by omega))
      subst hspot
      refine ⟨b, off, rfl, ?_, fun i hi => ?_⟩
      · have := hcell 0 (by omega)
        rw [Go.WideShapes.add_plain] at this
        exact World.block_lt_of_cell? _ _ this
      · rw [List.length_take] at hi
        have := hcell i (by omega)
        rw [Go.WideShapes.add_plain] at this
        rw [this, List.getD_eq_getElem?_getD, List.getD_eq_getElem?_getD, List.getElem?_take, if_pos (by omega)]
        rfl
/-- How many letters they hold. -/
def totT : List ByteArray → Nat
  | [] => 0
  | z :: t => z.size + totT t
theorem totT_take_succ : ∀ (zss : List ByteArray) (k : Nat), k < zss.length → totT (zss.take (k + 1)) = totT (zss.take k) + (zss.getD k noT).size := by
  intro zss
  induction zss with
  | nil => intro k h; simp at h
  | cons a t ih =>
    intro k h
    cases k with
    | zero => simp [totT]
    | succ k =>
      have := ih k (by simpa using h)
      rw [List.take_succ_cons, List.take_succ_cons, totT, totT, this, List.getD_cons_succ]; omega
theorem totT_take_le (zss : List ByteArray) : ∀ k, totT (zss.take k) ≤ totT zss := by
  induction zss with
  | nil => intro k; simp
  | cons a t ih =>
    intro k
    cases k with
    | zero => simp [totT]
    | succ k => rw [List.take_succ_cons, totT, totT]; have := ih k; omega
theorem totT_mem : ∀ {zss : List ByteArray} {z : ByteArray}, z ∈ zss → z.size ≤ totT zss
  | a :: t, z, h => by
    rw [totT]
    rcases List.mem_cons.1 h with rfl | h
    · omega
    · have := totT_mem h; omega
/-- The texts as values. -/
abbrev txs (zs : List ByteArray) : List Value := zs.map Value.string
/-- What is left of a budget. -/
def leftT (left : Int) (zss : List ByteArray) : Int := if left < (zss.length : Int) + totT zss then -1 else left - zss.length - totT zss
set_option maxHeartbeats 400000 in
theorem szStringS_any (ad : Option Addr) (cap : Nat) (zss : List ByteArray) (left : Int) (w : World) (hz : Txs w ad zss) (h1 : 0 ≤ left) (h2 : left ≤ 1048576) :
    Calls Tryd.prog 5 #[.slice ad zss.length cap, .int .i64 left] w fun e w' => e = .returned (.int .i64 (leftT left zss)) ∧ Keep w w' := by
  have hsm := hz.small
  by_cases h0 : left < (zss.length : Int)
  · rw [show leftT left zss = -1 from by unfold leftT; rw [if_pos (by omega)]]
    go_enter Tryd.func5, Tryd.ntmps5
    go_wp2
    go_ret
    exact ⟨rfl, Below.refl _ _⟩
  · have HLN := Lib.hid hz.len
    go_enter Tryd.func5, Tryd.ntmps5
    go_wp2
    go_loopw [1, 5] (fun l i wr => ∃ k : Nat, k ≤ zss.length ∧ i = .int .i64 k ∧ l = .int .i64 (left - zss.length - totT (zss.take k)) ∧ (0 : Int) ≤ left - zss.length - totT (zss.take k) ∧ wr = w)
      (fun _ i _ => zss.length - (intOf i).toNat)
    case atStart => exact ⟨0, Nat.zero_le _, rfl, by simp [totT], by simp [totT]; omega, (by first | rfl | trivial)⟩
    case round =>
      obtain ⟨k, hk, rfl, rfl, hnn, rfl⟩ := hrel
      by_cases hlt : k < zss.length
      · rcases hz.at_ with h | ⟨b, off, rfl, hb, hc⟩
        · subst h; simp at hlt
        have hcx := hc k hlt
        have hsm2 := HLN.out _ (getT_mem zss k hlt)
        have HT := Lib.hid (totT_take_succ zss k hlt)
        have HLE := Lib.hid (totT_take_le zss (k + 1))
        clear hc
        generalize hln : zss.getD k noT = s at hcx hsm2 HT
        clear hln
        generalize htk : totT (zss.take k) = tk at hnn HT
        clear htk
        by_cases hneg : left - zss.length - tk < (s.size : Int)
        · go_wp2
          go_ret
          refine ⟨ret_i64 ?_, Below.refl _ _⟩
          have a1 := HT.out; have a2 := HLE.out
          unfold leftT; rw [if_pos (by omega)]
        · go_wp2
          go_roundw
          case rel => exact ⟨k + 1, by omega, by go_num, by rw [HT.out]; congr 1; omega, by rw [HT.out]; omega, (by first | rfl | trivial)⟩
          case measure => simp [intOf]; omega
      · have HE := Lib.hid (show k = zss.length by omega)
        go_wp2
        go_ret
        refine ⟨ret_i64 ?_, Below.refl _ _⟩
        have e := HE.out
        rw [e, List.take_length] at hnn ⊢
        unfold leftT; rw [if_neg (by omega)]
theorem szStringS_ex (ad : Option Addr) (cap : Nat) (zss : List ByteArray) (left : Int) (w : World) (hz : Txs w ad zss) (h1 : 0 ≤ left) (h2 : left ≤ 1048576) :
    Calls Tryd.prog 5 #[.slice ad zss.length cap, .int .i64 left] w fun e w' => e = .returned (.int .i64 (if left < (zss.length : Int) + totT zss then -1 else left - zss.length - totT zss)) ∧ Keep w w' :=
  szStringS_any ad cap zss left w hz h1 h2
theorem Tryd.infoTx : (Tryd.prog.info? 9).map (fun i => (i.zero, i.size, i.bytes)) = some (some (.string noT), 1, 16) := by kernel_rfl
/-- A slice of texts that the call itself made, from block B on. -/
def OwnX (w : World) (B : Nat) (ad : Option Addr) (cap : Nat) (zs : List ByteArray) : Prop :=
  w.ownsRow B 9 1 (.slice ad zs.length cap) zs.length (txs zs) ∧ zs.length ≤ 1099511627776 ∧ ∀ z ∈ zs, z.size ≤ 9223372036854775807
theorem OwnX.keep {w w' : World} {B : Nat} {ad : Option Addr} {cap : Nat} {zs : List ByteArray} (h : OwnX w B ad cap zs) (k : Keep w w') : OwnX w' B ad cap zs := by
  refine ⟨h.1.kept (row := none) ⟨k.os, k.tape, k.output, k.size, fun j hj _ => k.block j hj⟩ ?_, h.2⟩
  rcases own_block h.1 with ⟨rfl, _⟩ | ⟨g, rfl, _⟩
  · exact .inl rfl
  · right; simp [Value.ownBlock]
theorem OwnX.mono {w : World} {B B' : Nat} {ad : Option Addr} {cap : Nat} {zs : List ByteArray} (h : OwnX w B ad cap zs) (k : B' ≤ B) : OwnX w B' ad cap zs := by
  refine ⟨⟨h.1.1, ?_⟩, h.2⟩
  rcases h.1.2 with h1 | ⟨g, c, cur, h1, h2, h3⟩
  · exact .inl h1
  · exact .inr ⟨g, c, cur, h1, by omega, h3⟩
theorem OwnX.texts {w : World} {B : Nat} {ad : Option Addr} {cap : Nat} {zs : List ByteArray} (h : OwnX w B ad cap zs) : Txs w ad zs := by
  refine ⟨Nat.le_trans h.2.1 (by omega), h.2.2, ?_⟩
  rcases own_block h.1 with ⟨_, h2, _⟩ | ⟨g, rfl, h1, h2, _⟩
  · exact .inl (List.eq_nil_of_length_eq_zero h2)
  · refine .inr ⟨g, 0, rfl, h2, fun i hi => ?_⟩
    have := h.1.cellAt i (by omega)
    rw [Nat.zero_add, this]
    simp [hi]
theorem OwnX.set {w : World} {B g : Nat} {cap : Nat} {zs : List ByteArray} (h : OwnX w B (some ⟨g, 0, none⟩) cap zs) {a : Addr} (ha : a.block ≠ g) (u : Value) : OwnX (w.setCell a u) B (some ⟨g, 0, none⟩) cap zs :=
  ⟨ownsRow_setCell_other h.1 (by simp [Value.ownBlock]; omega) u, h.2⟩
theorem OwnX.nil (w : World) (B : Nat) : OwnX w B none 0 [] := ⟨World.ownsRow_nil _ _ _ _, by simp, by simp⟩
/-- A slice of texts of the call's own whose block lies from lo up to hi. -/
structure MineX (w : World) (lo hi : Nat) (ad : Option Addr) (cap : Nat) (zs : List ByteArray) : Prop where
  own : OwnX w lo ad cap zs
  below : ∀ k, ad = some ⟨k, 0, none⟩ → k < hi
theorem MineX.new {W w' : World} {lo : Nat} {ad : Option Addr} {cap : Nat} {zs : List ByteArray} (hq : lo ≤ W.heap.size) (o : OwnX w' W.heap.size ad cap zs) : MineX w' lo w'.heap.size ad cap zs := by
  refine ⟨o.mono hq, fun k hk => ?_⟩
  rcases own_block o.1 with ⟨h, _⟩ | ⟨g, h, _, h2, _⟩
  · rw [h] at hk; cases hk
  · rw [h] at hk; simp at hk; omega
theorem MineX.keep {w w' : World} {lo hi : Nat} {ad : Option Addr} {cap : Nat} {zs : List ByteArray} (h : MineX w lo hi ad cap zs) (k : Keep w w') : MineX w' lo hi ad cap zs := ⟨h.own.keep k, h.below⟩
theorem MineX.ints {w : World} {lo hi : Nat} {ad : Option Addr} {cap : Nat} {zs : List ByteArray} (h : MineX w lo hi ad cap zs) : Txs w ad zs := h.own.texts
theorem fillT_get (zs : List ByteArray) (k : Nat) (h : k < zs.length) (z : Value) : (txs (zs.take k) ++ List.replicate (zs.length - k) z)[k]? = some z := by
  rw [List.getElem?_append_right (by simp; omega), List.getElem?_replicate, if_pos (by simp; omega)]
theorem fillT_set (zs : List ByteArray) (k : Nat) (h : k < zs.length) (z : Value) : (txs (zs.take k) ++ List.replicate (zs.length - k) z).set k (.string (zs.getD k noT)) = txs (zs.take (k + 1)) ++ List.replicate (zs.length - (k + 1)) z := by
  have e : List.replicate (zs.length - k) z = z :: List.replicate (zs.length - (k + 1)) z := by
    rw [show zs.length - k = (zs.length - (k + 1)) + 1 from by omega, List.replicate_succ]
  rw [e, List.set_append_right _ _ (by simp; omega)]
  have : k - (txs (List.take k zs)).length = 0 := by simp; omega
  rw [this, List.set_cons_zero]
  have e2 : zs.getD k noT = zs[k] := by simp [List.getD_eq_getElem?_getD, h]
  rw [e2, List.take_succ_eq_append_getElem h]; unfold txs; rw [List.map_append, List.append_assoc]; rfl
set_option maxHeartbeats 400000 in
theorem toStringS_any (ad : Option Addr) (cap : Nat) (zs : List ByteArray) (w : World) (hz : Txs w ad zs) (hs : zs.length ≤ 1099511627776) :
    Calls Tryd.prog 7 #[.slice ad zs.length cap] w fun e w' =>
      e = .returned (.slice (some ⟨w.heap.size, 0, none⟩) zs.length zs.length) ∧ OwnX w' w.heap.size (some ⟨w.heap.size, 0, none⟩) zs.length zs ∧ Keep w w' := by
  obtain ⟨i0, hi, hz0, hz1, hz2⟩ := info_parts Tryd.infoTx
  have hb8 : i0.bytes * zs.length ≤ 281474976710656 := by rw [hz2]; omega
  have hml : zs.length ≤ maxLen := by unfold maxLen; omega
  go_enter Tryd.func7, Tryd.ntmps7
  go_wp2_with (at_make; refine wpList_make_full w rfl _ _ 22 rfl w.heap.size 9 i0 (.string noT) 1 Tryd.underlying22 hi hz0 hz1 .i64 .i64 _ _ zs.length rfl rfl rfl rfl hb8 hml (Nat.le_refl _) ?_)
  intro w0 hown0 hgrow0
  have hown0 : w0.ownsRow w.heap.size 9 1 (.slice (some ⟨w.heap.size, 0, none⟩) zs.length zs.length) zs.length (List.replicate zs.length (.string noT)) := by simpa [Value.cells, toList_madeCells_one] using hown0
  have hk0 : Keep w w0 := (Below.refl _ _).grown hgrow0 (Nat.le_refl _) (fun k h => by cases h)
  clear hgrow0
  obtain ⟨B, hB⟩ : ∃ B, B = w.heap.size := ⟨_, rfl⟩
  rw [← hB] at hown0 ⊢
  have HB := Lib.hid hB; clear hB
  have hlen := hz.small
  go_wp2
  go_loopw [4] (fun i wr => ∃ k : Nat, k ≤ zs.length ∧ i = .int .i64 k ∧ wr.ownsRow B 9 1 (.slice (some ⟨B, 0, none⟩) zs.length zs.length) zs.length (txs (zs.take k) ++ List.replicate (zs.length - k) (.string noT)) ∧ Below B w wr)
    (fun i _ => zs.length - (intOf i).toNat)
  case atStart => exact ⟨0, Nat.zero_le _, rfl, by simpa using hown0, by rw [HB.out]; exact hk0⟩
  case round =>
    obtain ⟨k, hk, rfl, hown, hbel⟩ := hrel
    by_cases hlt : k < zs.length
    · rcases hz.at_ with h | ⟨b, off, rfl, hb, hc⟩
      · subst h; simp at hlt
      have hcx : wr.cell? ⟨b, off + k, none⟩ = some (.string (zs.getD k noT)) := (hbel.cell (by show b < B; rw [HB.out]; exact hb)).trans (hc k hlt)
      have hcy : wr.cell? ⟨B, k, none⟩ = some (.string noT) := by rw [hown.cellAt k (by omega), fillT_get zs k hlt]
      have hfy := hown.frozenAt k
      have HST := Lib.hid (hown.stored k (.string (zs.getD k noT)))
      have HE := Lib.hid (fillT_set zs k hlt (.string noT))
      clear hc
      generalize zs.getD k noT = x at *
      go_wp2
      go_roundw
      case rel =>
        obtain ⟨s1, s2⟩ := HST.out
        rw [HE.out] at s1
        refine ⟨k + 1, by omega, by go_num, ?_, ?_⟩
        · simpa using s1
        · exact hbel.setCell (Nat.le_refl _) _
      case measure => simp [intOf]; omega
    · go_wp2
      go_ret
      have he : k = zs.length := by omega
      subst he
      have e := HB.out
      subst e
      exact ⟨rfl, ⟨by simpa using hown, hs, hz.len⟩, hbel⟩
theorem toStringS_ex (ad : Option Addr) (cap : Nat) (zs : List ByteArray) (w : World) (hz : Txs w ad zs) (hs : zs.length ≤ 1099511627776) :
    Calls Tryd.prog 7 #[.slice ad zs.length cap] w fun e w' =>
      ∃ b, e = .returned (.slice (some ⟨b, 0, none⟩) zs.length zs.length) ∧ OwnX w' w.heap.size (some ⟨b, 0, none⟩) zs.length zs ∧ Keep w w' :=
  (toStringS_any ad cap zs w hz hs).mono fun _ _ h => ⟨_, h⟩
theorem bytes_ne_same (x : ByteArray) : (x.toList != x.toList) = false := by simp
set_option maxHeartbeats 800000 in
theorem eqStringS_same (ad bd : Option Addr) (ca cb : Nat) (xs : List ByteArray) (w : World) (ha : Txs w ad xs) (hb : Txs w bd xs) :
    Calls Tryd.prog 9 #[.slice ad xs.length ca, .slice bd xs.length cb] w fun e w' => e = .returned (.bool true) ∧ Keep w w' := by
  have hla := ha.small
  have hl2 : ((xs.length : Int) != (xs.length : Int)) = false := by simp
  go_enter Tryd.func9, Tryd.ntmps9
  go_wp2
  go_loopw [5] (fun i wr => ∃ k : Nat, k ≤ xs.length ∧ i = .int .i64 k ∧ Hid (Keep w wr))
    (fun i _ => xs.length - (intOf i).toNat)
  case atStart => exact ⟨0, Nat.zero_le _, rfl, Lib.hid (Below.refl _ _)⟩
  case round =>
    obtain ⟨k, hk, rfl, HK⟩ := hrel
    by_cases hlt : k < xs.length
    · rcases ha.at_ with h | ⟨b, off, rfl, hb1, hc⟩
      · subst h; simp at hlt
      rcases hb.at_ with h | ⟨b2, off2, rfl, hb2, hc2⟩
      · subst h; simp at hlt
      have hcx := (HK.out.cell (p := ⟨b, off + k, none⟩) (by exact hb1)).trans (hc k hlt)
      have hcy := (HK.out.cell (p := ⟨b2, off2 + k, none⟩) (by exact hb2)).trans (hc2 k hlt)
      clear hc hc2
      generalize xs.getD k noT = x at *
      have hne := bytes_ne_same x
      go_wp2
      go_quiet (fail)
      go_wp2
      go_roundw
      case rel => exact ⟨k + 1, by omega, by go_num, Lib.hid (below_drewN HK.out _)⟩
      case measure => simp [intOf]; omega
    · go_wp2
      go_ret
      exact ⟨rfl, HK.out⟩
end Go.Proofs.YtpdcmhnaedhkdabDoor
