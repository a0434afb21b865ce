/- Sums of rows and columns: the program's side. -/
import Derived.Test.YtjoanfgchapbaabTabI
import Derived.Test.YtjoanfgchapbaabSum5
import Derived.Test.YtjoanfgchapbaabDivs
import Derived.Test.YtjoanfgchapbaabTot
namespace Go.Proofs.Ytjoanfgchapbaab
open Go.ChangeShapes Go.WideShapes Go.ChangeAt Go.RowKit Go.Deep
set_option linter.unusedVariables false
theorem fillS_set (φ : List Int → Int) (zss : List (List Int)) (k : Nat) (h : k < zss.length) (z : Value) :
    (vals ((zss.take k).map φ) ++ List.replicate (zss.length - k) z).set k (.int .i64 (φ (zss.getD k []))) = vals ((zss.take (k + 1)).map φ) ++ List.replicate (zss.length - (k + 1)) z := by
  have e : List.replicate (zss.length - k) z = z :: List.replicate (zss.length - (k + 1)) z := by
    rw [show zss.length - k = (zss.length - (k + 1)) + 1 from by omega, List.replicate_succ]
  have hl : (vals ((zss.take k).map φ)).length = k := by simp [vals]; omega
  rw [e, List.set_append_right _ _ (by omega), hl, Nat.sub_self, List.set_cons_zero, List.take_succ_eq_append_getElem h, getDD_get zss k h, List.map_append]
  simp [vals]
theorem fillS_get (φ : List Int → Int) (zss : List (List Int)) (k : Nat) (h : k < zss.length) (z : Value) : (vals ((zss.take k).map φ) ++ List.replicate (zss.length - k) z)[k]? = some z := by
  have hl : (vals ((zss.take k).map φ)).length = k := by simp [vals]; omega
  rw [List.getElem?_append_right (by omega), List.getElem?_replicate, if_pos (by omega)]
set_option maxHeartbeats 1600000 in
theorem rowSums_any (ad : Option Addr) (cap : Nat) (zss : List (List Int)) (w : World) (hz : Intss w ad zss) (hl : zss.length ≤ 1000) (hb : ∀ k, k < zss.length → (zss.getD k []).length ≤ 1000 ∧ ∀ x ∈ zss.getD k [], -1000000 ≤ x ∧ x ≤ 1000000) :
    Calls Try.prog 81 #[.slice ad zss.length cap] w fun e w' => ∃ rd rc, e = .returned (.slice rd (sumsL zss).length rc) ∧ Own w' w.heap.size rd rc (sumsL zss) ∧ Keep w w' := by
  obtain ⟨i0, hi, hz0, hz1, hz2⟩ := info_parts Try.infoI
  have hb8 : i0.bytes * zss.length ≤ 281474976710656 := by rw [hz2]; omega
  have hml : zss.length ≤ maxLen := by unfold maxLen; omega
  have HBD := Lib.hid hb; clear hb
  go_enter Try.func81, Try.ntmps81
  go_wp2_with fail
  refine Calls.mono (R := fun e w' => ∃ rd rc, e = .returned (.slice rd (sumsL zss).length rc) ∧ Own w' w.heap.size rd rc (sumsL zss) ∧ Keep w w') ?_ ?_
  case refine_2 =>
    rintro e w1 ⟨rd, rc, rfl, o1, k1⟩
    have O1 := Lib.hid o1; clear o1
    go_wp2
    go_ret
    exact ⟨rd, rc, rfl, O1.out, k1⟩
  go_enter Try.func130, Try.ntmps130
  go_wp2_with (at_make; refine wpList_make_full w rfl _ _ 32 rfl w.heap.size 2 i0 (.int .i64 0) 1 Try.underlying32 hi hz0 hz1 .i64 .i64 _ _ zss.length rfl rfl rfl rfl hb8 hml (Nat.le_refl _) ?_)
  intro w0 hown0 hgrow0
  have hown0 : w0.ownsRow w.heap.size 2 1 (.slice (some ⟨w.heap.size, 0, none⟩) zss.length zss.length) zss.length (List.replicate zss.length (.int .i64 0)) := by simpa [Value.cells, toList_madeCells_one] using hown0
  have hk0 : Keep w w0 := (Below.refl _ _).grown hgrow0 (Nat.le_refl _) (fun k h => by cases h)
  clear hgrow0
  obtain ⟨B, hB⟩ : ∃ B, B = w.heap.size := ⟨_, rfl⟩
  rw [← hB] at hown0 ⊢
  have HB := Lib.hid hB; clear hB
  have hlen := hz.small
  go_wp2
  go_loopw [6, 7, 13] (fun _ _ i wr => ∃ k : Nat, k ≤ zss.length ∧ i = .int .i64 k ∧ wr.ownsRow B 2 1 (.slice (some ⟨B, 0, none⟩) zss.length zss.length) zss.length (vals ((zss.take k).map List.sum) ++ List.replicate (zss.length - k) (.int .i64 0)) ∧ Below B w wr)
    (fun _ _ i _ => zss.length - (intOf i).toNat)
  case atStart => exact ⟨0, Nat.zero_le _, rfl, by simpa using hown0, by rw [HB.out]; exact hk0⟩
  case round =>
    obtain ⟨k, hk, rfl, hown, hbel⟩ := hrel
    by_cases hlt : k < zss.length
    · rcases (hz.keep hbel (by rw [HB.out]; exact Nat.le_refl _)).at_ with h | ⟨b, off, rfl, hb, hc⟩
      · subst h; simp at hlt
      obtain ⟨p, d, hcx, hpd, hin⟩ := hc k hlt
      have hcy : wr.cell? ⟨B, k, none⟩ = some (.int .i64 0) := by rw [hown.cellAt k (by omega), fillS_get List.sum zss k hlt]
      have hfy := hown.frozenAt k
      have HST := Lib.hid (hown.stored k (.int .i64 ((zss.getD k []).sum)))
      have HE := Lib.hid (fillS_set List.sum zss k hlt (.int .i64 0))
      have hx := HBD.out k hlt
      have HI := Lib.hid hin
      clear hc hin
      generalize zss.getD k [] = x at hcx hpd HST HE HI hx
      have HX := Lib.hid (fun z hz => by have := hx.2 z hz; omega : ∀ z ∈ x, -1000000000 ≤ z ∧ z ≤ 1000000000)
      have hxl := hx.1
      clear hx
      go_wp2_with (go_at_call 96; refine (total_any p d x _ HI.out HX.out (by omega)).mono ?_; rintro e w' ⟨rfl, rfl⟩)
      go_roundw
      case rel =>
        obtain ⟨s1, s2⟩ := HST.out
        rw [HE.out] at s1
        refine ⟨k + 1, by omega, by go_num, s1, ?_⟩
        exact hbel.setCell (Nat.le_refl _) _
      case measure => simp [intOf]; omega
    · go_wp2
      go_ret
      have he : k = zss.length := by omega
      subst he
      have e := HB.out
      subst e
      refine ⟨some ⟨w.heap.size, 0, none⟩, zss.length, by simp [sumsL], ⟨by simpa [sumsL] using hown, by simp [sumsL]; omega, ?_⟩, hbel⟩
      intro z hz; obtain ⟨y, hy, rfl⟩ := List.mem_map.1 hz
      obtain ⟨j, hj, rfl⟩ := List.getElem_of_mem hy
      have hq := HBD.out j hj
      rw [getDD_get zss j hj] at hq
      have := sum_bd5 zss[j] hq.2
      exact ⟨by omega, by omega⟩
/-- Columns that grow: block C holds their slices, each of which lies in a block of its own. -/
structure Cols (w : World) (C m : Nat) (AD : Nat → Option Addr) (CP : Nat → Nat) (f : Nat → List Int) : Prop where
  row : w.ownsRow C 32 1 (.slice (some ⟨C, 0, none⟩) m m) m ((List.range m).map fun j => .slice (AD j) (f j).length (CP j))
  lt : C < w.heap.size
  each : ∀ j, j < m → Own w (C + 1) (AD j) (CP j) (f j)
  apart : ∀ i j, i < m → j < m → i ≠ j → ∀ b, AD i = some ⟨b, 0, none⟩ → AD j = some ⟨b, 0, none⟩ → False
theorem Cols.keep {w w' : World} {C m : Nat} {AD : Nat → Option Addr} {CP : Nat → Nat} {f : Nat → List Int} (h : Cols w C m AD CP f) (k : Keep w w') : Cols w' C m AD CP f :=
  ⟨ownsRow_keep h.row k, Nat.lt_of_lt_of_le h.lt k.size, fun j hj => (h.each j hj).keep k, h.apart⟩
theorem Cols.get {w : World} {C m : Nat} {AD : Nat → Option Addr} {CP : Nat → Nat} {f : Nat → List Int} (h : Cols w C m AD CP f) {j : Nat} (hj : j < m) : w.cell? ⟨C, j, none⟩ = some (.slice (AD j) (f j).length (CP j)) := by
  rw [h.row.cellAt j (by omega)]; simp [hj]
theorem Cols.app {w w' : World} {C m : Nat} {AD : Nat → Option Addr} {CP : Nat → Nat} {f : Nat → List Int} (h : Cols w C m AD CP f) {j g cap' n : Nat} {y : Int} (hj : j < m) (hn : n = (f j).length)
    (o : Own w' (C + 1) (some ⟨g, 0, none⟩) cap' (f j ++ [y])) (gr : w.grownBy w' (Value.slice (AD j) n (CP j)).ownBlock) (hg : AD j = some ⟨g, 0, none⟩ ∨ w.heap.size ≤ g) :
    Cols (w'.setCell ⟨C, j, none⟩ (.slice (some ⟨g, 0, none⟩) (n + 1) cap')) C m (fun i => if i = j then some ⟨g, 0, none⟩ else AD i) (fun i => if i = j then cap' else CP i) (fun i => if i = j then f j ++ [y] else f i) := by
  subst hn
  have hrow : w'.ownsRow C 32 1 (.slice (some ⟨C, 0, none⟩) m m) m ((List.range m).map fun i => .slice (AD i) (f i).length (CP i)) := by
    refine h.row.kept gr ?_
    right
    rcases own_block (h.each j hj).1 with ⟨e, _⟩ | ⟨k2, e, h4, _⟩
    · rw [e]; simp [Value.ownBlock]
    · rw [e]; simp [Value.ownBlock]; omega
  have hgC : C < g := by
    rcases own_block o.1 with ⟨e, _⟩ | ⟨k2, e, h4, _⟩
    · cases e
    · simp at e; omega
  have hs := gr.size
  refine ⟨?_, by simp; have := h.lt; omega, fun i hi => ?_, fun i k hi hk hik b h1 h2 => ?_⟩
  · obtain ⟨s1, s2⟩ := hrow.stored j (.slice (some ⟨g, 0, none⟩) ((f j).length + 1) cap')
    have e : ((List.range m).map fun i => Value.slice (AD i) (f i).length (CP i)).set j (.slice (some ⟨g, 0, none⟩) ((f j).length + 1) cap') = (List.range m).map fun i => Value.slice (if i = j then some ⟨g, 0, none⟩ else AD i) (if i = j then f j ++ [y] else f i).length (if i = j then cap' else CP i) := by
      refine List.ext_getElem (by simp) fun i h1 h2 => ?_
      rw [List.getElem_set]
      simp only [List.getElem_map, List.getElem_range]
      by_cases hij : i = j
      · subst hij; simp
      · rw [if_neg (fun e => hij e.symm), if_neg hij, if_neg hij, if_neg hij]
    rw [e] at s1
    exact s1
  · by_cases hij : i = j
    · subst hij
      simp only [if_true]
      exact o.set (by show C ≠ g; omega) _
    · simp only [if_neg hij]
      have o2 : Own w' (C + 1) (AD i) (CP i) (f i) := (h.each i hi).apart (h.each j hj) gr (fun b e1 e2 => h.apart i j hi hj hij b e1 e2)
      rcases own_block o2.1 with ⟨e, e2, e3⟩ | ⟨k2, e, h4, _⟩
      · have : f i = [] := List.eq_nil_of_length_eq_zero e2
        rw [e, this, e3]
        exact Own.nil _ _
      · rw [e] at o2 ⊢
        exact o2.set (by show C ≠ k2; omega) _
  · by_cases hij : i = j
    · subst hij
      rw [if_pos rfl] at h1
      rw [if_neg (fun e => hik e.symm)] at h2
      cases h1
      rcases hg with hg | hg
      · exact h.apart i k hi hk hik g hg h2
      · rcases own_block (h.each k hk).1 with ⟨e, _⟩ | ⟨k2, e, _, h5, _⟩
        · rw [e] at h2; cases h2
        · rw [e] at h2; cases h2; omega
    · rw [if_neg hij] at h1
      by_cases hkj : k = j
      · subst hkj
        rw [if_pos rfl] at h2
        cases h2
        rcases hg with hg | hg
        · exact h.apart i k hi hk hik g h1 hg
        · rcases own_block (h.each i hi).1 with ⟨e, _⟩ | ⟨k2, e, _, h5, _⟩
          · rw [e] at h1; cases h1
          · rw [e] at h1; cases h1; omega
      · rw [if_neg hkj] at h2
        exact h.apart i k hi hk hik b h1 h2
/-- A column of rows, so far as it has been read. -/
def colP (zss : List (List Int)) (k t j : Nat) : List Int := (zss.take (if j < t then k + 1 else k)).map fun z => z.getD j 0
/-- The columns of rows. -/
def colsL (m : Nat) (zss : List (List Int)) : List (List Int) := (List.range m).map fun j => zss.map fun z => z.getD j 0
theorem colsL_len (m : Nat) (zss : List (List Int)) : (colsL m zss).length = m := by simp [colsL]
theorem colsL_get (m : Nat) (zss : List (List Int)) (j : Nat) (h : j < m) : (colsL m zss).getD j [] = zss.map fun z => z.getD j 0 := by
  simp [colsL, List.getD_eq_getElem?_getD, h]
theorem colP_len (zss : List (List Int)) (k j : Nat) (h : k < zss.length) : (colP zss k j j).length = k := by simp [colP]; omega
theorem colP_step (zss : List (List Int)) (k t : Nat) (h : k < zss.length) : (fun i => if i = t then colP zss k t t ++ [(zss.getD k []).getD t 0] else colP zss k t i) = colP zss k (t + 1) := by
  funext i
  by_cases hi : i = t
  · subst hi
    rw [if_pos rfl]
    unfold colP
    rw [if_neg (by omega), if_pos (by omega), List.take_succ_eq_append_getElem h, List.map_append, getDD_get zss k h]
    rfl
  · rw [if_neg hi]
    unfold colP
    by_cases h2 : i < t
    · rw [if_pos h2, if_pos (by omega)]
    · rw [if_neg h2, if_neg (by omega)]
theorem colP_next (zss : List (List Int)) (k m : Nat) (f : Nat → List Int) (h : ∀ j, j < m → f j = colP zss k m j) : ∀ j, j < m → f j = colP zss (k + 1) 0 j := fun j hj => by
  rw [h j hj]; unfold colP; rw [if_pos hj, if_neg (by omega)]
theorem Cols.same {w : World} {C m : Nat} {AD : Nat → Option Addr} {CP : Nat → Nat} {f f' : Nat → List Int} (h : Cols w C m AD CP f) (e : ∀ j, j < m → f j = f' j) : Cols w C m AD CP f' := by
  refine ⟨?_, h.lt, fun j hj => by rw [← e j hj]; exact h.each j hj, h.apart⟩
  have : ((List.range m).map fun j => Value.slice (AD j) (f j).length (CP j)) = (List.range m).map fun j => Value.slice (AD j) (f' j).length (CP j) := by
    refine List.map_congr_left fun j hj => ?_
    rw [e j (List.mem_range.1 hj)]
  rw [← this]; exact h.row
theorem colP_zero (zss : List (List Int)) (j : Nat) : colP zss 0 0 j = [] := by simp [colP]
theorem Cols.intss {w : World} {C m : Nat} {AD : Nat → Option Addr} {CP : Nat → Nat} {zss : List (List Int)} (h : Cols w C m AD CP (colP zss zss.length 0)) (hm : m ≤ 9223372036854775807) : Intss w (some ⟨C, 0, none⟩) (colsL m zss) := by
  refine ⟨by rw [colsL_len]; exact hm, ?_⟩
  by_cases h0 : m = 0
  · left; subst h0; rfl
  · refine .inr ⟨C, 0, rfl, h.lt, fun i hi => ?_⟩
    rw [colsL_len] at hi
    have e : (colsL m zss).getD i [] = colP zss zss.length 0 i := by rw [colsL_get m zss i hi]; unfold colP; rw [if_neg (by omega), List.take_length]
    rw [e, Nat.zero_add]
    have o := h.each i hi
    refine ⟨AD i, CP i, h.get hi, ?_, o.ints⟩
    rcases own_block o.1 with ⟨_, h2, _⟩ | ⟨g, _, _, _, h6⟩
    · omega
    · exact h6
set_option maxHeartbeats 3200000 in
set_option maxRecDepth 100000 in
theorem turned_any (ad : Option Addr) (cap : Nat) (zss : List (List Int)) (m : Nat) (w : World) (hz : Intss w ad zss) (h1 : 1 ≤ zss.length) (hl : zss.length ≤ 1000) (hl2 : m ≤ 1000) (hb : ∀ k, k < zss.length → (zss.getD k []).length = m ∧ ∀ x ∈ zss.getD k [], In64 x) :
    Calls Try.prog 131 #[.slice ad zss.length cap] w fun e w' => ∃ C, e = .returned (.slice (some ⟨C, 0, none⟩) m m) ∧ w.heap.size ≤ C ∧ Intss w' (some ⟨C, 0, none⟩) (colsL m zss) ∧ Keep w w' := by
  have HB := Lib.hid hb; clear hb
  obtain ⟨i0, hi, hz0, hz1, hz2⟩ := info_parts Try.infoIS
  have hb8 : i0.bytes * m ≤ 281474976710656 := by rw [hz2]; omega
  have hml : m ≤ maxLen := by unfold maxLen; omega
  rcases hz.at_ with h | ⟨b, off, rfl, hb, hc⟩
  · subst h; simp at h1
  obtain ⟨p0, d0, hc0, hd0, _⟩ := hc 0 (by omega)
  rw [(HB.out 0 (by omega)).1, Nat.add_zero] at hc0
  have HC := Lib.hid hc; clear hc
  go_enter Try.func131, Try.ntmps131
  go_wp2_with (at_make; refine wpList_make_full w rfl _ _ 25 rfl w.heap.size 32 i0 (.slice none 0 0) 1 Try.underlying25 hi hz0 hz1 .i64 .i64 _ _ m rfl rfl rfl rfl hb8 hml (Nat.le_refl _) ?_)
  intro w0 hown0 hgrow0
  have hown0 : w0.ownsRow w.heap.size 32 1 (.slice (some ⟨w.heap.size, 0, none⟩) m m) m (List.replicate m (.slice none 0 0)) := by simpa [Value.cells, toList_madeCells_one] using hown0
  have hk0 : Keep w w0 := (Below.refl _ _).grown hgrow0 (Nat.le_refl _) (fun k h => by cases h)
  have hlt0 : w.heap.size < w0.heap.size := by
    rcases own_block hown0 with ⟨h, _⟩ | ⟨g, h, _, h2, _⟩
    · cases h
    · simp at h; omega
  clear hgrow0
  obtain ⟨C, hC⟩ : ∃ C, C = w.heap.size := ⟨_, rfl⟩
  rw [← hC] at hown0 hlt0 ⊢
  have HCe := Lib.hid hC; clear hC
  have hlen := hz.small
  have HO0 : Hid (Cols w0 C m (fun _ => none) (fun _ => 0) (colP zss 0 0)) := Lib.hid ⟨by
      have : ((List.range m).map fun j => Value.slice none (colP zss 0 0 j).length 0) = List.replicate m (.slice none 0 0) := by
        rw [List.eq_replicate_iff]
        refine ⟨by simp, fun v hv => ?_⟩
        obtain ⟨t, _, rfl⟩ := List.mem_map.1 hv
        rw [colP_zero]; rfl
      rw [this]; exact hown0, hlt0, fun j hj => by rw [colP_zero]; exact Own.nil _ _, fun i j _ _ _ b h _ => by cases h⟩
  have HK0 : Hid (Below C w w0) := Lib.hid (by rw [HCe.out]; exact hk0)
  clear hown0 hk0 hlt0
  go_wp2
  go_loopg [5, 6, 7, 15] zss.length (fun kk _ _ _ i wr => ∃ (k : Nat) (AD : Nat → Option Addr) (CP : Nat → Nat), k ≤ zss.length ∧ kk = zss.length - k ∧ i = .int .i64 k ∧ Hid (Cols wr C m AD CP (colP zss k 0)) ∧ Hid (Below C w wr))
  case atStart => exact ⟨0, _, _, Nat.zero_le _, rfl, rfl, HO0, HK0⟩
  case round =>
    obtain ⟨k, AD, CP, hk, rfl, rfl, HO, HK⟩ := hrel
    obtain ⟨wo, rfl⟩ : ∃ x, x = wr := ⟨wr, rfl⟩
    by_cases hlt : k < zss.length
    · obtain ⟨p, d, hcx, hd, hi⟩ := HC.out k hlt
      have hrow := (HB.out k hlt).1
      rw [hrow] at hcx
      have hb' : b < C := by rw [HCe.out]; exact hb
      have hcy := (HK.out.cell (p := ⟨b, off + k, none⟩) (by exact hb')).trans hcx
      have HI := Lib.hid hi
      have HRW := Lib.hid hrow
      clear hcx hi hd hrow
      go_wp2
      go_loopg [6, 7, 21] m (fun kk _ _ j wi => ∃ (t : Nat) (AD : Nat → Option Addr) (CP : Nat → Nat), t ≤ m ∧ kk = m - t ∧ j = .int .i64 t ∧ Hid (Cols wi C m AD CP (colP zss k t)) ∧ Hid (Below C w wi))
      case atStart => exact ⟨0, AD, CP, Nat.zero_le _, rfl, rfl, HO, HK⟩
      case round =>
        obtain ⟨t, AD, CP, ht, rfl, rfl, HO2, HK2⟩ := hrel
        by_cases htm : t < m
        · rcases HI.out.at_ with h | ⟨b2, off2, rfl, hb2, hc2⟩
          · have := HRW.out; rw [h] at this; simp at this; omega
          have hb2' : b2 < C := by rw [HCe.out]; exact hb2
          have q2 := (HK2.out.cell (p := ⟨b2, off2 + t, none⟩) (by exact hb2')).trans (hc2 t (by rw [HRW.out]; exact htm))
          have hx := (HB.out k hlt).2 _ (getD_mem (zss.getD k []) t (by rw [HRW.out]; exact htm))
          have q3 := HO2.out.get htm
          have q4 := HO2.out.lt
          rw [colP_len zss k t hlt] at q3
          have HST := Lib.hid (colP_step zss k t hlt)
          have HLP := Lib.hid (colP_len zss k t hlt)
          have hsr := HK2.out.size
          have hcs : C ≤ wr.heap.size := by omega
          clear hc2
          generalize (zss.getD k []).getD t 0 = x at *
          have hne : b ≠ C ∧ b2 ≠ C := ⟨by omega, by omega⟩
          have HROW : Hid (∀ w1 w3, Keep wr w1 → w1.grownBy w3 (Value.slice (AD t) k (CP t)).ownBlock → w3.ownsRow C 32 1 (.slice (some ⟨C, 0, none⟩) m m) m ((List.range m).map fun j => .slice (AD j) (colP zss k t j).length (CP j))) := Lib.hid (fun w1 w3 k1 hgr3 => (HO2.out.keep k1).row.kept hgr3 (by
            right
            rcases own_block (HO2.out.each t htm).1 with ⟨e, _⟩ | ⟨k2, e, h4, _⟩
            · rw [e]; simp [Value.ownBlock]
            · rw [e]; simp [Value.ownBlock]; omega))
          have HAPP : Hid (∀ w1 w3 g cap', Keep wr w1 → Own w3 (C + 1) (some ⟨g, 0, none⟩) cap' (colP zss k t t ++ [x]) → w1.grownBy w3 (Value.slice (AD t) k (CP t)).ownBlock → (AD t = some ⟨g, 0, none⟩ ∨ w1.heap.size ≤ g) →
              (∃ AD' CP', Cols (w3.setCell ⟨C, t, none⟩ (.slice (some ⟨g, 0, none⟩) (k + 1) cap')) C m AD' CP' (colP zss k (t + 1))) ∧ Below C w w3 ∧ C < w3.heap.size ∧ w3.cell? ⟨C, t, none⟩ = some (.slice (AD t) k (CP t)) ∧ w3.frozen? ⟨C, t, none⟩ = false) := Lib.hid (fun w1 w3 g cap' k1 ho hgr hg => by
            have hq := HROW.out w1 w3 k1 hgr
            have hs1 := k1.size
            have hs3 := hgr.size
            have hcell := hq.cellAt t (by omega)
            simp only [List.getElem?_map, List.getElem?_range htm, Option.map_some, HLP.out] at hcell
            have ha := (HO2.out.keep k1).app htm HLP.out.symm ho hgr hg
            rw [HST.out] at ha
            exact ⟨⟨_, _, ha⟩, below_own (HK2.out.trans (k1.mono hcs)) ((HO2.out.each t htm).keep k1) hgr (by omega) (by omega), by omega, hcell, hq.frozenAt t⟩)
          have HOX := Lib.hid (HO2.out.each t htm)
          go_wp2_with (refine list_app2 (by rfl) _ _ (by rfl) (C + 1) (AD t) (CP t) k (colP zss k t t) x (by rfl) (HOX.out.keep (by go_grown)) HLP.out.symm wr.heap.size (by rfl) (by simp) hx (by rw [HLP.out]; omega) (by simp; omega) ?_; intro g cap' w3 hown3 hgr3 hg3 hg4; obtain ⟨HCO, hbel3, hC3, hcc, hff⟩ := HAPP.out _ w3 g cap' (by go_grown) hown3 hgr3 hg3)
          go_roundg (m - (t + 1))
          case measure => omega
          case rel =>
            obtain ⟨AD', CP', hco⟩ := HCO
            exact ⟨t + 1, AD', CP', by omega, by omega, by go_num, Lib.hid hco, Lib.hid (hbel3.setCell (Nat.le_refl _) _)⟩
        · have HE := Lib.hid (show t = m by omega)
          go_wp2
          go_roundg (zss.length - (k + 1))
          case measure => omega
          case rel => exact ⟨k + 1, AD, CP, by omega, rfl, by go_num, Lib.hid (HO2.out.same (colP_next zss k m _ (fun j _ => by rw [HE.out]))), HK2⟩
    · have HE := Lib.hid (show k = zss.length by omega)
      go_wp2
      go_ret
      have h := HO.out
      rw [HE.out] at h
      exact ⟨C, rfl, by rw [HCe.out]; exact Nat.le_refl _, h.intss (by omega), by have := HK.out; rw [HCe.out] at this; exact this⟩
theorem downL_cols (m : Nat) (zss : List (List Int)) : sumsL (colsL m zss) = downL m zss := by
  unfold sumsL colsL downL downT colS
  rw [List.map_map, List.take_length]
  rfl
theorem cols_bd {zss : List (List Int)} {m : Nat} (h : ∀ k, k < zss.length → (zss.getD k []).length = m ∧ ∀ x ∈ zss.getD k [], -1000000 ≤ x ∧ x ≤ 1000000) : ∀ j, j < (colsL m zss).length → ((colsL m zss).getD j []).length = zss.length ∧ ∀ x ∈ (colsL m zss).getD j [], -1000000 ≤ x ∧ x ≤ 1000000 := fun j hj => by
  rw [colsL_len] at hj
  rw [colsL_get m zss j hj]
  refine ⟨by simp, fun x hx => ?_⟩
  obtain ⟨z, hz, rfl⟩ := List.mem_map.1 hx
  obtain ⟨i, hi, rfl⟩ := List.getElem_of_mem hz
  have hq := h i hi
  rw [getDD_get zss i hi] at hq
  exact hq.2 _ (getD_mem _ j (by omega))
theorem columnSums_any (ad : Option Addr) (cap : Nat) (zss : List (List Int)) (m : Nat) (w : World) (hz : Intss w ad zss) (h1 : 1 ≤ zss.length) (hl : zss.length ≤ 1000) (hl2 : m ≤ 1000) (hb : ∀ k, k < zss.length → (zss.getD k []).length = m ∧ ∀ x ∈ zss.getD k [], -1000000 ≤ x ∧ x ≤ 1000000) :
    Calls Try.prog 83 #[.slice ad zss.length cap] w fun e w' => ∃ rd rc, e = .returned (.slice rd (downL m zss).length rc) ∧ Own w' w.heap.size rd rc (downL m zss) ∧ Keep w w' := by
  have HB := Lib.hid hb; clear hb
  have HCB := Lib.hid (cols_bd HB.out)
  go_enter Try.func83, Try.ntmps83
  go_wp2_with fail
  refine (turned_any ad cap zss m _ hz h1 hl hl2 (fun k hk => ⟨(HB.out k hk).1, fun x hx => by have := (HB.out k hk).2 x hx; exact ⟨by omega, by omega⟩⟩)).mono ?_
  rintro e w1 ⟨C, rfl, hC, hi, k1⟩
  have HI := Lib.hid hi; clear hi
  have hR := rowSums_any (some ⟨C, 0, none⟩) m (colsL m zss) w1 HI.out (by rw [colsL_len]; omega) (fun j hj => ⟨by rw [(HCB.out j hj).1]; omega, (HCB.out j hj).2⟩)
  rw [downL_cols, colsL_len] at hR
  have HR := Lib.hid hR; clear hR
  go_wp2_with fail
  refine HR.out.mono ?_
  rintro e w2 ⟨rd, rc, rfl, o2, k2⟩
  have O2 := Lib.hid (o2.mono (B' := w.heap.size) k1.size); clear o2
  have K2 := Lib.hid (Keep.next k1 k2)
  go_wp2
  go_ret
  exact ⟨rd, rc, rfl, O2.out, K2.out⟩
theorem rowSums_tab (g : Int) (ad : Option Addr) (cap : Nat) (zss : List (List Int)) (w : World) (hz : Intss w ad zss) (h1 : tabB g zss = true) :
    Calls Try.prog 81 #[.slice ad zss.length cap] w fun e w' => ∃ rd rc, e = .returned (.slice rd (rowSV g zss).length rc) ∧ Own w' w.heap.size rd rc (rowSV g zss) ∧ Keep w w' := by
  have hs := tab_size h1
  have hr := tab_rows h1
  rw [show rowSV g zss = sumsL zss from by simp [rowSV, h1]]
  exact rowSums_any ad cap zss w hz (by omega) (fun k hk => ⟨by have := (hr k hk).1; omega, (hr k hk).2⟩)
theorem columnSums_tab (g : Int) (ad : Option Addr) (cap : Nat) (zss : List (List Int)) (w : World) (hz : Intss w ad zss) (h1 : tabB g zss = true) :
    Calls Try.prog 83 #[.slice ad zss.length cap] w fun e w' => ∃ rd rc, e = .returned (.slice rd (colSV g zss).length rc) ∧ Own w' w.heap.size rd rc (colSV g zss) ∧ Keep w w' := by
  have hs := tab_size h1
  have hr := tab_rows h1
  rw [show colSV g zss = downL (zss.getD 0 []).length zss from by simp [colSV, h1]]
  exact columnSums_any ad cap zss _ w hz hs.2.1.1 (by omega) (by omega) hr
set_option maxHeartbeats 800000 in
theorem RowSums_any (g : Int) (ad : Option Addr) (cap : Nat) (zss : List (List Int)) (w : World) (hz : Intss w ad zss) :
    Calls Try.prog 36 #[valV g ad zss.length cap] w fun e w' => ∃ rd rc, e = .returned (.tuple #[.slice rd (rowSV g zss).length rc, .bool (tabB g zss)]) ∧ Own w' w.heap.size rd rc (rowSV g zss) ∧ Keep w w' := by
  have B0 : Box (w.alloc (.cells #[.int .i64 g, .slice ad zss.length cap] 49)) w.heap.size g ad zss.length cap := ⟨by simp, by simp, by simp⟩
  cases h1 : tabB g zss
  · rw [show rowSV g zss = [] from by simp [rowSV, h1]]
    go_enter Try.func36, Try.ntmps36
    go_wp2_with fail
    refine (ValidTable_any g ad cap zss _ (hz.keep (B := _) (by go_grown) (Nat.le_refl _))).mono ?_
    rw [h1]
    rintro e w1 ⟨rfl, k1⟩
    have g1 : Keep w w1 := Keep.next (by go_grown) k1
    go_wp2
    refine bodyPost_ret (v := .tuple #[.slice none 0 0, .bool false]) (by simp [results, Try.results36, go_sem]) rfl ?_
    exact ⟨none, 0, rfl, Own.nil _ _, g1⟩
  · obtain ⟨S, hS⟩ : ∃ S, S = rowSV g zss := ⟨_, rfl⟩
    rw [← hS]
    have HS := Lib.hid hS; clear hS
    have hs := tab_size h1
    have hr := tab_rows h1
    have HC : Hid (∀ W, Keep w W → Calls Try.prog 81 #[.slice ad zss.length cap] W fun e w' => ∃ rd rc, e = .returned (.slice rd S.length rc) ∧ Own w' W.heap.size rd rc S ∧ Keep W w') := Lib.hid (fun W k => by
      rw [HS.out]
      exact rowSums_tab g ad cap zss W (hz.keep (B := _) k (Nat.le_refl _)) h1)
    go_enter Try.func36, Try.ntmps36
    go_wp2_with fail
    refine (ValidTable_any g ad cap zss _ (hz.keep (B := _) (by go_grown) (Nat.le_refl _))).mono ?_
    rw [h1]
    rintro e w1 ⟨rfl, k1⟩
    have g1 : Keep w w1 := Keep.next (by go_grown) k1
    obtain ⟨q0, q1, q2⟩ := B0.keep k1
    go_wp2_with fail
    refine (HC.out _ g1).mono ?_
    rintro e w2 ⟨rd, rc, rfl, o2, k2⟩
    have g2 : Keep w w2 := Keep.next g1 k2
    have o2' := Lib.hid (o2.mono (B' := w.heap.size) g1.size)
    clear o2
    go_wp2
    refine bodyPost_ret (v := .tuple #[.slice rd S.length rc, .bool true]) (by simp [results, Try.results36, go_sem]) rfl ?_
    exact ⟨rd, rc, rfl, o2'.out, g2⟩
set_option maxHeartbeats 800000 in
theorem ColumnSums_any (g : Int) (ad : Option Addr) (cap : Nat) (zss : List (List Int)) (w : World) (hz : Intss w ad zss) :
    Calls Try.prog 42 #[valV g ad zss.length cap] w fun e w' => ∃ rd rc, e = .returned (.tuple #[.slice rd (colSV g zss).length rc, .bool (tabB g zss)]) ∧ Own w' w.heap.size rd rc (colSV g zss) ∧ Keep w w' := by
  have B0 : Box (w.alloc (.cells #[.int .i64 g, .slice ad zss.length cap] 49)) w.heap.size g ad zss.length cap := ⟨by simp, by simp, by simp⟩
  cases h1 : tabB g zss
  · rw [show colSV g zss = [] from by simp [colSV, h1]]
    go_enter Try.func42, Try.ntmps42
    go_wp2_with fail
    refine (ValidTable_any g ad cap zss _ (hz.keep (B := _) (by go_grown) (Nat.le_refl _))).mono ?_
    rw [h1]
    rintro e w1 ⟨rfl, k1⟩
    have g1 : Keep w w1 := Keep.next (by go_grown) k1
    go_wp2
    refine bodyPost_ret (v := .tuple #[.slice none 0 0, .bool false]) (by simp [results, Try.results42, go_sem]) rfl ?_
    exact ⟨none, 0, rfl, Own.nil _ _, g1⟩
  · obtain ⟨S, hS⟩ : ∃ S, S = colSV g zss := ⟨_, rfl⟩
    rw [← hS]
    have HS := Lib.hid hS; clear hS
    have hs := tab_size h1
    have hr := tab_rows h1
    have HC : Hid (∀ W, Keep w W → Calls Try.prog 83 #[.slice ad zss.length cap] W fun e w' => ∃ rd rc, e = .returned (.slice rd S.length rc) ∧ Own w' W.heap.size rd rc S ∧ Keep W w') := Lib.hid (fun W k => by
      rw [HS.out]
      exact columnSums_tab g ad cap zss W (hz.keep (B := _) k (Nat.le_refl _)) h1)
    go_enter Try.func42, Try.ntmps42
    go_wp2_with fail
    refine (ValidTable_any g ad cap zss _ (hz.keep (B := _) (by go_grown) (Nat.le_refl _))).mono ?_
    rw [h1]
    rintro e w1 ⟨rfl, k1⟩
    have g1 : Keep w w1 := Keep.next (by go_grown) k1
    obtain ⟨q0, q1, q2⟩ := B0.keep k1
    go_wp2_with fail
    refine (HC.out _ g1).mono ?_
    rintro e w2 ⟨rd, rc, rfl, o2, k2⟩
    have g2 : Keep w w2 := Keep.next g1 k2
    have o2' := Lib.hid (o2.mono (B' := w.heap.size) g1.size)
    clear o2
    go_wp2
    refine bodyPost_ret (v := .tuple #[.slice rd S.length rc, .bool true]) (by simp [results, Try.results42, go_sem]) rfl ?_
    exact ⟨rd, rc, rfl, o2'.out, g2⟩
end Go.Proofs.Ytjoanfgchapbaab
