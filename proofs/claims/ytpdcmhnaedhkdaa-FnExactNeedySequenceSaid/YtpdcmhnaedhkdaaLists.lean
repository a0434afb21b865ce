/- Slices of slices of int64: what they are in memory; the laws' helpers on them: counted, copied, compared. -/
import Derived.Test.YtpdcmhnaedhkdaaMem
import Derived.Deep.Matrix
namespace Go.Proofs.Ytpdcmhnaedhkdaa
open Go.ChangeShapes Go.WideShapes Go.ChangeAt Go.RowKit Go.Deep
set_option linter.unusedVariables false

/-- The slice at ad holds slices that hold the numbers zss. (Nothing is asked of the address of an empty one.) -/
structure Intss (w : World) (ad : Option Addr) (zss : List (List Int)) : Prop where
  small : zss.length ≤ 9223372036854775807
  at_ : zss = [] ∨ ∃ b off, ad = some ⟨b, off, none⟩ ∧ b < w.heap.size ∧ ∀ i, i < zss.length → ∃ p c, w.cell? ⟨b, off + i, none⟩ = some (.slice p (zss.getD i []).length c) ∧ (zss.getD i []).length ≤ c ∧ Ints w p (zss.getD i [])
theorem Intss.keep {w w' : World} {ad : Option Addr} {zss : List (List Int)} {B : Nat} (h : Intss w ad zss) (hb : Below B w w') (hB : w.heap.size ≤ B) : Intss w' ad zss := by
  refine ⟨h.small, ?_⟩
  rcases h.at_ with h1 | ⟨b, off, h1, h2, h3⟩
  · exact .inl h1
  · refine .inr ⟨b, off, h1, ?_, fun i hi => ?_⟩
    · have := hb.size; omega
    · obtain ⟨p, c, e1, e2, e3⟩ := h3 i hi
      exact ⟨p, c, by rw [hb.cell (by show b < B; omega)]; exact e1, e2, e3.keep hb hB⟩
theorem getDD_get (zss : List (List Int)) (k : Nat) (h : k < zss.length) : zss.getD k [] = zss[k] := by simp [List.getD_eq_getElem?_getD, h]
/-- Out of the reading of an argument that is a slice of slices of int64. -/
theorem intss_open {H : Type} {enc : TypeId × Value → H} {P : Program} {W : World} {t e q : TypeId} {d : DataW H} {p : List MemPlace} {ad : Option Addr} {len cap : Nat} (ht : P.underlying t = some (.slice e)) (he : P.underlying e = some (.slice q)) (hq : P.underlying q = some (.int .i64)) (ce : P.cellsOf e = 1) (cq : P.cellsOf q = 1)
    (h : DataW.Trod enc P W 0 (fun _ => true) true t (.slice ad len cap) d p) : ∃ zss : List (List Int), zss.length = len ∧ Intss W ad zss := by
  obtain ⟨fuel, hf⟩ := h
  rcases open_int_rows ht he hq ce cq hf with ⟨hcs, _⟩ | ⟨x, l, c, A, L, C, Z, hcs, _, hl, hm, _, hr⟩
  · simp [Value.cells] at hcs
    obtain ⟨rfl, rfl, rfl⟩ := hcs
    exact ⟨[], rfl, by simp, .inl rfl⟩
  · simp [Value.cells] at hcs
    obtain ⟨rfl, rfl, rfl⟩ := hcs
    unfold maxLen at hm
    refine ⟨(List.range len).map fun r => (Z r).take (L r), by simp, by simp; omega, ?_⟩
    by_cases h0 : len = 0
    · left; subst h0; rfl
    · right
      obtain ⟨b, off, spot⟩ := x
      have hspot : spot = none := by simpa [Addr.add] using World.cell?_spot (hr 0 (by omega)).1
      subst hspot
      refine ⟨b, off, rfl, ?_, fun i hi => ?_⟩
      · have := (hr 0 (by omega)).1
        rw [Go.WideShapes.add_plain] at this
        exact World.block_lt_of_cell? _ _ this
      · simp only [List.length_map, List.length_range] at hi
        obtain ⟨e1, e2, e3, e4, e5, e6, e7⟩ := hr i (by omega)
        rw [Go.WideShapes.add_plain] at e1
        have hg : ((List.range len).map fun r => (Z r).take (L r)).getD i [] = (Z i).take (L i) := by simp [List.getD_eq_getElem?_getD, hi]
        have hlen : ((Z i).take (L i)).length = L i := by rw [List.length_take]; omega
        rw [hg, hlen]
        unfold maxLen at e3
        refine ⟨A i, C i, e1, e2, by rw [hlen]; omega, fun z hz => in64 (e5 z (List.mem_of_mem_take hz)), ?_⟩
        by_cases hz0 : L i = 0
        · left; rw [hz0]; rfl
        · right
          cases hA : A i with
          | none => have := e6 hA; omega
          | some a' =>
            obtain ⟨_, e8⟩ := e7 a' hA
            obtain ⟨b2, off2, rfl, hcx⟩ := ints_at (a := a') (fun i' hi' => e8 i' (by omega)) (by omega)
            refine ⟨b2, off2, rfl, World.block_lt_of_cell? _ _ (hcx 0 (by omega)), fun j hj => ?_⟩
            rw [hlen] at hj
            rw [hcx j (by omega)]
            simp [List.getD_eq_getElem?_getD, hj]
/-- How many numbers they hold. -/
def tot : List (List Int) → Nat
  | [] => 0
  | z :: t => z.length + tot t
theorem tot_take_succ : ∀ (zss : List (List Int)) (k : Nat), k < zss.length → tot (zss.take (k + 1)) = tot (zss.take k) + (zss.getD k []).length := by
  intro zss
  induction zss with
  | nil => intro k h; simp at h
  | cons a t ih =>
    intro k h
    cases k with
    | zero => simp [tot]
    | succ k =>
      have := ih k (by simpa using h)
      rw [List.take_succ_cons, List.take_succ_cons, tot, tot, this, List.getD_cons_succ]; omega
theorem tot_take_le (zss : List (List Int)) : ∀ k, tot (zss.take k) ≤ tot zss := by
  induction zss with
  | nil => intro k; simp
  | cons a t ih =>
    intro k
    cases k with
    | zero => simp [tot]
    | succ k => rw [List.take_succ_cons, tot, tot]; have := ih k; omega
/-- What is left of a budget. -/
def lefts (left : Int) (zss : List (List Int)) : Int := if left < (zss.length : Int) + tot zss then -1 else left - zss.length - tot zss
set_option maxHeartbeats 400000 in
theorem szInt64SS_any (ad : Option Addr) (cap : Nat) (zss : List (List Int)) (left : Int) (w : World) (hz : Intss w ad zss) (h1 : 0 ≤ left) (h2 : left ≤ 1048576) :
    Calls Try.prog 23 #[.slice ad zss.length cap, .int .i64 left] w fun e w' => e = .returned (.int .i64 (lefts left zss)) ∧ w = w' := by
  have hsm := hz.small
  by_cases h0 : left < (zss.length : Int)
  · rw [show lefts left zss = -1 from by unfold lefts; rw [if_pos (by omega)]]
    go_enter Try.func23, Try.ntmps23
    go_wp2
    go_ret
    exact ⟨rfl, rfl⟩
  · go_enter Try.func23, Try.ntmps23
    go_wp2
    go_loopw [1, 5] (fun l i wr => ∃ k : Nat, k ≤ zss.length ∧ i = .int .i64 k ∧ l = .int .i64 (left - zss.length - tot (zss.take k)) ∧ (0 : Int) ≤ left - zss.length - tot (zss.take k) ∧ wr = w)
      (fun _ i _ => zss.length - (intOf i).toNat)
    case atStart => exact ⟨0, Nat.zero_le _, rfl, by simp [tot], by simp [tot]; omega, (by first | rfl | trivial)⟩
    case round =>
      obtain ⟨k, hk, rfl, rfl, hnn, rfl⟩ := hrel
      by_cases hlt : k < zss.length
      · rcases hz.at_ with h | ⟨b, off, rfl, hb, hc⟩
        · subst h; simp at hlt
        obtain ⟨p, c, hcx, hpc, hi⟩ := hc k hlt
        have hsm2 := hi.small
        have HT := Lib.hid (tot_take_succ zss k hlt)
        have HLE := Lib.hid (tot_take_le zss (k + 1))
        have HTL := Lib.hid (tot_take_le zss k)
        clear hc hi
        generalize hln : (zss.getD k []).length = ln at hcx hpc hsm2 HT
        clear hln
        generalize htk : tot (zss.take k) = tk at hnn HT HTL
        by_cases hneg : left - zss.length - tk < (ln : Int)
        · go_wp2_with (go_at_call 59; refine (szInt64S_any _ _ _ _ _ (by omega) (by omega) (by omega)).mono ?_; rw [if_pos (by omega)]; rintro e w' ⟨rfl, rfl⟩)
          go_ret
          refine ⟨ret_i64 ?_, rfl⟩
          have a1 := HT.out; have a2 := HLE.out
          unfold lefts; rw [if_pos (by omega)]
        · go_wp2_with (go_at_call 59; refine (szInt64S_any _ _ _ _ _ (by omega) (by omega) (by omega)).mono ?_; rw [if_neg (by omega)]; rintro e w' ⟨rfl, rfl⟩)
          go_roundw
          case rel => exact ⟨k + 1, by omega, by go_num, by rw [HT.out]; congr 1; omega, by rw [HT.out]; omega, (by first | rfl | trivial)⟩
          case measure => simp [intOf]; omega
      · have he : k = zss.length := by omega
        have HE := Lib.hid he; clear he
        go_wp2
        go_ret
        refine ⟨ret_i64 ?_, rfl⟩
        have e := HE.out
        rw [e, List.take_length] at hnn ⊢
        unfold lefts; rw [if_neg (by omega)]
theorem Try.infoIS : (Try.prog.info? 22).map (fun i => (i.zero, i.size, i.bytes)) = some (some (.slice none 0 0), 1, 24) := by kernel_rfl
/-- Slices of the call's own, as cells. -/
def rowsV (G : Nat → Nat) (zss : List (List Int)) (k : Nat) : List Value := (List.range k).map fun j => .slice (some ⟨G j, 0, none⟩) (zss.getD j []).length (zss.getD j []).length
theorem rowsV_len (G : Nat → Nat) (zss : List (List Int)) (k : Nat) : (rowsV G zss k).length = k := by simp [rowsV]
theorem rowsV_get (G : Nat → Nat) (zss : List (List Int)) (k j : Nat) (h : j < k) : (rowsV G zss k)[j]? = some (.slice (some ⟨G j, 0, none⟩) (zss.getD j []).length (zss.getD j []).length) := by simp [rowsV, h]
theorem rowsV_fill (G : Nat → Nat) (zss : List (List Int)) (n k g : Nat) (h : k < n) (z : Value) :
    (rowsV G zss k ++ List.replicate (n - k) z).set k (.slice (some ⟨g, 0, none⟩) (zss.getD k []).length (zss.getD k []).length) = rowsV (fun j => if j = k then g else G j) zss (k + 1) ++ List.replicate (n - (k + 1)) z := by
  have e : List.replicate (n - k) z = z :: List.replicate (n - (k + 1)) z := by
    rw [show n - k = (n - (k + 1)) + 1 from by omega, List.replicate_succ]
  rw [e, List.set_append_right _ _ (by simp [rowsV])]
  have : k - (rowsV G zss k).length = 0 := by simp [rowsV]
  rw [this, List.set_cons_zero]
  unfold rowsV
  rw [List.range_succ, List.map_append, List.append_assoc, List.map_cons, List.map_nil, List.cons_append, List.nil_append]
  congr 1
  · refine List.map_congr_left fun j hj => ?_
    have hjk := List.mem_range.1 hj
    show _ = Value.slice (some ⟨if j = k then g else G j, 0, none⟩) _ _
    rw [if_neg (by omega)]
  · show _ = Value.slice (some ⟨if k = k then g else G k, 0, none⟩) _ _ :: _
    rw [if_pos rfl]
theorem rowsV_get2 (G : Nat → Nat) (zss : List (List Int)) (n k : Nat) (h : k < n) (z : Value) : (rowsV G zss k ++ List.replicate (n - k) z)[k]? = some z := by
  rw [List.getElem?_append_right (by simp [rowsV]), List.getElem?_replicate, if_pos (by simp [rowsV]; omega)]
/-- A slice of slices that a call itself made: block B, and behind it a block for each row. -/
structure OwnSS (w : World) (B : Nat) (G : Nat → Nat) (zss : List (List Int)) : Prop where
  small : zss.length ≤ 9223372036854775807
  row : w.ownsRow B 22 1 (.slice (some ⟨B, 0, none⟩) zss.length zss.length) zss.length (rowsV G zss zss.length)
  lt : B < w.heap.size
  each : ∀ j, j < zss.length → Own w (B + 1) (some ⟨G j, 0, none⟩) (zss.getD j []).length (zss.getD j [])
  rise : ∀ i j, i < j → j < zss.length → G i < G j
theorem ownsRow_keep {w w' : World} {B e : Nat} {ad : Option Addr} {n cap : Nat} {xs : List Value} (h : w.ownsRow B e 1 (.slice ad n cap) n xs) (k : Keep w w') : w'.ownsRow B e 1 (.slice ad n cap) n xs := by
  refine h.kept (row := none) ⟨k.os, k.tape, k.output, k.size, fun j hj _ => k.block j hj⟩ ?_
  rcases own_block h with ⟨rfl, _⟩ | ⟨g, rfl, _⟩
  · exact .inl rfl
  · right; simp [Value.ownBlock]
theorem OwnSS.keep {w w' : World} {B : Nat} {G : Nat → Nat} {zss : List (List Int)} (h : OwnSS w B G zss) (k : Keep w w') : OwnSS w' B G zss :=
  ⟨h.small, ownsRow_keep h.row k, Nat.lt_of_lt_of_le h.lt k.size, fun j hj => (h.each j hj).keep k, h.rise⟩
theorem OwnSS.intss {w : World} {B : Nat} {G : Nat → Nat} {zss : List (List Int)} (h : OwnSS w B G zss) : Intss w (some ⟨B, 0, none⟩) zss := by
  refine ⟨h.small, ?_⟩
  by_cases h0 : zss = []
  · exact .inl h0
  · refine .inr ⟨B, 0, rfl, h.lt, fun i hi => ⟨some ⟨G i, 0, none⟩, (zss.getD i []).length, ?_, Nat.le_refl _, (h.each i hi).ints⟩⟩
    rw [Nat.zero_add, h.row.cellAt i (by omega), rowsV_get G zss _ i hi]
set_option maxHeartbeats 800000 in
theorem toInt64SS_any (ad : Option Addr) (cap : Nat) (zss : List (List Int)) (w : World) (hz : Intss w ad zss) (hs : zss.length ≤ 1099511627776) (hss : tot zss ≤ 1099511627776) :
    Calls Try.prog 26 #[.slice ad zss.length cap] w fun e w' =>
      e = .returned (.slice (some ⟨w.heap.size, 0, none⟩) zss.length zss.length) ∧ (∃ G, OwnSS w' w.heap.size G zss) ∧ Keep w w' := by
  obtain ⟨i0, hi, hz0, hz1, hz2⟩ := info_parts Try.infoIS
  have hb8 : i0.bytes * zss.length ≤ 281474976710656 := by rw [hz2]; omega
  have hml : zss.length ≤ maxLen := by unfold maxLen; omega
  go_enter Try.func26, Try.ntmps26
  go_wp2_with (at_make; refine wpList_make_full w rfl _ _ 31 rfl w.heap.size 22 i0 (.slice none 0 0) 1 Try.underlying31 hi hz0 hz1 .i64 .i64 _ _ zss.length rfl rfl rfl rfl hb8 hml (Nat.le_refl _) ?_)
  intro w0 hown0 hgrow0
  have hown0 : w0.ownsRow w.heap.size 22 1 (.slice (some ⟨w.heap.size, 0, none⟩) zss.length zss.length) zss.length (List.replicate zss.length (.slice none 0 0)) := by simpa [Value.cells, toList_madeCells_one] using hown0
  have hk0 : Keep w w0 := (Below.refl _ _).grown hgrow0 (Nat.le_refl _) (fun k h => by cases h)
  have hlt0 : w.heap.size < w0.heap.size := by
    rcases own_block hown0 with ⟨h, _⟩ | ⟨g, h, _, h2, _⟩
    · cases h
    · simp at h; omega
  clear hgrow0
  obtain ⟨B, hB⟩ : ∃ B, B = w.heap.size := ⟨_, rfl⟩
  rw [← hB] at hown0 hlt0 ⊢
  have HB := Lib.hid hB; clear hB
  have hlen := hz.small
  go_wp2
  go_loopw [4] (fun i wr => ∃ (k : Nat) (G : Nat → Nat), k ≤ zss.length ∧ i = .int .i64 k ∧ wr.ownsRow B 22 1 (.slice (some ⟨B, 0, none⟩) zss.length zss.length) zss.length (rowsV G zss k ++ List.replicate (zss.length - k) (.slice none 0 0)) ∧
      (∀ j, j < k → Own wr (B + 1) (some ⟨G j, 0, none⟩) (zss.getD j []).length (zss.getD j [])) ∧ (∀ i j, i < j → j < k → G i < G j) ∧ B < wr.heap.size ∧ Below B w wr)
    (fun i _ => zss.length - (intOf i).toNat)
  case atStart => exact ⟨0, fun _ => 0, Nat.zero_le _, rfl, by simpa [rowsV] using hown0, (fun j h => by omega), (fun i j h h2 => by omega), hlt0, by rw [HB.out]; exact hk0⟩
  case round =>
    obtain ⟨k, G, hk, rfl, hown, hea, hri, hlt1, hbel⟩ := hrel
    by_cases hlt : k < zss.length
    · rcases hz.at_ with h | ⟨b, off, rfl, hb, hc⟩
      · subst h; simp at hlt
      obtain ⟨p, c, hc1, hpc, hints⟩ := hc k hlt
      have hcx : wr.cell? ⟨b, off + k, none⟩ = some (.slice p (zss.getD k []).length c) := (hbel.cell (by show b < B; rw [HB.out]; exact hb)).trans hc1
      have hints1 : Ints wr p (zss.getD k []) := hints.keep hbel (by rw [HB.out]; exact Nat.le_refl _)
      have hl1 : (zss.getD k []).length ≤ 1099511627776 := by have a1 := tot_take_succ zss k hlt; have a2 := tot_take_le zss (k + 1); omega
      have HF := Lib.hid (fun g => rowsV_fill G zss zss.length k g hlt (.slice none 0 0))
      have HG := Lib.hid (rowsV_get2 G zss zss.length k hlt (.slice none 0 0))
      clear hc hc1 hints
      obtain ⟨zk, hzk⟩ : ∃ zk, zss.getD k [] = zk := ⟨_, rfl⟩
      have HZK := Lib.hid hzk
      rw [hzk] at hcx hints1 hl1 hpc
      clear hzk
      have HEA := Lib.hid hea; clear hea
      have HRI := Lib.hid hri; clear hri
      have HO := Lib.hid hown; clear hown
      go_wp2_with fail
      refine (toInt64S_any p c zk wr hints1 hl1).mono ?_
      rintro e w1 ⟨rfl, hown1, hk1⟩
      have hw1 := ownsRow_keep HO.out hk1
      have hcy : w1.cell? ⟨B, k, none⟩ = some (.slice none 0 0) := by rw [hw1.cellAt k (by omega), HG.out]
      have hfy := hw1.frozenAt k
      have hlt2 : B < w1.heap.size := Nat.lt_of_lt_of_le hlt1 hk1.size
      have HST := Lib.hid (hw1.stored k (.slice (some ⟨wr.heap.size, 0, none⟩) zk.length zk.length))
      go_wp2
      go_roundw
      case rel =>
        obtain ⟨s1, s2⟩ := HST.out
        have f := HF.out wr.heap.size
        rw [HZK.out] at f
        rw [f] at s1
        refine ⟨k + 1, fun j => if j = k then wr.heap.size else G j, by omega, by go_num, by simpa [hlt] using s1, fun j hj => ?_, fun i j hij hj => ?_, by simpa using hlt2, ?_⟩
        · show Own _ _ (some ⟨if j = k then wr.heap.size else G j, 0, none⟩) _ _
          by_cases hjk : j = k
          · subst hjk
            rw [if_pos rfl, HZK.out]
            exact (hown1.mono (by omega)).set (by show B ≠ _; omega) _
          · rw [if_neg hjk]
            have o := HEA.out j (by omega)
            refine (o.keep hk1).set ?_ _
            show B ≠ _
            rcases own_block o.1 with ⟨h, _⟩ | ⟨g, h, h2, _⟩
            · cases h
            · simp at h; omega
        · show (if i = k then wr.heap.size else G i) < (if j = k then wr.heap.size else G j)
          rw [if_neg (by omega)]
          by_cases hjk : j = k
          · rw [if_pos hjk]
            rcases own_block (HEA.out i (by omega)).1 with ⟨h, _⟩ | ⟨g, h, _, h2, _⟩
            · cases h
            · simp at h; omega
          · rw [if_neg hjk]; exact HRI.out i j hij (by omega)
        · exact (hbel.trans (hk1.mono (by omega))).setCell (Nat.le_refl _) _
      case measure => simp [intOf]; omega
    · go_wp2
      go_ret
      have he : k = zss.length := by omega
      subst he
      have e := HB.out
      subst e
      exact ⟨rfl, ⟨G, hlen, by simpa using hown, hlt1, hea, hri⟩, hbel⟩
set_option maxHeartbeats 800000 in
theorem eqInt64SS_same (ad bd : Option Addr) (ca cb : Nat) (zss : List (List Int)) (w : World) (ha : Intss w ad zss) (hb : Intss w bd zss) :
    Calls Try.prog 19 #[.slice ad zss.length ca, .slice bd zss.length cb] w fun e w' => e = .returned (.bool true) ∧ Keep w w' := by
  have hla := ha.small
  have hl2 : ((zss.length : Int) != (zss.length : Int)) = false := by simp
  go_enter Try.func19, Try.ntmps19
  go_wp2
  go_loopw [5] (fun i wr => ∃ k : Nat, k ≤ zss.length ∧ i = .int .i64 k ∧ Keep w wr)
    (fun i _ => zss.length - (intOf i).toNat)
  case atStart => exact ⟨0, Nat.zero_le _, rfl, Below.refl _ _⟩
  case round =>
    obtain ⟨k, hk, rfl, hbel⟩ := hrel
    by_cases hlt : k < zss.length
    · rcases ha.at_ with h | ⟨b, off, rfl, hb1, hc⟩
      · subst h; simp at hlt
      rcases hb.at_ with h | ⟨b2, off2, rfl, hb2, hc2⟩
      · subst h; simp at hlt
      obtain ⟨p, c, hc1, hpc, hi1⟩ := hc k hlt
      obtain ⟨p2, c2, hc3, hpc2, hi2⟩ := hc2 k hlt
      generalize zss.getD k [] = zk at hc1 hpc hi1 hc3 hpc2 hi2
      have HS : Hid (∀ w', Keep wr w' → (w'.cell? ⟨b, off + k, none⟩ = some (.slice p zk.length c) ∧ w'.cell? ⟨b2, off2 + k, none⟩ = some (.slice p2 zk.length c2)) ∧ Keep wr w') :=
        Lib.hid (fun w' kk => ⟨⟨by rw [(hbel.next kk).cell (by exact hb1)]; exact hc1, by rw [(hbel.next kk).cell (by exact hb2)]; exact hc3⟩, kk⟩)
      have HI : Hid (∀ w', Keep wr w' → Ints w' p zk ∧ Ints w' p2 zk) := Lib.hid (fun w' kk => ⟨hi1.keep (hbel.next kk) (Nat.le_refl _), hi2.keep (hbel.next kk) (Nat.le_refl _)⟩)
      obtain ⟨⟨c1, c3⟩, _⟩ := HS.out wr (Below.refl _ _)
      clear hc hc2 hc1 hc3 hi1 hi2
      go_wp2
      go_region_held3 (fun w' => (w'.cell? ⟨b, off + k, none⟩ = some (.slice p zk.length c) ∧ w'.cell? ⟨b2, off2 + k, none⟩ = some (.slice p2 zk.length c2)) ∧ Keep wr w')
        (first | exact HS.out _ (Keep.next (by go_grown) k1) | exact HS.out _ k1 | exact HS.out _ (by go_grown))
        (first | (go_at_call 11; refine (eqInt64S_same _ _ _ _ zk _ (HI.out _ (by first | assumption | go_grown)).1 (HI.out _ (by first | assumption | go_grown)).2).mono ?_; rintro e w1 ⟨rfl, k1⟩))
      go_wp2
      go_roundw
      case rel => exact ⟨k + 1, by omega, by go_num, hbel.next (by first | assumption | exact Keep.next (by go_grown) k1 | go_grown)⟩
      case measure => simp [intOf]; omega
    · go_wp2
      go_ret
      exact ⟨rfl, hbel⟩
/-- A slice of slices of the call's own whose blocks lie from lo up to hi. -/
structure MineSS (w : World) (lo hi B : Nat) (G : Nat → Nat) (zss : List (List Int)) : Prop where
  own : OwnSS w B G zss
  lo_ : lo ≤ B
  hi_ : B < hi
  rows : ∀ j, j < zss.length → G j < hi
theorem MineSS.new {W w' : World} {lo B : Nat} {G : Nat → Nat} {zss : List (List Int)} (hq : lo ≤ W.heap.size) (o : W.heap.size ≤ B ∧ OwnSS w' B G zss) : MineSS w' lo w'.heap.size B G zss := by
  refine ⟨o.2, by omega, o.2.lt, fun j hj => ?_⟩
  rcases own_block (o.2.each j hj).1 with ⟨h, _⟩ | ⟨g, h, _, h2, _⟩
  · cases h
  · simp at h; omega
theorem MineSS.keep {w w' : World} {lo hi B : Nat} {G : Nat → Nat} {zss : List (List Int)} (h : MineSS w lo hi B G zss) (k : Keep w w') : MineSS w' lo hi B G zss := ⟨h.own.keep k, h.lo_, h.hi_, h.rows⟩
theorem MineSS.ints {w : World} {lo hi B : Nat} {G : Nat → Nat} {zss : List (List Int)} (h : MineSS w lo hi B G zss) : Intss w (some ⟨B, 0, none⟩) zss := h.own.intss
theorem OwnSS.ints {w : World} {B : Nat} {G : Nat → Nat} {zss : List (List Int)} (h : OwnSS w B G zss) : Intss w (some ⟨B, 0, none⟩) zss := h.intss
theorem toInt64SS_ex (ad : Option Addr) (cap : Nat) (zss : List (List Int)) (w : World) (hz : Intss w ad zss) (hs : zss.length ≤ 1099511627776) (hss : tot zss ≤ 1099511627776) :
    Calls Try.prog 26 #[.slice ad zss.length cap] w fun e w' =>
      ∃ b G, e = .returned (.slice (some ⟨b, 0, none⟩) zss.length zss.length) ∧ (w.heap.size ≤ b ∧ OwnSS w' b G zss) ∧ Keep w w' :=
  (toInt64SS_any ad cap zss w hz hs hss).mono fun _ _ ⟨h1, ⟨G, h2⟩, h3⟩ => ⟨_, G, h1, ⟨Nat.le_refl _, h2⟩, h3⟩
theorem szInt64SS_ex (ad : Option Addr) (cap : Nat) (zss : List (List Int)) (left : Int) (w : World) (hz : Intss w ad zss) (h1 : 0 ≤ left) (h2 : left ≤ 1048576) :
    Calls Try.prog 23 #[.slice ad zss.length cap, .int .i64 left] w fun e w' => e = .returned (.int .i64 (if left < (zss.length : Int) + tot zss then -1 else left - zss.length - tot zss)) ∧ Keep w w' :=
  (szInt64SS_any ad cap zss left w hz h1 h2).mono fun _ _ ⟨e1, e2⟩ => ⟨e1, e2 ▸ Below.refl _ _⟩
end Go.Proofs.Ytpdcmhnaedhkdaa
