/- Slices of slices of int64: what they are in memory; the laws' helpers on them: counted, copied, compared. -/
import Derived.Test.YtomfhkpmdalknabMem
import Derived.Deep.Matrix
namespace Go.Proofs.Ytomfhkpmdalknab
open Go.ChangeShapes Go.WideShapes Go.ChangeAt Go.RowKit Go.Deep
set_option linter.unusedVariables false

/-- The slice at ad holds slices that hold the numbers zss. (Nothing is asked of the address of an empty one.) -/
structure Intss (w : World) (ad : Option Addr) (zss : List (List Int)) : Prop where
  small : zss.length ≤ 9223372036854775807
  at_ : zss = [] ∨ ∃ b off, ad = some ⟨b, off, none⟩ ∧ b < w.heap.size ∧ ∀ i, i < zss.length → ∃ p c, w.cell? ⟨b, off + i, none⟩ = some (.slice p (zss.getD i []).length c) ∧ (zss.getD i []).length ≤ c ∧ Ints w p (zss.getD i [])
theorem Intss.keep {w w' : World} {ad : Option Addr} {zss : List (List Int)} {B : Nat} (h : Intss w ad zss) (hb : Below B w w') (hB : w.heap.size ≤ B) : Intss w' ad zss := by
  refine ⟨h.small, ?_⟩
  rcases h.at_ with h1 | ⟨b, off, h1, h2, h3⟩
  · exact .inl h1
  · refine .inr ⟨b, off, h1, ?_, fun i hi => ?_⟩
    · have := hb.size; omega
    · obtain ⟨p, c, e1, e2, e3⟩ := h3 i hi
      exact ⟨p, c, by rw [hb.cell (by show b < B; omega)]; exact e1, e2, e3.keep hb hB⟩
theorem getDD_get (zss : List (List Int)) (k : Nat) (h : k < zss.length) : zss.getD k [] = zss[k] := by simp [List.getD_eq_getElem?_getD, h]
/-- Out of the reading of an argument that is a slice of slices of int64. -/
theorem intss_open {H : Type} {enc : TypeId × Value → H} {P : Program} {W : World} {t e q : TypeId} {d : DataW H} {p : List MemPlace} {ad : Option Addr} {len cap : Nat} (ht : P.underlying t = some (.slice e)) (he : P.underlying e = some (.slice q)) (hq : P.underlying q = some (.int .i64)) (ce : P.cellsOf e = 1) (cq : P.cellsOf q = 1)
    (h : DataW.Trod enc P W 0 (fun _ => true) true t (.slice ad len cap) d p) : ∃ zss : List (List Int), zss.length = len ∧ Intss W ad zss := by
  obtain ⟨fuel, hf⟩ := h
  rcases open_int_rows ht he hq ce cq hf with ⟨hcs, _⟩ | ⟨x, l, c, A, L, C, Z, hcs, _, hl, hm, _, hr⟩
  · simp [Value.cells] at hcs
    obtain ⟨rfl, rfl, rfl⟩ := hcs
    exact ⟨[], rfl, by simp, .inl rfl⟩
  · simp [Value.cells] at hcs
    obtain ⟨rfl, rfl, rfl⟩ := hcs
    unfold maxLen at hm
    refine ⟨(List.range len).map fun r => (Z r).take (L r), by simp, by simp; omega, ?_⟩
    by_cases h0 : len = 0
    · left; subst h0; rfl
    · right
      obtain ⟨b, off, spot⟩ := x
      have hspot : spot = none := by simpa [Addr.add] using World.cell?_spot (hr 0 (by omega)).1
      subst hspot
      refine ⟨b, off, rfl, ?_, fun i hi => ?_⟩
      · have := (hr 0 (by omega)).1
        rw [Go.WideShapes.add_plain] at this
        exact World.block_lt_of_cell? _ _ this
      · simp only [List.length_map, List.length_range] at hi
        obtain ⟨e1, e2, e3, e4, e5, e6, e7⟩ := hr i (by omega)
        rw [Go.WideShapes.add_plain] at e1
        have hg : ((List.range len).map fun r => (Z r).take (L r)).getD i [] = (Z i).take (L i) := by simp [List.getD_eq_getElem?_getD, hi]
        have hlen : ((Z i).take (L i)).length = L i := by rw [List.length_take]; omega
        rw [hg, hlen]
        unfold maxLen at e3
        refine ⟨A i, C i, e1, e2, by rw [hlen]; omega, fun z hz => in64 (e5 z (List.mem_of_mem_take hz)), ?_⟩
        by_cases hz0 : L i = 0
        · left; rw [hz0]; rfl
        · right
          cases hA : A i with
          | none => have := e6 hA; omega
          | some a' =>
            obtain ⟨_, e8⟩ := e7 a' hA
            obtain ⟨b2, off2, rfl, hcx⟩ := ints_at (a := a') (fun i' hi' => e8 i' (by omega)) (by omega)
            refine ⟨b2, off2, rfl, World.block_lt_of_cell? _ _ (hcx 0 (by omega)), fun j hj => ?_⟩
            rw [hlen] at hj
            rw [hcx j (by omega)]
            simp [List.getD_eq_getElem?_getD, hj]
/-- How many numbers they hold. -/
def tot : List (List Int) → Nat
  | [] => 0
  | z :: t => z.length + tot t
theorem tot_take_succ : ∀ (zss : List (List Int)) (k : Nat), k < zss.length → tot (zss.take (k + 1)) = tot (zss.take k) + (zss.getD k []).length := by
  intro zss
  induction zss with
  | nil => intro k h; simp at h
  | cons a t ih =>
    intro k h
    cases k with
    | zero => simp [tot]
    | succ k =>
      have := ih k (by simpa using h)
      rw [List.take_succ_cons, List.take_succ_cons, tot, tot, this, List.getD_cons_succ]; omega
theorem tot_take_le (zss : List (List Int)) : ∀ k, tot (zss.take k) ≤ tot zss := by
  induction zss with
  | nil => intro k; simp
  | cons a t ih =>
    intro k
    cases k with
    | zero => simp [tot]
    | succ k => rw [List.take_succ_cons, tot, tot]; have := ih k; omega
/-- What is left of a budget. -/
def lefts (left : Int) (zss : List (List Int)) : Int := if left < (zss.length : Int) + tot zss then -1 else left - zss.length - tot zss
theorem Try.infoIS : (Try.prog.info? 25).map (fun i => (i.zero, i.size, i.bytes)) = some (some (.slice none 0 0), 1, 24) := by kernel_rfl
/-- Slices of the call's own, as cells. -/
def rowsV (G : Nat → Nat) (zss : List (List Int)) (k : Nat) : List Value := (List.range k).map fun j => .slice (some ⟨G j, 0, none⟩) (zss.getD j []).length (zss.getD j []).length
theorem rowsV_len (G : Nat → Nat) (zss : List (List Int)) (k : Nat) : (rowsV G zss k).length = k := by simp [rowsV]
theorem rowsV_get (G : Nat → Nat) (zss : List (List Int)) (k j : Nat) (h : j < k) : (rowsV G zss k)[j]? = some (.slice (some ⟨G j, 0, none⟩) (zss.getD j []).length (zss.getD j []).length) := by simp [rowsV, h]
theorem rowsV_fill (G : Nat → Nat) (zss : List (List Int)) (n k g : Nat) (h : k < n) (z : Value) :
    (rowsV G zss k ++ List.replicate (n - k) z).set k (.slice (some ⟨g, 0, none⟩) (zss.getD k []).length (zss.getD k []).length) = rowsV (fun j => if j = k then g else G j) zss (k + 1) ++ List.replicate (n - (k + 1)) z := by
  have e : List.replicate (n - k) z = z :: List.replicate (n - (k + 1)) z := by
    rw [show n - k = (n - (k + 1)) + 1 from by omega, List.replicate_succ]
  rw [e, List.set_append_right _ _ (by simp [rowsV])]
  have : k - (rowsV G zss k).length = 0 := by simp [rowsV]
  rw [this, List.set_cons_zero]
  unfold rowsV
  rw [List.range_succ, List.map_append, List.append_assoc, List.map_cons, List.map_nil, List.cons_append, List.nil_append]
  congr 1
  · refine List.map_congr_left fun j hj => ?_
    have hjk := List.mem_range.1 hj
    show _ = Value.slice (some ⟨if j = k then g else G j, 0, none⟩) _ _
    rw [if_neg (by omega)]
  · show _ = Value.slice (some ⟨if k = k then g else G k, 0, none⟩) _ _ :: _
    rw [if_pos rfl]
theorem rowsV_get2 (G : Nat → Nat) (zss : List (List Int)) (n k : Nat) (h : k < n) (z : Value) : (rowsV G zss k ++ List.replicate (n - k) z)[k]? = some z := by
  rw [List.getElem?_append_right (by simp [rowsV]), List.getElem?_replicate, if_pos (by simp [rowsV]; omega)]
/-- A slice of slices that a call itself made: block B, and behind it a block for each row. -/
structure OwnSS (w : World) (B : Nat) (G : Nat → Nat) (zss : List (List Int)) : Prop where
  small : zss.length ≤ 9223372036854775807
  row : w.ownsRow B 25 1 (.slice (some ⟨B, 0, none⟩) zss.length zss.length) zss.length (rowsV G zss zss.length)
  lt : B < w.heap.size
  each : ∀ j, j < zss.length → Own w (B + 1) (some ⟨G j, 0, none⟩) (zss.getD j []).length (zss.getD j [])
  rise : ∀ i j, i < j → j < zss.length → G i < G j
theorem ownsRow_keep {w w' : World} {B e : Nat} {ad : Option Addr} {n cap : Nat} {xs : List Value} (h : w.ownsRow B e 1 (.slice ad n cap) n xs) (k : Keep w w') : w'.ownsRow B e 1 (.slice ad n cap) n xs := by
  refine h.kept (row := none) ⟨k.os, k.tape, k.output, k.size, fun j hj _ => k.block j hj⟩ ?_
  rcases own_block h with ⟨rfl, _⟩ | ⟨g, rfl, _⟩
  · exact .inl rfl
  · right; simp [Value.ownBlock]
theorem OwnSS.keep {w w' : World} {B : Nat} {G : Nat → Nat} {zss : List (List Int)} (h : OwnSS w B G zss) (k : Keep w w') : OwnSS w' B G zss :=
  ⟨h.small, ownsRow_keep h.row k, Nat.lt_of_lt_of_le h.lt k.size, fun j hj => (h.each j hj).keep k, h.rise⟩
theorem OwnSS.intss {w : World} {B : Nat} {G : Nat → Nat} {zss : List (List Int)} (h : OwnSS w B G zss) : Intss w (some ⟨B, 0, none⟩) zss := by
  refine ⟨h.small, ?_⟩
  by_cases h0 : zss = []
  · exact .inl h0
  · refine .inr ⟨B, 0, rfl, h.lt, fun i hi => ⟨some ⟨G i, 0, none⟩, (zss.getD i []).length, ?_, Nat.le_refl _, (h.each i hi).ints⟩⟩
    rw [Nat.zero_add, h.row.cellAt i (by omega), rowsV_get G zss _ i hi]
/-- A slice of slices of the call's own whose blocks lie from lo up to hi. -/
structure MineSS (w : World) (lo hi B : Nat) (G : Nat → Nat) (zss : List (List Int)) : Prop where
  own : OwnSS w B G zss
  lo_ : lo ≤ B
  hi_ : B < hi
  rows : ∀ j, j < zss.length → G j < hi
theorem MineSS.new {W w' : World} {lo B : Nat} {G : Nat → Nat} {zss : List (List Int)} (hq : lo ≤ W.heap.size) (o : W.heap.size ≤ B ∧ OwnSS w' B G zss) : MineSS w' lo w'.heap.size B G zss := by
  refine ⟨o.2, by omega, o.2.lt, fun j hj => ?_⟩
  rcases own_block (o.2.each j hj).1 with ⟨h, _⟩ | ⟨g, h, _, h2, _⟩
  · cases h
  · simp at h; omega
theorem MineSS.keep {w w' : World} {lo hi B : Nat} {G : Nat → Nat} {zss : List (List Int)} (h : MineSS w lo hi B G zss) (k : Keep w w') : MineSS w' lo hi B G zss := ⟨h.own.keep k, h.lo_, h.hi_, h.rows⟩
theorem MineSS.ints {w : World} {lo hi B : Nat} {G : Nat → Nat} {zss : List (List Int)} (h : MineSS w lo hi B G zss) : Intss w (some ⟨B, 0, none⟩) zss := h.own.intss
theorem OwnSS.ints {w : World} {B : Nat} {G : Nat → Nat} {zss : List (List Int)} (h : OwnSS w B G zss) : Intss w (some ⟨B, 0, none⟩) zss := h.intss
end Go.Proofs.Ytomfhkpmdalknab
