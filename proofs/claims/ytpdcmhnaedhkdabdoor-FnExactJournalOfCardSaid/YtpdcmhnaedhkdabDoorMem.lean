/- The laws' helpers on slices of int64: copied, counted, compared, marked. -/
import Derived.Test.YtpdcmhnaedhkdabDoorPlain
import Derived.RegionTactic
import Derived.ChangeAlike
import Derived.Deep.QuietTactic
import Derived.BigQuiet
import Derived.WalkSmall
import Derived.Deep.AppendLies
import Derived.Deep.RegionHeld3
namespace Go.Proofs.YtpdcmhnaedhkdabDoor
open Go.ChangeShapes Go.WideShapes Go.ChangeAt Go.RowKit
set_option linter.unusedVariables false

theorem Tryd.infoI : (Tryd.prog.info? 2).map (fun i => (i.zero, i.size, i.bytes)) = some (some (.int .i64 0), 1, 8) := by kernel_rfl

/-- The numbers as values. -/
abbrev vals (zs : List Int) : List Value := zs.map (Value.int .i64)
/-- w' is w but for new blocks (and draws). -/
abbrev Keep (w w' : World) : Prop := Below w.heap.size w w'
theorem Keep.next {a b c : World} (h : Keep a b) (k : Keep b c) : Keep a c := h.trans (k.mono h.size)
/-- A slice that the call itself made, from block B on. -/
def Own (w : World) (B : Nat) (ad : Option Addr) (cap : Nat) (zs : List Int) : Prop :=
  w.ownsRow B 2 1 (.slice ad zs.length cap) zs.length (vals zs) ∧ zs.length ≤ 1099511627776 ∧ ∀ z ∈ zs, In64 z

theorem own_block {w : World} {B e : Nat} {ad : Option Addr} {n cap : Nat} {xs : List Value} (h : w.ownsRow B e 1 (.slice ad n cap) n xs) :
    (ad = none ∧ n = 0 ∧ cap = 0) ∨ ∃ g, ad = some ⟨g, 0, none⟩ ∧ B ≤ g ∧ g < w.heap.size ∧ n ≤ cap := by
  rcases h.2 with ⟨h1, h2⟩ | ⟨g, c, cur, h1, h2, h3, h4, _⟩
  · simp at h1; exact .inl ⟨h1.1, h2, h1.2.2⟩
  · simp at h1
    exact .inr ⟨g, h1.1, h2, lt_of_block h3, by omega⟩
theorem Own.keep {w w' : World} {B : Nat} {ad : Option Addr} {cap : Nat} {zs : List Int} (h : Own w B ad cap zs) (k : Keep w w') : Own w' B ad cap zs := by
  refine ⟨h.1.kept (row := none) ⟨k.os, k.tape, k.output, k.size, fun j hj _ => k.block j hj⟩ ?_, h.2⟩
  rcases own_block h.1 with ⟨rfl, _⟩ | ⟨g, rfl, _⟩
  · exact .inl rfl
  · right; simp [Value.ownBlock]
theorem Own.mono {w : World} {B B' : Nat} {ad : Option Addr} {cap : Nat} {zs : List Int} (h : Own w B ad cap zs) (k : B' ≤ B) : Own w B' ad cap zs := by
  refine ⟨⟨h.1.1, ?_⟩, h.2⟩
  rcases h.1.2 with h1 | ⟨g, c, cur, h1, h2, h3⟩
  · exact .inl h1
  · exact .inr ⟨g, c, cur, h1, by omega, h3⟩
theorem Own.ints {w : World} {B : Nat} {ad : Option Addr} {cap : Nat} {zs : List Int} (h : Own w B ad cap zs) : Ints w ad zs := by
  refine ⟨Nat.le_trans h.2.1 (by omega), h.2.2, ?_⟩
  rcases own_block h.1 with ⟨_, h2, _⟩ | ⟨g, rfl, h1, h2, _⟩
  · exact .inl (List.eq_nil_of_length_eq_zero h2)
  · refine .inr ⟨g, 0, rfl, h2, fun i hi => ?_⟩
    have := h.1.cellAt i (by omega)
    rw [Nat.zero_add, this]
    simp [hi]
theorem Own.set {w : World} {B g : Nat} {cap : Nat} {zs : List Int} (h : Own w B (some ⟨g, 0, none⟩) cap zs) {a : Addr} (ha : a.block ≠ g) (u : Value) : Own (w.setCell a u) B (some ⟨g, 0, none⟩) cap zs :=
  ⟨ownsRow_setCell_other h.1 (by simp [Value.ownBlock]; omega) u, h.2⟩
/-- A slice of the call's own whose block lies from lo up to hi. -/
structure Mine (w : World) (lo hi : Nat) (ad : Option Addr) (cap : Nat) (zs : List Int) : Prop where
  own : Own w lo ad cap zs
  below : ∀ k, ad = some ⟨k, 0, none⟩ → k < hi
theorem Mine.new {W w' : World} {lo : Nat} {ad : Option Addr} {cap : Nat} {zs : List Int} (hq : lo ≤ W.heap.size) (o : Own w' W.heap.size ad cap zs) : Mine w' lo w'.heap.size ad cap zs := by
  refine ⟨o.mono hq, fun k hk => ?_⟩
  rcases own_block o.1 with ⟨h, _⟩ | ⟨g, h, _, h2, _⟩
  · rw [h] at hk; cases hk
  · rw [h] at hk; simp at hk; omega
theorem Mine.keep {w w' : World} {lo hi : Nat} {ad : Option Addr} {cap : Nat} {zs : List Int} (h : Mine w lo hi ad cap zs) (k : Keep w w') : Mine w' lo hi ad cap zs := ⟨h.own.keep k, h.below⟩
theorem Mine.ints {w : World} {lo hi : Nat} {ad : Option Addr} {cap : Nat} {zs : List Int} (h : Mine w lo hi ad cap zs) : Ints w ad zs := h.own.ints
/-- Written is one slice alone; another one stays. -/
theorem Mine.past {w w' : World} {lo hi lo2 hi2 : Nat} {ad ad2 : Option Addr} {cap cap2 n2 : Nat} {zs zs2 : List Int} (h : Mine w lo hi ad cap zs) (g : Mine w' lo2 hi2 ad2 cap2 zs2) (m : w.grownBy w' (Value.slice ad2 n2 cap2).ownBlock)
    (sep : hi ≤ lo2 ∨ hi2 ≤ lo) : Mine w' lo hi ad cap zs := by
  refine ⟨⟨h.own.1.kept m ?_, h.own.2⟩, h.below⟩
  rcases own_block h.own.1 with ⟨rfl, _⟩ | ⟨k, rfl, h1, h2, _⟩
  · exact .inl rfl
  · right
    have h3 := h.below k rfl
    rcases own_block g.own.1 with ⟨rfl, _⟩ | ⟨k2, rfl, h4, h5, _⟩
    · simp [Value.ownBlock]
    · have h6 := g.below k2 rfl
      simp [Value.ownBlock]; omega
/-- The same for two slices that the call made side by side. -/
theorem Mine.past2 {w w' : World} {lo hi lo2 hi2 : Nat} {ad ad2 : Option Addr} {cap cap2 n2 : Nat} {zs zs2 : List Int} (h : Mine w lo hi ad cap zs) (g : Mine w' lo2 hi2 ad2 cap2 zs2) (m : w.grownBy w' (Value.slice ad2 n2 cap2).ownBlock)
    (sep : ∀ k, ad = some ⟨k, 0, none⟩ → ad2 = some ⟨k, 0, none⟩ → False) : Mine w' lo hi ad cap zs := by
  refine ⟨⟨h.own.1.kept m ?_, h.own.2⟩, h.below⟩
  rcases own_block h.own.1 with ⟨rfl, _⟩ | ⟨k, rfl, h1, h2, _⟩
  · exact .inl rfl
  · right
    rcases own_block g.own.1 with ⟨rfl, _⟩ | ⟨k2, rfl, h4, h5, _⟩
    · simp [Value.ownBlock]
    · have h6 := sep k rfl
      have h7 : ¬ k2 = k := fun e => h6 (by rw [e])
      simp [Value.ownBlock]; omega
/-- Slices made one after the other have no block in common. -/
theorem own_apart {w1 w2 : World} {lo : Nat} {ad1 ad2 : Option Addr} {c1 c2 : Nat} {z1 z2 : List Int} (h : Own w1 lo ad1 c1 z1) (g : Own w2 w1.heap.size ad2 c2 z2) : ∀ k, ad1 = some ⟨k, 0, none⟩ → ad2 = some ⟨k, 0, none⟩ → False := by
  intro k e1 e2
  rcases own_block h.1 with ⟨e, _⟩ | ⟨k1, e, _, h2, _⟩
  · rw [e] at e1; cases e1
  rcases own_block g.1 with ⟨e', _⟩ | ⟨k2, e', h3, _⟩
  · rw [e'] at e2; cases e2
  rw [e] at e1; rw [e'] at e2
  simp at e1 e2; omega
theorem below_past {w0 w w' : World} {lo2 hi2 : Nat} {ad2 : Option Addr} {cap2 n2 : Nat} {zs2 : List Int} {B : Nat} (h : Below B w0 w) (g : Mine w' lo2 hi2 ad2 cap2 zs2) (m : w.grownBy w' (Value.slice ad2 n2 cap2).ownBlock) (hB : B ≤ w.heap.size)
    (sep : B ≤ lo2) : Below B w0 w' := by
  refine h.grown m hB fun k hk => ?_
  rcases own_block g.own.1 with ⟨rfl, _⟩ | ⟨k2, rfl, h4, h5, _⟩
  · simp [Value.ownBlock] at hk
  · simp [Value.ownBlock] at hk; omega
theorem Own.nil (w : World) (B : Nat) : Own w B none 0 [] := ⟨World.ownsRow_nil _ _ _ _, by simp, by simp⟩

theorem grownBy_trans {a b c : World} {row : Option Nat} (h : a.grownBy b row) (k : b.grownBy c row) : a.grownBy c row :=
  ⟨k.os.trans h.os, k.tape.trans h.tape, k.output.trans h.output, Nat.le_trans h.size k.size, fun j hj hr => (k.block j (Nat.lt_of_lt_of_le hj h.size) hr).trans (h.block j hj hr)⟩
theorem keep_grown {w w' : World} (k : Keep w w') (row : Option Nat) : w.grownBy w' row := ⟨k.os, k.tape, k.output, k.size, fun j hj _ => k.block j hj⟩
theorem bcell {W w1 : World} (hb : Below W.heap.size W w1) : (∀ b o, b < W.heap.size → w1.cell? ⟨b, o, none⟩ = W.cell? ⟨b, o, none⟩) ∧ (∀ b o, b < W.heap.size → w1.frozen? ⟨b, o, none⟩ = W.frozen? ⟨b, o, none⟩) :=
  ⟨fun b o h => hb.cell (p := ⟨b, o, none⟩) h, fun b o h => hb.frozen (p := ⟨b, o, none⟩) h⟩
theorem fill_get (zs : List Int) (k : Nat) (h : k < zs.length) (z : Value) : (vals (zs.take k) ++ List.replicate (zs.length - k) z)[k]? = some z := by
  rw [List.getElem?_append_right (by simp; omega), List.getElem?_replicate, if_pos (by simp; omega)]
theorem fill_set (zs : List Int) (k : Nat) (h : k < zs.length) (z : Value) : (vals (zs.take k) ++ List.replicate (zs.length - k) z).set k (.int .i64 (zs.getD k 0)) = vals (zs.take (k + 1)) ++ List.replicate (zs.length - (k + 1)) z := by
  have e : List.replicate (zs.length - k) z = z :: List.replicate (zs.length - (k + 1)) z := by
    rw [show zs.length - k = (zs.length - (k + 1)) + 1 from by omega, List.replicate_succ]
  rw [e, List.set_append_right _ _ (by simp; omega)]
  have : k - (vals (List.take k zs)).length = 0 := by simp; omega
  rw [this, List.set_cons_zero]
  have e2 : zs.getD k 0 = zs[k] := by simp [List.getD_eq_getElem?_getD, h]
  rw [e2, List.take_succ_eq_append_getElem h]; unfold vals; rw [List.map_append, List.append_assoc]; rfl

/-- Equal as the laws compare: draws alone. -/
def eqB (a b : List Int) : Bool := decide (a = b)
/-- A box that holds a struct of type Values. -/
structure Box (w : World) (b : Nat) (g : Int) (ad : Option Addr) (n cap : Nat) : Prop where
  c0 : w.cell? ⟨b, 0, none⟩ = some (.int .i64 g)
  c1 : w.cell? ⟨b, 1, none⟩ = some (.slice ad n cap)
  lt : b < w.heap.size
theorem Box.keep {w w' : World} {b : Nat} {g : Int} {ad : Option Addr} {n cap : Nat} (h : Box w b g ad n cap) (k : Keep w w') : Box w' b g ad n cap := by
  have hb := block_lt_of_cell h.c0
  exact ⟨by rw [k.cell (by exact hb)]; exact h.c0, by rw [k.cell (by exact hb)]; exact h.c1, Nat.lt_of_lt_of_le h.lt k.size⟩
theorem Box.past {w w' : World} {b : Nat} {g : Int} {ad : Option Addr} {n cap : Nat} {lo2 hi2 : Nat} {ad2 : Option Addr} {cap2 n2 : Nat} {zs2 : List Int} (h : Box w b g ad n cap) (x : Mine w' lo2 hi2 ad2 cap2 zs2) (m : w.grownBy w' (Value.slice ad2 n2 cap2).ownBlock)
    (sep : b < lo2 ∨ hi2 ≤ b) : Box w' b g ad n cap := by
  have hr : some b ≠ (Value.slice ad2 n2 cap2).ownBlock := by
    rcases own_block x.own.1 with ⟨rfl, _⟩ | ⟨k2, rfl, h4, h5, _⟩
    · simp [Value.ownBlock]
    · have h6 := x.below k2 rfl
      simp [Value.ownBlock]; omega
  have e := m.block b h.lt hr
  exact ⟨by rw [World.cell?_of_block (w := w) e]; exact h.c0, by rw [World.cell?_of_block (w := w) e]; exact h.c1, Nat.lt_of_lt_of_le h.lt m.size⟩
/-- A value of type Values: its denominator, and its numbers in memory of the call's own. -/
abbrev valV (g : Int) (ad : Option Addr) (n cap : Nat) : Value := .agg #[.int .i64 g, .slice ad n cap]
end Go.Proofs.YtpdcmhnaedhkdabDoor
