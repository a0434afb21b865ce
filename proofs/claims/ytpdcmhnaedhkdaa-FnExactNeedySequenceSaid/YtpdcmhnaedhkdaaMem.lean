/- The laws' helpers on slices of int64: copied, counted, compared, marked. -/
import Derived.Test.YtpdcmhnaedhkdaaPlain
import Derived.RegionTactic
import Derived.ChangeAlike
import Derived.Deep.QuietTactic
import Derived.BigQuiet
import Derived.WalkSmall
import Derived.Deep.AppendLies
import Derived.Deep.RegionHeld3
namespace Go.Proofs.Ytpdcmhnaedhkdaa
open Go.ChangeShapes Go.WideShapes Go.ChangeAt Go.RowKit
set_option linter.unusedVariables false

theorem Try.infoI : (Try.prog.info? 2).map (fun i => (i.zero, i.size, i.bytes)) = some (some (.int .i64 0), 1, 8) := by kernel_rfl

/-- The numbers as values. -/
abbrev vals (zs : List Int) : List Value := zs.map (Value.int .i64)
/-- w' is w but for new blocks (and draws). -/
abbrev Keep (w w' : World) : Prop := Below w.heap.size w w'
theorem Keep.next {a b c : World} (h : Keep a b) (k : Keep b c) : Keep a c := h.trans (k.mono h.size)
/-- A slice that the call itself made, from block B on. -/
def Own (w : World) (B : Nat) (ad : Option Addr) (cap : Nat) (zs : List Int) : Prop :=
  w.ownsRow B 2 1 (.slice ad zs.length cap) zs.length (vals zs) ∧ zs.length ≤ 1099511627776 ∧ ∀ z ∈ zs, In64 z

theorem own_block {w : World} {B e : Nat} {ad : Option Addr} {n cap : Nat} {xs : List Value} (h : w.ownsRow B e 1 (.slice ad n cap) n xs) :
    (ad = none ∧ n = 0 ∧ cap = 0) ∨ ∃ g, ad = some ⟨g, 0, none⟩ ∧ B ≤ g ∧ g < w.heap.size ∧ n ≤ cap := by
  rcases h.2 with ⟨h1, h2⟩ | ⟨g, c, cur, h1, h2, h3, h4, _⟩
  · simp at h1; exact .inl ⟨h1.1, h2, h1.2.2⟩
  · simp at h1
    exact .inr ⟨g, h1.1, h2, lt_of_block h3, by omega⟩
theorem Own.keep {w w' : World} {B : Nat} {ad : Option Addr} {cap : Nat} {zs : List Int} (h : Own w B ad cap zs) (k : Keep w w') : Own w' B ad cap zs := by
  refine ⟨h.1.kept (row := none) ⟨k.os, k.tape, k.output, k.size, fun j hj _ => k.block j hj⟩ ?_, h.2⟩
  rcases own_block h.1 with ⟨rfl, _⟩ | ⟨g, rfl, _⟩
  · exact .inl rfl
  · right; simp [Value.ownBlock]
theorem Own.mono {w : World} {B B' : Nat} {ad : Option Addr} {cap : Nat} {zs : List Int} (h : Own w B ad cap zs) (k : B' ≤ B) : Own w B' ad cap zs := by
  refine ⟨⟨h.1.1, ?_⟩, h.2⟩
  rcases h.1.2 with h1 | ⟨g, c, cur, h1, h2, h3⟩
  · exact .inl h1
  · exact .inr ⟨g, c, cur, h1, by omega, h3⟩
theorem Own.ints {w : World} {B : Nat} {ad : Option Addr} {cap : Nat} {zs : List Int} (h : Own w B ad cap zs) : Ints w ad zs := by
  refine ⟨Nat.le_trans h.2.1 (by omega), h.2.2, ?_⟩
  rcases own_block h.1 with ⟨_, h2, _⟩ | ⟨g, rfl, h1, h2, _⟩
  · exact .inl (List.eq_nil_of_length_eq_zero h2)
  · refine .inr ⟨g, 0, rfl, h2, fun i hi => ?_⟩
    have := h.1.cellAt i (by omega)
    rw [Nat.zero_add, this]
    simp [hi]
theorem Own.set {w : World} {B g : Nat} {cap : Nat} {zs : List Int} (h : Own w B (some ⟨g, 0, none⟩) cap zs) {a : Addr} (ha : a.block ≠ g) (u : Value) : Own (w.setCell a u) B (some ⟨g, 0, none⟩) cap zs :=
  ⟨ownsRow_setCell_other h.1 (by simp [Value.ownBlock]; omega) u, h.2⟩
/-- A slice of the call's own whose block lies from lo up to hi. -/
structure Mine (w : World) (lo hi : Nat) (ad : Option Addr) (cap : Nat) (zs : List Int) : Prop where
  own : Own w lo ad cap zs
  below : ∀ k, ad = some ⟨k, 0, none⟩ → k < hi
theorem Mine.new {W w' : World} {lo : Nat} {ad : Option Addr} {cap : Nat} {zs : List Int} (hq : lo ≤ W.heap.size) (o : Own w' W.heap.size ad cap zs) : Mine w' lo w'.heap.size ad cap zs := by
  refine ⟨o.mono hq, fun k hk => ?_⟩
  rcases own_block o.1 with ⟨h, _⟩ | ⟨g, h, _, h2, _⟩
  · rw [h] at hk; cases hk
  · rw [h] at hk; simp at hk; omega
theorem Mine.keep {w w' : World} {lo hi : Nat} {ad : Option Addr} {cap : Nat} {zs : List Int} (h : Mine w lo hi ad cap zs) (k : Keep w w') : Mine w' lo hi ad cap zs := ⟨h.own.keep k, h.below⟩
theorem Mine.ints {w : World} {lo hi : Nat} {ad : Option Addr} {cap : Nat} {zs : List Int} (h : Mine w lo hi ad cap zs) : Ints w ad zs := h.own.ints
/-- Written is one slice alone; another one stays. -/
theorem Mine.past {w w' : World} {lo hi lo2 hi2 : Nat} {ad ad2 : Option Addr} {cap cap2 n2 : Nat} {zs zs2 : List Int} (h : Mine w lo hi ad cap zs) (g : Mine w' lo2 hi2 ad2 cap2 zs2) (m : w.grownBy w' (Value.slice ad2 n2 cap2).ownBlock)
    (sep : hi ≤ lo2 ∨ hi2 ≤ lo) : Mine w' lo hi ad cap zs := by
  refine ⟨⟨h.own.1.kept m ?_, h.own.2⟩, h.below⟩
  rcases own_block h.own.1 with ⟨rfl, _⟩ | ⟨k, rfl, h1, h2, _⟩
  · exact .inl rfl
  · right
    have h3 := h.below k rfl
    rcases own_block g.own.1 with ⟨rfl, _⟩ | ⟨k2, rfl, h4, h5, _⟩
    · simp [Value.ownBlock]
    · have h6 := g.below k2 rfl
      simp [Value.ownBlock]; omega
/-- The same for two slices that the call made side by side. -/
theorem Mine.past2 {w w' : World} {lo hi lo2 hi2 : Nat} {ad ad2 : Option Addr} {cap cap2 n2 : Nat} {zs zs2 : List Int} (h : Mine w lo hi ad cap zs) (g : Mine w' lo2 hi2 ad2 cap2 zs2) (m : w.grownBy w' (Value.slice ad2 n2 cap2).ownBlock)
    (sep : ∀ k, ad = some ⟨k, 0, none⟩ → ad2 = some ⟨k, 0, none⟩ → False) : Mine w' lo hi ad cap zs := by
  refine ⟨⟨h.own.1.kept m ?_, h.own.2⟩, h.below⟩
  rcases own_block h.own.1 with ⟨rfl, _⟩ | ⟨k, rfl, h1, h2, _⟩
  · exact .inl rfl
  · right
    rcases own_block g.own.1 with ⟨rfl, _⟩ | ⟨k2, rfl, h4, h5, _⟩
    · simp [Value.ownBlock]
    · have h6 := sep k rfl
      have h7 : ¬ k2 = k := fun e => h6 (by rw [e])
      simp [Value.ownBlock]; omega
/-- Slices made one after the other have no block in common. -/
theorem own_apart {w1 w2 : World} {lo : Nat} {ad1 ad2 : Option Addr} {c1 c2 : Nat} {z1 z2 : List Int} (h : Own w1 lo ad1 c1 z1) (g : Own w2 w1.heap.size ad2 c2 z2) : ∀ k, ad1 = some ⟨k, 0, none⟩ → ad2 = some ⟨k, 0, none⟩ → False := by
  intro k e1 e2
  rcases own_block h.1 with ⟨e, _⟩ | ⟨k1, e, _, h2, _⟩
  · rw [e] at e1; cases e1
  rcases own_block g.1 with ⟨e', _⟩ | ⟨k2, e', h3, _⟩
  · rw [e'] at e2; cases e2
  rw [e] at e1; rw [e'] at e2
  simp at e1 e2; omega
theorem below_past {w0 w w' : World} {lo2 hi2 : Nat} {ad2 : Option Addr} {cap2 n2 : Nat} {zs2 : List Int} {B : Nat} (h : Below B w0 w) (g : Mine w' lo2 hi2 ad2 cap2 zs2) (m : w.grownBy w' (Value.slice ad2 n2 cap2).ownBlock) (hB : B ≤ w.heap.size)
    (sep : B ≤ lo2) : Below B w0 w' := by
  refine h.grown m hB fun k hk => ?_
  rcases own_block g.own.1 with ⟨rfl, _⟩ | ⟨k2, rfl, h4, h5, _⟩
  · simp [Value.ownBlock] at hk
  · simp [Value.ownBlock] at hk; omega
theorem Own.nil (w : World) (B : Nat) : Own w B none 0 [] := ⟨World.ownsRow_nil _ _ _ _, by simp, by simp⟩

theorem grownBy_trans {a b c : World} {row : Option Nat} (h : a.grownBy b row) (k : b.grownBy c row) : a.grownBy c row :=
  ⟨k.os.trans h.os, k.tape.trans h.tape, k.output.trans h.output, Nat.le_trans h.size k.size, fun j hj hr => (k.block j (Nat.lt_of_lt_of_le hj h.size) hr).trans (h.block j hj hr)⟩
theorem keep_grown {w w' : World} (k : Keep w w') (row : Option Nat) : w.grownBy w' row := ⟨k.os, k.tape, k.output, k.size, fun j hj _ => k.block j hj⟩
theorem bcell {W w1 : World} (hb : Below W.heap.size W w1) : (∀ b o, b < W.heap.size → w1.cell? ⟨b, o, none⟩ = W.cell? ⟨b, o, none⟩) ∧ (∀ b o, b < W.heap.size → w1.frozen? ⟨b, o, none⟩ = W.frozen? ⟨b, o, none⟩) :=
  ⟨fun b o h => hb.cell (p := ⟨b, o, none⟩) h, fun b o h => hb.frozen (p := ⟨b, o, none⟩) h⟩
theorem fill_get (zs : List Int) (k : Nat) (h : k < zs.length) (z : Value) : (vals (zs.take k) ++ List.replicate (zs.length - k) z)[k]? = some z := by
  rw [List.getElem?_append_right (by simp; omega), List.getElem?_replicate, if_pos (by simp; omega)]
theorem fill_set (zs : List Int) (k : Nat) (h : k < zs.length) (z : Value) : (vals (zs.take k) ++ List.replicate (zs.length - k) z).set k (.int .i64 (zs.getD k 0)) = vals (zs.take (k + 1)) ++ List.replicate (zs.length - (k + 1)) z := by
  have e : List.replicate (zs.length - k) z = z :: List.replicate (zs.length - (k + 1)) z := by
    rw [show zs.length - k = (zs.length - (k + 1)) + 1 from by omega, List.replicate_succ]
  rw [e, List.set_append_right _ _ (by simp; omega)]
  have : k - (vals (List.take k zs)).length = 0 := by simp; omega
  rw [this, List.set_cons_zero]
  have e2 : zs.getD k 0 = zs[k] := by simp [List.getD_eq_getElem?_getD, h]
  rw [e2, List.take_succ_eq_append_getElem h]; unfold vals; rw [List.map_append, List.append_assoc]; rfl

set_option maxHeartbeats 400000 in
theorem toInt64S_any (ad : Option Addr) (cap : Nat) (zs : List Int) (w : World) (hz : Ints w ad zs) (hs : zs.length ≤ 1099511627776) :
    Calls Try.prog 15 #[.slice ad zs.length cap] w fun e w' =>
      e = .returned (.slice (some ⟨w.heap.size, 0, none⟩) zs.length zs.length) ∧ Own w' w.heap.size (some ⟨w.heap.size, 0, none⟩) zs.length zs ∧ Keep w w' := by
  obtain ⟨i0, hi, hz0, hz1, hz2⟩ := info_parts Try.infoI
  have hb8 : i0.bytes * zs.length ≤ 281474976710656 := by rw [hz2]; omega
  have hml : zs.length ≤ maxLen := by unfold maxLen; omega
  go_enter Try.func15, Try.ntmps15
  go_wp2_with (at_make; refine wpList_make_full w rfl _ _ 22 rfl w.heap.size 2 i0 (.int .i64 0) 1 Try.underlying22 hi hz0 hz1 .i64 .i64 _ _ zs.length rfl rfl rfl rfl hb8 hml (Nat.le_refl _) ?_)
  intro w0 hown0 hgrow0
  have hown0 : w0.ownsRow w.heap.size 2 1 (.slice (some ⟨w.heap.size, 0, none⟩) zs.length zs.length) zs.length (List.replicate zs.length (.int .i64 0)) := by simpa [Value.cells, toList_madeCells_one] using hown0
  have hk0 : Keep w w0 := (Below.refl _ _).grown hgrow0 (Nat.le_refl _) (fun k h => by cases h)
  clear hgrow0
  obtain ⟨B, hB⟩ : ∃ B, B = w.heap.size := ⟨_, rfl⟩
  rw [← hB] at hown0 ⊢
  have HB := Lib.hid hB; clear hB
  have hlen := hz.small
  go_wp2
  go_loopw [4] (fun i wr => ∃ k : Nat, k ≤ zs.length ∧ i = .int .i64 k ∧ wr.ownsRow B 2 1 (.slice (some ⟨B, 0, none⟩) zs.length zs.length) zs.length (vals (zs.take k) ++ List.replicate (zs.length - k) (.int .i64 0)) ∧ Below B w wr)
    (fun i _ => zs.length - (intOf i).toNat)
  case atStart => exact ⟨0, Nat.zero_le _, rfl, by simpa using hown0, by rw [HB.out]; exact hk0⟩
  case round =>
    obtain ⟨k, hk, rfl, hown, hbel⟩ := hrel
    by_cases hlt : k < zs.length
    · rcases hz.at_ with h | ⟨b, off, rfl, hb, hc⟩
      · subst h; simp at hlt
      have hcx : wr.cell? ⟨b, off + k, none⟩ = some (.int .i64 (zs.getD k 0)) := (hbel.cell (by show b < B; rw [HB.out]; exact hb)).trans (hc k hlt)
      have hcy : wr.cell? ⟨B, k, none⟩ = some (.int .i64 0) := by rw [hown.cellAt k (by omega), fill_get zs k hlt]
      have hfy := hown.frozenAt k
      have HST := Lib.hid (hown.stored k (.int .i64 (zs.getD k 0)))
      have HE := Lib.hid (fill_set zs k hlt (.int .i64 0))
      go_wp2
      go_roundw
      case rel =>
        obtain ⟨s1, s2⟩ := HST.out
        rw [HE.out] at s1
        refine ⟨k + 1, by omega, by go_num, ?_, ?_⟩
        · simpa [hlt] using s1
        · exact hbel.setCell (Nat.le_refl _) _
      case measure => simp [intOf]; omega
    · go_wp2
      go_ret
      have he : k = zs.length := by omega
      subst he
      have e := HB.out
      subst e
      exact ⟨rfl, ⟨by simpa using hown, hs, hz.wf⟩, hbel⟩

/-- Equal as the laws compare: draws alone. -/
def eqB (a b : List Int) : Bool := decide (a = b)
set_option maxHeartbeats 400000 in
theorem eqInt64S_any (ad bd : Option Addr) (ca cb : Nat) (xs ys : List Int) (w : World) (ha : Ints w ad xs) (hb : Ints w bd ys) :
    Calls Try.prog 11 #[.slice ad xs.length ca, .slice bd ys.length cb] w fun e w' => e = .returned (.bool (eqB xs ys)) ∧ Keep w w' := by
  have hla := ha.small
  have hlb := hb.small
  by_cases hl : xs.length = ys.length
  · have hl1 : ((xs.length : Int) == (ys.length : Int)) = true := by simp [hl]
    have hl2 : ((xs.length : Int) != (ys.length : Int)) = false := by simp [hl]
    have HL := Lib.hid hl; clear hl
    go_enter Try.func11, Try.ntmps11
    go_wp2
    go_loopw [5] (fun i wr => ∃ k : Nat, k ≤ xs.length ∧ i = .int .i64 k ∧ xs.take k = ys.take k ∧ Below w.heap.size w wr)
      (fun i _ => xs.length - (intOf i).toNat)
    case atStart => exact ⟨0, Nat.zero_le _, rfl, rfl, Below.refl _ _⟩
    case round =>
      obtain ⟨k, hk, rfl, heq, hbel⟩ := hrel
      have HQ := Lib.hid heq; clear heq
      by_cases hlt : k < xs.length
      · have hl := HL.out
        rcases ha.at_ with h | ⟨b, off, rfl, hb1, hc⟩
        · subst h; simp at hlt
        rcases hb.at_ with h | ⟨b2, off2, rfl, hb2, hc2⟩
        · rw [h] at hl; simp only [List.length_nil] at hl; omega
        have hcx : wr.cell? ⟨b, off + k, none⟩ = some (.int .i64 (xs.getD k 0)) := (hbel.cell (by show b < _; exact hb1)).trans (hc k hlt)
        have hcy : wr.cell? ⟨b2, off2 + k, none⟩ = some (.int .i64 (ys.getD k 0)) := (hbel.cell (by show b2 < _; exact hb2)).trans (hc2 k (by omega))
        have hlt2 : k < ys.length := by omega
        clear hl
        go_wp2
        go_quiet (fail)
        go_wp2
        · have hne : (xs[k] != ys[k]) = true := by assumption
          go_ret
          refine ⟨ret_bool ?_, below_drewN hbel _⟩
          symm; unfold eqB; apply decide_eq_false
          intro h; subst h; simp at hne
        · have hne : (xs[k] != ys[k]) = false := by assumption
          go_roundw
          case rel =>
            refine ⟨k + 1, by omega, by go_num, ?_, below_drewN hbel _⟩
            have hne2 : xs[k] = ys[k] := by simpa using hne
            rw [List.take_succ_eq_append_getElem hlt, List.take_succ_eq_append_getElem hlt2, HQ.out, hne2]
          case measure => simp [intOf]; omega
      · have he : k = xs.length := by omega
        have HE := Lib.hid he; clear he
        go_wp2
        go_ret
        refine ⟨ret_bool ?_, hbel⟩
        symm; unfold eqB; apply decide_eq_true
        have h1 := HQ.out
        rw [HE.out, List.take_length, HL.out, List.take_length] at h1
        exact h1
  · have hl1 : ((xs.length : Int) == (ys.length : Int)) = false := by simp; omega
    have hl2 : ((xs.length : Int) != (ys.length : Int)) = true := by simp; omega
    go_enter Try.func11, Try.ntmps11
    go_wp2
    go_ret
    refine ⟨ret_bool ?_, Below.refl _ _⟩
    symm; unfold eqB; apply decide_eq_false
    intro h; exact hl (by rw [h])
theorem eqInt64S_same (ad bd : Option Addr) (ca cb : Nat) (xs : List Int) (w : World) (ha : Ints w ad xs) (hb : Ints w bd xs) :
    Calls Try.prog 11 #[.slice ad xs.length ca, .slice bd xs.length cb] w fun e w' => e = .returned (.bool true) ∧ Keep w w' := by
  have h := eqInt64S_any ad bd ca cb xs xs w ha hb
  rw [show eqB xs xs = true from by simp [eqB]] at h
  exact h
theorem szInt64S_any (ad : Option Addr) (cap n : Nat) (left : Int) (w : World) (h1 : 0 ≤ left) (h2 : left ≤ 1048576) (hn : n ≤ 9223372036854775807) :
    Calls Try.prog 59 #[.slice ad n cap, .int .i64 left] w fun e w' => e = .returned (.int .i64 (if left < n then -1 else left - n)) ∧ w = w' := by
  by_cases h : left < n
  · rw [if_pos h]
    go_enter Try.func59, Try.ntmps59
    go_wp2
    go_ret
    exact ⟨rfl, rfl⟩
  · rw [if_neg h]
    go_enter Try.func59, Try.ntmps59
    go_wp2
    go_ret
    exact ⟨rfl, rfl⟩
/-- k, k + 1, .., n of them. -/
def ups : Int → Nat → List Int
  | _, 0 => []
  | k, n + 1 => k :: ups (k + 1) n
theorem ups_length (k : Int) : ∀ n, (ups k n).length = n := by
  intro n; induction n generalizing k with
  | zero => rfl
  | succ n ih => simp [ups, ih]
theorem ups_get (k : Int) : ∀ (n i : Nat), i < n → (ups k n).getD i 0 = k + i := by
  intro n; induction n generalizing k with
  | zero => intro i h; omega
  | succ n ih =>
    intro i h
    cases i with
    | zero => simp [ups]
    | succ i => rw [ups, List.getD_cons_succ, ih (k + 1) i (by omega)]; omega
theorem ups_in (k : Int) (n : Nat) (h1 : -9223372036854775808 ≤ k) (h2 : k + n ≤ 9223372036854775807) : ∀ z ∈ ups k n, In64 z := by
  intro z hz
  obtain ⟨i, hi, rfl⟩ := List.getElem_of_mem hz
  rw [ups_length] at hi
  have := ups_get k n i hi
  rw [List.getD_eq_getElem?_getD, List.getElem?_eq_getElem (by rw [ups_length]; exact hi)] at this
  simp only [Option.getD_some] at this
  rw [this]; exact ⟨by omega, by omega⟩

theorem ups_succ (k : Int) : ∀ n, ups k (n + 1) = ups k n ++ [k + n] := by
  intro n; induction n generalizing k with
  | zero => simp [ups]
  | succ n ih => rw [ups, ih (k + 1), ups]; simp; omega
theorem mark_set (k : Int) (zs : List Int) (j : Nat) (h : j < zs.length) : (vals (ups k j) ++ vals (zs.drop j)).set j (.int .i64 (k + j)) = vals (ups k (j + 1)) ++ vals (zs.drop (j + 1)) := by
  rw [List.set_append_right _ _ (by simp [ups_length])]
  have : j - (vals (ups k j)).length = 0 := by simp [ups_length]
  rw [this, List.drop_eq_getElem_cons h, ups_succ]
  simp only [vals, List.map_cons, List.set_cons_zero, List.map_append, List.append_assoc, List.map_nil, List.cons_append, List.nil_append]

set_option maxHeartbeats 400000 in
/-- Marking a slice of the call's own: it holds k, k + 1, ..; no other block is written. -/
theorem markInt64S_any (B : Nat) (ad : Option Addr) (cap : Nat) (zs : List Int) (k : Int) (w : World) (h : Own w B ad cap zs) (hk : -1099511627776 ≤ k) (hk2 : k ≤ 35184372088832) (hs : zs.length ≤ 1099511627776) :
    Calls Try.prog 12 #[.slice ad zs.length cap, .int .i64 k] w fun e w' =>
      e = .returned (.int .i64 (k + zs.length)) ∧ Own w' B ad cap (ups k zs.length) ∧ w.grownBy w' (Value.slice ad zs.length cap).ownBlock ∧ w'.heap.size = w.heap.size := by
  go_enter Try.func12, Try.ntmps12
  go_wp2
  go_loopw [1, 5] (fun kk i wr => ∃ j : Nat, j ≤ zs.length ∧ i = .int .i64 j ∧ kk = .int .i64 (k + j) ∧ wr.ownsRow B 2 1 (.slice ad zs.length cap) zs.length (vals (ups k j) ++ vals (zs.drop j)) ∧
      w.grownBy wr (Value.slice ad zs.length cap).ownBlock ∧ wr.heap.size = w.heap.size)
    (fun _ i _ => zs.length - (intOf i).toNat)
  case atStart => exact ⟨0, Nat.zero_le _, rfl, by simp, by simpa [ups] using h.1, World.grownBy.refl _ _, rfl⟩
  case round =>
    obtain ⟨j, hj, rfl, rfl, hown, hgr, hsz⟩ := hrel
    have HZ := Lib.hid hsz; clear hsz
    by_cases hlt : j < zs.length
    · rcases own_block hown with ⟨_, h2, _⟩ | ⟨g, rfl, h1, h2, _⟩
      · omega
      have hcy : ∃ v, wr.cell? ⟨g, j, none⟩ = some v := by
        rw [hown.cellAt j (by omega), List.getElem?_append_right (by simp [ups_length])]
        exact ⟨_, List.getElem?_eq_getElem (by simp [ups_length]; omega)⟩
      obtain ⟨v0, hcy⟩ := hcy
      have hfy := hown.frozenAt j
      have HST := Lib.hid (hown.stored j (.int .i64 (k + j)))
      go_wp2
      go_roundw
      case rel =>
        obtain ⟨s1, s2⟩ := HST.out
        refine ⟨j + 1, by omega, by go_num, by go_num, ?_, ?_, ?_⟩
        · rw [mark_set k zs j hlt] at s1; exact s1
        · exact grownBy_trans hgr s2
        · rw [← HZ.out]; simp
      case measure => simp [intOf]; omega
    · go_wp2
      go_ret
      have he : j = zs.length := by omega
      subst he
      exact ⟨rfl, ⟨by simpa [ups_length] using hown, by rw [ups_length]; omega, ups_in k _ (by omega) (by omega)⟩, hgr, HZ.out⟩

set_option maxHeartbeats 400000 in
theorem heldInt64S_any (ad : Option Addr) (cap : Nat) (k : Int) (n : Nat) (w : World) (h : Ints w ad (ups k n)) (hk : -1099511627776 ≤ k) (hk2 : k ≤ 35184372088832) (hs : n ≤ 1099511627776) :
    Calls Try.prog 13 #[.slice ad n cap, .int .i64 k] w fun e w' => e = .returned (.int .i64 (k + n)) ∧ Keep w w' := by
  go_enter Try.func13, Try.ntmps13
  go_wp2
  go_loopw [1, 5] (fun kk i wr => ∃ j : Nat, j ≤ n ∧ i = .int .i64 j ∧ kk = .int .i64 (k + j) ∧ Below w.heap.size w wr)
    (fun _ i _ => n - (intOf i).toNat)
  case atStart => exact ⟨0, Nat.zero_le _, rfl, by simp, Below.refl _ _⟩
  case round =>
    obtain ⟨j, hj, rfl, rfl, hbel⟩ := hrel
    by_cases hlt : j < n
    · rcases h.at_ with h | ⟨b, off, rfl, hb1, hc⟩
      · have := congrArg List.length h; rw [ups_length] at this; simp at this; omega
      have hcx : wr.cell? ⟨b, off + j, none⟩ = some (.int .i64 (k + j)) := by
        rw [hbel.cell (by show b < _; exact hb1), hc j (by rw [ups_length]; exact hlt), ups_get k n j hlt]
      go_wp2
      go_roundw
      case rel => exact ⟨j + 1, by omega, by go_num, by go_num, hbel⟩
      case measure => simp [intOf]; omega
    · go_wp2
      go_ret
      have he : j = n := by omega
      subst he
      exact ⟨rfl, hbel⟩

theorem szValues_any (g : Int) (ad : Option Addr) (cap n : Nat) (left : Int) (w : World) (h1 : 0 ≤ left) (h2 : left ≤ 1048576) (hn : n ≤ 9223372036854775807) :
    Calls Try.prog 31 #[.agg #[.int .i64 g, .slice ad n cap], .int .i64 left] w fun e w' => e = .returned (.int .i64 (if left < n then -1 else left - n)) ∧ Keep w w' := by
  by_cases h : left < n
  · rw [if_pos h]
    go_enter Try.func31, Try.ntmps31
    go_wp2_with (go_at_call 59; refine (szInt64S_any _ _ _ _ _ h1 h2 hn).mono ?_; rw [if_pos h]; rintro e w' ⟨rfl, rfl⟩)
    go_ret
    exact ⟨rfl, by go_grown⟩
  · rw [if_neg h]
    go_enter Try.func31, Try.ntmps31
    go_wp2_with (go_at_call 59; refine (szInt64S_any _ _ _ _ _ h1 h2 hn).mono ?_; rw [if_neg h]; rintro e w' ⟨rfl, rfl⟩)
    go_ret
    exact ⟨rfl, by go_grown⟩

theorem szSystem_any (g : Int) (ad : Option Addr) (cap n : Nat) (left : Int) (w : World) (h1 : 0 ≤ left) (h2 : left ≤ 1048576) (hn : n ≤ 9223372036854775807) :
    Calls Try.prog 30 #[.agg #[.int .i64 g, .slice ad n cap], .int .i64 left] w fun e w' => e = .returned (.int .i64 (if left < n then -1 else left - n)) ∧ Keep w w' := by
  by_cases h : left < n
  · rw [if_pos h]
    go_enter Try.func30, Try.ntmps30
    go_wp2_with (go_at_call 59; refine (szInt64S_any _ _ _ _ _ h1 h2 hn).mono ?_; rw [if_pos h]; rintro e w' ⟨rfl, rfl⟩)
    go_ret
    exact ⟨rfl, by go_grown⟩
  · rw [if_neg h]
    go_enter Try.func30, Try.ntmps30
    go_wp2_with (go_at_call 59; refine (szInt64S_any _ _ _ _ _ h1 h2 hn).mono ?_; rw [if_neg h]; rintro e w' ⟨rfl, rfl⟩)
    go_ret
    exact ⟨rfl, by go_grown⟩
theorem toInt64S_ex (ad : Option Addr) (cap : Nat) (zs : List Int) (w : World) (hz : Ints w ad zs) (hs : zs.length ≤ 1099511627776) :
    Calls Try.prog 15 #[.slice ad zs.length cap] w fun e w' =>
      ∃ b, e = .returned (.slice (some ⟨b, 0, none⟩) zs.length zs.length) ∧ Own w' w.heap.size (some ⟨b, 0, none⟩) zs.length zs ∧ Keep w w' :=
  (toInt64S_any ad cap zs w hz hs).mono fun _ _ h => ⟨_, h⟩
/-- A box that holds a struct of type Values. -/
structure Box (w : World) (b : Nat) (g : Int) (ad : Option Addr) (n cap : Nat) : Prop where
  c0 : w.cell? ⟨b, 0, none⟩ = some (.int .i64 g)
  c1 : w.cell? ⟨b, 1, none⟩ = some (.slice ad n cap)
  lt : b < w.heap.size
theorem Box.keep {w w' : World} {b : Nat} {g : Int} {ad : Option Addr} {n cap : Nat} (h : Box w b g ad n cap) (k : Keep w w') : Box w' b g ad n cap := by
  have hb := block_lt_of_cell h.c0
  exact ⟨by rw [k.cell (by exact hb)]; exact h.c0, by rw [k.cell (by exact hb)]; exact h.c1, Nat.lt_of_lt_of_le h.lt k.size⟩
theorem Box.past {w w' : World} {b : Nat} {g : Int} {ad : Option Addr} {n cap : Nat} {lo2 hi2 : Nat} {ad2 : Option Addr} {cap2 n2 : Nat} {zs2 : List Int} (h : Box w b g ad n cap) (x : Mine w' lo2 hi2 ad2 cap2 zs2) (m : w.grownBy w' (Value.slice ad2 n2 cap2).ownBlock)
    (sep : b < lo2 ∨ hi2 ≤ b) : Box w' b g ad n cap := by
  have hr : some b ≠ (Value.slice ad2 n2 cap2).ownBlock := by
    rcases own_block x.own.1 with ⟨rfl, _⟩ | ⟨k2, rfl, h4, h5, _⟩
    · simp [Value.ownBlock]
    · have h6 := x.below k2 rfl
      simp [Value.ownBlock]; omega
  have e := m.block b h.lt hr
  exact ⟨by rw [World.cell?_of_block (w := w) e]; exact h.c0, by rw [World.cell?_of_block (w := w) e]; exact h.c1, Nat.lt_of_lt_of_le h.lt m.size⟩
/-- A value of type Values: its denominator, and its numbers in memory of the call's own. -/
abbrev valV (g : Int) (ad : Option Addr) (n cap : Nat) : Value := .agg #[.int .i64 g, .slice ad n cap]
set_option maxHeartbeats 400000 in
theorem toValues_any (g : Int) (ad : Option Addr) (cap : Nat) (zs : List Int) (w : World) (hz : Ints w ad zs) (hs : zs.length ≤ 1099511627776) :
    Calls Try.prog 34 #[valV g ad zs.length cap] w fun e w' =>
      ∃ b, e = .returned (valV g (some ⟨b, 0, none⟩) zs.length zs.length) ∧ Own w' w.heap.size (some ⟨b, 0, none⟩) zs.length zs ∧ Keep w w' := by
  go_enter Try.func34, Try.ntmps34
  go_wp2_with fail
  refine (toInt64S_any ad cap zs _ (hz.keep (B := w.heap.size) (by go_grown) (Nat.le_refl _)) hs).mono ?_
  rintro e w1 ⟨rfl, hown, hkeep⟩
  obtain ⟨hc, hf⟩ := bcell hkeep
  have hk1 : Below w.heap.size w w1 := (Below.trans (by go_grown) (hkeep.mono (by simp; omega)))
  have hown := hown.mono (B' := w.heap.size) (by simp; omega)
  simp only [World.size_alloc] at hown ⊢
  have HO := Lib.hid hown; clear hown
  have HK := Lib.hid hkeep; clear hkeep
  go_wp2
  refine bodyPost_ret (v := valV g (some ⟨w.heap.size + 1 + 1 + 1, 0, none⟩) zs.length zs.length) (by simp [results, Try.results34, go_sem, hc]) rfl ?_
  exact ⟨_, rfl, ((HO.out.set (by simp) _).set (by simp) _).set (by simp) _, ((hk1.setCell (by simp; omega) _).setCell (by simp) _).setCell (by simp) _⟩
set_option maxHeartbeats 400000 in
theorem toSystem_any (g : Int) (ad : Option Addr) (cap : Nat) (zs : List Int) (w : World) (hz : Ints w ad zs) (hs : zs.length ≤ 1099511627776) :
    Calls Try.prog 33 #[valV g ad zs.length cap] w fun e w' =>
      ∃ b, e = .returned (valV g (some ⟨b, 0, none⟩) zs.length zs.length) ∧ Own w' w.heap.size (some ⟨b, 0, none⟩) zs.length zs ∧ Keep w w' := by
  go_enter Try.func33, Try.ntmps33
  go_wp2_with fail
  refine (toInt64S_any ad cap zs _ (hz.keep (B := w.heap.size) (by go_grown) (Nat.le_refl _)) hs).mono ?_
  rintro e w1 ⟨rfl, hown, hkeep⟩
  obtain ⟨hc, hf⟩ := bcell hkeep
  have hk1 : Below w.heap.size w w1 := (Below.trans (by go_grown) (hkeep.mono (by simp; omega)))
  have hown := hown.mono (B' := w.heap.size) (by simp; omega)
  simp only [World.size_alloc] at hown ⊢
  have HO := Lib.hid hown; clear hown
  have HK := Lib.hid hkeep; clear hkeep
  go_wp2
  refine bodyPost_ret (v := valV g (some ⟨w.heap.size + 1 + 1 + 1, 0, none⟩) zs.length zs.length) (by simp [results, Try.results33, go_sem, hc]) rfl ?_
  exact ⟨_, rfl, ((HO.out.set (by simp) _).set (by simp) _).set (by simp) _, ((hk1.setCell (by simp; omega) _).setCell (by simp) _).setCell (by simp) _⟩

theorem eqValues_any (g1 g2 : Int) (ad bd : Option Addr) (ca cb : Nat) (xs ys : List Int) (w : World) (ha : Ints w ad xs) (hb : Ints w bd ys) :
    Calls Try.prog 37 #[valV g1 ad xs.length ca, valV g2 bd ys.length cb] w fun e w' => e = .returned (.bool (decide (g1 = g2) && eqB xs ys)) ∧ Keep w w' := by
  by_cases hg : g1 = g2
  · subst hg
    have hne : (g1 != g1) = false := by simp
    have hbl : Below w.heap.size w ((w.alloc (.cells #[.int .i64 g1, .slice ad xs.length ca] 57)).alloc (.cells #[.int .i64 g1, .slice bd ys.length cb] 57)) := by go_grown
    rw [decide_eq_true rfl, Bool.true_and]
    cases hq : eqB xs ys
    all_goals
      go_enter Try.func37, Try.ntmps37
      go_wp2_with fail
      refine (eqInt64S_any ad bd ca cb xs ys _ (ha.keep hbl (Nat.le_refl _)) (hb.keep hbl (Nat.le_refl _))).mono ?_
      rw [hq]
      rintro e w1 ⟨rfl, hk⟩
      have hk1 : Below w.heap.size w w1 := (Below.trans hbl (hk.mono (by simp <;> omega)))
      go_wp2
      go_ret
      exact ⟨rfl, hk1⟩
  · have hne : (g1 != g2) = true := by simp [hg]
    rw [decide_eq_false hg, Bool.false_and]
    go_enter Try.func37, Try.ntmps37
    go_wp2
    go_ret
    exact ⟨rfl, by go_grown⟩
theorem eqValues_same (g : Int) (ad bd : Option Addr) (ca cb : Nat) (xs : List Int) (w : World) (ha : Ints w ad xs) (hb : Ints w bd xs) :
    Calls Try.prog 37 #[valV g ad xs.length ca, valV g bd xs.length cb] w fun e w' => e = .returned (.bool true) ∧ Keep w w' := by
  have h := eqValues_any g g ad bd ca cb xs xs w ha hb
  rw [show (decide (g = g) && eqB xs xs) = true from by simp [eqB]] at h
  exact h

theorem eqSystem_any (g1 g2 : Int) (ad bd : Option Addr) (ca cb : Nat) (xs ys : List Int) (w : World) (ha : Ints w ad xs) (hb : Ints w bd ys) :
    Calls Try.prog 36 #[valV g1 ad xs.length ca, valV g2 bd ys.length cb] w fun e w' => e = .returned (.bool (decide (g1 = g2) && eqB xs ys)) ∧ Keep w w' := by
  by_cases hg : g1 = g2
  · subst hg
    have hne : (g1 != g1) = false := by simp
    have hbl : Below w.heap.size w ((w.alloc (.cells #[.int .i64 g1, .slice ad xs.length ca] 55)).alloc (.cells #[.int .i64 g1, .slice bd ys.length cb] 55)) := by go_grown
    rw [decide_eq_true rfl, Bool.true_and]
    cases hq : eqB xs ys
    all_goals
      go_enter Try.func36, Try.ntmps36
      go_wp2_with fail
      refine (eqInt64S_any ad bd ca cb xs ys _ (ha.keep hbl (Nat.le_refl _)) (hb.keep hbl (Nat.le_refl _))).mono ?_
      rw [hq]
      rintro e w1 ⟨rfl, hk⟩
      have hk1 : Below w.heap.size w w1 := (Below.trans hbl (hk.mono (by simp <;> omega)))
      go_wp2
      go_ret
      exact ⟨rfl, hk1⟩
  · have hne : (g1 != g2) = true := by simp [hg]
    rw [decide_eq_false hg, Bool.false_and]
    go_enter Try.func36, Try.ntmps36
    go_wp2
    go_ret
    exact ⟨rfl, by go_grown⟩
theorem eqSystem_same (g : Int) (ad bd : Option Addr) (ca cb : Nat) (xs : List Int) (w : World) (ha : Ints w ad xs) (hb : Ints w bd xs) :
    Calls Try.prog 36 #[valV g ad xs.length ca, valV g bd xs.length cb] w fun e w' => e = .returned (.bool true) ∧ Keep w w' := by
  have h := eqSystem_any g g ad bd ca cb xs xs w ha hb
  rw [show (decide (g = g) && eqB xs xs) = true from by simp [eqB]] at h
  exact h
theorem markValues_any (B : Nat) (g : Int) (ad : Option Addr) (cap : Nat) (zs : List Int) (k : Int) (w : World) (h : Own w B ad cap zs) (hk : -1099511627776 ≤ k) (hk2 : k ≤ 35184372088832) (hs : zs.length ≤ 1099511627776) :
    Calls Try.prog 39 #[valV g ad zs.length cap, .int .i64 k] w fun e w' =>
      e = .returned (.int .i64 (k + zs.length)) ∧ Own w' B ad cap (ups k zs.length) ∧ w.grownBy w' (Value.slice ad zs.length cap).ownBlock := by
  go_enter Try.func39, Try.ntmps39
  go_wp2_with fail
  refine (markInt64S_any B ad cap zs k _ (h.keep (by go_grown)) hk hk2 hs).mono ?_
  rintro e w1 ⟨rfl, ho, hgr, _⟩
  go_wp2
  go_ret
  refine ⟨rfl, ho, ?_⟩
  exact grownBy_trans (keep_grown (by go_grown) _) hgr
theorem markSystem_any (B : Nat) (g : Int) (ad : Option Addr) (cap : Nat) (zs : List Int) (k : Int) (w : World) (h : Own w B ad cap zs) (hk : -1099511627776 ≤ k) (hk2 : k ≤ 35184372088832) (hs : zs.length ≤ 1099511627776) :
    Calls Try.prog 38 #[valV g ad zs.length cap, .int .i64 k] w fun e w' =>
      e = .returned (.int .i64 (k + zs.length)) ∧ Own w' B ad cap (ups k zs.length) ∧ w.grownBy w' (Value.slice ad zs.length cap).ownBlock := by
  go_enter Try.func38, Try.ntmps38
  go_wp2_with fail
  refine (markInt64S_any B ad cap zs k _ (h.keep (by go_grown)) hk hk2 hs).mono ?_
  rintro e w1 ⟨rfl, ho, hgr, _⟩
  go_wp2
  go_ret
  refine ⟨rfl, ho, ?_⟩
  exact grownBy_trans (keep_grown (by go_grown) _) hgr

/-- An append of one number to a slice of the call's own, at a step of a region that draws its order. -/
theorem step_app1 {ops : Array Oper} {o : Oper} {a : Act} {w : World} {K : Act → World → Prop} {Q : Exit → Act → World → Prop} {E : Prop} (hgd : o.guard = none) (s x : Operand)
    (ho : o.op = .call { callee := .builtin .append, args := #[s, x], argTypes := #[22, 22] })
    (B : Nat) (ad : Option Addr) (cap n : Nat) (zs : List Int) (y : Int) (hs : a.eval s = .slice ad n cap) (hown : Own w B ad cap zs) (hn : n = zs.length) (nb : Nat) (hx : a.eval x = .slice (some ⟨nb, 0, none⟩) 1 1)
    (hc : w.cell? ⟨nb, 0, none⟩ = some (.int .i64 y)) (hy : In64 y) (hl : zs.length < 1099511627776) (hB : B ≤ w.heap.size)
    (h : ∀ ad' cap' w', Own w' B ad' cap' (zs ++ [y]) → w.grownBy w' (Value.slice ad n cap).ownBlock → K (a.put o.dst (.slice ad' (n + 1) cap')) w') :
    if Region.wanted o (yielded ops a.tmps) = true then Oper.wp Try.prog o a w K Q else E := by
  obtain ⟨i0, hi, hz0, hz1, hz2⟩ := info_parts Try.infoI
  subst hn
  refine step_append_lies w hgd s x 22 ho B 2 i0 (.int .i64 0) 1 8 Try.underlying22 hi hz0 hz1 hz2 rfl (by omega) (.slice ad zs.length cap) zs.length (vals zs) hs hown.1 ⟨nb, 0, none⟩ 1 1 [.int .i64 y] hx rfl ?_ ?_ (by omega) (by unfold maxLen; omega) (by omega) hB _ rfl ?_
  · intro j u hj
    match j, hj with
    | 0, hj => simp at hj; subst hj; simpa [Addr.add] using hc
  · intro u hu; simp at hu; subst hu; rfl
  · intro g cap' w' h1 h2 _ _
    refine h (some ⟨g, 0, none⟩) cap' w' ⟨?_, ?_, ?_⟩ h2
    · simpa [vals] using h1
    · simp; omega
    · intro z hz; rcases List.mem_append.1 hz with hz | hz
      · exact hown.2.2 z hz
      · simp at hz; subst hz; exact hy
/-- The same where the order is fixed. -/
theorem list_app1 {ops : Array Oper} {rest : List Oper} {o : Oper} {a : Act} {w : World} {Q : Exit → Act → World → Prop} (hgd : o.guard = none) (s x : Operand)
    (ho : o.op = .call { callee := .builtin .append, args := #[s, x], argTypes := #[22, 22] })
    (B : Nat) (ad : Option Addr) (cap n : Nat) (zs : List Int) (y : Int) (hs : a.eval s = .slice ad n cap) (hown : Own w B ad cap zs) (hn : n = zs.length) (nb : Nat) (hx : a.eval x = .slice (some ⟨nb, 0, none⟩) 1 1)
    (hc : w.cell? ⟨nb, 0, none⟩ = some (.int .i64 y)) (hy : In64 y) (hl : zs.length < 1099511627776) (hB : B ≤ w.heap.size)
    (h : ∀ ad' cap' w', Own w' B ad' cap' (zs ++ [y]) → w.grownBy w' (Value.slice ad n cap).ownBlock → wpList Try.prog ops Q rest (a.put o.dst (.slice ad' (n + 1) cap')) w') : wpList Try.prog ops Q (o :: rest) a w := by
  obtain ⟨i0, hi, hz0, hz1, hz2⟩ := info_parts Try.infoI
  subst hn
  refine wpList_append_lies w hgd s x 22 ho B 2 i0 (.int .i64 0) 1 8 Try.underlying22 hi hz0 hz1 hz2 rfl (by omega) (.slice ad zs.length cap) zs.length (vals zs) hs hown.1 ⟨nb, 0, none⟩ 1 1 [.int .i64 y] hx rfl ?_ ?_ (by omega) (by unfold maxLen; omega) (by omega) hB _ rfl ?_
  · intro j u hj
    match j, hj with
    | 0, hj => simp at hj; subst hj; simpa [Addr.add] using hc
  · intro u hu; simp at hu; subst hu; rfl
  · intro g cap' w' h1 h2 _ _
    refine h (some ⟨g, 0, none⟩) cap' w' ⟨?_, ?_, ?_⟩ h2
    · simpa [vals] using h1
    · simp; omega
    · intro z hz; rcases List.mem_append.1 hz with hz | hz
      · exact hown.2.2 z hz
      · simp at hz; subst hz; exact hy
/-- The same, and where the new slice lies. -/
theorem list_app2 {ops : Array Oper} {rest : List Oper} {o : Oper} {a : Act} {w : World} {Q : Exit → Act → World → Prop} (hgd : o.guard = none) (s x : Operand)
    (ho : o.op = .call { callee := .builtin .append, args := #[s, x], argTypes := #[22, 22] })
    (B : Nat) (ad : Option Addr) (cap n : Nat) (zs : List Int) (y : Int) (hs : a.eval s = .slice ad n cap) (hown : Own w B ad cap zs) (hn : n = zs.length) (nb : Nat) (hx : a.eval x = .slice (some ⟨nb, 0, none⟩) 1 1)
    (hc : w.cell? ⟨nb, 0, none⟩ = some (.int .i64 y)) (hy : In64 y) (hl : zs.length < 1099511627776) (hB : B ≤ w.heap.size)
    (h : ∀ g cap' w', Own w' B (some ⟨g, 0, none⟩) cap' (zs ++ [y]) → w.grownBy w' (Value.slice ad n cap).ownBlock → (ad = some ⟨g, 0, none⟩ ∨ w.heap.size ≤ g) → g < w'.heap.size → wpList Try.prog ops Q rest (a.put o.dst (.slice (some ⟨g, 0, none⟩) (n + 1) cap')) w') : wpList Try.prog ops Q (o :: rest) a w := by
  obtain ⟨i0, hi, hz0, hz1, hz2⟩ := info_parts Try.infoI
  subst hn
  refine wpList_append_lies w hgd s x 22 ho B 2 i0 (.int .i64 0) 1 8 Try.underlying22 hi hz0 hz1 hz2 rfl (by omega) (.slice ad zs.length cap) zs.length (vals zs) hs hown.1 ⟨nb, 0, none⟩ 1 1 [.int .i64 y] hx rfl ?_ ?_ (by omega) (by unfold maxLen; omega) (by omega) hB _ rfl ?_
  · intro j u hj
    match j, hj with
    | 0, hj => simp at hj; subst hj; simpa [Addr.add] using hc
  · intro u hu; simp at hu; subst hu; rfl
  · intro g cap' w' h1 h2 h3 h4
    refine h g cap' w' ⟨?_, ?_, ?_⟩ h2 ?_ h4
    · simpa [vals] using h1
    · simp; omega
    · intro z hz; rcases List.mem_append.1 hz with hz | hz
      · exact hown.2.2 z hz
      · simp at hz; subst hz; exact hy
    · rcases h3 with h3 | h3
      · left
        rcases own_block hown.1 with ⟨rfl, _⟩ | ⟨k2, rfl, _⟩
        · simp [Value.ownBlock] at h3
        · simp [Value.ownBlock] at h3; subst h3; rfl
      · right; omega
/-- Another slice of the call's own behind an append. -/
theorem Own.apart {w w' : World} {B : Nat} {ad bd : Option Addr} {cap bcap n : Nat} {zs ys : List Int} (h : Own w B bd bcap ys) (g : Own w B ad cap zs) (m : w.grownBy w' (Value.slice ad n cap).ownBlock)
    (sep : ∀ k, bd = some ⟨k, 0, none⟩ → ad = some ⟨k, 0, none⟩ → False) : Own w' B bd bcap ys := by
  refine ⟨h.1.kept m ?_, h.2⟩
  rcases own_block h.1 with ⟨rfl, _⟩ | ⟨k, rfl, h1, h2, _⟩
  · exact .inl rfl
  · right
    rcases own_block g.1 with ⟨rfl, _⟩ | ⟨k2, rfl, h4, h5, _⟩
    · simp [Value.ownBlock]
    · have h6 := sep k rfl
      have h7 : ¬ k2 = k := fun e => h6 (by rw [e])
      simp [Value.ownBlock]; omega
/-- Old memory behind a write into a slice of the call's own. -/
theorem below_own {w0 w w' : World} {B lo n cap : Nat} {ad : Option Addr} {zs : List Int} (h : Below B w0 w) (o : Own w lo ad cap zs) (m : w.grownBy w' (Value.slice ad n cap).ownBlock) (hB : B ≤ w.heap.size) (hlo : B ≤ lo) : Below B w0 w' := by
  refine h.grown m hB fun k hk => ?_
  rcases own_block o.1 with ⟨rfl, _⟩ | ⟨k2, rfl, h4, _⟩
  · simp [Value.ownBlock] at hk
  · simp [Value.ownBlock] at hk; omega
end Go.Proofs.Ytpdcmhnaedhkdaa
