/- Kernels: a number and a slice of taps, three numbers each; the laws' helpers on them. The taps' numbers are held as one flat list. -/
import Derived.Test.YtjoanfgchapbaaaRowG
import Derived.Test.YtjoanfgchapbaaaTabs
import Derived.Deep.Strs
import Derived.Deep.Slices
import Derived.BigQuiet
namespace Go.Proofs.Ytjoanfgchapbaaa
open Go.ChangeShapes Go.WideShapes Go.ChangeAt Go.RowKit Go.Joins Go.Deep
set_option linter.unusedVariables false
/-- The cells at ad hold the numbers zs, however many they are. -/
structure Nums (w : World) (ad : Option Addr) (zs : List Int) : Prop where
  wf : ∀ z ∈ zs, In64 z
  at_ : zs = [] ∨ ∃ b off, ad = some ⟨b, off, none⟩ ∧ b < w.heap.size ∧ ∀ i, i < zs.length → w.cell? ⟨b, off + i, none⟩ = some (.int .i64 (zs.getD i 0))
theorem Nums.ints {w : World} {ad : Option Addr} {zs : List Int} (h : Nums w ad zs) (hs : zs.length ≤ 9223372036854775807) : Ints w ad zs := ⟨hs, h.wf, h.at_⟩
/-- Out of the reading of an argument that is a slice of structs of three int64. -/
theorem taps_open {H : Type} {enc : TypeId × Value → H} {P : Program} {W : World} {t e : TypeId} {f0 f1 f2 : Field} {d : DataW H} {p : List MemPlace} {ad : Option Addr} {len cap : Nat} (ht : P.underlying t = some (.slice e)) (he : P.underlying e = some (.struct #[f0, f1, f2])) (hone : oneCellFields P #[f0, f1, f2] = true)
    (hC : P.cellsOf e = 3) (h0 : P.underlying f0.type = some (.int .i64)) (h1 : P.underlying f1.type = some (.int .i64)) (h2 : P.underlying f2.type = some (.int .i64))
    (h : DataW.Trod enc P W 0 (fun _ => true) true t (.slice ad len cap) d p) : len ≤ maxLen ∧ ∃ zs : List Int, zs.length = 3 * len ∧ Nums W ad zs := by
  obtain ⟨fuel, hf⟩ := h
  rcases open_slice ht hf with ⟨hcs, _⟩ | ⟨a, l, c, m, n, D, Pl, hcs, _, hl, hm, hmm, _, hi⟩
  · simp [Value.cells] at hcs
    obtain ⟨rfl, rfl, rfl⟩ := hcs
    exact ⟨Nat.zero_le _, [], rfl, by simp, .inl rfl⟩
  · simp [Value.cells] at hcs
    obtain ⟨rfl, rfl, rfl⟩ := hcs
    simp only [if_true] at hmm
    subst hmm
    have each : ∀ i, i < len → ∃ y : Int × Int × Int, (In64 y.1 ∧ In64 y.2.1 ∧ In64 y.2.2) ∧ W.cell? (a.add (i * 3)) = some (.int .i64 y.1) ∧ W.cell? (a.add (i * 3 + 1)) = some (.int .i64 y.2.1) ∧ W.cell? (a.add (i * 3 + 2)) = some (.int .i64 y.2.2) := by
      intro i hil
      obtain ⟨cs', hc, ht'⟩ := hi i (by omega)
      rw [hC] at hc
      obtain ⟨y0, y1, y2, n', _, hcl, g0, g1, g2⟩ := trod_struct3 he ht'
      obtain ⟨_, hl3, hat⟩ := World.cells?_some hc
      obtain ⟨o0, k0⟩ := hone_of hone 0 f0 rfl
      obtain ⟨o1, k1⟩ := hone_of hone 1 f1 rfl
      obtain ⟨o2, k2⟩ := hone_of hone 2 f2 rfl
      rw [hC] at hcl
      match cs', hcl with
      | [c0, c1, c2], _ =>
        have q0 := hat 0 (by omega); have q1 := hat 1 (by omega); have q2 := hat 2 (by omega)
        simp only [o0, o1, o2, k0, k1, k2, List.drop_zero, List.drop_succ_cons, List.take_succ_cons, List.take_zero] at g0 g1 g2
        obtain ⟨z0, e0, _, w0⟩ := DataW.trod_int h0 g0
        obtain ⟨z1, e1, _, w1⟩ := DataW.trod_int h1 g1
        obtain ⟨z2, e2, _, w2⟩ := DataW.trod_int h2 g2
        simp at e0 e1 e2
        subst e0; subst e1; subst e2
        refine ⟨(z0, z1, z2), ⟨in64 w0, in64 w1, in64 w2⟩, ?_, ?_, ?_⟩
        · rw [show a.add (i * 3) = (a.add (i * 3)).add 0 from by simp [Addr.add]]; exact q0
        · rw [← Go.Deep.add_add]; exact q1
        · rw [← Go.Deep.add_add]; exact q2
    obtain ⟨y, hy⟩ := choose_lt each
    refine ⟨by omega, (List.range (3 * len)).map fun j => if j % 3 = 0 then (y (j / 3)).1 else if j % 3 = 1 then (y (j / 3)).2.1 else (y (j / 3)).2.2, by simp, fun z hz => ?_, ?_⟩
    · obtain ⟨j, hj, rfl⟩ := List.mem_map.1 hz
      have := List.mem_range.1 hj
      have hh := (hy (j / 3) (by omega)).1
      split
      · exact hh.1
      · split
        · exact hh.2.1
        · exact hh.2.2
    · by_cases hz : len = 0
      · left; subst hz; rfl
      · right
        obtain ⟨b, off, spot⟩ := a
        have hspot : spot = none := by simpa [Addr.add] using World.cell?_spot (hy 0 (by omega)).2.1
        subst hspot
        refine ⟨b, off, rfl, ?_, fun j hj => ?_⟩
        · have := (hy 0 (by omega)).2.1
          rw [Go.WideShapes.add_plain] at this
          exact World.block_lt_of_cell? _ _ this
        · simp only [List.length_map, List.length_range] at hj
          have hh := (hy (j / 3) (by omega)).2
          simp only [Go.WideShapes.add_plain] at hh
          simp only [List.getD_eq_getElem?_getD, List.getElem?_map, List.getElem?_range hj, Option.map_some, Option.getD_some]
          by_cases c0 : j % 3 = 0
          · rw [if_pos c0, ← hh.1]; congr 2; omega
          · rw [if_neg c0]
            by_cases c1 : j % 3 = 1
            · rw [if_pos c1, ← hh.2.1]; congr 2; omega
            · rw [if_neg c1, ← hh.2.2]; congr 2; omega
theorem kernel_open {H : Type} {enc : TypeId × Value → H} {P : Program} {W : World} {t e : TypeId} {n0 n1 f0 f1 f2 : Field} {d : DataW H} {p : List MemPlace} {r : Reach} {b0 : Nat} {v : Value} (hs : P.underlying t = some (.struct #[n0, n1])) (hone : oneCellFields P #[n0, n1] = true) (hC : P.cellsOf t = 2)
    (g0 : P.underlying n0.type = some (.int .i64)) (g1 : P.underlying n1.type = some (.slice e)) (he : P.underlying e = some (.struct #[f0, f1, f2])) (hone2 : oneCellFields P #[f0, f1, f2] = true) (hC2 : P.cellsOf e = 3)
    (h0 : P.underlying f0.type = some (.int .i64)) (h1 : P.underlying f1.type = some (.int .i64)) (h2 : P.underlying f2.type = some (.int .i64)) (hv : Value.okWide P W r b0 t v)
    (h : DataW.Trod enc P W 0 (fun _ => true) true t v d p) : ∃ (g : Int) (ad : Option Addr) (n cap : Nat) (zs : List Int), v = .agg #[.int .i64 g, .slice ad n cap] ∧ In64 g ∧ n ≤ 9223372036854775807 ∧ zs.length = 3 * n ∧ Nums W ad zs := by
  obtain ⟨c0, c1, y0, y1, m, rfl, rfl, rfl, hy0, hy1⟩ := open_agg2 hs hone hC hv h
  obtain ⟨g, e0, rfl, wg⟩ := DataW.trod_int g0 hy0
  simp at e0; subst e0
  obtain ⟨ad, len, cap, e1⟩ := slice_form g1 hy1
  simp at e1; subst e1
  obtain ⟨hm, zs, hl, hz⟩ := taps_open (ad := ad) (len := len) (cap := cap) g1 he hone2 hC2 h0 h1 h2 ⟨_, by simpa [Value.cells] using hy1⟩
  exact ⟨g, ad, len, cap, zs, rfl, in64 wg, (by unfold maxLen at hm; omega), hl, hz⟩
/-- Taps of a call's own. -/
def OwnT (w : World) (B : Nat) (ad : Option Addr) (zs : List Int) : Prop := (zs.length ≤ 1099511627776 ∧ ∀ z ∈ zs, In64 z) ∧ ((ad = none ∧ zs = []) ∨ ∃ g, ad = some ⟨g, 0, none⟩ ∧ B ≤ g ∧ RowAt w g 0 zs)
theorem OwnT.ints {w : World} {B : Nat} {ad : Option Addr} {zs : List Int} (h : OwnT w B ad zs) : Ints w ad zs := by
  refine ⟨Nat.le_trans h.1.1 (by omega), h.1.2, ?_⟩
  rcases h.2 with ⟨_, e⟩ | ⟨g, e, _, r⟩
  · exact .inl e
  · exact .inr ⟨g, 0, e, r.lt, fun i hi => r.cell i hi⟩
theorem OwnT.nil (w : World) (B : Nat) : OwnT w B none [] := ⟨⟨by simp, by simp⟩, .inl ⟨rfl, rfl⟩⟩
theorem OwnT.wrote {w w' : World} {B : Nat} {ad : Option Addr} {zs : List Int} {F : Nat → Prop} (h : OwnT w B ad zs) (m : Wrote w w' F) (sep : ∀ k, ad = some ⟨k, 0, none⟩ → ¬ F k) : OwnT w' B ad zs := by
  refine ⟨h.1, ?_⟩
  rcases h.2 with e | ⟨g, e, h1, r⟩
  · exact .inl e
  · exact .inr ⟨g, e, h1, r.same (m.block g r.lt (sep g e))⟩
theorem OwnT.keep {w w' : World} {B : Nat} {ad : Option Addr} {zs : List Int} (h : OwnT w B ad zs) (k : Keep w w') : OwnT w' B ad zs := h.wrote (F := fun _ => False) (Wrote.of_keep k) (fun _ _ h => h)
theorem OwnT.mono {w : World} {B B' : Nat} {ad : Option Addr} {zs : List Int} (h : OwnT w B ad zs) (k : B' ≤ B) : OwnT w B' ad zs := by
  refine ⟨h.1, ?_⟩
  rcases h.2 with e | ⟨g, e, h1, r⟩
  · exact .inl e
  · exact .inr ⟨g, e, by omega, r⟩
structure MineT (w : World) (lo hi : Nat) (ad : Option Addr) (zs : List Int) : Prop where
  own : OwnT w lo ad zs
  below : ∀ k, ad = some ⟨k, 0, none⟩ → k < hi
theorem MineT.new {W w' : World} {lo : Nat} {ad : Option Addr} {zs : List Int} (hq : lo ≤ W.heap.size) (o : OwnT w' W.heap.size ad zs) : MineT w' lo w'.heap.size ad zs := by
  refine ⟨o.mono hq, fun k hk => ?_⟩
  rcases o.2 with ⟨e, _⟩ | ⟨g, e, _, r⟩
  · rw [e] at hk; cases hk
  · rw [e] at hk; cases hk; exact r.lt
theorem MineT.keep {w w' : World} {lo hi : Nat} {ad : Option Addr} {zs : List Int} (h : MineT w lo hi ad zs) (k : Keep w w') : MineT w' lo hi ad zs := ⟨h.own.keep k, h.below⟩
theorem MineT.ints {w : World} {lo hi : Nat} {ad : Option Addr} {zs : List Int} (h : MineT w lo hi ad zs) : Ints w ad zs := h.own.ints
theorem MineT.span {w w' : World} {lo hi lo2 hi2 : Nat} {ad : Option Addr} {zs : List Int} (h : MineT w lo hi ad zs) (s : Span w w' lo2 hi2) (sep : hi ≤ lo2 ∨ hi2 ≤ lo) : MineT w' lo hi ad zs :=
  ⟨h.own.wrote (F := fun j => lo2 ≤ j ∧ j < hi2) ⟨s.os, s.tape, s.output, s.size, fun j hj hn => s.block j hj (by omega)⟩ (fun k hk hc => by
    have h1 := h.below k hk
    rcases h.own.2 with ⟨e, _⟩ | ⟨g, e, h2, r⟩
    · rw [e] at hk; cases hk
    · rw [e] at hk; cases hk; omega), h.below⟩
theorem szKernel_any (g : Int) (ad : Option Addr) (cap n : Nat) (left : Int) (w : World) (h1 : 0 ≤ left) (h2 : left ≤ 1048576) (hn : n ≤ 9223372036854775807) :
    Calls Try.prog 34 #[.agg #[.int .i64 g, .slice ad n cap], .int .i64 left] w fun e w' => e = .returned (.int .i64 (if left < n then -1 else left - n)) ∧ Keep w w' := by
  have hS : Hid (∀ W, Calls Try.prog 77 #[.slice ad n cap, .int .i64 left] W fun e w' => e = .returned (.int .i64 (if left < n then -1 else left - n)) ∧ W = w') := Lib.hid (fun W => by
    by_cases h : left < n
    · rw [if_pos h]
      go_enter Try.func77, Try.ntmps77
      go_wp2
      go_ret
      exact ⟨rfl, rfl⟩
    · rw [if_neg h]
      have hnn : ¬ (left - (n : Int) < 0) := by omega
      go_enter Try.func77, Try.ntmps77
      go_wp2
      go_ret
      exact ⟨rfl, rfl⟩)
  by_cases h : left < n
  · rw [if_pos h] at hS ⊢
    go_enter Try.func34, Try.ntmps34
    go_wp2_with fail
    refine (hS.out _).mono ?_
    rintro e w' ⟨rfl, rfl⟩
    go_wp2
    go_ret
    exact ⟨rfl, by go_grown⟩
  · rw [if_neg h] at hS ⊢
    have hnn : ¬ (left - (n : Int) < 0) := by omega
    go_enter Try.func34, Try.ntmps34
    go_wp2_with fail
    refine (hS.out _).mono ?_
    rintro e w' ⟨rfl, rfl⟩
    go_wp2
    go_ret
    exact ⟨rfl, by go_grown⟩
theorem toTap_any (a b c : Int) (w : World) :
    Calls Try.prog 107 #[.agg #[.int .i64 a, .int .i64 b, .int .i64 c]] w fun e w' => e = .returned (.agg #[.int .i64 a, .int .i64 b, .int .i64 c]) ∧ Keep w w' := by
  go_enter Try.func107, Try.ntmps107
  go_wp2
  refine bodyPost_ret (v := .agg #[.int .i64 a, .int .i64 b, .int .i64 c]) (by simp [results, Try.results107, go_sem]) rfl ?_
  exact ⟨rfl, by go_grown⟩
theorem Try.infoT3 : (Try.prog.info? 97).map (fun i => (i.zero, i.size, i.bytes)) = some (some (.agg #[.int .i64 0, .int .i64 0, .int .i64 0]), 3, 24) := by kernel_rfl
theorem take3_step (zs : List Int) (n k : Nat) (hl : zs.length = 3 * n) (hk : k < n) : (((zs.take (k * 3) ++ List.replicate (3 * n - k * 3) 0).set (k * 3) (zs.getD (k * 3) 0)).set (k * 3 + 1) (zs.getD (k * 3 + 1) 0)).set (k * 3 + 2) (zs.getD (k * 3 + 2) 0) = zs.take ((k + 1) * 3) ++ List.replicate (3 * n - (k + 1) * 3) 0 := by
  apply List.ext_getElem
  · simp; omega
  · intro i h1 h2
    simp only [List.getElem_set]
    by_cases c2 : k * 3 + 2 = i
    · rw [if_pos c2, List.getElem_append_left (by simp; omega), List.getElem_take]; subst c2; rw [getD_get]
    · rw [if_neg c2]
      by_cases c1 : k * 3 + 1 = i
      · rw [if_pos c1, List.getElem_append_left (by simp; omega), List.getElem_take]; subst c1; rw [getD_get]
      · rw [if_neg c1]
        by_cases c0 : k * 3 = i
        · rw [if_pos c0, List.getElem_append_left (by simp; omega), List.getElem_take]; subst c0; rw [getD_get]
        · rw [if_neg c0]
          by_cases d : i < k * 3
          · rw [List.getElem_append_left (by simp; omega), List.getElem_append_left (by simp; omega), List.getElem_take, List.getElem_take]
          · rw [List.getElem_append_right (by simp; omega), List.getElem_append_right (by simp; omega)]; simp
set_option maxHeartbeats 1600000 in
set_option maxRecDepth 100000 in
theorem toTapS_any (ad : Option Addr) (cap n : Nat) (zs : List Int) (w : World) (hz : Ints w ad zs) (hl : zs.length = 3 * n) (hs : n ≤ 1048576) :
    Calls Try.prog 79 #[.slice ad n cap] w fun e w' => ∃ b, e = .returned (.slice (some ⟨b, 0, none⟩) n n) ∧ OwnT w' w.heap.size (some ⟨b, 0, none⟩) zs ∧ Keep w w' := by
  obtain ⟨i0, hi, hz0, hz1, hz2⟩ := info_parts Try.infoT3
  have hb8 : i0.bytes * n ≤ 281474976710656 := by rw [hz2]; omega
  have hml : n ≤ maxLen := by unfold maxLen; omega
  go_enter Try.func79, Try.ntmps79
  go_wp2_with (at_make; refine wpList_make_full w rfl _ _ 49 rfl w.heap.size 97 i0 (.agg #[.int .i64 0, .int .i64 0, .int .i64 0]) 3 Try.underlying49 hi hz0 hz1 .i64 .i64 _ _ n rfl rfl rfl rfl hb8 hml (Nat.le_refl _) ?_)
  intro w0 hown0 hgrow0
  have hk0 : Keep w w0 := (Below.refl _ _).grown hgrow0 (Nat.le_refl _) (fun k h => by cases h)
  clear hgrow0
  obtain ⟨B, hB⟩ : ∃ B, B = w.heap.size := ⟨_, rfl⟩
  rw [← hB] at hown0 ⊢
  have HR0 : Hid (RowAt w0 B 0 (List.replicate (3 * n) 0)) := Lib.hid (by
    rcases hown0.2 with ⟨e, _⟩ | ⟨g', q, cur, e, _, h3, _, _, h6, h7⟩
    · cases e
    · simp at e
      obtain ⟨rfl, rfl⟩ := e
      refine ⟨cur, _, h3, by simp; omega, fun i hi => ?_⟩
      simp only [List.length_replicate] at hi
      have e2 : (cur.toList.take (n * 3))[i]? = some (.int .i64 0) := by
        rw [h7]
        have hm3 : i % 3 = 0 ∨ i % 3 = 1 ∨ i % 3 = 2 := by omega
        have hi3 : i < n * 3 := by omega
        simp only [madeCells, List.getElem?_map, Array.toList_map, Array.toList_range]
        rw [List.getElem?_range hi3]
        rcases hm3 with e | e | e <;> simp [e]
      rw [List.getElem?_take, if_pos (by omega)] at e2
      rw [Nat.zero_add]
      simp [List.getD_eq_getElem?_getD, hi]
      simpa using e2)
  have hBlt : B < w0.heap.size := HR0.out.lt
  have HK0 : Hid (Below B w w0) := Lib.hid (by rw [hB]; exact hk0)
  have HB := Lib.hid hB
  have hlen : zs.length ≤ 9223372036854775807 := hz.small
  clear hown0 hk0 hB
  go_wp2
  go_loopw [4] (fun i wr => ∃ k : Nat, k ≤ n ∧ i = .int .i64 k ∧ Hid (RowAt wr B 0 (zs.take (k * 3) ++ List.replicate (3 * n - k * 3) 0)) ∧ Hid (Below B w wr)) (fun i _ => n - (intOf i).toNat)
  case atStart => exact ⟨0, Nat.zero_le _, rfl, Lib.hid (by simpa using HR0.out), HK0⟩
  case round =>
    obtain ⟨k, hk, rfl, HR, HK⟩ := hrel
    by_cases hlt : k < n
    · rcases hz.at_ with h | ⟨b, off, rfl, hb, hc⟩
      · rw [h] at hl; simp at hl; omega
      have hb2 : b < B := by rw [HB.out]; exact hb
      have c0 := (HK.out.cell (p := ⟨b, off + k * 3, none⟩) (by exact hb2)).trans (hc (k * 3) (by omega))
      have c1 := (HK.out.cell (p := ⟨b, off + (k * 3 + 1), none⟩) (by exact hb2)).trans (hc (k * 3 + 1) (by omega))
      have c2 := (HK.out.cell (p := ⟨b, off + (k * 3 + 2), none⟩) (by exact hb2)).trans (hc (k * 3 + 2) (by omega))
      rw [← Nat.add_assoc] at c1 c2
      have HSTP := Lib.hid (take3_step zs n k hl hlt)
      have hll : (zs.take (k * 3) ++ List.replicate (3 * n - k * 3) (0 : Int)).length = 3 * n := by simp; omega
      clear hc
      generalize zs.getD (k * 3) 0 = z0 at *
      generalize zs.getD (k * 3 + 1) 0 = z1 at *
      generalize zs.getD (k * 3 + 2) 0 = z2 at *
      generalize (zs.take (k * 3) ++ List.replicate (3 * n - k * 3) (0 : Int)) = P at *
      go_wp2_with fail
      refine (toTap_any z0 z1 z2 _).mono ?_
      rintro e w1 ⟨rfl, k1⟩
      have R1 := HR.out.keep k1
      have d0 := R1.cell (k * 3) (by omega); have d1 := R1.cell (k * 3 + 1) (by omega); have d2 := R1.cell (k * 3 + 2) (by omega)
      rw [Nat.zero_add] at d0 d1 d2
      have f0 := R1.frozen (k * 3); have f1 := R1.frozen (k * 3 + 1); have f2 := R1.frozen (k * 3 + 2)
      have HS : Hid (RowAt (((w1.setCell ⟨B, k * 3, none⟩ (.int .i64 z0)).setCell ⟨B, k * 3 + 1, none⟩ (.int .i64 z1)).setCell ⟨B, k * 3 + 2, none⟩ (.int .i64 z2)) B 0 (zs.take ((k + 1) * 3) ++ List.replicate (3 * n - (k + 1) * 3) 0)) := Lib.hid (by
        have s0 := R1.set (k * 3) (by omega) z0
        have s1 := s0.set (k * 3 + 1) (by simp; omega) z1
        have s2 := s1.set (k * 3 + 2) (by simp; omega) z2
        rw [HSTP.out] at s2
        simpa using s2)
      have hBw : B < wr.heap.size := HR.out.lt
      have HK1 : Hid (Below B w w1) := Lib.hid (HK.out.trans (k1.mono (by omega)))
      clear R1 k1 hll
      generalize P.getD (k * 3) 0 = p0 at *
      generalize P.getD (k * 3 + 1) 0 = p1 at *
      generalize P.getD (k * 3 + 2) 0 = p2 at *
      go_wp2
      go_roundw
      case rel => exact ⟨k + 1, by omega, by go_num, HS, Lib.hid (((HK1.out.setCell (Nat.le_refl _) _).setCell (Nat.le_refl _) _).setCell (Nat.le_refl _) _)⟩
      case measure => simp [intOf]; omega
    · have HE := Lib.hid (show k = n by omega)
      go_wp2
      go_ret
      have hBB := HB.out
      refine ⟨B, rfl, ⟨⟨by omega, hz.wf⟩, .inr ⟨B, rfl, by omega, ?_⟩⟩, by have h := HK.out; rw [hBB] at h; exact h⟩
      have h := HR.out
      rw [HE.out, List.take_of_length_le (by omega), show 3 * n - n * 3 = 0 from by omega, List.replicate_zero, List.append_nil] at h
      exact h
theorem toKernel_any (g : Int) (ad : Option Addr) (cap n : Nat) (zs : List Int) (w : World) (hz : Ints w ad zs) (hl : zs.length = 3 * n) (hs : n ≤ 1048576) :
    Calls Try.prog 36 #[valV g ad n cap] w fun e w' => ∃ b, e = .returned (valV g (some ⟨b, 0, none⟩) n n) ∧ OwnT w' w.heap.size (some ⟨b, 0, none⟩) zs ∧ Keep w w' := by
  go_enter Try.func36, Try.ntmps36
  go_wp2_with fail
  refine (toTapS_any ad cap n zs _ (hz.keep (B := w.heap.size) (by go_grown) (Nat.le_refl _)) hl hs).mono ?_
  rintro e w1 ⟨b, rfl, hown, hkeep⟩
  obtain ⟨hc, hf⟩ := bcell hkeep
  have hk1 : Below w.heap.size w w1 := (Below.trans (by go_grown) (hkeep.mono (by simp; omega)))
  have hbl : w.heap.size + 1 + 1 + 1 ≤ b := by
    rcases hown.2 with ⟨e, _⟩ | ⟨g, e, h, _⟩
    · cases e
    · cases e; simpa using h
  have hown := hown.mono (B' := w.heap.size) (by simp; omega)
  have HO := Lib.hid hown; clear hown
  have HK := Lib.hid hkeep; clear hkeep
  go_wp2
  refine bodyPost_ret (v := valV g (some ⟨b, 0, none⟩) n n) (by simp [results, Try.results36, go_sem, hc]) rfl ?_
  refine ⟨b, rfl, ?_, ((hk1.setCell (by simp; omega) _).setCell (by simp) _).setCell (by simp) _⟩
  refine HO.out.wrote (F := fun j => j < b) ⟨rfl, rfl, rfl, by simp, fun j hj hn => ?_⟩ (fun k hk hc => by cases hk; exact Nat.lt_irrefl _ hc)
  rw [heap_setCell_other _ _ _ _ (by simp; omega), heap_setCell_other _ _ _ _ (by simp; omega), heap_setCell_other _ _ _ _ (by simp; omega)]
theorem eqTap_same (a b c : Int) (w : World) :
    Calls Try.prog 108 #[.agg #[.int .i64 a, .int .i64 b, .int .i64 c], .agg #[.int .i64 a, .int .i64 b, .int .i64 c]] w fun e w' => e = .returned (.bool true) ∧ Keep w w' := by
  have h1 : (a != a) = false := by simp
  have h2 : (b != b) = false := by simp
  have h3 : (c != c) = false := by simp
  go_enter Try.func108, Try.ntmps108
  go_wp2
  go_ret
  exact ⟨rfl, by go_grown⟩
set_option maxHeartbeats 1600000 in
theorem eqTapS_same (ad bd : Option Addr) (ca cb n : Nat) (zs : List Int) (w : World) (ha : Ints w ad zs) (hb : Ints w bd zs) (hl : zs.length = 3 * n) :
    Calls Try.prog 81 #[.slice ad n ca, .slice bd n cb] w fun e w' => e = .returned (.bool true) ∧ Keep w w' := by
  have hla := ha.small
  have hn : n ≤ 9223372036854775807 := by omega
  have hl2 : ((n : Int) != (n : Int)) = false := by simp
  have HLN := Lib.hid hl
  clear hla
  go_enter Try.func81, Try.ntmps81
  go_wp2
  go_loopw [5] (fun i wr => ∃ k : Nat, k ≤ n ∧ i = .int .i64 k ∧ Hid (Keep w wr)) (fun i _ => n - (intOf i).toNat)
  case atStart => exact ⟨0, Nat.zero_le _, rfl, Lib.hid (Below.refl _ _)⟩
  case round =>
    obtain ⟨k, hk, rfl, HK⟩ := hrel
    by_cases hlt : k < n
    · rcases ha.at_ with h | ⟨b, off, rfl, hb1, hc⟩
      · rw [h] at hl; simp at hl; omega
      rcases hb.at_ with h | ⟨b2, off2, rfl, hb2, hc2⟩
      · rw [h] at hl; simp at hl; omega
      have x0 := hc (k * 3) (by omega); have x1 := hc (k * 3 + 1) (by omega); have x2 := hc (k * 3 + 2) (by omega)
      have y0 := hc2 (k * 3) (by omega); have y1 := hc2 (k * 3 + 1) (by omega); have y2 := hc2 (k * 3 + 2) (by omega)
      rw [← Nat.add_assoc] at x1 x2 y1 y2
      generalize zs.getD (k * 3) 0 = z0 at *
      generalize zs.getD (k * 3 + 1) 0 = z1 at *
      generalize zs.getD (k * 3 + 2) 0 = z2 at *
      have HS : Hid (∀ w', Keep wr w' → ((w'.cell? ⟨b, off + k * 3, none⟩ = some (.int .i64 z0) ∧ w'.cell? ⟨b, off + k * 3 + 1, none⟩ = some (.int .i64 z1) ∧ w'.cell? ⟨b, off + k * 3 + 2, none⟩ = some (.int .i64 z2)) ∧ (w'.cell? ⟨b2, off2 + k * 3, none⟩ = some (.int .i64 z0) ∧ w'.cell? ⟨b2, off2 + k * 3 + 1, none⟩ = some (.int .i64 z1) ∧ w'.cell? ⟨b2, off2 + k * 3 + 2, none⟩ = some (.int .i64 z2))) ∧ Keep wr w') :=
        Lib.hid (fun w' kk => by
          have kq : Keep w w' := HK.out.next kk
          exact ⟨⟨⟨(kq.cell (p := ⟨b, off + k * 3, none⟩) (by exact hb1)).trans x0, (kq.cell (p := ⟨b, off + k * 3 + 1, none⟩) (by exact hb1)).trans x1, (kq.cell (p := ⟨b, off + k * 3 + 2, none⟩) (by exact hb1)).trans x2⟩, ⟨(kq.cell (p := ⟨b2, off2 + k * 3, none⟩) (by exact hb2)).trans y0, (kq.cell (p := ⟨b2, off2 + k * 3 + 1, none⟩) (by exact hb2)).trans y1, (kq.cell (p := ⟨b2, off2 + k * 3 + 2, none⟩) (by exact hb2)).trans y2⟩⟩, kk⟩)
      clear hc hc2 x0 x1 x2 y0 y1 y2 hl
      go_wp2
      go_region_held3 (fun w' => ((w'.cell? ⟨b, off + k * 3, none⟩ = some (.int .i64 z0) ∧ w'.cell? ⟨b, off + k * 3 + 1, none⟩ = some (.int .i64 z1) ∧ w'.cell? ⟨b, off + k * 3 + 2, none⟩ = some (.int .i64 z2)) ∧ (w'.cell? ⟨b2, off2 + k * 3, none⟩ = some (.int .i64 z0) ∧ w'.cell? ⟨b2, off2 + k * 3 + 1, none⟩ = some (.int .i64 z1) ∧ w'.cell? ⟨b2, off2 + k * 3 + 2, none⟩ = some (.int .i64 z2))) ∧ Keep wr w')
        (first | exact HS.out _ (Keep.next (by go_grown) k1) | exact HS.out _ k1 | exact HS.out _ (by go_grown))
        (first | (go_at_call 108; refine (eqTap_same z0 z1 z2 _).mono ?_; rintro e w1 ⟨rfl, k1⟩))
      go_wp2
      go_roundw
      case rel => exact ⟨k + 1, by omega, by go_num, Lib.hid (HK.out.next (by first | assumption | exact Keep.next (by go_grown) k1 | go_grown))⟩
      case measure => simp [intOf]; omega
    · go_wp2
      go_ret
      exact ⟨rfl, HK.out⟩
theorem eqKernel_same (g : Int) (ad bd : Option Addr) (ca cb n : Nat) (zs : List Int) (w : World) (ha : Ints w ad zs) (hb : Ints w bd zs) (hl : zs.length = 3 * n) :
    Calls Try.prog 38 #[valV g ad n ca, valV g bd n cb] w fun e w' => e = .returned (.bool true) ∧ Keep w w' := by
  have hne : (g != g) = false := by simp
  have hbl : Below w.heap.size w ((w.alloc (.cells #[.int .i64 g, .slice ad n ca] 51)).alloc (.cells #[.int .i64 g, .slice bd n cb] 51)) := by go_grown
  go_enter Try.func38, Try.ntmps38
  go_wp2_with fail
  refine (eqTapS_same ad bd ca cb n zs _ (ha.keep hbl (Nat.le_refl _)) (hb.keep hbl (Nat.le_refl _)) hl).mono ?_
  rintro e w1 ⟨rfl, hk⟩
  have hk1 : Below w.heap.size w w1 := (Below.trans hbl (hk.mono (by simp <;> omega)))
  go_wp2
  go_ret
  exact ⟨rfl, hk1⟩
theorem mark3_step (k : Int) (zs : List Int) (n j : Nat) (hl : zs.length = 3 * n) (h : j < n) : (((ups k (j * 3) ++ zs.drop (j * 3)).set (j * 3) (k + (j * 3 : Nat))).set (j * 3 + 1) (k + (j * 3 : Nat) + 1)).set (j * 3 + 2) (k + (j * 3 : Nat) + 2) = ups k ((j + 1) * 3) ++ zs.drop ((j + 1) * 3) := by
  have a := mark_step k zs (j * 3) (by omega)
  have b := mark_step k zs (j * 3 + 1) (by omega)
  have c := mark_step k zs (j * 3 + 2) (by omega)
  rw [a, show k + ((j * 3 : Nat) : Int) + 1 = k + ((j * 3 + 1 : Nat) : Int) from by omega, b, show k + ((j * 3 : Nat) : Int) + 2 = k + ((j * 3 + 2 : Nat) : Int) from by omega, c, show j * 3 + 2 + 1 = (j + 1) * 3 from by omega]
set_option maxHeartbeats 1600000 in
set_option maxRecDepth 100000 in
theorem markTapS_any (B : Nat) (ad : Option Addr) (cap n : Nat) (zs : List Int) (k : Int) (w : World) (h : OwnT w B ad zs) (hl : zs.length = 3 * n) (hk : -1099511627776 ≤ k) (hk2 : k ≤ 17592186044416) :
    Calls Try.prog 83 #[.slice ad n cap, .int .i64 k] w fun e w' =>
      e = .returned (.int .i64 (k + zs.length)) ∧ OwnT w' B ad (ups k zs.length) ∧ Wrote w w' (fun b => ad = some ⟨b, 0, none⟩) := by
  have hs := h.1.1
  rcases h.2 with ⟨rfl, rfl⟩ | ⟨g, rfl, hBg, hr⟩
  · have hn : n = 0 := by simp at hl; omega
    subst hn
    go_enter Try.func83, Try.ntmps83
    go_wp2
    go_loopw [1, 5] (fun kk i wr => i = .int .i64 0 ∧ kk = .int .i64 k ∧ w = wr) (fun _ i _ => 0)
    case atStart => exact ⟨rfl, rfl, rfl⟩
    case round =>
      obtain ⟨rfl, rfl, rfl⟩ := hrel
      go_wp2
      go_ret
      exact ⟨ret_i64 (by simp), by simpa [ups] using OwnT.nil _ _, Wrote.refl _ _⟩
  have HR0 := Lib.hid hr
  clear h hr
  go_enter Try.func83, Try.ntmps83
  go_wp2
  go_loopw [1, 5] (fun kk i wr => ∃ j : Nat, j ≤ n ∧ i = .int .i64 j ∧ kk = .int .i64 (k + (j * 3 : Nat)) ∧ Hid (RowAt wr g 0 (ups k (j * 3) ++ zs.drop (j * 3))) ∧ Hid (Cut w wr g 0 (3 * n)))
    (fun _ i _ => n - (intOf i).toNat)
  case atStart => exact ⟨0, Nat.zero_le _, rfl, by simp, Lib.hid (by simpa [ups] using HR0.out), Lib.hid (Cut.refl _ _ _ _)⟩
  case round =>
    obtain ⟨j, hj, rfl, rfl, HR, HC⟩ := hrel
    by_cases hlt : j < n
    · have hll : (ups k (j * 3) ++ zs.drop (j * 3)).length = 3 * n := by rw [List.length_append, ups_length, List.length_drop]; omega
      have R1 := HR.out
      have d0 := R1.cell (j * 3) (by omega); have d1 := R1.cell (j * 3 + 1) (by omega); have d2 := R1.cell (j * 3 + 2) (by omega)
      rw [Nat.zero_add] at d0 d1 d2
      have f0 := R1.frozen (j * 3); have f1 := R1.frozen (j * 3 + 1); have f2 := R1.frozen (j * 3 + 2)
      have HS : Hid (RowAt (((wr.setCell ⟨g, j * 3, none⟩ (.int .i64 (k + (j * 3 : Nat)))).setCell ⟨g, j * 3 + 1, none⟩ (.int .i64 (k + (j * 3 : Nat) + 1))).setCell ⟨g, j * 3 + 2, none⟩ (.int .i64 (k + (j * 3 : Nat) + 2))) g 0 (ups k ((j + 1) * 3) ++ zs.drop ((j + 1) * 3))) := Lib.hid (by
        have s0 := R1.set (j * 3) (by omega) (k + (j * 3 : Nat))
        have s1 := s0.set (j * 3 + 1) (by rw [List.length_set]; omega) (k + (j * 3 : Nat) + 1)
        have s2 := s1.set (j * 3 + 2) (by rw [List.length_set, List.length_set]; omega) (k + (j * 3 : Nat) + 2)
        rw [mark3_step k zs n j hl hlt] at s2
        simpa using s2)
      have HC1 : Hid (Cut w (((wr.setCell ⟨g, j * 3, none⟩ (.int .i64 (k + (j * 3 : Nat)))).setCell ⟨g, j * 3 + 1, none⟩ (.int .i64 (k + (j * 3 : Nat) + 1))).setCell ⟨g, j * 3 + 2, none⟩ (.int .i64 (k + (j * 3 : Nat) + 2))) g 0 (3 * n)) := Lib.hid (((HC.out.set (j * 3) (by omega) (by omega) _).set (j * 3 + 1) (by omega) (by omega) _).set (j * 3 + 2) (by omega) (by omega) _)
      have hkb : k + ((j * 3 : Nat) : Int) + 3 = k + (((j + 1) * 3 : Nat) : Int) := by omega
      have hkb2 : -1099511627776 ≤ k + ((j * 3 : Nat) : Int) ∧ k + ((j * 3 : Nat) : Int) ≤ 35184372088832 := by omega
      have HKB := Lib.hid hkb
      clear R1 hll hkb
      generalize (ups k (j * 3) ++ zs.drop (j * 3)).getD (j * 3) 0 = p0 at *
      generalize (ups k (j * 3) ++ zs.drop (j * 3)).getD (j * 3 + 1) 0 = p1 at *
      generalize (ups k (j * 3) ++ zs.drop (j * 3)).getD (j * 3 + 2) 0 = p2 at *
      generalize k + ((j * 3 : Nat) : Int) = q at *
      have e2 : q + 1 + 1 = q + 2 := by omega
      have e3 : q + 2 + 1 = q + 3 := by omega
      go_wp2
      go_roundw
      case rel => exact ⟨j + 1, by omega, by go_num, by rw [HKB.out], HS, HC1⟩
      case measure => simp [intOf]; omega
    · have HJ := Lib.hid (show j = n from by omega)
      go_wp2
      go_ret
      have e := HJ.out
      subst e
      refine ⟨ret_i64 (by rw [hl]; omega), ⟨⟨by rw [ups_length]; exact hs, ups_in _ _ (by omega) (by omega)⟩, .inr ⟨g, rfl, hBg, ?_⟩⟩, Wrote.of_cut HC.out rfl⟩
      have h := HR.out
      rw [List.drop_of_length_le (by omega), List.append_nil] at h
      rw [hl, Nat.mul_comm 3 j]; exact h
theorem markKernel_any (lo hi : Nat) (g : Int) (ad : Option Addr) (cap n : Nat) (zs : List Int) (k : Int) (w : World) (h : MineT w lo hi ad zs) (hl : zs.length = 3 * n) (hk : -1099511627776 ≤ k) (hk2 : k ≤ 17592186044416) :
    Calls Try.prog 41 #[valV g ad n cap, .int .i64 k] w fun e w' =>
      e = .returned (.int .i64 (k + ((3 * n : Nat) : Int))) ∧ OwnT w' lo ad (ups k (3 * n)) ∧ Span w w' lo hi := by
  have HM := Lib.hid (fun W (hh : OwnT W lo ad zs) => markTapS_any lo ad cap n zs k W hh hl hk hk2)
  rw [hl] at HM
  generalize k + ((3 * n : Nat) : Int) = q at *
  go_enter Try.func41, Try.ntmps41
  go_wp2_with fail
  refine (HM.out _ (h.keep (by go_grown)).own).mono ?_
  rintro e w1 ⟨rfl, ho, hsp⟩
  clear hl
  go_wp2
  go_ret
  refine ⟨rfl, ho, (Span.of_keep (w := w) (by go_grown)).trans (hsp.span (fun j hj => ⟨?_, h.below j hj⟩))⟩
  rcases h.own.2 with ⟨e, _⟩ | ⟨q, e, h2, _⟩
  · rw [e] at hj; cases hj
  · rw [e] at hj; cases hj; exact h2
theorem MineT.marked {w w' : World} {lo hi : Nat} {ad : Option Addr} {zs : List Int} {k : Int} {m : Nat} (h : MineT w lo hi ad zs) (o : OwnT w' lo ad (ups k m)) : MineT w' lo hi ad (ups k m) := ⟨o, h.below⟩
set_option maxHeartbeats 1600000 in
theorem heldTapS_any (ad : Option Addr) (cap n : Nat) (k : Int) (w : World) (h : Ints w ad (ups k (3 * n))) (hk : 0 ≤ k) (hk2 : k ≤ 17592186044416) (hn : n ≤ 1048576) :
    Calls Try.prog 84 #[.slice ad n cap, .int .i64 k] w fun e w' => e = .returned (.int .i64 (k + (3 * n : Nat))) ∧ Keep w w' := by
  go_enter Try.func84, Try.ntmps84
  go_wp2
  go_loopw [1, 5] (fun kk i wr => ∃ j : Nat, j ≤ n ∧ i = .int .i64 j ∧ kk = .int .i64 (k + (j * 3 : Nat)) ∧ Hid (Keep w wr)) (fun _ i _ => n - (intOf i).toNat)
  case atStart => exact ⟨0, Nat.zero_le _, rfl, by simp, Lib.hid (Below.refl _ _)⟩
  case round =>
    obtain ⟨j, hj, rfl, rfl, HK⟩ := hrel
    by_cases hlt : j < n
    · rcases h.at_ with h | ⟨b, off, rfl, hb1, hc⟩
      · have := congrArg List.length h; rw [ups_length] at this; simp at this; omega
      have c0 := (HK.out.cell (p := ⟨b, off + j * 3, none⟩) (by exact hb1)).trans (hc (j * 3) (by rw [ups_length]; omega))
      have c1 := (HK.out.cell (p := ⟨b, off + (j * 3 + 1), none⟩) (by exact hb1)).trans (hc (j * 3 + 1) (by rw [ups_length]; omega))
      have c2 := (HK.out.cell (p := ⟨b, off + (j * 3 + 2), none⟩) (by exact hb1)).trans (hc (j * 3 + 2) (by rw [ups_length]; omega))
      rw [ups_get k _ _ (by omega)] at c0 c1 c2
      rw [← Nat.add_assoc] at c1 c2
      rw [show k + ((j * 3 + 1 : Nat) : Int) = k + ((j * 3 : Nat) : Int) + 1 from by omega] at c1
      rw [show k + ((j * 3 + 2 : Nat) : Int) = k + ((j * 3 : Nat) : Int) + 2 from by omega] at c2
      have HKB : Hid (k + ((j * 3 : Nat) : Int) + 3 = k + (((j + 1) * 3 : Nat) : Int)) := Lib.hid (by omega)
      have hkb2 : 0 ≤ k + ((j * 3 : Nat) : Int) ∧ k + ((j * 3 : Nat) : Int) ≤ 35184372088832 := by omega
      clear hc
      generalize k + ((j * 3 : Nat) : Int) = q at *
      have e2 : q + 1 + 1 = q + 2 := by omega
      have e3 : q + 2 + 1 = q + 3 := by omega
      have n1 : (q != q) = false := by simp
      have n2 : (q + 1 != q + 1) = false := by simp
      have n3 : (q + 2 != q + 2) = false := by simp
      go_wp2
      go_roundw
      case rel => exact ⟨j + 1, by omega, by go_num, by rw [HKB.out], HK⟩
      case measure => simp [intOf]; omega
    · have HJ := Lib.hid (show j = n from by omega)
      go_wp2
      go_ret
      exact ⟨ret_i64 (by rw [HJ.out, Nat.mul_comm]), HK.out⟩
theorem heldKernel_any (g : Int) (ad : Option Addr) (cap n : Nat) (k : Int) (w : World) (h : Ints w ad (ups k (3 * n))) (hk : 0 ≤ k) (hk2 : k ≤ 17592186044416) (hn : n ≤ 1048576) :
    Calls Try.prog 42 #[valV g ad n cap, .int .i64 k] w fun e w' => e = .returned (.int .i64 (k + (3 * n : Nat))) ∧ Keep w w' := by
  have hnn : ¬ (k + ((3 * n : Nat) : Int) < 0) := by omega
  have hbl : Below w.heap.size w (w.alloc (.cells #[.int .i64 g, .slice ad n cap] 51)) := by go_grown
  have HT := Lib.hid (heldTapS_any ad cap n k _ (h.keep hbl (Nat.le_refl _)) hk hk2 hn)
  generalize k + ((3 * n : Nat) : Int) = q at *
  go_enter Try.func42, Try.ntmps42
  go_wp2_with fail
  refine HT.out.mono ?_
  rintro e w1 ⟨rfl, hk⟩
  have hk1 : Below w.heap.size w w1 := (Below.trans hbl (hk.mono (by simp <;> omega)))
  go_wp2
  go_ret
  exact ⟨rfl, hk1⟩
end Go.Proofs.Ytjoanfgchapbaaa
