/- Rows of a call's own as an answer: the slice and each row in a block of its own, in any order; kept, marked, held; one more row appended. -/
import Derived.Test.YtpdcmhnaedhkdaaMarks
namespace Go.Proofs.Ytpdcmhnaedhkdaa
open Go.ChangeShapes Go.WideShapes Go.ChangeAt Go.RowKit Go.Deep
set_option linter.unusedVariables false
/-- Blocks outside of F are as they were (new ones may have come). -/
structure Wrote (w w' : World) (F : Nat → Prop) : Prop where
  os : w'.os = w.os
  tape : w'.tape = w.tape
  output : w'.output = w.output
  size : w.heap.size ≤ w'.heap.size
  block : ∀ j, j < w.heap.size → ¬ F j → w'.heap[j]? = w.heap[j]?
theorem Wrote.refl (w : World) (F : Nat → Prop) : Wrote w w F := ⟨rfl, rfl, rfl, Nat.le_refl _, fun _ _ _ => rfl⟩
theorem Wrote.trans {a b c : World} {F : Nat → Prop} (h : Wrote a b F) (k : Wrote b c F) : Wrote a c F :=
  ⟨k.os.trans h.os, k.tape.trans h.tape, k.output.trans h.output, Nat.le_trans h.size k.size, fun j hj hr => (k.block j (Nat.lt_of_lt_of_le hj h.size) hr).trans (h.block j hj hr)⟩
theorem Wrote.wider {a b : World} {F F' : Nat → Prop} (h : Wrote a b F) (k : ∀ j, F j → F' j) : Wrote a b F' := ⟨h.os, h.tape, h.output, h.size, fun j hj hr => h.block j hj (fun e => hr (k j e))⟩
theorem Wrote.of_grown {w w' : World} {row : Option Nat} {F : Nat → Prop} (h : w.grownBy w' row) (hr : ∀ g, row = some g → F g) : Wrote w w' F :=
  ⟨h.os, h.tape, h.output, h.size, fun j hj hj2 => h.block j hj (fun e => hj2 (hr j e.symm))⟩
theorem Wrote.of_keep {w w' : World} {F : Nat → Prop} (k : Keep w w') : Wrote w w' F := ⟨k.os, k.tape, k.output, k.size, fun j hj _ => k.block j hj⟩
theorem Wrote.span {w w' : World} {F : Nat → Prop} {lo hi : Nat} (h : Wrote w w' F) (k : ∀ j, F j → lo ≤ j ∧ j < hi) : Span w w' lo hi :=
  ⟨h.os, h.tape, h.output, h.size, fun j hj hr => h.block j hj (fun e => by have := k j e; omega)⟩
theorem row_same {w w' : World} {B e n cap : Nat} {ad : Option Addr} {xs : List Value} (o : w.ownsRow B e 1 (.slice ad n cap) n xs) (hs : ∀ g, ad = some ⟨g, 0, none⟩ → g < w.heap.size → w'.heap[g]? = w.heap[g]?) : w'.ownsRow B e 1 (.slice ad n cap) n xs := by
  have hb := own_block o
  rcases o with ⟨o1, o2⟩
  refine ⟨o1, ?_⟩
  rcases o2 with o2 | ⟨g', c, cur, q1, q2, q3, q4⟩
  · exact .inl o2
  · refine .inr ⟨g', c, cur, q1, q2, ?_, q4⟩
    simp at q1
    rw [← q3]; exact hs g' q1.1 (lt_of_block q3)
theorem Own.wrote {w w' : World} {B cap : Nat} {ad : Option Addr} {zs : List Int} {F : Nat → Prop} (o : Own w B ad cap zs) (m : Wrote w w' F) (sep : ∀ k, ad = some ⟨k, 0, none⟩ → ¬ F k) : Own w' B ad cap zs :=
  ⟨row_same o.1 (fun g e hg => m.block g hg (sep g e)), o.2⟩
/-- The cells of a slice of slices. -/
def rowC (AD : Nat → Option Addr) (CP : Nat → Nat) (zss : List (List Int)) : List Value := (List.range zss.length).map fun j => .slice (AD j) (zss.getD j []).length (CP j)
theorem rowC_len (AD : Nat → Option Addr) (CP : Nat → Nat) (zss : List (List Int)) : (rowC AD CP zss).length = zss.length := by simp [rowC]
theorem rowC_get (AD : Nat → Option Addr) (CP : Nat → Nat) (zss : List (List Int)) (j : Nat) (h : j < zss.length) : (rowC AD CP zss)[j]? = some (.slice (AD j) (zss.getD j []).length (CP j)) := by simp [rowC, h]
theorem rowC_same (AD : Nat → Option Addr) (CP : Nat → Nat) (xss yss : List (List Int)) (hl : xss.length = yss.length) (h : ∀ j, j < yss.length → (xss.getD j []).length = (yss.getD j []).length) : rowC AD CP xss = rowC AD CP yss := by
  unfold rowC
  rw [hl]
  refine List.map_congr_left fun j hj => ?_
  rw [h j (List.mem_range.1 hj)]
/-- The blocks of a slice of slices. -/
def footR (ad : Option Addr) (AD : Nat → Option Addr) (n : Nat) (k : Nat) : Prop := ad = some ⟨k, 0, none⟩ ∨ ∃ j, j < n ∧ AD j = some ⟨k, 0, none⟩
/-- A slice of slices of the call's own; each block lies at lo or behind it, and all are apart. -/
structure OwnR (w : World) (lo : Nat) (ad : Option Addr) (cap : Nat) (AD : Nat → Option Addr) (CP : Nat → Nat) (zss : List (List Int)) : Prop where
  small : zss.length ≤ 1099511627776
  all : tot zss ≤ 1099511627776
  row : w.ownsRow lo 22 1 (.slice ad zss.length cap) zss.length (rowC AD CP zss)
  each : ∀ j, j < zss.length → Own w lo (AD j) (CP j) (zss.getD j [])
  apart : ∀ i j, i < zss.length → j < zss.length → i ≠ j → ∀ b, AD i = some ⟨b, 0, none⟩ → AD j = some ⟨b, 0, none⟩ → False
  off : ∀ j, j < zss.length → ∀ b, ad = some ⟨b, 0, none⟩ → AD j = some ⟨b, 0, none⟩ → False
theorem OwnR.lt {w : World} {lo cap : Nat} {ad : Option Addr} {AD : Nat → Option Addr} {CP : Nat → Nat} {zss : List (List Int)} (h : OwnR w lo ad cap AD CP zss) : ∀ k, footR ad AD zss.length k → lo ≤ k ∧ k < w.heap.size := by
  intro k hk
  rcases hk with hk | ⟨j, hj, hk⟩
  · rcases own_block h.row with ⟨e, _⟩ | ⟨g, e, h1, h2, _⟩
    · rw [e] at hk; cases hk
    · rw [e] at hk; simp at hk; omega
  · rcases own_block (h.each j hj).1 with ⟨e, _⟩ | ⟨g, e, h1, h2, _⟩
    · rw [e] at hk; cases hk
    · rw [e] at hk; simp at hk; omega
theorem OwnR.keep {w w' : World} {lo cap : Nat} {ad : Option Addr} {AD : Nat → Option Addr} {CP : Nat → Nat} {zss : List (List Int)} (h : OwnR w lo ad cap AD CP zss) (k : Keep w w') : OwnR w' lo ad cap AD CP zss :=
  ⟨h.small, h.all, ownsRow_keep h.row k, fun j hj => (h.each j hj).keep k, h.apart, h.off⟩
theorem OwnR.wrote {w w' : World} {lo cap : Nat} {ad : Option Addr} {AD : Nat → Option Addr} {CP : Nat → Nat} {zss : List (List Int)} {F : Nat → Prop} (h : OwnR w lo ad cap AD CP zss) (m : Wrote w w' F) (sep : ∀ k, footR ad AD zss.length k → ¬ F k) : OwnR w' lo ad cap AD CP zss :=
  ⟨h.small, h.all, row_same h.row (fun g e hg => m.block g hg (sep g (.inl e))), fun j hj => (h.each j hj).wrote m (fun k e => sep k (.inr ⟨j, hj, e⟩)), h.apart, h.off⟩
theorem OwnR.mono {w : World} {lo lo' cap : Nat} {ad : Option Addr} {AD : Nat → Option Addr} {CP : Nat → Nat} {zss : List (List Int)} (h : OwnR w lo ad cap AD CP zss) (k : lo' ≤ lo) : OwnR w lo' ad cap AD CP zss := by
  refine ⟨h.small, h.all, ⟨h.row.1, ?_⟩, fun j hj => (h.each j hj).mono k, h.apart, h.off⟩
  rcases h.row.2 with h1 | ⟨g, c, cur, h1, h2, h3⟩
  · exact .inl h1
  · exact .inr ⟨g, c, cur, h1, by omega, h3⟩
theorem OwnR.ints {w : World} {lo cap : Nat} {ad : Option Addr} {AD : Nat → Option Addr} {CP : Nat → Nat} {zss : List (List Int)} (h : OwnR w lo ad cap AD CP zss) : Intss w ad zss := by
  refine ⟨Nat.le_trans h.small (by omega), ?_⟩
  rcases own_block h.row with ⟨_, h2, _⟩ | ⟨g, rfl, h1, h2, _⟩
  · exact .inl (List.eq_nil_of_length_eq_zero h2)
  · refine .inr ⟨g, 0, rfl, h2, fun i hi => ⟨AD i, CP i, ?_, ?_, (h.each i hi).ints⟩⟩
    · rw [Nat.zero_add, h.row.cellAt i (by omega), rowC_get AD CP zss i hi]
    · rcases own_block (h.each i hi).1 with ⟨_, h3, _⟩ | ⟨_, _, _, _, h3⟩
      · omega
      · exact h3
theorem OwnR.nil (w : World) (lo : Nat) : OwnR w lo none 0 (fun _ => none) (fun _ => 0) [] :=
  ⟨by simp, by simp [tot], World.ownsRow_nil _ _ _ _, fun j hj => by simp at hj, fun i j hi => by simp at hi, fun j hj => by simp at hj⟩
/-- Out of rows that lie in a row of their own, one block behind the other (as the laws' copies do). -/
theorem OwnR.of_made {w : World} {lo B n : Nat} {G : Nat → Nat} {zss : List (List Int)} (hlo : lo ≤ B) (hn : n = zss.length) (hs : zss.length ≤ 1099511627776) (ht : tot zss ≤ 1099511627776) (hrow : w.ownsRow B 22 1 (.slice (some ⟨B, 0, none⟩) n n) n (rowsV G zss n))
    (hea : ∀ j, j < zss.length → Own w (B + 1) (some ⟨G j, 0, none⟩) (zss.getD j []).length (zss.getD j [])) (hri : ∀ i j, i < j → j < zss.length → G i < G j) : OwnR w lo (some ⟨B, 0, none⟩) n (fun j => some ⟨G j, 0, none⟩) (fun j => (zss.getD j []).length) zss := by
  subst hn
  refine ⟨hs, ht, ?_, fun j hj => (hea j hj).mono (by omega), fun i j hi hj hij b h1 h2 => ?_, fun j hj b h1 h2 => ?_⟩
  · have o := hrow
    refine ⟨o.1, ?_⟩
    rcases o.2 with h1 | ⟨g, c, cur, h1, h2, h3⟩
    · exact .inl h1
    · exact .inr ⟨g, c, cur, h1, by omega, h3⟩
  · simp at h1 h2
    rcases Nat.lt_or_gt_of_ne hij with h | h
    · have := hri i j h hj; omega
    · have := hri j i h hi; omega
  · simp at h1 h2
    rcases own_block (hea j hj).1 with ⟨e, _⟩ | ⟨g, e, h3, _⟩
    · cases e
    · simp at e <;> omega
/-- Such rows whose blocks lie from lo up to hi. -/
structure MineR (w : World) (lo hi : Nat) (ad : Option Addr) (cap : Nat) (AD : Nat → Option Addr) (CP : Nat → Nat) (zss : List (List Int)) : Prop where
  own : OwnR w lo ad cap AD CP zss
  below : ∀ k, footR ad AD zss.length k → k < hi
theorem MineR.new {W w' : World} {lo cap : Nat} {ad : Option Addr} {AD : Nat → Option Addr} {CP : Nat → Nat} {zss : List (List Int)} (hq : lo ≤ W.heap.size) (o : OwnR w' W.heap.size ad cap AD CP zss) : MineR w' lo w'.heap.size ad cap AD CP zss :=
  ⟨o.mono hq, fun k hk => (o.lt k hk).2⟩
theorem MineR.keep {w w' : World} {lo hi cap : Nat} {ad : Option Addr} {AD : Nat → Option Addr} {CP : Nat → Nat} {zss : List (List Int)} (h : MineR w lo hi ad cap AD CP zss) (k : Keep w w') : MineR w' lo hi ad cap AD CP zss := ⟨h.own.keep k, h.below⟩
theorem MineR.ints {w : World} {lo hi cap : Nat} {ad : Option Addr} {AD : Nat → Option Addr} {CP : Nat → Nat} {zss : List (List Int)} (h : MineR w lo hi ad cap AD CP zss) : Intss w ad zss := h.own.ints
theorem MineR.wrote {w w' : World} {lo hi cap : Nat} {ad : Option Addr} {AD : Nat → Option Addr} {CP : Nat → Nat} {zss : List (List Int)} {F : Nat → Prop} (h : MineR w lo hi ad cap AD CP zss) (m : Wrote w w' F) (sep : ∀ k, footR ad AD zss.length k → ¬ F k) : MineR w' lo hi ad cap AD CP zss :=
  ⟨h.own.wrote m sep, h.below⟩
theorem MineR.span {w w' : World} {lo hi lo2 hi2 cap : Nat} {ad : Option Addr} {AD : Nat → Option Addr} {CP : Nat → Nat} {zss : List (List Int)} (h : MineR w lo hi ad cap AD CP zss) (s : Span w w' lo2 hi2) (sep : hi ≤ lo2 ∨ hi2 ≤ lo) : MineR w' lo hi ad cap AD CP zss :=
  h.wrote (F := fun j => lo2 ≤ j ∧ j < hi2) ⟨s.os, s.tape, s.output, s.size, fun j hj hn => s.block j hj (by omega)⟩ (fun k hk hc => by
    have h1 := h.below k hk
    have h2 := (h.own.lt k hk).1
    omega)
theorem MineR.past {w w' : World} {lo hi lo2 hi2 cap : Nat} {ad : Option Addr} {AD : Nat → Option Addr} {CP : Nat → Nat} {zss : List (List Int)} {ad2 : Option Addr} {cap2 n2 : Nat} {zs2 : List Int} (h : MineR w lo hi ad cap AD CP zss) (g : Mine w' lo2 hi2 ad2 cap2 zs2) (m : w.grownBy w' (Value.slice ad2 n2 cap2).ownBlock)
    (sep : hi ≤ lo2 ∨ hi2 ≤ lo) : MineR w' lo hi ad cap AD CP zss :=
  h.span (Span.of_grown (lo := lo2) (hi := hi2) m (fun k hk => by
    rcases own_block g.own.1 with ⟨rfl, _⟩ | ⟨k2, rfl, h4, h5, _⟩
    · simp [Value.ownBlock] at hk
    · have h6 := g.below k2 rfl
      simp [Value.ownBlock] at hk; omega)) sep
theorem MineR.marked {w w' : World} {lo hi cap : Nat} {ad : Option Addr} {AD : Nat → Option Addr} {CP : Nat → Nat} {zss : List (List Int)} {k : Int} (h : MineR w lo hi ad cap AD CP zss) (o : OwnR w' lo ad cap AD CP (upsS k zss)) : MineR w' lo hi ad cap AD CP (upsS k zss) :=
  ⟨o, fun b hb => h.below b (by rw [← upsS_length zss k]; exact hb)⟩
theorem Mine.wrote {w w' : World} {lo hi cap : Nat} {ad : Option Addr} {zs : List Int} {F : Nat → Prop} (h : Mine w lo hi ad cap zs) (m : Wrote w w' F) (sep : ∀ k, ad = some ⟨k, 0, none⟩ → ¬ F k) : Mine w' lo hi ad cap zs := ⟨h.own.wrote m sep, h.below⟩
theorem footS {ad : Option Addr} {AD : Nat → Option Addr} {zss : List (List Int)} {k : Int} {b : Nat} (h : footR ad AD (upsS k zss).length b) : footR ad AD zss.length b := by rw [upsS_length] at h; exact h
theorem tot_upsS : ∀ (zss : List (List Int)) (k : Int), tot (upsS k zss) = tot zss := by
  intro zss
  induction zss with
  | nil => intro k; rfl
  | cons z t ih => intro k; simp [upsS, tot, ih, ups_length]
set_option maxHeartbeats 800000 in
theorem markInt64SR_any (lo cap : Nat) (ad : Option Addr) (AD : Nat → Option Addr) (CP : Nat → Nat) (zss : List (List Int)) (k : Int) (w : World) (h : OwnR w lo ad cap AD CP zss) (hk : -1099511627776 ≤ k) (hk2 : k ≤ 17592186044416) :
    Calls Try.prog 20 #[.slice ad zss.length cap, .int .i64 k] w fun e w' =>
      e = .returned (.int .i64 (k + tot zss)) ∧ OwnR w' lo ad cap AD CP (upsS k zss) ∧ Wrote w w' (footR ad AD zss.length) := by
  have hlen := h.small
  have hs := h.all
  have HROW := Lib.hid h.row
  have HEA := Lib.hid h.each
  have HAP := Lib.hid h.apart
  have HOF := Lib.hid h.off
  clear h
  go_enter Try.func20, Try.ntmps20
  go_wp2
  go_loopw [1, 5] (fun kk i wr => ∃ j : Nat, j ≤ zss.length ∧ i = .int .i64 j ∧ kk = .int .i64 (k + tot (zss.take j)) ∧ Hid (∀ i, i < j → Own wr lo (AD i) (CP i) (ups (k + tot (zss.take i)) (zss.getD i []).length)) ∧
      Hid (∀ i, j ≤ i → i < zss.length → Own wr lo (AD i) (CP i) (zss.getD i [])) ∧ Hid (Wrote w wr (fun b => ∃ j, j < zss.length ∧ AD j = some ⟨b, 0, none⟩)))
    (fun _ i _ => zss.length - (intOf i).toNat)
  case atStart => exact ⟨0, Nat.zero_le _, rfl, by simp [tot], Lib.hid (fun i hi => by omega), Lib.hid (fun i _ hi => HEA.out i hi), Lib.hid (Wrote.refl _ _)⟩
  case round =>
    obtain ⟨j, hj, rfl, rfl, HA, HB, HS⟩ := hrel
    by_cases hlt : j < zss.length
    · have hrow : wr.ownsRow lo 22 1 (.slice ad zss.length cap) zss.length (rowC AD CP zss) := row_same HROW.out (fun g e hg => HS.out.block g hg (fun ⟨i, hi, e2⟩ => HOF.out i hi g e e2))
      rcases own_block hrow with ⟨_, e0, _⟩ | ⟨B, rfl, hB1, hB2, _⟩
      · omega
      have hcx : wr.cell? ⟨B, j, none⟩ = some (.slice (AD j) (zss.getD j []).length (CP j)) := by rw [hrow.cellAt j (by omega), rowC_get AD CP zss j hlt]
      have hown := HB.out j (Nat.le_refl _) hlt
      have HT := Lib.hid (tot_take_succ zss j hlt)
      have t1 := tot_take_le zss (j + 1)
      have t2 := tot_take_le zss j
      have t3 := tot_take_succ zss j hlt
      have t4 : (zss.getD j []).length ≤ 1099511627776 := by omega
      have t5 : tot (zss.take j) ≤ 1099511627776 := by omega
      clear hrow t1 t2 t3
      generalize hln : zss.getD j [] = zj at hcx hown HT t4
      have HZJ := Lib.hid hln; clear hln
      generalize htj : tot (zss.take j) = tj at HT t5 ⊢
      have HTJ := Lib.hid htj; clear htj
      go_wp2_with fail
      refine (markInt64S_any lo _ _ zj _ wr hown (by omega) (by omega) t4).mono ?_
      rintro e w1 ⟨rfl, hown1, hgr, hsz⟩
      have hsp : Wrote wr w1 (fun b => ∃ j, j < zss.length ∧ AD j = some ⟨b, 0, none⟩) := Wrote.of_grown hgr (fun g hg => by
        refine ⟨j, hlt, ?_⟩
        rcases own_block hown.1 with ⟨e, _⟩ | ⟨q, e, h2, _⟩
        · rw [e] at hg; simp [Value.ownBlock] at hg
        · rw [e] at hg; simp [Value.ownBlock] at hg; rw [e, hg])
      have HOJ := Lib.hid hown; clear hown
      have HGR := Lib.hid hgr; clear hgr
      have HO1 := Lib.hid hown1; clear hown1
      have HSP := Lib.hid hsp; clear hsp
      have other : Hid (∀ i, i ≠ j → i < zss.length → ∀ zs, Own wr lo (AD i) (CP i) zs → Own w1 lo (AD i) (CP i) zs) := Lib.hid (fun i hij hi zs o =>
        o.apart HOJ.out HGR.out (fun b e1 e2 => HAP.out i j hi hlt hij b e1 e2))
      go_wp2
      go_roundw
      case rel =>
        refine ⟨j + 1, by omega, by go_num, ?_, Lib.hid (fun i hi => ?_), Lib.hid (fun i hi hin => other.out i (by omega) hin _ (HB.out i (by omega) hin)), Lib.hid (HS.out.trans HSP.out)⟩
        · rw [HT.out]; congr 1; omega
        · by_cases hij : i = j
          · subst hij
            rw [HZJ.out, HTJ.out]; exact HO1.out
          · exact other.out i hij (by omega) _ (HA.out i (by omega))
      case measure => simp [intOf]; omega
    · have HJ := Lib.hid (show j = zss.length from by omega)
      go_wp2
      go_ret
      have e := HJ.out
      refine ⟨ret_i64 (by rw [e, List.take_length]), ?_, HS.out.wider (fun b hb => .inr hb)⟩
      have hl2 := upsS_length zss k
      have hrs : rowC AD CP (upsS k zss) = rowC AD CP zss := rowC_same AD CP _ _ hl2 (fun i hi => by rw [upsS_get zss k i hi, ups_length])
      refine ⟨by rw [hl2]; exact hlen, by rw [tot_upsS]; exact hs, ?_, fun i hi => ?_, fun i i' h1 h2 => HAP.out i i' (by rw [← hl2]; exact h1) (by rw [← hl2]; exact h2), fun i h1 => HOF.out i (by rw [← hl2]; exact h1)⟩
      · rw [hl2, hrs]; exact row_same HROW.out (fun g e hg => HS.out.block g hg (fun ⟨i, hi, e2⟩ => HOF.out i hi g e e2))
      · have hi2 : i < zss.length := by rw [← hl2]; exact hi
        rw [upsS_get zss k i hi2]
        exact HA.out i (by omega)
theorem markInt64SR_ex (lo hi cap : Nat) (ad : Option Addr) (AD : Nat → Option Addr) (CP : Nat → Nat) (zss : List (List Int)) (k : Int) (w : World) (h : MineR w lo hi ad cap AD CP zss) (hk : -1099511627776 ≤ k) (hk2 : k ≤ 17592186044416) :
    Calls Try.prog 20 #[.slice ad zss.length cap, .int .i64 k] w fun e w' =>
      e = .returned (.int .i64 (k + tot zss)) ∧ OwnR w' lo ad cap AD CP (upsS k zss) ∧ Wrote w w' (footR ad AD zss.length) ∧ Span w w' lo hi :=
  (markInt64SR_any lo cap ad AD CP zss k w h.own hk hk2).mono fun _ _ ⟨h1, h2, h3⟩ => ⟨h1, h2, h3, h3.span (fun j hj => ⟨(h.own.lt j hj).1, h.below j hj⟩)⟩
set_option maxHeartbeats 800000 in
theorem heldInt64SS_any (ad : Option Addr) (cap : Nat) (k : Int) (zss : List (List Int)) (n : Nat) (w : World) (h : Intss w ad (upsS k zss)) (hn : n = zss.length) (hk : 0 ≤ k) (hk2 : k ≤ 17592186044416) (hs : tot zss ≤ 1099511627776) :
    Calls Try.prog 21 #[.slice ad n cap, .int .i64 k] w fun e w' => e = .returned (.int .i64 (k + tot zss)) ∧ Keep w w' := by
  subst hn
  have hlen := h.small
  rw [upsS_length] at hlen
  have HAT := Lib.hid h.at_
  clear h
  go_enter Try.func21, Try.ntmps21
  go_wp2
  go_loopw [1, 5] (fun kk i wr => ∃ j : Nat, j ≤ zss.length ∧ i = .int .i64 j ∧ kk = .int .i64 (k + tot (zss.take j)) ∧ Hid (Keep w wr)) (fun _ i _ => zss.length - (intOf i).toNat)
  case atStart => exact ⟨0, Nat.zero_le _, rfl, by simp [tot], Lib.hid (Below.refl _ _)⟩
  case round =>
    obtain ⟨j, hj, rfl, rfl, HK⟩ := hrel
    by_cases hlt : j < zss.length
    · rcases HAT.out with h0 | ⟨b, off, rfl, hb, hc⟩
      · have := congrArg List.length h0; rw [upsS_length] at this; simp only [List.length_nil] at this; omega
      obtain ⟨p, c, hc1, hpc, hin⟩ := hc j (by rw [upsS_length]; exact hlt)
      rw [upsS_get zss k j hlt, ups_length] at hc1
      rw [upsS_get zss k j hlt] at hin
      have hcx : wr.cell? ⟨b, off + j, none⟩ = some (.slice p (zss.getD j []).length c) := by rw [HK.out.cell (by exact hb)]; exact hc1
      have HIN := Lib.hid (hin.keep HK.out (Nat.le_refl _))
      clear hc hc1 hin hpc
      have HT := Lib.hid (tot_take_succ zss j hlt)
      have t1 := tot_take_le zss (j + 1)
      have t2 := tot_take_le zss j
      have t3 := tot_take_succ zss j hlt
      have t4 : (zss.getD j []).length ≤ 1099511627776 := by omega
      have t5 : tot (zss.take j) ≤ 1099511627776 := by omega
      clear t1 t2 t3
      generalize hln : (zss.getD j []).length = lj at hcx HIN HT t4
      clear hln
      generalize htj : tot (zss.take j) = tj at HT t5 HIN
      clear htj
      have hneg : ¬ (k + (tj : Int) + (lj : Int) < 0) := by omega
      go_wp2_with (go_at_call 13; refine (heldInt64S_any _ _ _ lj _ HIN.out (by omega) (by omega) t4).mono ?_; rintro e w1 ⟨rfl, hk1⟩)
      go_roundw
      case rel => exact ⟨j + 1, by omega, by go_num, by rw [HT.out]; congr 1; omega, Lib.hid (HK.out.next hk1)⟩
      case measure => simp [intOf]; omega
    · have HJ := Lib.hid (show j = zss.length from by omega)
      go_wp2
      go_ret
      exact ⟨ret_i64 (by rw [HJ.out, List.take_length]), HK.out⟩
/-- One row more at the end. -/
def adN (AD : Nat → Option Addr) (n : Nat) (p : Option Addr) : Nat → Option Addr := fun j => if j = n then p else AD j
def cpN (CP : Nat → Nat) (n c : Nat) : Nat → Nat := fun j => if j = n then c else CP j
theorem rowC_push (AD : Nat → Option Addr) (CP : Nat → Nat) (zss : List (List Int)) (p : Option Addr) (c : Nat) (z : List Int) : rowC (adN AD zss.length p) (cpN CP zss.length c) (zss ++ [z]) = rowC AD CP zss ++ [.slice p z.length c] := by
  unfold rowC
  rw [List.length_append, List.length_singleton, List.range_succ, List.map_append]
  congr 1
  · refine List.map_congr_left fun j hj => ?_
    have hjk := List.mem_range.1 hj
    unfold adN cpN
    rw [if_neg (by omega), if_neg (by omega)]
    simp [List.getD_eq_getElem?_getD, List.getElem?_append_left hjk]
  · unfold adN cpN
    simp [List.getD_eq_getElem?_getD]
theorem tot_append (xss yss : List (List Int)) : tot (xss ++ yss) = tot xss + tot yss := by
  induction xss with
  | nil => simp [tot]
  | cons a t ih => simp [tot, ih]; omega
theorem push_getD (zss : List (List Int)) (z : List Int) (j : Nat) (h : j < (zss ++ [z]).length) : (zss ++ [z]).getD j [] = if j = zss.length then z else zss.getD j [] := by
  by_cases e : j = zss.length
  · subst e; simp [List.getD_eq_getElem?_getD]
  · rw [if_neg e]
    simp at h
    simp [List.getD_eq_getElem?_getD, List.getElem?_append_left (show j < zss.length by omega)]
/-- What an append of a row makes of the whole. -/
theorem OwnR.push {w w' : World} {lo cap cap' g : Nat} {ad p : Option Addr} {c : Nat} {AD : Nat → Option Addr} {CP : Nat → Nat} {zss : List (List Int)} {z : List Int} (h : OwnR w lo ad cap AD CP zss) (hz : Own w lo p c z) (hf : ∀ b, p = some ⟨b, 0, none⟩ → ¬ footR ad AD zss.length b)
    (hs : zss.length < 1099511627776) (ht : tot zss + z.length ≤ 1099511627776)
    (hrow : w'.ownsRow lo 22 1 (.slice (some ⟨g, 0, none⟩) (zss.length + 1) cap') (zss.length + 1) (rowC AD CP zss ++ [.slice p z.length c])) (hgr : w.grownBy w' (Value.slice ad zss.length cap).ownBlock) (hg : ad = some ⟨g, 0, none⟩ ∨ w.heap.size ≤ g) :
    OwnR w' lo (some ⟨g, 0, none⟩) cap' (adN AD zss.length p) (cpN CP zss.length c) (zss ++ [z]) := by
  have hW : Wrote w w' (fun b => ad = some ⟨b, 0, none⟩) := Wrote.of_grown hgr (fun b hb => by
    rcases own_block h.row with ⟨e, _⟩ | ⟨q, e, _⟩
    · rw [e] at hb; simp [Value.ownBlock] at hb
    · rw [e] at hb; simp [Value.ownBlock] at hb; rw [e, hb])
  have hpl : ∀ b, p = some ⟨b, 0, none⟩ → b < w.heap.size := fun b hb => by
    rcases own_block hz.1 with ⟨e, _⟩ | ⟨q, e, _, h2, _⟩
    · rw [e] at hb; cases hb
    · rw [e] at hb; simp at hb; omega
  refine ⟨by simp; omega, by rw [tot_append]; simp [tot]; omega, ?_, fun j hj => ?_, fun i j hi hj hij b h1 h2 => ?_, fun j hj b h1 h2 => ?_⟩
  · rw [rowC_push]; simpa using hrow
  · rw [push_getD zss z j hj]
    unfold adN cpN
    by_cases e : j = zss.length
    · rw [if_pos e, if_pos e, if_pos e]
      exact hz.wrote hW (fun b hb hb2 => hf b hb (.inl hb2))
    · rw [if_neg e, if_neg e, if_neg e]
      have hj2 : j < zss.length := by simp at hj; omega
      exact (h.each j hj2).wrote hW (fun b hb hb2 => h.off j hj2 b hb2 hb)
  · simp at hi hj
    unfold adN at h1 h2
    by_cases e : i = zss.length
    · rw [if_pos e] at h1
      rw [if_neg (by omega)] at h2
      exact hf b h1 (.inr ⟨j, by omega, h2⟩)
    · rw [if_neg e] at h1
      by_cases e2 : j = zss.length
      · rw [if_pos e2] at h2
        exact hf b h2 (.inr ⟨i, by omega, h1⟩)
      · rw [if_neg e2] at h2
        exact h.apart i j (by omega) (by omega) hij b h1 h2
  · simp at hj h1
    unfold adN at h2
    by_cases e : j = zss.length
    · rw [if_pos e] at h2
      rcases hg with hg | hg
      · exact hf b h2 (.inl (by rw [hg, h1]))
      · have := hpl b h2; omega
    · rw [if_neg e] at h2
      rcases hg with hg | hg
      · exact h.off j (by omega) b (by rw [hg, h1]) h2
      · have := (h.lt b (.inr ⟨j, by omega, h2⟩)).2; omega
/-- The same for the blocks: nothing but the old ones, the new row's and new blocks. -/
theorem footR_push {ad p : Option Addr} {AD : Nat → Option Addr} {n g b : Nat} (h : footR (some ⟨g, 0, none⟩) (adN AD n p) (n + 1) b) : b = g ∨ p = some ⟨b, 0, none⟩ ∨ footR ad AD n b := by
  rcases h with h | ⟨j, hj, h⟩
  · simp at h; exact .inl h.symm
  · unfold adN at h
    by_cases e : j = n
    · rw [if_pos e] at h; exact .inr (.inl h)
    · rw [if_neg e] at h; exact .inr (.inr (.inr ⟨j, by omega, h⟩))
/-- A row appended where the order is fixed. -/
theorem list_appR {ops : Array Oper} {rest : List Oper} {o : Oper} {a : Act} {w : World} {Q : Exit → Act → World → Prop} (hgd : o.guard = none) (s x : Operand)
    (ho : o.op = .call { callee := .builtin .append, args := #[s, x], argTypes := #[31, 31] })
    (lo : Nat) (ad : Option Addr) (cap n : Nat) (AD : Nat → Option Addr) (CP : Nat → Nat) (zss : List (List Int)) (p : Option Addr) (c m : Nat) (z : List Int) (hs : a.eval s = .slice ad n cap) (hown : OwnR w lo ad cap AD CP zss) (hn : n = zss.length) (nb : Nat) (hx : a.eval x = .slice (some ⟨nb, 0, none⟩) 1 1)
    (hc : w.cell? ⟨nb, 0, none⟩ = some (.slice p m c)) (hm : m = z.length) (hz : Own w lo p c z) (hf : ∀ b, p = some ⟨b, 0, none⟩ → ¬ footR ad AD zss.length b) (hl : zss.length < 1048576) (ht : tot zss + z.length ≤ 1099511627776) (hB : lo ≤ w.heap.size)
    (h : ∀ g cap' w', OwnR w' lo (some ⟨g, 0, none⟩) cap' (adN AD zss.length p) (cpN CP zss.length c) (zss ++ [z]) → w.grownBy w' (Value.slice ad n cap).ownBlock → (ad = some ⟨g, 0, none⟩ ∨ w.heap.size ≤ g) → g < w'.heap.size → wpList Try.prog ops Q rest (a.put o.dst (.slice (some ⟨g, 0, none⟩) (n + 1) cap')) w') :
    wpList Try.prog ops Q (o :: rest) a w := by
  obtain ⟨i0, hi, hz0, hz1, hz2⟩ := info_parts Try.infoIS
  subst hn hm
  refine wpList_append_lies w hgd s x 31 ho lo 22 i0 (.slice none 0 0) 1 24 Try.underlying31 hi hz0 hz1 hz2 rfl (by omega) (.slice ad zss.length cap) zss.length (rowC AD CP zss) hs hown.row ⟨nb, 0, none⟩ 1 1 [.slice p z.length c] hx rfl ?_ ?_ (by omega) (by unfold maxLen; omega) (by omega) hB _ rfl ?_
  · intro j u hj
    match j, hj with
    | 0, hj => simp at hj; subst hj; simpa [Addr.add] using hc
  · intro u hu; simp at hu; subst hu; rfl
  · intro g cap' w' h1 h2 h3 h4
    have hg : ad = some ⟨g, 0, none⟩ ∨ w.heap.size ≤ g := by
      rcases h3 with h3 | h3
      · left
        rcases own_block hown.row with ⟨rfl, _⟩ | ⟨k2, rfl, _⟩
        · simp [Value.ownBlock] at h3
        · simp [Value.ownBlock] at h3; subst h3; rfl
      · right; omega
    exact h g cap' w' (hown.push hz hf (by omega) ht (by simpa using h1) h2 hg) h2 hg h4
/-- The same at a step of a region that draws its order. -/
theorem step_appR {ops : Array Oper} {o : Oper} {a : Act} {w : World} {K : Act → World → Prop} {Q : Exit → Act → World → Prop} {E : Prop} (hgd : o.guard = none) (s x : Operand)
    (ho : o.op = .call { callee := .builtin .append, args := #[s, x], argTypes := #[31, 31] })
    (lo : Nat) (ad : Option Addr) (cap n : Nat) (AD : Nat → Option Addr) (CP : Nat → Nat) (zss : List (List Int)) (p : Option Addr) (c m : Nat) (z : List Int) (hs : a.eval s = .slice ad n cap) (hown : OwnR w lo ad cap AD CP zss) (hn : n = zss.length) (nb : Nat) (hx : a.eval x = .slice (some ⟨nb, 0, none⟩) 1 1)
    (hc : w.cell? ⟨nb, 0, none⟩ = some (.slice p m c)) (hm : m = z.length) (hz : Own w lo p c z) (hf : ∀ b, p = some ⟨b, 0, none⟩ → ¬ footR ad AD zss.length b) (hl : zss.length < 1048576) (ht : tot zss + z.length ≤ 1099511627776) (hB : lo ≤ w.heap.size)
    (h : ∀ g cap' w', OwnR w' lo (some ⟨g, 0, none⟩) cap' (adN AD zss.length p) (cpN CP zss.length c) (zss ++ [z]) → w.grownBy w' (Value.slice ad n cap).ownBlock → (ad = some ⟨g, 0, none⟩ ∨ w.heap.size ≤ g) → g < w'.heap.size → K (a.put o.dst (.slice (some ⟨g, 0, none⟩) (n + 1) cap')) w') :
    if Region.wanted o (yielded ops a.tmps) = true then Oper.wp Try.prog o a w K Q else E := by
  obtain ⟨i0, hi, hz0, hz1, hz2⟩ := info_parts Try.infoIS
  subst hn hm
  refine step_append_lies w hgd s x 31 ho lo 22 i0 (.slice none 0 0) 1 24 Try.underlying31 hi hz0 hz1 hz2 rfl (by omega) (.slice ad zss.length cap) zss.length (rowC AD CP zss) hs hown.row ⟨nb, 0, none⟩ 1 1 [.slice p z.length c] hx rfl ?_ ?_ (by omega) (by unfold maxLen; omega) (by omega) hB _ rfl ?_
  · intro j u hj
    match j, hj with
    | 0, hj => simp at hj; subst hj; simpa [Addr.add] using hc
  · intro u hu; simp at hu; subst hu; rfl
  · intro g cap' w' h1 h2 h3 h4
    have hg : ad = some ⟨g, 0, none⟩ ∨ w.heap.size ≤ g := by
      rcases h3 with h3 | h3
      · left
        rcases own_block hown.row with ⟨rfl, _⟩ | ⟨k2, rfl, _⟩
        · simp [Value.ownBlock] at h3
        · simp [Value.ownBlock] at h3; subst h3; rfl
      · right; omega
    exact h g cap' w' (hown.push hz hf (by omega) ht (by simpa using h1) h2 hg) h2 hg h4
/-- Old memory behind a write into rows of the call's own. -/
theorem below_wrote {w0 w w' : World} {B : Nat} {F : Nat → Prop} (h : Below B w0 w) (m : Wrote w w' F) (hB : B ≤ w.heap.size) (sep : ∀ k, F k → B ≤ k) : Below B w0 w' :=
  ⟨m.os.trans h.os, m.tape.trans h.tape, m.output.trans h.output, Nat.le_trans h.size m.size, fun j hj => (m.block j (by omega) (fun e => by have := sep j e; omega)).trans (h.block j hj)⟩
end Go.Proofs.Ytpdcmhnaedhkdaa
