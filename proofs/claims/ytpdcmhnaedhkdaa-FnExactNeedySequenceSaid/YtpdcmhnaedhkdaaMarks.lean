/- Slices of slices of the call's own, marked; what else stays as it was. -/
import Derived.Test.YtpdcmhnaedhkdaaLists
namespace Go.Proofs.Ytpdcmhnaedhkdaa
open Go.ChangeShapes Go.WideShapes Go.ChangeAt Go.RowKit Go.Deep
set_option linter.unusedVariables false

/-- Blocks below lo, and from hi on, are as they were (new ones may have come). -/
structure Span (w w' : World) (lo hi : Nat) : Prop where
  os : w'.os = w.os
  tape : w'.tape = w.tape
  output : w'.output = w.output
  size : w.heap.size ≤ w'.heap.size
  block : ∀ j, j < w.heap.size → (j < lo ∨ hi ≤ j) → w'.heap[j]? = w.heap[j]?
theorem Span.refl (w : World) (lo hi : Nat) : Span w w lo hi := ⟨rfl, rfl, rfl, Nat.le_refl _, fun _ _ _ => rfl⟩
theorem Span.trans {a b c : World} {lo hi : Nat} (h : Span a b lo hi) (k : Span b c lo hi) : Span a c lo hi :=
  ⟨k.os.trans h.os, k.tape.trans h.tape, k.output.trans h.output, Nat.le_trans h.size k.size, fun j hj hr => (k.block j (Nat.lt_of_lt_of_le hj h.size) hr).trans (h.block j hj hr)⟩
theorem Span.of_grown {w w' : World} {row : Option Nat} {lo hi : Nat} (h : w.grownBy w' row) (hr : ∀ g, row = some g → lo ≤ g ∧ g < hi) : Span w w' lo hi :=
  ⟨h.os, h.tape, h.output, h.size, fun j hj hj2 => h.block j hj (fun e => by have := hr j e.symm; omega)⟩
theorem Span.below {w w' : World} {lo hi : Nat} (h : Span w w' lo hi) (hs : lo ≤ w.heap.size) : Below lo w w' := ⟨h.os, h.tape, h.output, h.size, fun j hj => h.block j (by omega) (.inl hj)⟩
theorem Span.ints {w w' : World} {lo hi : Nat} {ad : Option Addr} {zs : List Int} (h : Span w w' lo hi) (hz : Ints w ad zs) (hs : ∀ b o s, ad = some ⟨b, o, s⟩ → b < lo ∨ hi ≤ b) : Ints w' ad zs := by
  refine ⟨hz.small, hz.wf, ?_⟩
  rcases hz.at_ with h1 | ⟨b, off, h1, h2, h3⟩
  · exact .inl h1
  · refine .inr ⟨b, off, h1, Nat.lt_of_lt_of_le h2 h.size, fun i hi => ?_⟩
    rw [World.cell?_of_block (w := w) (h.block b h2 (hs b off none h1))]; exact h3 i hi
theorem Span.own {w w' : World} {lo hi B : Nat} {ad : Option Addr} {cap : Nat} {zs : List Int} (h : Span w w' lo hi) (o : Own w B ad cap zs) (hs : ∀ b, ad = some ⟨b, 0, none⟩ → b < lo ∨ hi ≤ b) : Own w' B ad cap zs := by
  rcases own_block o.1 with ⟨rfl, h1, h2⟩ | ⟨g, rfl, h1, h2, h3⟩
  · have hz : zs = [] := List.eq_nil_of_length_eq_zero h1
    subst hz; subst h2
    exact ⟨World.ownsRow_nil _ _ _ _, o.2⟩
  · have e := h.block g h2 (hs g rfl)
    refine ⟨?_, o.2⟩
    rcases o.1 with ⟨o1, o2⟩
    refine ⟨o1, ?_⟩
    rcases o2 with o2 | ⟨g', c, cur, q1, q2, q3, q4⟩
    · exact .inl o2
    · refine .inr ⟨g', c, cur, q1, q2, ?_, q4⟩
      simp at q1
      have hg : g' = g := q1.1.symm
      subst hg
      rw [← q3]; exact e
/-- Rows marked one after the other. -/
def upsS : Int → List (List Int) → List (List Int)
  | _, [] => []
  | k, z :: t => ups k z.length :: upsS (k + z.length) t
theorem upsS_length : ∀ (zss : List (List Int)) (k : Int), (upsS k zss).length = zss.length := by
  intro zss
  induction zss with
  | nil => intro k; rfl
  | cons z t ih => intro k; simp [upsS, ih]
theorem upsS_get : ∀ (zss : List (List Int)) (k : Int) (i : Nat), i < zss.length → (upsS k zss).getD i [] = ups (k + tot (zss.take i)) (zss.getD i []).length := by
  intro zss
  induction zss with
  | nil => intro k i h; simp at h
  | cons z t ih =>
    intro k i h
    cases i with
    | zero => simp [upsS, tot]
    | succ i =>
      rw [upsS, List.getD_cons_succ, ih _ i (by simpa using h), List.take_succ_cons, tot, List.getD_cons_succ]
      congr 1; omega
theorem rowsV_same (G : Nat → Nat) (xss yss : List (List Int)) (n : Nat) (h : ∀ j, j < n → (xss.getD j []).length = (yss.getD j []).length) : rowsV G xss n = rowsV G yss n := by
  unfold rowsV
  refine List.map_congr_left fun j hj => ?_
  rw [h j (List.mem_range.1 hj)]
theorem Span.row {w w' : World} {lo hi B e n : Nat} {xs : List Value} (h : Span w w' lo hi) (o : w.ownsRow B e 1 (.slice (some ⟨B, 0, none⟩) n n) n xs) (hB : B < lo ∨ hi ≤ B) (hw : B < w.heap.size) : w'.ownsRow B e 1 (.slice (some ⟨B, 0, none⟩) n n) n xs := by
  have e := h.block B hw hB
  rcases o with ⟨o1, o2⟩
  refine ⟨o1, ?_⟩
  rcases o2 with o2 | ⟨g', c, cur, q1, q2, q3, q4⟩
  · exact .inl o2
  · refine .inr ⟨g', c, cur, q1, q2, ?_, q4⟩
    simp at q1
    have hg : g' = B := q1.1.symm
    subst hg
    rw [← q3]; exact e
set_option maxHeartbeats 800000 in
theorem markInt64SS_any (B hi : Nat) (G : Nat → Nat) (zss : List (List Int)) (k : Int) (w : World) (h : OwnSS w B G zss) (hG : ∀ j, j < zss.length → G j < hi) (hk : -1099511627776 ≤ k) (hk2 : k ≤ 17592186044416) (hs : tot zss ≤ 1099511627776) :
    Calls Try.prog 20 #[.slice (some ⟨B, 0, none⟩) zss.length zss.length, .int .i64 k] w fun e w' =>
      e = .returned (.int .i64 (k + tot zss)) ∧ OwnSS w' B G (upsS k zss) ∧ Span w w' (B + 1) hi ∧ w'.heap.size = w.heap.size := by
  have hlen := h.small
  have HROW := Lib.hid h.row
  have HEA := Lib.hid h.each
  have HLT := Lib.hid h.lt
  have HRI := Lib.hid h.rise
  have HG := Lib.hid hG
  clear h hG
  go_enter Try.func20, Try.ntmps20
  go_wp2
  go_loopw [1, 5] (fun kk i wr => ∃ j : Nat, j ≤ zss.length ∧ i = .int .i64 j ∧ kk = .int .i64 (k + tot (zss.take j)) ∧ Hid (∀ i, i < j → Own wr (B + 1) (some ⟨G i, 0, none⟩) (zss.getD i []).length (ups (k + tot (zss.take i)) (zss.getD i []).length)) ∧
      Hid (∀ i, j ≤ i → i < zss.length → Own wr (B + 1) (some ⟨G i, 0, none⟩) (zss.getD i []).length (zss.getD i [])) ∧ Hid (Span w wr (B + 1) hi) ∧ Hid (wr.heap.size = w.heap.size))
    (fun _ i _ => zss.length - (intOf i).toNat)
  case atStart => exact ⟨0, Nat.zero_le _, rfl, by simp [tot], Lib.hid (fun i hi => by omega), Lib.hid (fun i _ hi => HEA.out i hi), Lib.hid (Span.refl _ _ _), Lib.hid rfl⟩
  case round =>
    obtain ⟨j, hj, rfl, rfl, HA, HB, HS, HZ⟩ := hrel
    by_cases hlt : j < zss.length
    · have hrow := HS.out.row HROW.out (by omega) HLT.out
      have hcx : wr.cell? ⟨B, j, none⟩ = some (.slice (some ⟨G j, 0, none⟩) (zss.getD j []).length (zss.getD j []).length) := by rw [hrow.cellAt j (by omega), rowsV_get G zss _ j hlt]
      have hown := HB.out j (Nat.le_refl _) hlt
      have HT := Lib.hid (tot_take_succ zss j hlt)
      have t1 := tot_take_le zss (j + 1)
      have t2 := tot_take_le zss j
      have t3 := tot_take_succ zss j hlt
      have t4 : (zss.getD j []).length ≤ 1099511627776 := by omega
      have t5 : tot (zss.take j) ≤ 1099511627776 := by omega
      clear hrow t1 t2 t3
      generalize hln : zss.getD j [] = zj at hcx hown HT t4
      have HZJ := Lib.hid hln; clear hln
      generalize htj : tot (zss.take j) = tj at HT t5 ⊢
      have HTJ := Lib.hid htj; clear htj
      go_wp2_with fail
      refine (markInt64S_any (B + 1) _ _ zj _ wr hown (by omega) (by omega) t4).mono ?_
      rintro e w1 ⟨rfl, hown1, hgr, hsz⟩
      have hsp : Span wr w1 (B + 1) hi := Span.of_grown hgr (fun g hg => by
        simp [Value.ownBlock] at hg; subst hg
        have := HG.out j hlt
        rcases own_block hown.1 with ⟨h, _⟩ | ⟨q, h, h2, _⟩
        · cases h
        · simp at h; omega)
      have HN : Hid (∀ i, i ≠ j → i < zss.length → (Value.slice (some ⟨G i, 0, none⟩) 0 0).ownBlock ≠ (Value.slice (some ⟨G j, 0, none⟩) zj.length zj.length).ownBlock) := Lib.hid (fun i hij hi => by
        simp [Value.ownBlock]
        rcases Nat.lt_or_gt_of_ne hij with h | h
        · have := HRI.out i j h hlt; omega
        · have := HRI.out j i h hi; omega)
      have HGR := Lib.hid hgr; clear hgr
      have HO1 := Lib.hid hown1; clear hown1
      have HSP := Lib.hid hsp; clear hsp
      have HSZ := Lib.hid hsz; clear hsz
      have other : Hid (∀ i, i ≠ j → i < zss.length → ∀ cap zs, Own wr (B + 1) (some ⟨G i, 0, none⟩) cap zs → Own w1 (B + 1) (some ⟨G i, 0, none⟩) cap zs) := Lib.hid (fun i hij hi cap zs o =>
        ⟨o.1.kept HGR.out (by right; have := HN.out i hij hi; simpa [Value.ownBlock] using this), o.2⟩)
      go_wp2
      go_roundw
      case rel =>
        refine ⟨j + 1, by omega, by go_num, ?_, Lib.hid (fun i hi => ?_), Lib.hid (fun i hi hin => other.out i (by omega) hin _ _ (HB.out i (by omega) hin)), Lib.hid (HS.out.trans HSP.out), Lib.hid (HSZ.out.trans HZ.out)⟩
        · rw [HT.out]; congr 1; omega
        · by_cases hij : i = j
          · subst hij
            rw [HZJ.out, HTJ.out]; exact HO1.out
          · exact other.out i hij (by omega) _ _ (HA.out i (by omega))
      case measure => simp [intOf]; omega
    · have HJ := Lib.hid (show j = zss.length from by omega)
      go_wp2
      go_ret
      have e := HJ.out
      refine ⟨ret_i64 (by rw [e, List.take_length]), ?_, HS.out, HZ.out⟩
      have hl2 := upsS_length zss k
      have hrs : rowsV G (upsS k zss) zss.length = rowsV G zss zss.length := rowsV_same G _ _ _ (fun i hi => by rw [upsS_get zss k i hi, ups_length])
      refine ⟨by rw [hl2]; exact hlen, ?_, by rw [HZ.out]; exact HLT.out, fun i hi => ?_, fun i i' h1 h2 => HRI.out i i' h1 (by rw [← hl2]; exact h2)⟩
      · rw [hl2, hrs]; exact HS.out.row HROW.out (by omega) HLT.out
      · have hi2 : i < zss.length := by rw [← hl2]; exact hi
        rw [upsS_get zss k i hi2, ups_length]
        exact HA.out i (by omega)
theorem Span.of_keep {w w' : World} {lo hi : Nat} (k : Keep w w') : Span w w' lo hi := ⟨k.os, k.tape, k.output, k.size, fun j hj _ => k.block j hj⟩
theorem Span.wider {w w' : World} {lo hi lo2 hi2 : Nat} (h : Span w w' lo hi) (h1 : lo2 ≤ lo) (h2 : hi ≤ hi2) : Span w w' lo2 hi2 := ⟨h.os, h.tape, h.output, h.size, fun j hj hr => h.block j hj (by omega)⟩
theorem below_span {w0 w w' : World} {B lo hi : Nat} (h : Below B w0 w) (s : Span w w' lo hi) (hB : B ≤ w.heap.size) (sep : B ≤ lo) : Below B w0 w' :=
  ⟨s.os.trans h.os, s.tape.trans h.tape, s.output.trans h.output, Nat.le_trans h.size s.size, fun j hj => (s.block j (by omega) (.inl (by omega))).trans (h.block j hj)⟩
theorem Box.span {w w' : World} {b : Nat} {g : Int} {ad : Option Addr} {n cap lo hi : Nat} (h : Box w b g ad n cap) (s : Span w w' lo hi) (sep : b < lo ∨ hi ≤ b) : Box w' b g ad n cap := by
  have e := s.block b h.lt sep
  exact ⟨by rw [World.cell?_of_block (w := w) e]; exact h.c0, by rw [World.cell?_of_block (w := w) e]; exact h.c1, Nat.lt_of_lt_of_le h.lt s.size⟩
theorem Mine.span {w w' : World} {lo hi lo2 hi2 : Nat} {ad : Option Addr} {cap : Nat} {zs : List Int} (h : Mine w lo hi ad cap zs) (s : Span w w' lo2 hi2) (sep : hi ≤ lo2 ∨ hi2 ≤ lo) : Mine w' lo hi ad cap zs :=
  ⟨s.own h.own (fun b hb => by
    have h1 := h.below b hb
    rcases own_block h.own.1 with ⟨e, _⟩ | ⟨g, e, h2, _⟩
    · rw [e] at hb; cases hb
    · rw [e] at hb; simp at hb; omega), h.below⟩
theorem MineSS.span {w w' : World} {lo hi lo2 hi2 B : Nat} {G : Nat → Nat} {zss : List (List Int)} (h : MineSS w lo hi B G zss) (s : Span w w' lo2 hi2) (sep : hi ≤ lo2 ∨ hi2 ≤ lo) : MineSS w' lo hi B G zss := by
  have h1 := h.lo_
  have h2 := h.hi_
  refine ⟨⟨h.own.small, ?_, Nat.lt_of_lt_of_le h.own.lt s.size, fun j hj => s.own (h.own.each j hj) (fun b hb => ?_), h.own.rise⟩, h1, h2, h.rows⟩
  · exact s.row h.own.row (by omega) h.own.lt
  · simp at hb; subst hb
    have h3 := h.rows j hj
    rcases own_block (h.own.each j hj).1 with ⟨e, _⟩ | ⟨g, e, h4, _⟩
    · cases e
    · simp at e; omega
theorem MineSS.past {w w' : World} {lo hi lo2 hi2 B : Nat} {G : Nat → Nat} {zss : List (List Int)} {ad2 : Option Addr} {cap2 n2 : Nat} {zs2 : List Int} (h : MineSS w lo hi B G zss) (g : Mine w' lo2 hi2 ad2 cap2 zs2) (m : w.grownBy w' (Value.slice ad2 n2 cap2).ownBlock)
    (sep : hi ≤ lo2 ∨ hi2 ≤ lo) : MineSS w' lo hi B G zss :=
  h.span (Span.of_grown (lo := lo2) (hi := hi2) m (fun k hk => by
    rcases own_block g.own.1 with ⟨rfl, _⟩ | ⟨k2, rfl, h4, h5, _⟩
    · simp [Value.ownBlock] at hk
    · have h6 := g.below k2 rfl
      simp [Value.ownBlock] at hk; omega)) sep
theorem MineSS.marked {w w' : World} {lo hi B : Nat} {G : Nat → Nat} {zss : List (List Int)} {k : Int} (h : MineSS w lo hi B G zss) (o : OwnSS w' B G (upsS k zss)) : MineSS w' lo hi B G (upsS k zss) :=
  ⟨o, h.lo_, h.hi_, fun j hj => h.rows j (by rw [← upsS_length zss k]; exact hj)⟩
theorem markInt64SS_ex (lo hi B : Nat) (G : Nat → Nat) (zss : List (List Int)) (k : Int) (w : World) (h : MineSS w lo hi B G zss) (hk : -1099511627776 ≤ k) (hk2 : k ≤ 17592186044416) (hs : tot zss ≤ 1099511627776) :
    Calls Try.prog 20 #[.slice (some ⟨B, 0, none⟩) zss.length zss.length, .int .i64 k] w fun e w' =>
      e = .returned (.int .i64 (k + tot zss)) ∧ OwnSS w' B G (upsS k zss) ∧ Span w w' lo hi :=
  (markInt64SS_any B hi G zss k w h.own h.rows hk hk2 hs).mono fun _ _ ⟨h1, h2, h3, _⟩ => ⟨h1, h2, h3.wider (by have := h.lo_; omega) (Nat.le_refl _)⟩
end Go.Proofs.Ytpdcmhnaedhkdaa
