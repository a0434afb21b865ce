/- Rows that share one block, one behind the other: a grid of the program's own. -/
import Derived.Test.YtjoanfgchapbaaaSq9
namespace Go.Proofs.Ytjoanfgchapbaaa
open Go.ChangeShapes Go.WideShapes Go.ChangeAt Go.RowKit Go.Deep
set_option linter.unusedVariables false
theorem flat_lt {n c i k : Nat} (hi : i < n) (hk : k < c) : i * c + k < n * c := by
  have : i * c + c ≤ n * c := by have := Nat.mul_le_mul_right c (show i + 1 ≤ n from hi); rw [Nat.succ_mul] at this; exact this
  omega
theorem flat_le {n c i : Nat} (hi : i < n) : i * c + c ≤ n * c := by
  have := Nat.mul_le_mul_right c (show i + 1 ≤ n from hi); rw [Nat.succ_mul] at this; exact this
theorem flat_inj {c i k i' k' : Nat} (hk : k < c) (hk' : k' < c) (h : i * c + k = i' * c + k') : i = i' ∧ k = k' := by
  have hc : 0 < c := by omega
  have a : (i * c + k) / c = i := by rw [Nat.add_comm, Nat.add_mul_div_right _ _ hc, Nat.div_eq_of_lt hk]; omega
  have b : (i' * c + k') / c = i' := by rw [Nat.add_comm, Nat.add_mul_div_right _ _ hc, Nat.div_eq_of_lt hk']; omega
  have e : i = i' := by rw [← a, ← b, h]
  subst e
  exact ⟨rfl, by omega⟩
/-- The cells of the rows' slices. -/
def flatH (M c n : Nat) : List Value := (List.range n).map fun i => .slice (some ⟨M, i * c, none⟩) c c
theorem flatH_len (M c n : Nat) : (flatH M c n).length = n := by simp [flatH]
theorem flatH_get (M c n i : Nat) (h : i < n) : (flatH M c n)[i]? = some (.slice (some ⟨M, i * c, none⟩) c c) := by simp [flatH, h]
structure Flat (w : World) (lo B M n c : Nat) (f : Nat → Nat → Int) : Prop where
  head : w.ownsRow lo 69 1 (.slice (some ⟨B, 0, none⟩) n n) n (flatH M c n)
  mem : ∃ cs t, w.heap[M]? = some (.cells cs t (0, 0)) ∧ cs.size = n * c ∧ ∀ i k, i < n → k < c → cs[i * c + k]? = some (.int .i64 (f i k))
  ne : B ≠ M
  lob : lo ≤ B
  lom : lo ≤ M
theorem Flat.ltB {w : World} {lo B M n c : Nat} {f : Nat → Nat → Int} (h : Flat w lo B M n c f) : B < w.heap.size := by
  rcases own_block h.head with ⟨e, _⟩ | ⟨g, e, _, h2, _⟩
  · cases e
  · simp at e; omega
theorem Flat.ltM {w : World} {lo B M n c : Nat} {f : Nat → Nat → Int} (h : Flat w lo B M n c f) : M < w.heap.size := by
  obtain ⟨cs, t, h1, _⟩ := h.mem
  exact (Array.getElem?_eq_some_iff.1 h1).1
theorem Flat.row {w : World} {lo B M n c : Nat} {f : Nat → Nat → Int} (h : Flat w lo B M n c f) (i : Nat) (hi : i < n) : w.cell? ⟨B, i, none⟩ = some (.slice (some ⟨M, i * c, none⟩) c c) := by
  rw [h.head.cellAt i (by omega), flatH_get M c n i hi]
theorem Flat.cell {w : World} {lo B M n c : Nat} {f : Nat → Nat → Int} (h : Flat w lo B M n c f) (i k : Nat) (hi : i < n) (hk : k < c) : w.cell? ⟨M, i * c + k, none⟩ = some (.int .i64 (f i k)) := by
  obtain ⟨cs, t, h1, _, h3⟩ := h.mem
  rw [cell_of_row w M _ _ _ _ h1, h3 i k hi hk]
theorem Flat.frozen {w : World} {lo B M n c : Nat} {f : Nat → Nat → Int} (h : Flat w lo B M n c f) (j : Nat) : w.frozen? ⟨M, j, none⟩ = false := by
  obtain ⟨cs, t, h1, _⟩ := h.mem
  exact frozen_of_row w M j _ _ h1
theorem Flat.same {w w' : World} {lo B M n c : Nat} {f : Nat → Nat → Int} (h : Flat w lo B M n c f) (e1 : w'.heap[B]? = w.heap[B]?) (e2 : w'.heap[M]? = w.heap[M]?) : Flat w' lo B M n c f := by
  obtain ⟨cs, t, h1, h2⟩ := h.mem
  refine ⟨row_same h.head (fun g e _ => by simp at e; subst e; exact e1), ⟨cs, t, e2.trans h1, h2⟩, h.ne, h.lob, h.lom⟩
theorem Flat.keep {w w' : World} {lo B M n c : Nat} {f : Nat → Nat → Int} (h : Flat w lo B M n c f) (k : Keep w w') : Flat w' lo B M n c f := h.same (k.block B h.ltB) (k.block M h.ltM)
theorem Flat.congr {w : World} {lo B M n c : Nat} {f g : Nat → Nat → Int} (h : Flat w lo B M n c f) (e : ∀ i k, i < n → k < c → f i k = g i k) : Flat w lo B M n c g := by
  obtain ⟨cs, t, h1, h2, h3⟩ := h.mem
  exact ⟨h.head, ⟨cs, t, h1, h2, fun i k hi hk => by rw [← e i k hi hk]; exact h3 i k hi hk⟩, h.ne, h.lob, h.lom⟩
theorem Flat.mono {w : World} {lo lo' B M n c : Nat} {f : Nat → Nat → Int} (h : Flat w lo B M n c f) (k : lo' ≤ lo) : Flat w lo' B M n c f := by
  refine ⟨⟨h.head.1, ?_⟩, h.mem, h.ne, by have := h.lob; omega, by have := h.lom; omega⟩
  rcases h.head.2 with h1 | ⟨g, q, cur, h1, h2, h3⟩
  · exact .inl h1
  · exact .inr ⟨g, q, cur, h1, by omega, h3⟩
theorem Flat.set {w : World} {lo B M n c : Nat} {f : Nat → Nat → Int} (h : Flat w lo B M n c f) (i k : Nat) (hi : i < n) (hk : k < c) (v : Int) : Flat (w.setCell ⟨M, i * c + k, none⟩ (.int .i64 v)) lo B M n c (upd2 f i k v) := by
  obtain ⟨cs, t, h1, h2, h3⟩ := h.mem
  refine ⟨row_same h.head (fun g e _ => by simp at e; subst e; exact heap_setCell_other w _ _ _ h.ne), ⟨_, t, heap_setCell_same w M (i * c + k) cs t _ h1, by simpa using h2, fun a b ha hb => ?_⟩, h.ne, h.lob, h.lom⟩
  rw [Array.getElem?_setIfInBounds]
  unfold upd2
  by_cases e : a = i ∧ b = k
  · obtain ⟨rfl, rfl⟩ := e
    simp only [if_pos, and_self]
    rw [if_pos (show a * c + b < cs.size by rw [h2]; exact flat_lt hi hk)]
  · rw [if_neg e, if_neg (fun q => e ⟨(flat_inj hk hb q).1.symm, (flat_inj hk hb q).2.symm⟩)]
    exact h3 a b ha hb
/-- It is rows of the call's own. -/
theorem Flat.g {w : World} {lo B M n c : Nat} {f : Nat → Nat → Int} (h : Flat w lo B M n c f) (hn : n * c ≤ 1099511627776) (hn2 : n ≤ 1099511627776) (hf : ∀ i k, i < n → k < c → In64 (f i k)) :
    OwnG w lo (some ⟨B, 0, none⟩) n (fun i => some ⟨M, i * c, none⟩) (fun _ => c) (sqF n c f) := by
  have hl := sqF_len n c f
  refine ⟨by rw [hl]; exact hn2, by rw [sqF_tot]; exact hn, ?_, fun j hj => ?_, fun j hj => ?_, fun j hj => ?_, fun i j g o o' hi hj hij e1 e2 => ?_, fun j g o hj e1 e2 => ?_⟩
  · rw [hl]
    have : rowC (fun i => some ⟨M, i * c, none⟩) (fun _ => c) (sqF n c f) = flatH M c n := by
      unfold rowC flatH
      rw [hl]
      refine List.map_congr_left fun i hi => ?_
      rw [sqF_rowlen n c f i (List.mem_range.1 hi)]
    rw [this]; exact h.head
  · rw [hl] at hj
    intro z hz
    rw [sqF_row n c f j hj] at hz
    obtain ⟨k, hk, rfl⟩ := List.mem_map.1 hz
    exact hf j k hj (List.mem_range.1 hk)
  · rw [hl] at hj
    obtain ⟨cs, t, h1, h2, h3⟩ := h.mem
    refine .inr ⟨M, j * c, rfl, h.lom, cs, t, h1, ?_, fun k hk => ?_⟩
    · rw [sqF_rowlen n c f j hj, h2]; exact flat_le hj
    · rw [sqF_rowlen n c f j hj] at hk
      rw [sqF_get n c f j k hj hk]; exact h3 j k hj hk
  · rw [hl] at hj
    rw [sqF_rowlen n c f j hj]; exact Nat.le_refl _
  · rw [hl] at hi hj
    rw [sqF_rowlen n c f i hi, sqF_rowlen n c f j hj]
    simp at e1 e2
    obtain ⟨rfl, rfl⟩ := e1
    obtain ⟨_, rfl⟩ := e2
    rcases Nat.lt_or_gt_of_ne hij with h | h
    · left; have := Nat.mul_le_mul_right c (show i + 1 ≤ j from h); rw [Nat.succ_mul] at this; exact this
    · right; have := Nat.mul_le_mul_right c (show j + 1 ≤ i from h); rw [Nat.succ_mul] at this; exact this
  · simp at e1 e2
    obtain ⟨rfl, _⟩ := e1
    exact h.ne e2
/-- Old memory behind a store into it. -/
theorem Flat.below {w0 w : World} {lo B M n c : Nat} {f : Nat → Nat → Int} (h : Flat w lo B M n c f) {K : Nat} (k : Below K w0 w) (hK : K ≤ lo) (j : Nat) (v : Value) : Below K w0 (w.setCell ⟨M, j, none⟩ v) :=
  k.setCell (by have := h.lom; show K ≤ M; omega) v
theorem Flat.ints {w : World} {lo B M n c : Nat} {f : Nat → Nat → Int} (h : Flat w lo B M n c f) (hn : n * c ≤ 1099511627776) (hn2 : n ≤ 1099511627776) (hf : ∀ i k, i < n → k < c → In64 (f i k)) : Intss w (some ⟨B, 0, none⟩) (sqF n c f) := (h.g hn hn2 hf).ints
theorem rep_get {α : Type} (n i : Nat) (a : α) (h : i < n) : (List.replicate n a)[i]? = some a := by rw [List.getElem?_replicate, if_pos h]
theorem flatH_fill (M c n k : Nat) (h : k < n) (z : Value) : (flatH M c k ++ List.replicate (n - k) z).set k (.slice (some ⟨M, k * c, none⟩) c c) = flatH M c (k + 1) ++ List.replicate (n - (k + 1)) z := by
  have e : List.replicate (n - k) z = z :: List.replicate (n - (k + 1)) z := by
    rw [show n - k = (n - (k + 1)) + 1 from by omega, List.replicate_succ]
  rw [e, List.set_append_right _ _ (by rw [flatH_len]; exact Nat.le_refl _), flatH_len, Nat.sub_self, List.set_cons_zero]
  unfold flatH
  rw [List.range_succ, List.map_append, List.append_assoc]; rfl
theorem flatH_get2 (M c n k : Nat) (h : k < n) (z : Value) : (flatH M c k ++ List.replicate (n - k) z)[k]? = some z := by
  rw [List.getElem?_append_right (by rw [flatH_len]; exact Nat.le_refl _), flatH_len, List.getElem?_replicate, if_pos (by omega)]
set_option maxHeartbeats 1600000 in
set_option maxRecDepth 100000 in
theorem blank_any (n c : Nat) (w : World) (hn : n ≤ 1000) (hc : c ≤ 1000) (hc1 : 1 ≤ c) :
    Calls Try.prog 64 #[.int .i64 n, .int .i64 c] w fun e w' => ∃ B M, e = .returned (.slice (some ⟨B, 0, none⟩) n n) ∧ Flat w' w.heap.size B M n c (fun _ _ => 0) ∧ Keep w w' := by
  obtain ⟨i0, hi, hz0, hz1, hz2⟩ := info_parts Try.infoI
  obtain ⟨i1, hi1, hy0, hy1, hy2⟩ := info_parts Try.infoIS
  have hT : n * c ≤ 1000000 := Nat.le_trans (Nat.mul_le_mul hn hc) (by omega)
  obtain ⟨T, hTd⟩ : ∃ T, T = n * c := ⟨_, rfl⟩
  rw [← hTd] at hT
  have V1 : IntKind.i64.wrap ((n : Int) * (c : Int)) = (T : Int) := by
    rw [hTd, Int.natCast_mul]
    exact IntWalk.i64_in _ (by rw [← Int.natCast_mul, ← hTd]; omega)
  have hb8 : i0.bytes * T ≤ 281474976710656 := by rw [hz2]; omega
  have hml : T ≤ maxLen := by unfold maxLen; omega
  have hb9 : i1.bytes * n ≤ 281474976710656 := by rw [hy2]; omega
  have hml1 : n ≤ maxLen := by unfold maxLen; omega
  have HTD := Lib.hid hTd; clear hTd
  go_enter Try.func64, Try.ntmps64
  go_wp2_with (at_make; refine wpList_make_full w rfl _ _ 69 rfl w.heap.size 2 i0 (.int .i64 0) 1 Try.underlying69 hi hz0 hz1 .i64 .i64 _ _ T rfl rfl rfl rfl hb8 hml (Nat.le_refl _) ?_)
  intro w0 hown0 hgrow0
  have hown0 : w0.ownsRow w.heap.size 2 1 (.slice (some ⟨w.heap.size, 0, none⟩) T T) T (List.replicate T (.int .i64 0)) := by simpa [Value.cells, toList_madeCells_one] using hown0
  have hk0 : Keep w w0 := (Below.refl _ _).grown hgrow0 (Nat.le_refl _) (fun k h => by cases h)
  clear hgrow0
  obtain ⟨M, hM⟩ : ∃ M, M = w.heap.size := ⟨_, rfl⟩
  rw [← hM] at hown0 ⊢
  have HM := Lib.hid hM; clear hM
  have HO0 := Lib.hid hown0; have HK0 := Lib.hid hk0
  clear hown0 hk0
  go_wp2_with (at_make; refine wpList_make_full w0 rfl _ _ 22 rfl w0.heap.size 69 i1 (.slice none 0 0) 1 Try.underlying22 hi1 hy0 hy1 .i64 .i64 _ _ n rfl rfl rfl rfl hb9 hml1 (Nat.le_refl _) ?_)
  intro w1 hown1 hgrow1
  have hown1 : w1.ownsRow w0.heap.size 69 1 (.slice (some ⟨w0.heap.size, 0, none⟩) n n) n (List.replicate n (.slice none 0 0)) := by simpa [Value.cells, toList_madeCells_one] using hown1
  have hk1 : Keep w0 w1 := (Below.refl _ _).grown hgrow1 (Nat.le_refl _) (fun k h => by cases h)
  clear hgrow1
  have HMR : Hid (∃ cs t, w1.heap[M]? = some (.cells cs t (0, 0)) ∧ cs.size = T ∧ ∀ j, j < T → cs[j]? = some (.int .i64 0)) := Lib.hid (by
    rcases (ownsRow_keep HO0.out hk1).2 with ⟨e, _⟩ | ⟨g', q, cur, e, _, h3, _, _, h6, h7⟩
    · cases e
    · simp at e
      obtain ⟨rfl, rfl⟩ := e
      refine ⟨cur, _, h3, by omega, fun j hj => ?_⟩
      have e2 : (cur.toList.take (T * 1))[j]? = some (.int .i64 0) := by rw [h7]; exact rep_get T j _ hj
      rw [List.getElem?_take, if_pos (by omega)] at e2
      simpa using e2)
  have hMs : M < w0.heap.size := by
    rcases own_block HO0.out with ⟨e, _⟩ | ⟨g, e, _, h2, _⟩
    · cases e
    · simp at e; omega
  obtain ⟨B, hB⟩ : ∃ B, B = w0.heap.size := ⟨_, rfl⟩
  rw [← hB] at hown1 hMs ⊢
  have HB := Lib.hid hB; clear hB
  have HK1 : Hid (Keep w w1) := Lib.hid (HK0.out.next hk1)
  have HBL : Hid (w.heap.size ≤ B) := Lib.hid (by rw [HB.out]; exact HK0.out.size)
  clear hk1
  go_wp2
  go_loopw [7, 8, 9, 18] (fun _ _ _ i wr => ∃ k : Nat, k ≤ n ∧ i = .int .i64 k ∧ Hid (wr.ownsRow B 69 1 (.slice (some ⟨B, 0, none⟩) n n) n (flatH M c k ++ List.replicate (n - k) (.slice none 0 0))) ∧ Hid (Below B w1 wr))
    (fun _ _ _ i _ => n - (intOf i).toNat)
  case atStart => exact ⟨0, Nat.zero_le _, rfl, Lib.hid (by simpa [flatH, HB.out] using hown1), Lib.hid (Below.refl _ _)⟩
  case round =>
    obtain ⟨k, hk, rfl, HO, HK⟩ := hrel
    by_cases hlt : k < n
    · have hcy : wr.cell? ⟨B, k, none⟩ = some (.slice none 0 0) := by rw [HO.out.cellAt k (by omega), flatH_get2 M c n k hlt]
      have hfy := HO.out.frozenAt k
      have HST := Lib.hid (HO.out.stored k (.slice (some ⟨M, k * c, none⟩) c c))
      have HF := Lib.hid (flatH_fill M c n k hlt (.slice none 0 0))
      have hle := flat_le (c := c) hlt
      rw [← HTD.out] at hle
      obtain ⟨F, hF⟩ : ∃ F, F = k * c := ⟨_, rfl⟩
      rw [← hF] at hle HST HF
      have V2 : IntKind.i64.wrap ((k : Int) * (c : Int)) = (F : Int) := by
        rw [hF, Int.natCast_mul]
        exact IntWalk.i64_in _ (by rw [← Int.natCast_mul, ← hF]; omega)
      have V3 : IntKind.i64.wrap (((k : Int) + 1) * (c : Int)) = ((F + c : Nat) : Int) := by
        have e : ((k : Int) + 1) * (c : Int) = ((F + c : Nat) : Int) := by rw [Int.add_mul, Int.one_mul, ← Int.natCast_mul, ← hF]; omega
        rw [e]; exact IntWalk.i64_in _ (by omega)
      have HFD := Lib.hid hF; clear hF
      have hc0 : ¬ c = 0 := by omega
      go_wp2
      go_roundw
      case rel => exact ⟨k + 1, by omega, by go_num, Lib.hid (by have s := HST.out.1; rw [HF.out] at s; exact s), Lib.hid (HK.out.setCell (Nat.le_refl _) _)⟩
      case measure => simp [intOf]; omega
    · have HE := Lib.hid (show k = n by omega)
      go_wp2
      go_ret
      have h := HO.out
      have hlob := HBL.out
      have hMlo := HM.out
      rw [HE.out] at h
      refine ⟨B, M, rfl, ⟨?_, ?_, by omega, by omega, by omega⟩, HK1.out.trans (HK.out.mono hlob)⟩
      · have h2 : wr.ownsRow B 69 1 (.slice (some ⟨B, 0, none⟩) n n) n (flatH M c n) := by simpa using h
        refine ⟨h2.1, ?_⟩
        rcases h2.2 with e | ⟨g, q, cur, e, e2, e3⟩
        · exact .inl e
        · exact .inr ⟨g, q, cur, e, by omega, e3⟩
      · obtain ⟨cs, t, e1, e2, e3⟩ := HMR.out
        refine ⟨cs, t, (HK.out.block M hMs).trans e1, by rw [e2]; exact HTD.out, fun i k hi hk => e3 _ ?_⟩
        rw [HTD.out]; exact flat_lt hi hk
end Go.Proofs.Ytjoanfgchapbaaa
