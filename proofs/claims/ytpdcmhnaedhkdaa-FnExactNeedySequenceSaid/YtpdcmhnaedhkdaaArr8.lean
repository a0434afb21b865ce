/- The amounts of a sequence: an array of six in a block; goalOf; the program's IsSequence. -/
import Derived.Test.YtpdcmhnaedhkdaaDem8
import Derived.Laws.CopyOwn
import Derived.Laws.Rows
import Derived.Laws.StructEq
import Derived.ChangeKeysEq
import Derived.Deep.RegionHeld3
namespace Go.Proofs.Ytpdcmhnaedhkdaa
open Go.ChangeShapes Go.WideShapes Go.ChangeAt Go.RowKit Go.Deep
set_option linter.unusedVariables false
/-- Six numbers as cells. -/
def six (f : Nat → Int) : Array Value := #[.int .i64 (f 0), .int .i64 (f 1), .int .i64 (f 2), .int .i64 (f 3), .int .i64 (f 4), .int .i64 (f 5)]
theorem six_get (f : Nat → Int) (i : Nat) (h : i < 6) : (six f)[i]? = some (.int .i64 (f i)) := by
  rcases (by omega : i = 0 ∨ i = 1 ∨ i = 2 ∨ i = 3 ∨ i = 4 ∨ i = 5) with rfl | rfl | rfl | rfl | rfl | rfl <;> rfl
theorem six_set (f : Nat → Int) (i : Nat) (h : i < 6) (v : Int) : (six f).setIfInBounds i (.int .i64 v) = six (fun j => if j = i then v else f j) := by
  rcases (by omega : i = 0 ∨ i = 1 ∨ i = 2 ∨ i = 3 ∨ i = 4 ∨ i = 5) with rfl | rfl | rfl | rfl | rfl | rfl <;> rfl
theorem six_same {f g : Nat → Int} (h : ∀ i, i < 6 → f i = g i) : six f = six g := by
  unfold six; rw [h 0 (by omega), h 1 (by omega), h 2 (by omega), h 3 (by omega), h 4 (by omega), h 5 (by omega)]
theorem splice_six (d : List Int) (h : d.length ≤ 6) : (splice [Value.int .i64 0, .int .i64 0, .int .i64 0, .int .i64 0, .int .i64 0, .int .i64 0] 0 (vals d)).toArray = six (fun i => d.getD i 0) := by
  rcases d with _ | ⟨a, _ | ⟨b, _ | ⟨c, _ | ⟨e, _ | ⟨f, _ | ⟨g, _ | ⟨i, t⟩⟩⟩⟩⟩⟩⟩
  all_goals first | rfl | (exfalso; simp at h; done) | (exfalso; simp at h; omega)
/-- The block b holds six numbers. -/
def Arr (w : World) (b : Nat) (f : Nat → Int) : Prop := w.heap[b]? = some (.cells (six f) 81 (0, 0))
theorem Arr.cell {w : World} {b : Nat} {f : Nat → Int} (h : Arr w b f) (i : Nat) (hi : i < 6) : w.cell? ⟨b, i, none⟩ = some (.int .i64 (f i)) := by rw [cell_of_row w b i _ _ _ h, six_get f i hi]
theorem Arr.frozen {w : World} {b : Nat} {f : Nat → Int} (h : Arr w b f) (i : Nat) : w.frozen? ⟨b, i, none⟩ = false := frozen_of_row w b i _ _ h
theorem Arr.lt {w : World} {b : Nat} {f : Nat → Int} (h : Arr w b f) : b < w.heap.size := block_lt_of_cell (h.cell 0 (by omega))
theorem Arr.set {w : World} {b : Nat} {f : Nat → Int} (h : Arr w b f) (i : Nat) (hi : i < 6) (v : Int) : Arr (w.setCell ⟨b, i, none⟩ (.int .i64 v)) b (fun j => if j = i then v else f j) := by
  unfold Arr; rw [heap_setCell_same w b i _ _ _ h, six_set f i hi]
theorem Arr.keep {w w' : World} {b B : Nat} {f : Nat → Int} (h : Arr w b f) (k : Below B w w') (hb : b < B) : Arr w' b f := (k.block b hb).trans h
theorem Arr.new (w : World) : Arr (w.alloc (.cells #[.int .i64 0, .int .i64 0, .int .i64 0, .int .i64 0, .int .i64 0, .int .i64 0] 81)) w.heap.size (fun _ => 0) := heap_alloc_new w _
theorem Arr.same {w : World} {b : Nat} {f g : Nat → Int} (h : Arr w b f) (e : ∀ i, i < 6 → f i = g i) : Arr w b g := by unfold Arr at h ⊢; rw [h, six_same e]
/-- Two arrays of six held against each other. -/
def sixB (f g : Nat → Int) : Bool := (f 0 == g 0) && ((f 1 == g 1) && ((f 2 == g 2) && ((f 3 == g 3) && ((f 4 == g 4) && (f 5 == g 5)))))
theorem sixB_iff {f g : Nat → Int} : sixB f g = true ↔ ∀ i, i < 6 → f i = g i := by
  unfold sixB
  simp only [Bool.and_eq_true, beq_iff_eq]
  constructor
  · rintro ⟨h0, h1, h2, h3, h4, h5⟩ i hi
    rcases (by omega : i = 0 ∨ i = 1 ∨ i = 2 ∨ i = 3 ∨ i = 4 ∨ i = 5) with rfl | rfl | rfl | rfl | rfl | rfl <;> assumption
  · intro h
    exact ⟨h 0 (by omega), h 1 (by omega), h 2 (by omega), h 3 (by omega), h 4 (by omega), h 5 (by omega)⟩
theorem six_part (f : Nat → Int) (i : Nat) (h : i < 6) (W : World) : (part 2 (six f) i).run Try.prog W = .ok (.int .i64 (f i)) W := by
  rcases (by omega : i = 0 ∨ i = 1 ∨ i = 2 ∨ i = 3 ∨ i = 4 ∨ i = 5) with rfl | rfl | rfl | rfl | rfl | rfl <;> simp [six, go_sem]
theorem six_equal (f g : Nat → Int) (W : World) : (Op.equalIn 10000 81 (.agg (six f)) (.agg (six g))).run Try.prog W = .ok (sixB f g) W := by
  obtain ⟨i0, hi, hz0, hz1, hz2⟩ := info_parts Try.infoI
  rw [run_equalIn_array W 9999 _ _ Try.underlying81 hi, show Try.prog.cellsOf 2 = 1 from by kernel_rfl, show List.range 6 = [0, 1, 2, 3, 4, 5] from rfl]
  have e : ∀ (a b : Int) (W : World), (Op.equalIn 9999 2 (.int .i64 a) (.int .i64 b)).run Try.prog W = .ok (a == b) W := fun a b W => run_equalIn_int W 9998 _ _ _ a b Try.underlying2
  unfold sixB
  cases h0 : f 0 == g 0 <;> cases h1 : f 1 == g 1 <;> cases h2 : f 2 == g 2 <;> cases h3 : f 3 == g 3 <;> cases h4 : f 4 == g 4 <;> cases h5 : f 5 == g 5 <;> simp [Op.eqItems, Sem.run_bind, Sem.run_pure, Sem.run_ite, Result.andThen_ok, e, h0, h1, h2, h3, h4, h5, six_part f 0 (by omega), six_part f 1 (by omega), six_part f 2 (by omega), six_part f 3 (by omega), six_part f 4 (by omega), six_part f 5 (by omega), six_part g 0 (by omega), six_part g 1 (by omega), six_part g 2 (by omega), six_part g 3 (by omega), six_part g 4 (by omega), six_part g 5 (by omega)]
set_option maxHeartbeats 800000 in
theorem goalOf_any (ad : Option Addr) (cap : Nat) (d : List Int) (w : World) (hz : Ints w ad d) (hl : d.length ≤ 6) :
    Calls Try.prog 92 #[.slice ad d.length cap] w fun e w' => e = .returned (.agg (six (fun i => d.getD i 0))) ∧ Keep w w' := by
  obtain ⟨W1, hW1⟩ : ∃ W1, W1 = (w.alloc (.cells #[.int .i64 0, .int .i64 0, .int .i64 0, .int .i64 0, .int .i64 0, .int .i64 0] 81)).alloc (.cells #[.int .i64 0, .int .i64 0, .int .i64 0, .int .i64 0, .int .i64 0, .int .i64 0] 81) := ⟨_, rfl⟩
  have hrow : W1.heap[w.heap.size + 1]? = some (.cells (List.replicate 6 (Value.int .i64 0)).toArray 81 (0, 0)) := by rw [hW1]; exact heap_alloc2_new w _ _
  have hrow0 : W1.heap[w.heap.size]? = some (.cells (six (fun _ => 0)) 81 (0, 0)) := by rw [hW1]; exact heap_alloc2_old w _ _
  have hk : Keep w W1 := by rw [hW1]; go_grown
  have hs : W1.heap.size = w.heap.size + 2 := by rw [hW1]; simp
  go_enter Try.func92, Try.ntmps92
  go_wp2_with (with_reducible refine wpList_copy_splice rfl (.tmp 4) (.tmp 5) 22 22 rfl 2 Try.underlying22 (by kernel_rfl) (some ⟨w.heap.size + 1, 0, none⟩) ad 6 6 d.length cap rfl rfl (w.heap.size + 1) 0 (List.replicate 6 (Value.int .i64 0)) 81 ?_ (vals d) ?_ ?_ ?_ ?_ (w.heap.size + 1) W1 ?_ (Nat.le_refl _) ?_)
  · rw [← hW1]; exact hrow
  · show (vals d).length = min d.length 6
    simp; omega
  · intro h0
    rcases hz.at_ with h | ⟨b, off, rfl, hb, hc⟩
    · subst h; simp at h0
    refine ⟨⟨b, off, none⟩, rfl, fun j a hj => ?_⟩
    have hj2 : j < d.length := (List.getElem?_eq_some_iff.1 hj).1
    rw [← hW1, Go.WideShapes.add_plain, hk.cell (by exact hb), hc j hj2]
    simp [List.getD_eq_getElem?_getD, hj]
  · simp; omega
  · intro v hv; obtain ⟨z, _, rfl⟩ := List.mem_map.1 hv; rfl
  · rw [← hW1]; exact Below.refl _ _
  intro w2 HG2 hB2
  rw [← hW1] at hB2
  have hA : Arr w2 (w.heap.size + 1) (fun i => d.getD i 0) := by
    have h := HG2.out
    rw [splice_six d hl] at h; exact h
  have hA0 : Arr w2 w.heap.size (fun _ => 0) := (hB2.block _ (by omega)).trans hrow0
  have c0 := hA.cell 0 (by omega); have c1 := hA.cell 1 (by omega); have c2 := hA.cell 2 (by omega); have c3 := hA.cell 3 (by omega); have c4 := hA.cell 4 (by omega); have c5 := hA.cell 5 (by omega)
  have q0 := hA0.cell 0 (by omega); have q1 := hA0.cell 1 (by omega); have q2 := hA0.cell 2 (by omega); have q3 := hA0.cell 3 (by omega); have q4 := hA0.cell 4 (by omega); have q5 := hA0.cell 5 (by omega)
  have f0 := hA0.frozen 0; have f1 := hA0.frozen 1; have f2 := hA0.frozen 2; have f3 := hA0.frozen 3; have f4 := hA0.frozen 4; have f5 := hA0.frozen 5
  have K2 : Hid (Below w.heap.size w w2) := Lib.hid (hk.trans (hB2.mono (by omega)))
  have HV : Hid (Value.agg #[.int .i64 (d.getD 0 0), .int .i64 (d.getD 1 0), .int .i64 (d.getD 2 0), .int .i64 (d.getD 3 0), .int .i64 (d.getD 4 0), .int .i64 (d.getD 5 0)] = .agg (six (fun i => d.getD i 0))) := Lib.hid rfl
  generalize d.getD 0 0 = x0 at *; generalize d.getD 1 0 = x1 at *; generalize d.getD 2 0 = x2 at *; generalize d.getD 3 0 = x3 at *; generalize d.getD 4 0 = x4 at *; generalize d.getD 5 0 = x5 at *
  clear hA hA0 HG2 hrow hrow0 hk hW1 hB2
  go_wp2
  refine bodyPost_ret (v := .agg #[.int .i64 x0, .int .i64 x1, .int .i64 x2, .int .i64 x3, .int .i64 x4, .int .i64 x5]) (by simp [results, Try.results92, go_sem, q0, q1, q2, q3, q4, q5]) rfl ?_
  refine ⟨by rw [HV.out], ?_⟩
  have k2 := K2.out
  exact k2.trans (((((((Below.refl w.heap.size w2).setCell (Nat.le_refl _) _).setCell (Nat.le_refl _) _).setCell (Nat.le_refl _) _).setCell (Nat.le_refl _) _).setCell (Nat.le_refl _) _).setCell (Nat.le_refl _) _)
end Go.Proofs.Ytpdcmhnaedhkdaa
