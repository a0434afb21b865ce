/- The known kernels. -/
import Derived.Test.YtjoanfgchapbaaaTaps
import Derived.Test.YtjoanfgchapbaaaInts
namespace Go.Proofs.Ytjoanfgchapbaaa
open Go.ChangeShapes Go.WideShapes Go.ChangeAt Go.RowKit Go.Deep
set_option linter.unusedVariables false
def kG (a : Int) : Int := if a = 0 then 16 else if a = 1 then 8 else if a = 2 then 1 else 0
def kN (a : Int) : Nat := if a = 0 then 4 else if a = 1 then 6 else if a = 2 then 1 else 0
def kL (a : Int) : List Int := if a = 0 then [0, 1, 7, 1, -1, 3, 1, 0, 5, 1, 1, 1] else if a = 1 then [0, 1, 1, 0, 2, 1, 1, -1, 1, 1, 0, 1, 1, 1, 1, 2, 0, 1] else if a = 2 then [0, 1, 1] else []
theorem knl_len (a : Int) : (kL a).length = 3 * kN a := by
  unfold kL kN
  by_cases h0 : a = 0
  · rw [if_pos h0, if_pos h0]; rfl
  · rw [if_neg h0, if_neg h0]
    by_cases h1 : a = 1
    · rw [if_pos h1, if_pos h1]; rfl
    · rw [if_neg h1, if_neg h1]
      by_cases h2 : a = 2
      · rw [if_pos h2, if_pos h2]; rfl
      · rw [if_neg h2, if_neg h2]; rfl
theorem knl_n (a : Int) : kN a ≤ 1048576 := by
  unfold kN; split
  · omega
  · split
    · omega
    · split <;> omega
theorem RowAt.lit (w : World) (zs : List Int) (t : TypeId) : RowAt (w.alloc (.cells (vals zs).toArray t)) w.heap.size 0 zs := by
  refine ⟨(vals zs).toArray, t, heap_alloc_new w _, by simp [vals], fun i hi => ?_⟩
  rw [Nat.zero_add]
  simp [vals, List.getD_eq_getElem?_getD, hi]
theorem OwnT.lit {w W : World} {B g : Nat} {zs : List Int} (h : RowAt w g 0 zs) (e : W.heap[g]? = w.heap[g]?) (hB : B ≤ g) (hl : zs.length ≤ 1099511627776) (hw : ∀ z ∈ zs, In64 z) : OwnT W B (some ⟨g, 0, none⟩) zs :=
  ⟨⟨hl, hw⟩, .inr ⟨g, rfl, hB, h.same e⟩⟩
set_option maxHeartbeats 1600000 in
set_option maxRecDepth 100000 in
theorem KernelOf_any (a : Int) (w : World) (u : In64 a) :
    Calls Try.prog 40 #[.int .i64 a] w fun e w' => ∃ rd rc, e = .returned (.tuple #[valV (kG a) rd (kN a) rc, .bool (inB a 0 2)]) ∧ OwnT w' w.heap.size rd (kL a) ∧ Keep w w' := by
  by_cases h0 : a = 0
  · subst h0
    go_enter Try.func40, Try.ntmps40
    go_wp2
    refine bodyPost_ret (v := .tuple #[valV 16 (some ⟨w.heap.size + 1, 0, none⟩) 4 4, .bool true]) (by simp [results, Try.results40, go_sem]) rfl ?_
    refine ⟨some ⟨w.heap.size + 1, 0, none⟩, 4, rfl, ?_, by go_grown⟩
    have r := RowAt.lit (w.alloc (.cells #[.int .i64 0, .slice none 0 0] 51)) (kL 0) 97
    rw [World.size_alloc] at r
    refine OwnT.lit r ?_ (by omega) (by decide) (by unfold kL; simp [In64])
    rw [heap_alloc2_new, heap_alloc2_new]; rfl
  by_cases h1 : a = 1
  · subst h1
    go_enter Try.func40, Try.ntmps40
    go_wp2
    refine bodyPost_ret (v := .tuple #[valV 8 (some ⟨w.heap.size + 1, 0, none⟩) 6 6, .bool true]) (by simp [results, Try.results40, go_sem]) rfl ?_
    refine ⟨some ⟨w.heap.size + 1, 0, none⟩, 6, rfl, ?_, by go_grown⟩
    have r := RowAt.lit (w.alloc (.cells #[.int .i64 0, .slice none 0 0] 51)) (kL 1) 97
    rw [World.size_alloc] at r
    refine OwnT.lit r ?_ (by omega) (by decide) (by unfold kL; simp [In64])
    rw [heap_alloc2_new, heap_alloc2_new]; rfl
  by_cases h2 : a = 2
  · subst h2
    go_enter Try.func40, Try.ntmps40
    go_wp2
    refine bodyPost_ret (v := .tuple #[valV 1 (some ⟨w.heap.size + 1, 0, none⟩) 1 1, .bool true]) (by simp [results, Try.results40, go_sem]) rfl ?_
    refine ⟨some ⟨w.heap.size + 1, 0, none⟩, 1, rfl, ?_, by go_grown⟩
    have r := RowAt.lit (w.alloc (.cells #[.int .i64 0, .slice none 0 0] 51)) (kL 2) 97
    rw [World.size_alloc] at r
    refine OwnT.lit r ?_ (by omega) (by decide) (by unfold kL; simp [In64])
    rw [heap_alloc2_new, heap_alloc2_new]; rfl
  have hb : inB a 0 2 = false := by rw [inB_not]; omega
  rw [show kG a = 0 from by simp [kG, h0, h1, h2], show kN a = 0 from by simp [kN, h0, h1, h2], show kL a = [] from by simp [kL, h0, h1, h2], hb]
  go_enter Try.func40, Try.ntmps40
  go_wp2
  refine bodyPost_ret (v := .tuple #[valV 0 none 0 0, .bool false]) (by simp [results, Try.results40, go_sem]) rfl ?_
  exact ⟨none, 0, rfl, OwnT.nil _ _, by go_grown⟩
set_option maxHeartbeats 1600000 in
set_option maxRecDepth 100000 in
theorem l09Known_any (a : Int) (w : World) (u : inB a 0 2 = true) :
    Calls Try.prog 82 #[.int .i64 a] w fun e w' => ∃ rd rc, e = .returned (valV (kG a) rd (kN a) rc) ∧ OwnT w' w.heap.size rd (kL a) ∧ Keep w w' := by
  have u2 := inB_iff.1 u
  by_cases h0 : a = 0
  · subst h0
    go_enter Try.func82, Try.ntmps82
    go_wp2
    refine bodyPost_ret (v := valV 16 (some ⟨w.heap.size + 1, 0, none⟩) 4 4) (by simp [results, Try.results82, go_sem]) rfl ?_
    refine ⟨some ⟨w.heap.size + 1, 0, none⟩, 4, rfl, ?_, by go_grown⟩
    have r := RowAt.lit (w.alloc (.cells #[.int .i64 0, .slice none 0 0] 51)) (kL 0) 97
    rw [World.size_alloc] at r
    refine OwnT.lit r ?_ (by omega) (by decide) (by unfold kL; simp [In64])
    rw [heap_alloc2_new, heap_alloc2_new]; rfl
  by_cases h1 : a = 1
  · subst h1
    go_enter Try.func82, Try.ntmps82
    go_wp2
    refine bodyPost_ret (v := valV 8 (some ⟨w.heap.size + 1, 0, none⟩) 6 6) (by simp [results, Try.results82, go_sem]) rfl ?_
    refine ⟨some ⟨w.heap.size + 1, 0, none⟩, 6, rfl, ?_, by go_grown⟩
    have r := RowAt.lit (w.alloc (.cells #[.int .i64 0, .slice none 0 0] 51)) (kL 1) 97
    rw [World.size_alloc] at r
    refine OwnT.lit r ?_ (by omega) (by decide) (by unfold kL; simp [In64])
    rw [heap_alloc2_new, heap_alloc2_new]; rfl
  by_cases h2 : a = 2
  · subst h2
    go_enter Try.func82, Try.ntmps82
    go_wp2
    refine bodyPost_ret (v := valV 1 (some ⟨w.heap.size + 1, 0, none⟩) 1 1) (by simp [results, Try.results82, go_sem]) rfl ?_
    refine ⟨some ⟨w.heap.size + 1, 0, none⟩, 1, rfl, ?_, by go_grown⟩
    have r := RowAt.lit (w.alloc (.cells #[.int .i64 0, .slice none 0 0] 51)) (kL 2) 97
    rw [World.size_alloc] at r
    refine OwnT.lit r ?_ (by omega) (by decide) (by unfold kL; simp [In64])
    rw [heap_alloc2_new, heap_alloc2_new]; rfl
  omega
theorem specKernelOf_any (a : Int) (w : World) (u : In64 a) :
    Calls Try.prog 39 #[.int .i64 a] w fun e w' => ∃ rd rc, e = .returned (.tuple #[valV (kG a) rd (kN a) rc, .bool (inB a 0 2)]) ∧ OwnT w' w.heap.size rd (kL a) ∧ Keep w w' := by
  cases hb : inB a 0 2
  · have hn := inB_not.1 hb
    have h0 : a ≠ 0 := by omega
    have h1 : a ≠ 1 := by omega
    have h2 : a ≠ 2 := by omega
    rw [show kG a = 0 from by simp [kG, h0, h1, h2], show kN a = 0 from by simp [kN, h0, h1, h2], show kL a = [] from by simp [kL, h0, h1, h2]]
    go_enter Try.func39, Try.ntmps39
    go_wp2_with (go_at_call 68; refine (l00In_any _ _ _ _).mono ?_; rw [hb]; rintro e w' ⟨rfl, rfl⟩)
    refine bodyPost_ret (v := .tuple #[valV 0 none 0 0, .bool false]) (by simp [results, Try.results39, go_sem]) rfl ?_
    exact ⟨none, 0, rfl, OwnT.nil _ _, by go_grown⟩
  · have H := Lib.hid (fun W => l09Known_any a W hb)
    have HN := knl_len a
    generalize kG a = g at *
    generalize kN a = n at *
    generalize kL a = zs at *
    clear HN
    go_enter Try.func39, Try.ntmps39
    go_wp2_with (first | (go_at_call 68; refine (l00In_any _ _ _ _).mono ?_; rw [hb]; rintro e w' ⟨rfl, rfl⟩) | fail)
    refine (H.out _).mono ?_
    rintro e w1 ⟨rd, rc, rfl, o1, k1⟩
    obtain ⟨hc, hf⟩ := bcell k1
    have hk1 : Below w.heap.size w w1 := (Below.trans (by go_grown) (k1.mono (by first | (simp; done) | (simp; omega))))
    have hbl : ∀ k, rd = some ⟨k, 0, none⟩ → w.heap.size < k := fun k e => by
      rcases o1.2 with ⟨e2, _⟩ | ⟨g2, e2, h, _⟩
      · rw [e2] at e; cases e
      · rw [e2] at e; cases e; simp at h; omega
    have hown := o1.mono (B' := w.heap.size) (by first | (simp; done) | (simp; omega))
    have HO := Lib.hid hown; have HBL := Lib.hid hbl
    clear o1 hown hbl
    go_wp2
    refine bodyPost_ret (v := .tuple #[valV g rd n rc, .bool true]) (by simp [results, Try.results39, go_sem, hc]) rfl ?_
    refine ⟨rd, rc, rfl, ?_, (hk1.setCell (by simp) _).setCell (by simp) _⟩
    refine HO.out.wrote (F := fun j => j = w.heap.size) ⟨rfl, rfl, rfl, by simp, fun j hj hn => ?_⟩ (fun k hk hc => by have := HBL.out k hk; omega)
    rw [heap_setCell_other _ _ _ _ (by simpa using hn), heap_setCell_other _ _ _ _ (by simpa using hn)]
end Go.Proofs.Ytjoanfgchapbaaa
