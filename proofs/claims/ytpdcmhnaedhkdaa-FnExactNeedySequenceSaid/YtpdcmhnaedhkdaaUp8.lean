/- The needy sequence: the iterator over the products that are left, its rounds. -/
import Derived.RangeFuncBox
import Derived.RangeFuncNested
import Derived.RangeFuncLeaves
import Derived.Shelf.Abstract
import Derived.Shelf.RegionOpen
import Derived.BigRegionIn
import Derived.WalkKit
import Derived.OwnWalkIn
import Derived.TacticsInMore
import Derived.LoopNIn
import Derived.LoopIn
import Derived.Maps.AppendAt
import Derived.Test.YtpdcmhnaedhkdaaArr8
namespace Go.Proofs.Ytpdcmhnaedhkdaa
open Go.ChangeShapes Go.WideShapes Go.ChangeAt Go.RowKit Go.Shelf
set_option linter.unusedVariables false
attribute [local go_sem] Oper.semAt_some
/-- The products that are left among the first k. -/
def upN (g f : Nat → Int) (k : Nat) : List Nat := (List.range k).filter fun i => decide (f i + 1 ≤ g i)
theorem upN_succ (g f : Nat → Int) (k : Nat) : upN g f (k + 1) = if f k + 1 ≤ g k then upN g f k ++ [k] else upN g f k := by
  unfold upN
  rw [List.range_succ, List.filter_append]
  by_cases c : f k + 1 ≤ g k
  · rw [if_pos c, List.filter_cons_of_pos (by exact decide_eq_true c)]; rfl
  · rw [if_neg c, List.filter_cons_of_neg (by rw [decide_eq_false c]; exact Bool.false_ne_true)]; simp
theorem upN_len (g f : Nat → Int) (k : Nat) : (upN g f k).length ≤ k := by
  unfold upN
  have := List.length_filter_le (fun i => decide (f i + 1 ≤ g i)) (List.range k)
  simpa using this
/-- What a round keeps: old memory, and the two boxes of the iterator. -/
structure Ka (n₀ Bg Bm : Nat) (A B : World) : Prop where
  old : Below n₀ A B
  g : B.heap[Bg]? = A.heap[Bg]?
  m : B.heap[Bm]? = A.heap[Bm]?
theorem Ka.trans {n₀ Bg Bm : Nat} {A B C : World} (h : Ka n₀ Bg Bm A B) (k : Ka n₀ Bg Bm B C) : Ka n₀ Bg Bm A C := ⟨h.old.trans k.old, k.g.trans h.g, k.m.trans h.m⟩
theorem Ka.refl (n₀ Bg Bm : Nat) (A : World) : Ka n₀ Bg Bm A A := ⟨Below.refl _ _, rfl, rfl⟩
set_option maxRecDepth 100000 in
theorem six_index (f : Nat → Int) (i : Nat) (h : i < 6) (W : World) : (Instr.index 81 (.agg (six f)) (.int .i64 i)).run Try.prog W = .ok (.int .i64 (f i)) W := by
  have : i = 0 ∨ i = 1 ∨ i = 2 ∨ i = 3 ∨ i = 4 ∨ i = 5 := by omega
  rcases this with rfl | rfl | rfl | rfl | rfl | rfl <;> rfl
set_option maxRecDepth 100000 in
set_option maxHeartbeats 2000000 in
/-- upTo's closure, for every loop body that keeps what lay below n₀ and the two boxes. -/
theorem upTo1_in (F : Fence) (n : Nat) (h7 : F.fn 132) (hro : F.round = none) (hn : 1 ≤ n) (l Bg Bm n₀ : Nat) (f g : Nat → Int) (hf : ∀ i, i < 6 → 0 ≤ f i ∧ f i ≤ 260) (J Jx : List Nat → World → Prop) (hJg : ∀ s W W', J s W → W.grownBy W' none → J s W')
    (hY : ∀ pre (x : Nat) W, J pre W → pre.length < 6 → x < 6 → YieldAt F (n - 1) Try.prog l #[.int .i64 x, .agg (six (fun j => if j = x then f x + 1 else f j))] W fun e W' =>
      (e = .returned (.bool true) ∧ J (pre ++ [x]) W' ∧ Ka n₀ Bg Bm W W') ∨ (e = .returned (.bool false) ∧ Jx (pre ++ [x]) W'))
    (W : World) (hBg : Arr W Bg g) (hBm : Arr W Bm f) (hn0 : n₀ ≤ W.heap.size) (h0 : J [] W) :
    CallsIn F n Try.prog 132 #[.func (.yield l) #[] #[], .pointer (some ⟨Bg, 0, none⟩), .pointer (some ⟨Bm, 0, none⟩)] W fun e W' => (∃ v, e = .returned v) ∧
      ((∃ ys, ys = upN g f 6 ∧ J ys W') ∨ (∃ pre, (∃ k, k ≤ 6 ∧ pre = upN g f k) ∧ Jx pre W')) := by
  have hI := six_index g
  have hcg : ∀ W', W'.heap[Bg]? = W.heap[Bg]? → Arr W' Bg g := fun W' h => h.trans hBg
  refine callsIn_of_wp Try.func132 rfl h7 ?_ hro
  simp only [Try.ntmps132, List.size_toArray, List.length_cons, List.length_nil, Nat.reduceAdd, Nat.reduceSub, Array.replicate_succ, Array.replicate_zero, List.push_toArray, List.append_toArray, List.nil_append, List.cons_append]
  have c0 := hBg.cell 0 (by omega)
  have c1 := hBg.cell 1 (by omega)
  have c2 := hBg.cell 2 (by omega)
  have c3 := hBg.cell 3 (by omega)
  have c4 := hBg.cell 4 (by omega)
  have c5 := hBg.cell 5 (by omega)
  have HGL := Lib.hid hBg.lt
  have HML := Lib.hid hBm.lt
  gi_wp2
  clear c0 c1 c2 c3 c4 c5 hcg
  gi_loopw [4, 5, 6, 8] (fun _ _ _ i wr => ∃ k : Nat, k ≤ 6 ∧ i = .int .i64 k ∧ J (upN g f k) wr ∧ Ka n₀ Bg Bm W wr ∧ W.heap.size ≤ wr.heap.size) (fun _ _ _ i _ => 6 - (intOf i).toNat)
  case atStart => exact ⟨0, by omega, rfl, h0, Ka.refl _ _ _ _, Nat.le_refl _⟩
  case round =>
    obtain ⟨k, hk, rfl, hJs, hka, hsz⟩ := hrel
    by_cases hlt : k < 6
    · have hlti : (k : Int) < 6 := by omega
      have hix := fun W => hI k hlt W
      unfold six at hix
      have hBm2 : Arr wr Bm f := hka.m.trans hBm
      have d0 := hBm2.cell 0 (by omega)
      have d1 := hBm2.cell 1 (by omega)
      have d2 := hBm2.cell 2 (by omega)
      have d3 := hBm2.cell 3 (by omega)
      have d4 := hBm2.cell 4 (by omega)
      have d5 := hBm2.cell 5 (by omega)
      have A1 : Arr (wr.alloc (.cells #[.int .i64 (f 0), .int .i64 (f 1), .int .i64 (f 2), .int .i64 (f 3), .int .i64 (f 4), .int .i64 (f 5)] 81)) wr.heap.size f := heap_alloc_new wr _
      have n1 := A1.cell k hlt
      have n2 := A1.frozen k
      obtain ⟨F2, hF2⟩ : ∃ F2 : Nat → Int, F2 = fun j => if j = k then f k + 1 else f j := ⟨_, rfl⟩
      have hF2k : F2 k = f k + 1 := by rw [hF2]; simp
      have hLS : [Value.int .i64 (f 0), .int .i64 (f 1), .int .i64 (f 2), .int .i64 (f 3), .int .i64 (f 4), .int .i64 (f 5)].set k (.int .i64 (f k + 1)) = [.int .i64 (F2 0), .int .i64 (F2 1), .int .i64 (F2 2), .int .i64 (F2 3), .int .i64 (F2 4), .int .i64 (F2 5)] := by
        have h := congrArg Array.toList (six_set f k hlt (f k + 1))
        rw [← hF2, Array.toList_setIfInBounds] at h
        exact h
      have A2 : Arr (wr.alloc (.cells #[.int .i64 (F2 0), .int .i64 (F2 1), .int .i64 (F2 2), .int .i64 (F2 3), .int .i64 (F2 4), .int .i64 (F2 5)] 81)) wr.heap.size F2 := heap_alloc_new wr _
      have n3 := A2.cell k hlt
      rw [hF2k] at n3
      have e0 := A2.cell 0 (by omega)
      have e1 := A2.cell 1 (by omega)
      have e2 := A2.cell 2 (by omega)
      have e3 := A2.cell 3 (by omega)
      have e4 := A2.cell 4 (by omega)
      have e5 := A2.cell 5 (by omega)
      have hfk := hf k hlt
      have V1 : IntKind.i64.wrap (f k + 1) = f k + 1 := IntWalk.i64_in _ (by omega)
      have G5 : Keep wr (wr.alloc (.cells #[.int .i64 (F2 0), .int .i64 (F2 1), .int .i64 (F2 2), .int .i64 (F2 3), .int .i64 (F2 4), .int .i64 (F2 5)] 81)) := by go_grown
      have J5 := hJg _ _ _ hJs (show wr.grownBy (wr.alloc (.cells #[.int .i64 (F2 0), .int .i64 (F2 1), .int .i64 (F2 2), .int .i64 (F2 3), .int .i64 (F2 4), .int .i64 (F2 5)] 81)) none from ⟨G5.os, G5.tape, G5.output, G5.size, fun j hj _ => G5.block j hj⟩)
      have K5 : Ka n₀ Bg Bm W (wr.alloc (.cells #[.int .i64 (F2 0), .int .i64 (F2 1), .int .i64 (F2 2), .int .i64 (F2 3), .int .i64 (F2 4), .int .i64 (F2 5)] 81)) :=
        hka.trans ⟨G5.mono (by omega), G5.block Bg (by have := HGL.out; omega), G5.block Bm (by have := HML.out; omega)⟩
      have S5 : W.heap.size ≤ (wr.alloc (.cells #[.int .i64 (F2 0), .int .i64 (F2 1), .int .i64 (F2 2), .int .i64 (F2 3), .int .i64 (F2 4), .int .i64 (F2 5)] 81)).heap.size := by simp; omega
      by_cases hle : f k + 1 ≤ g k
      · have hYY := hY _ k _ J5 (by have := upN_len g f k; omega) hlt
        have HUP := Lib.hid (upN_succ g f k)
        rw [if_pos hle] at HUP
        rw [← hF2] at hYY
        unfold six at hYY
        obtain ⟨fn, tmps, assign, body, hy, hR⟩ := hYY
        have K6 := Lib.hid K5; have S6 := Lib.hid S5
        clear J5 K5 S5 G5 A1 A2 hJs hF2 hF2k hY hJg
        gi_wp2
        refine hR.mono ?_
        rintro e W3 (⟨rfl, hJ3, hk3⟩ | ⟨rfl, hJx3⟩)
        · have HK3 := Lib.hid (K6.out.trans hk3)
          have HJ3 := Lib.hid hJ3
          clear hk3 hJ3 hka
          gi_wp2
          go_roundw
          case rel => exact ⟨k + 1, by omega, by go_num, by rw [HUP.out]; exact HJ3.out, HK3.out, by have := HK3.out.old.size; omega⟩
          case measure => simp [intOf]; omega
        · gi_wp2
          refine bodyPost_ret (results_none rfl _ _ _) rfl ?_
          exact ⟨⟨_, rfl⟩, .inr ⟨_, ⟨k + 1, by omega, HUP.out.symm⟩, hJx3⟩⟩
      · have HUP := Lib.hid (upN_succ g f k)
        rw [if_neg hle] at HUP
        have J6 := Lib.hid J5; have K6 := Lib.hid K5; have S6 := Lib.hid S5
        clear J5 K5 S5 G5 A1 A2 hka hJs hF2 hF2k hY hJg
        gi_wp2
        refine ⟨fun _ h => (by cases h), ?_⟩
        gi_wp2
        go_roundw
        case rel => exact ⟨k + 1, by omega, by go_num, by rw [HUP.out]; exact J6.out, K6.out, S6.out⟩
        case measure => simp [intOf]; omega
    · obtain rfl : k = 6 := by omega
      gi_wp2
      go_end0
      exact ⟨⟨_, rfl⟩, .inl ⟨_, rfl, hJs⟩⟩
end Go.Proofs.Ytpdcmhnaedhkdaa
