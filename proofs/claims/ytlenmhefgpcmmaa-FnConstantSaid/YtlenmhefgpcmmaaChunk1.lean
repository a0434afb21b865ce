/- Sums of blocks: the library's iterator over the blocks of a slice, its rounds. -/
import Derived.RangeFuncBox
import Derived.RangeFuncNested
import Derived.RangeFuncLeaves
import Derived.Shelf.Abstract
import Derived.Shelf.RegionOpen
import Derived.BigRegionIn
import Derived.WalkKit
import Derived.OwnWalkIn
import Derived.TacticsInMore
import Derived.LoopNIn
import Derived.LoopIn
import Derived.Maps.AppendAt
import Derived.Test.YtlenmhefgpcmmaaVals
import Derived.Test.YtlenmhefgpcmmaaTot
namespace Go.Proofs.Ytlenmhefgpcmmaa
open Go.ChangeShapes Go.WideShapes Go.ChangeAt Go.RowKit Go.Shelf
set_option linter.unusedVariables false
attribute [local go_sem] Oper.semAt_some
/-- What has come when k rounds are over. -/
def upto {α : Type} (f : Nat → α) (k : Nat) : List α := (List.range k).map f
theorem upto_succ {α : Type} (f : Nat → α) (k : Nat) : upto f (k + 1) = upto f k ++ [f k] := by simp [upto, List.range_succ]
theorem upto_length {α : Type} (f : Nat → α) (k : Nat) : (upto f k).length = k := by simp [upto]
/-- What a round keeps: old memory, and the two boxes of the iterator. -/
structure Kc (n₀ Bs Bn : Nat) (A B : World) : Prop where
  old : Below n₀ A B
  s : B.cell? ⟨Bs, 0, none⟩ = A.cell? ⟨Bs, 0, none⟩
  n : B.cell? ⟨Bn, 0, none⟩ = A.cell? ⟨Bn, 0, none⟩
theorem Kc.trans {n₀ Bs Bn : Nat} {A B C : World} (h : Kc n₀ Bs Bn A B) (k : Kc n₀ Bs Bn B C) : Kc n₀ Bs Bn A C := ⟨h.old.trans k.old, k.s.trans h.s, k.n.trans h.n⟩
theorem Kc.refl (n₀ Bs Bn : Nat) (A : World) : Kc n₀ Bs Bn A A := ⟨Below.refl _ _, rfl, rfl⟩
theorem Kc.drew {n₀ Bs Bn : Nat} {A B : World} (h : Kc n₀ Bs Bn A B) : Kc n₀ Bs Bn A B.drew := ⟨h.old.drew, h.s, h.n⟩
theorem Kc.put {n₀ Bs Bn : Nat} {w : World} (hn : n₀ ≤ w.heap.size) (hs : Bs < w.heap.size) (hb : Bn < w.heap.size) (W : World) (l : Nat) (o o' : Obj) (hl : w.heap.size ≤ l) (h : W.heap[l]? = some o) (h1 : o.isCells = false) (h2 : o.isWalk = false) : Kc n₀ Bs Bn W (W.putObj l o') := by
  have hg := grownBy_putObj' W l o'
  have hlt := (Array.getElem?_eq_some_iff.1 h).1
  exact ⟨belowK_b hn W l o o' hl h h1 h2, World.cell?_of_block (hg.block Bs (by omega) (fun e => by cases e; omega)), World.cell?_of_block (hg.block Bn (by omega) (fun e => by cases e; omega))⟩
set_option maxRecDepth 100000 in
set_option maxHeartbeats 2000000 in
/-- slices.Chunk's closure, at a slice whose length is a multiple of the blocks' length, for every loop body that keeps what lay below n₀. -/
theorem chunk1_in (F : Fence) (n : Nat) (h7 : F.fn 62) (hro : F.round = none) (hn : 1 ≤ n) (l Bs Bn n₀ b off m q cap : Nat) (hm : 1 ≤ m) (hm2 : m ≤ 40) (hq : q * m ≤ 40) (hcap : q * m ≤ cap) (J Jx : List Nat → World → Prop) (hJd : ∀ s W, J s W → J s W.drew)
    (hY : ∀ pre x W, J pre W → pre.length < q → x < q → YieldAt F (n - 1) Try.prog l #[.slice (some ⟨b, off + x * m, none⟩) m m] W fun e W' =>
      (e = .returned (.bool true) ∧ J (pre ++ [x]) W' ∧ Kc n₀ Bs Bn W W') ∨ (e = .returned (.bool false) ∧ Jx (pre ++ [x]) W'))
    (W : World) (hBs : W.cell? ⟨Bs, 0, none⟩ = some (.slice (some ⟨b, off, none⟩) (q * m) cap)) (hBn : W.cell? ⟨Bn, 0, none⟩ = some (.int .i64 m)) (h0 : J [] W) :
    CallsIn F n Try.prog 62 #[.func (.yield l) #[] #[], .pointer (some ⟨Bs, 0, none⟩), .pointer (some ⟨Bn, 0, none⟩)] W fun e W' => (∃ v, e = .returned v) ∧
      ((∃ ys, ys = upto (fun j => j) q ∧ J ys W') ∨ (∃ pre, (∃ k, k ≤ q ∧ pre = upto (fun j => j) k) ∧ Jx pre W')) := by
  refine callsIn_of_wp Try.func62 rfl h7 ?_ hro
  simp only [Try.ntmps62, List.size_toArray, List.length_cons, List.length_nil, Nat.reduceAdd, Nat.reduceSub, Array.replicate_succ, Array.replicate_zero, List.push_toArray, List.append_toArray, List.nil_append, List.cons_append]
  gi_wp2
  gi_loopw [4] (fun i wr => ∃ k : Nat, k ≤ q ∧ i = .int .i64 ((k * m : Nat) : Int) ∧ J (upto (fun j => j) k) wr ∧ Kc n₀ Bs Bn W wr)
    (fun i _ => q * m - (intOf i).toNat)
  case atStart => exact ⟨0, Nat.zero_le _, by simp, h0, Kc.refl _ _ _ _⟩
  case round =>
    obtain ⟨k, hk, rfl, hJs, hnx⟩ := hrel
    have c1 : wr.cell? ⟨Bs, 0, none⟩ = some (.slice (some ⟨b, off, none⟩) (q * m) cap) := hnx.s.trans hBs
    have c2 : wr.cell? ⟨Bn, 0, none⟩ = some (.int .i64 m) := hnx.n.trans hBn
    by_cases hlt : k < q
    · obtain ⟨fn, tmps, assign, body, hy, hR⟩ := hY _ k wr.drew (hJd _ _ hJs) (by rw [upto_length]; exact hlt) hlt
      have hkm : k * m + m ≤ q * m := by have := Nat.mul_le_mul_right m (show k + 1 ≤ q from hlt); rw [Nat.succ_mul] at this; exact this
      have hi : ((k * m : Nat) : Int) < ((q * m : Nat) : Int) := by omega
      have hi2 : (k * m : Nat) ≤ q * m := by omega
      have hi3 : (k * m : Nat) ≤ cap := by omega
      gi_wp2
      gi_region
      all_goals gi_wp2
      all_goals refine hR.mono ?_
      all_goals rintro e W3 (⟨rfl, hJ3, hk3⟩ | ⟨rfl, hJx3⟩)
      all_goals first
        | (have hn3 : Kc n₀ Bs Bn W W3 := (hnx.drew).trans hk3
           have d2 : W3.cell? ⟨Bn, 0, none⟩ = some (.int .i64 m) := hn3.n.trans hBn
           gi_wp2
           go_roundw
           case rel => exact ⟨k + 1, by omega, by rw [Nat.succ_mul]; simp, by rw [upto_succ]; exact hJ3, hn3⟩
           case measure => simp [intOf]; omega)
        | (gi_wp2
           refine bodyPost_ret (results_none rfl _ _ _) rfl ?_
           exact ⟨⟨_, rfl⟩, .inr ⟨_, ⟨k + 1, by omega, (upto_succ _ _).symm⟩, hJx3⟩⟩)
    · obtain rfl : k = q := by omega
      gi_wp2
      go_end0
      exact ⟨⟨_, rfl⟩, .inl ⟨_, rfl, hJs⟩⟩
end Go.Proofs.Ytlenmhefgpcmmaa
