/- slices.Values at int64, its rounds; slices.Collect of it. -/
import Derived.RangeFuncBox
import Derived.RangeFuncNested
import Derived.RangeFuncLeaves
import Derived.Shelf.Abstract
import Derived.Shelf.RegionOpen
import Derived.BigRegionIn
import Derived.WalkKit
import Derived.OwnWalkIn
import Derived.TacticsInMore
import Derived.LoopNIn
import Derived.LoopIn
import Derived.Maps.AppendAt
import Derived.Test.YtjoanfgchapbaaaMem
namespace Go.Proofs.Ytjoanfgchapbaaa
open Go.ChangeShapes Go.WideShapes Go.ChangeAt Go.RowKit Go.Shelf
set_option linter.unusedVariables false
attribute [local go_sem] Oper.semAt_some
set_option maxRecDepth 100000 in
set_option maxHeartbeats 2000000 in
/-- slices.Values' closure, for every loop body that keeps what lay below n₀. -/
theorem valuesI_in (F : Fence) (n : Nat) (h7 : F.fn 123) (hro : F.round = none) (hn : 1 ≤ n) (l Bs n₀ cap : Nat) (ad : Option Addr) (zs : List Int) (J Jx : List Int → World → Prop)
    (hY : ∀ pre x W, J pre W → pre.length < zs.length → YieldAt F (n - 1) Try.prog l #[.int .i64 x] W fun e W' =>
      (e = .returned (.bool true) ∧ J (pre ++ [x]) W' ∧ Below n₀ W W') ∨ (e = .returned (.bool false) ∧ Jx (pre ++ [x]) W'))
    (W : World) (hBs : W.cell? ⟨Bs, 0, none⟩ = some (.slice ad zs.length cap)) (hz : zs = [] ∨ ∃ b off, ad = some ⟨b, off, none⟩ ∧ b < n₀ ∧ ∀ i, i < zs.length → W.cell? ⟨b, off + i, none⟩ = some (.int .i64 (zs.getD i 0))) (hsm : zs.length ≤ 9223372036854775807) (h0 : J [] W) :
    CallsIn F n Try.prog 123 #[.func (.yield l) #[] #[], .pointer (some ⟨Bs, 0, none⟩)] W fun e W' => (∃ v, e = .returned v) ∧
      ((∃ ys, ys = zs ∧ J ys W') ∨ (∃ pre, (∃ k, k ≤ zs.length ∧ pre = zs.take k) ∧ Jx pre W')) := by
  refine callsIn_of_wp Try.func123 rfl h7 ?_ hro
  simp only [Try.ntmps123, List.size_toArray, List.length_cons, List.length_nil, Nat.reduceAdd, Nat.reduceSub, Array.replicate_succ, Array.replicate_zero, List.push_toArray, List.append_toArray, List.nil_append, List.cons_append]
  gi_wp2
  gi_loopw [4, 7] (fun _ i wr => ∃ k : Nat, k ≤ zs.length ∧ i = .int .i64 k ∧ J (zs.take k) wr ∧ Below n₀ W wr)
    (fun _ i _ => zs.length - (intOf i).toNat)
  case atStart => exact ⟨0, Nat.zero_le _, rfl, by simpa using h0, Below.refl _ _⟩
  case round =>
    obtain ⟨k, hk, rfl, hJs, hnx⟩ := hrel
    by_cases hlt : k < zs.length
    · rcases hz with h | ⟨b, off, rfl, hb, hc⟩
      · subst h; simp at hlt
      have hcx : wr.cell? ⟨b, off + k, none⟩ = some (.int .i64 (zs.getD k 0)) := (hnx.cell (by exact hb)).trans (hc k hlt)
      have hT : zs.take (k + 1) = zs.take k ++ [zs.getD k 0] := take_succ_getD zs k hlt
      obtain ⟨fn, tmps, assign, body, hy, hR⟩ := hY _ (zs.getD k 0) wr hJs (by rw [List.length_take]; omega)
      have HT := Lib.hid hT; clear hT hc
      generalize zs.getD k 0 = x at *
      gi_wp2
      refine hR.mono ?_
      rintro e W3 (⟨rfl, hJ3, hk3⟩ | ⟨rfl, hJx3⟩)
      · gi_wp2
        go_roundw
        case rel => exact ⟨k + 1, by omega, by go_num, by rw [HT.out]; exact hJ3, hnx.trans hk3⟩
        case measure => simp [intOf]; omega
      · gi_wp2
        refine bodyPost_ret (results_none rfl _ _ _) rfl ?_
        exact ⟨⟨_, rfl⟩, .inr ⟨_, ⟨k + 1, by omega, HT.out.symm⟩, hJx3⟩⟩
    · have HE := Lib.hid (show k = zs.length by omega)
      gi_wp2
      go_end0
      exact ⟨⟨_, rfl⟩, .inl ⟨_, rfl, by have h := hJs; rw [HE.out, List.take_length] at h; exact h⟩⟩
theorem valuesI_stops (F : Fence) (n : Nat) (h7 : F.fn 123) (hro : F.round = none) (hn : 1 ≤ n) (Bs cap : Nat) (ad : Option Addr) (zs : List Int) (w : World) (hBs : w.cell? ⟨Bs, 0, none⟩ = some (.slice ad zs.length cap)) (n₀ : Nat) (hn₀ : n₀ ≤ w.heap.size) (hz : zs = [] ∨ ∃ b off, ad = some ⟨b, off, none⟩ ∧ b < n₀ ∧ ∀ i, i < zs.length → w.cell? ⟨b, off + i, none⟩ = some (.int .i64 (zs.getD i 0))) (hsm : zs.length ≤ 9223372036854775807) :
    SeqStopsK F n Try.prog 123 #[.pointer (some ⟨Bs, 0, none⟩)] (fun x : Int => #[Value.int .i64 x]) (Below n₀) (fun ys => ys = zs) (fun pre => ∃ k, k ≤ zs.length ∧ pre = zs.take k) zs.length w := fun l J Jx W hW hJ _ hY h0 =>
  valuesI_in F n h7 hro hn l Bs n₀ cap ad zs J Jx (fun pre x W h1 h2 => hY pre x W h1 h2) W ((hW.cell (p := ⟨Bs, 0, none⟩) (World.block_lt_of_cell? _ _ hBs)).trans hBs) (by
    rcases hz with h | ⟨b, off, h1, h2, h3⟩
    · exact .inl h
    · exact .inr ⟨b, off, h1, h2, fun i hi => (hW.cell (p := ⟨b, off + i, none⟩) (by show b < _; omega)).trans (h3 i hi)⟩) hsm h0
theorem listIn_append_run {F : Fence} {n : Nat} {P : Program} {ops : Array Oper} {rest : List Oper} {o : Oper} {a : Act} {w : World} {Q : Exit → Act → World → Prop} (hgd : o.guard = none) (s x : Operand) (t : TypeId)
    (hop : o.op = .call { callee := .builtin .append, args := #[s, x], argTypes := #[t, t] }) (sv xv : Value) (ty : TypeId) (hs : a.eval s = sv) (hx : a.eval x = xv) (hty : o.type = ty) (r : Value) (w1 : World) (hrun : (Builtin.append_ #[t, t] ty #[sv, xv]).run P w = .ok r w1) (h : wpListIn F n P ops Q rest (a.put o.dst r) w1) :
    wpListIn F n P ops Q (o :: rest) a w := by
  subst hs hx hty
  refine wpListIn_plain hgd fun K hK => ?_
  unfold Oper.wpIn
  refine ⟨?_, ?_⟩
  · simp [Oper.about, hop, resolve, Target.leads, Sem.run_pure]
  · rw [Oper.semAt_plain F _ _ (by rw [hop]; intro c hc'; cases hc')]
    simp [execOp, hop, resolve, invoke, builtin, hrun, Result.andThen]
    exact hK _ _ h
attribute [local go_sem] Oper.semAt_some
set_option maxRecDepth 100000 in
set_option maxHeartbeats 2000000 in
theorem AppendSeqV_in (ad : Option Addr) (cap Bs : Nat) (zs : List Int) (w : World) (hz : Ints w ad zs) (hBs : w.cell? ⟨Bs, 0, none⟩ = some (.slice ad zs.length cap)) (hl : zs.length ≤ 1048576) :
    CallsIn Fence.wide 4 Try.prog 125 #[.slice none 0 0, .func (.func 123) #[] #[.pointer (some ⟨Bs, 0, none⟩)]] w fun e w' =>
      ∃ rd rc, e = .returned (.slice rd zs.length rc) ∧ Own w' w.heap.size rd rc zs ∧ Keep w w' := by
  obtain ⟨i0, hi, hz0, hz1, hz2⟩ := info_parts Try.infoI
  have hBlt : Bs < w.heap.size := World.block_lt_of_cell? _ _ hBs
  refine callsIn_of_wp_marks Try.func125 rfl trivial ?_ rfl
  simp only [Try.ntmps125, List.size_toArray, List.length_cons, List.length_nil, Nat.reduceAdd, Nat.reduceSub, Array.replicate_succ, Array.replicate_zero, List.push_toArray, List.append_toArray, List.nil_append, List.cons_append]
  gi_wp2
  have bO := Go.Boxed.new w 69 (.slice none 0 0)
  have hB0 : Keep w (w.alloc (.cells #[.slice none 0 0] 69)) := by go_grown
  have hsz : (w.alloc (.cells #[.slice none 0 0] 69)).heap.size = w.heap.size + 1 := by simp
  have hc1 : (w.alloc (.cells #[.slice none 0 0] 69)).cell? ⟨Bs, 0, none⟩ = some (.slice ad zs.length cap) := (hB0.cell (p := ⟨Bs, 0, none⟩) hBlt).trans hBs
  have hat : zs = [] ∨ ∃ b off, ad = some ⟨b, off, none⟩ ∧ b < w.heap.size ∧ ∀ i, i < zs.length → (w.alloc (.cells #[.slice none 0 0] 69)).cell? ⟨b, off + i, none⟩ = some (.int .i64 (zs.getD i 0)) := by
    rcases hz.at_ with h | ⟨b, off, h1, h2, h3⟩
    · exact .inl h
    · exact .inr ⟨b, off, h1, h2, fun i hi => (hB0.cell (p := ⟨b, off + i, none⟩) (by exact h2)).trans (h3 i hi)⟩
  generalize hw3 : w.alloc (.cells #[.slice none 0 0] 69) = w3 at *
  refine wpIn_rangeFunc_ownG rfl (by omega) (gf := 123) (lb := #[.pointer (some ⟨Bs, 0, none⟩)]) rfl trivial (enters_of Try.func123 (by kernel_rfl) rfl)
    (valuesI_stops Fence.wide 3 trivial rfl (by omega) Bs cap ad zs w3 hc1 w.heap.size (by rw [hsz]; omega) hat hz.small) Below.trans (fun W l o o' h1 h2 h3 h4 => belowK_b (n₀ := w.heap.size) (w := w3) (by rw [hsz]; omega) W l o o' h1 h2 h3 h4) (Below.refl _ _) (fun _ => rfl)
    (fun pre W => (∃ v, Go.Boxed W w.heap.size 69 v ∧ W.ownsRow w.heap.size 2 1 v pre.length (vals pre) ∧ True) ∧ Below w.heap.size w W)
    (fun _ _ _ => False)
    (OwnFrom.and (Go.Own.from (holdsRow_own w.heap.size w.heap.size 69 2 1 (fun pre : List Int => pre.length) (fun pre : List Int => vals pre) (fun _ _ => True)) _) (ownFrom_below (Nat.le_refl _) (by omega)))
    (fun _ _ _ _ _ hs _ _ => hs)
    ⟨⟨_, bO, World.ownsRow_nil _ _ _ _, trivial⟩, hB0⟩
    (fun x => { tmps := #[.slice none 0 0, .func (.func 123) #[] #[.pointer (some ⟨Bs, 0, none⟩)], .pointer (some ⟨w.heap.size, 0, none⟩), undef, .slice none 0 0, .int .i64 x, .func (.func 123) #[] #[.pointer (some ⟨Bs, 0, none⟩)], .int .i64 x, undef, undef, undef, undef, undef], defers := [] }) ?assign ?body ?done ?stop
  case assign =>
    intro l x W K hK
    gi_wp2
    exact hK
  case body =>
    rintro l pre x W ⟨⟨v, hv, hrow, _⟩, hB⟩ hlt
    have hc := hv.cell
    have hf := hv.frozen
    have hws := hB.size
    obtain ⟨g', cap', w1, hrun, hown', hgrow, _, _⟩ := run_append_lies (P := Try.prog) (W.alloc (.cells #[.int .i64 x] 2)) 69 69 w.heap.size 2 i0 (.int .i64 0) 1 8 Try.underlying69 hi hz0 hz1 hz2 rfl (by decide) v pre.length (vals pre) (hrow.alloc _) ⟨W.heap.size, 0, none⟩ 1 1 [.int .i64 x] rfl (cell_one_new W _ _) (by simp [Value.oneCell']) (by omega) (by unfold maxLen; omega) (by omega) (by simp; omega) _ rfl
    obtain ⟨hv1, hv2, hr2, hk2, hb2⟩ := hv.appended (by decide) hrow hws (Nat.le_refl _) hown' hgrow
    have hc1 := hv1.cell
    have hf1 := hv1.frozen
    have HV := Lib.hid hv2; have HR := Lib.hid hr2; have HK := Lib.hid hk2; have HB2 := Lib.hid hb2
    clear hv1 hv2 hr2 hk2 hb2 hrow hown' hgrow hv
    gi_wp2_with (refine listIn_append_run rfl (.tmp 8) (.tmp 10) 69 rfl v (.slice (some ⟨W.heap.size, 0, none⟩) 1 1) 69 (by rfl) (by rfl) (by rfl) (.slice (some ⟨g', 0, none⟩) (pre.length + 1) cap') w1 hrun ?_)
    exact ⟨HK.out.from _, HB2.out, ⟨_, HV.out, by rw [show vals (pre ++ [x]) = vals pre ++ [.int .i64 x] from by simp [vals], List.length_append]; exact HR.out, trivial⟩, hB.trans HB2.out⟩
  case done =>
    rintro D ys W hD rfl ⟨⟨v, hv, hrow, _⟩, hB⟩ hK
    have hc := hv.cell
    gi_wp2
    refine ⟨by simp, .inl ⟨_, _, rfl, run_takeDeferred hK, ?_⟩⟩
    have hrow2 := fun o' => ownsRow_putObj hrow o' hK rfl
    have hB2 := fun o' => hB.trans (belowK_b (w := w) (Nat.le_refl _) W D _ o' (by omega) hK rfl rfl)
    rcases hrow.2 with ⟨h0, h1⟩ | ⟨gg, cp, cur, h0, _⟩
    · subst h0
      exact ⟨_, results_tmp rfl _ _ _, none, 0, by rw [h1]; rfl, ⟨by have h := hrow2 (.deferred none); rw [h1] at h ⊢; exact h, by omega, hz.wf⟩, hB2 _⟩
    · subst h0
      exact ⟨_, results_tmp rfl _ _ _, some ⟨gg, 0, none⟩, cp, rfl, ⟨hrow2 _, by omega, hz.wf⟩, hB2 _⟩
  case stop =>
    rintro D c pre W _ _ h _
    exact h.elim
end Go.Proofs.Ytjoanfgchapbaaa
