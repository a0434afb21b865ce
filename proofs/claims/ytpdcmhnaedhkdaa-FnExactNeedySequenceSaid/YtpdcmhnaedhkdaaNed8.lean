/- The needy sequence: the program's. -/
import Derived.Test.YtpdcmhnaedhkdaaUp8
import Derived.Test.YtpdcmhnaedhkdaaRgB
import Derived.Test.YtpdcmhnaedhkdaaNc8
import Derived.Test.YtpdcmhnaedhkdaaDevI8
import Derived.Deep.DeepCutAuto
import Derived.Deep.RegionHeld3
import Derived.Test.YtpdcmhnaedhkdaaUp8s
import Derived.Test.YtpdcmhnaedhkdaaHold
import Derived.ControlIn
import Derived.Deep.QuietTactic
namespace Go.Proofs.Ytpdcmhnaedhkdaa
open Go.ChangeShapes Go.WideShapes Go.ChangeAt Go.RowKit Go.Shelf
set_option linter.unusedVariables false
attribute [local go_sem] Oper.semAt_some
set_option maxRecDepth 100000 in
set_option maxHeartbeats 2000000 in
/-- made.upTo(goal)'s value gives the products that are left, in order. -/
theorem upTo_up (F : Fence) (n : Nat) (h7 : F.fn 132) (hro : F.round = none) (hn : 1 ≤ n) (Bg Bm n₀ : Nat) (f g : Nat → Int) (hf : ∀ i, i < 6 → 0 ≤ f i ∧ f i ≤ 260) (w : World) (hBg0 : Arr w Bg g) (hBm0 : Arr w Bm f) (hn00 : n₀ ≤ w.heap.size) :
    SeqUp F n Try.prog 132 (fun y => #[] ++ #[y] ++ #[.pointer (some ⟨Bg, 0, none⟩), .pointer (some ⟨Bm, 0, none⟩)]) (fun x : Nat => #[Value.int .i64 x, .agg (six (fun j => if j = x then f x + 1 else f j))]) (fun t => decide (f t + 1 ≤ g t)) 6 (Ka n₀ Bg Bm) w := by
  intro l J W hW hJa hskip hY h0
  have hBg := hBg0.keep hW hBg0.lt
  have hBm := hBm0.keep hW hBm0.lt
  have hn0 := Nat.le_trans hn00 hW.size
  clear hBg0 hBm0 hn00 hW
  have hI := six_index g
  have hcg : ∀ W', W'.heap[Bg]? = W.heap[Bg]? → Arr W' Bg g := fun W' h => h.trans hBg
  refine callsIn_of_wp Try.func132 rfl h7 ?_ hro
  simp only [Try.ntmps132, List.size_toArray, List.length_cons, List.length_nil, Nat.reduceAdd, Nat.reduceSub, Array.replicate_succ, Array.replicate_zero, List.push_toArray, List.append_toArray, List.nil_append, List.cons_append]
  have c0 := hBg.cell 0 (by omega)
  have c1 := hBg.cell 1 (by omega)
  have c2 := hBg.cell 2 (by omega)
  have c3 := hBg.cell 3 (by omega)
  have c4 := hBg.cell 4 (by omega)
  have c5 := hBg.cell 5 (by omega)
  have HGL := Lib.hid hBg.lt
  have HML := Lib.hid hBm.lt
  gi_wp2
  clear c0 c1 c2 c3 c4 c5 hcg
  gi_loopw [4, 5, 6, 8] (fun _ _ _ i wr => ∃ k : Nat, k ≤ 6 ∧ i = .int .i64 k ∧ J k wr ∧ Ka n₀ Bg Bm W wr ∧ W.heap.size ≤ wr.heap.size) (fun _ _ _ i _ => 6 - (intOf i).toNat)
  case atStart => exact ⟨0, by omega, rfl, h0, Ka.refl _ _ _ _, Nat.le_refl _⟩
  case round =>
    obtain ⟨k, hk, rfl, hJs, hka, hsz⟩ := hrel
    by_cases hlt : k < 6
    · have hlti : (k : Int) < 6 := by omega
      have hix := fun W => hI k hlt W
      unfold six at hix
      have hBm2 : Arr wr Bm f := hka.m.trans hBm
      have d0 := hBm2.cell 0 (by omega)
      have d1 := hBm2.cell 1 (by omega)
      have d2 := hBm2.cell 2 (by omega)
      have d3 := hBm2.cell 3 (by omega)
      have d4 := hBm2.cell 4 (by omega)
      have d5 := hBm2.cell 5 (by omega)
      have A1 : Arr (wr.alloc (.cells #[.int .i64 (f 0), .int .i64 (f 1), .int .i64 (f 2), .int .i64 (f 3), .int .i64 (f 4), .int .i64 (f 5)] 81)) wr.heap.size f := heap_alloc_new wr _
      have n1 := A1.cell k hlt
      have n2 := A1.frozen k
      obtain ⟨F2, hF2⟩ : ∃ F2 : Nat → Int, F2 = fun j => if j = k then f k + 1 else f j := ⟨_, rfl⟩
      have hF2k : F2 k = f k + 1 := by rw [hF2]; simp
      have hLS : [Value.int .i64 (f 0), .int .i64 (f 1), .int .i64 (f 2), .int .i64 (f 3), .int .i64 (f 4), .int .i64 (f 5)].set k (.int .i64 (f k + 1)) = [.int .i64 (F2 0), .int .i64 (F2 1), .int .i64 (F2 2), .int .i64 (F2 3), .int .i64 (F2 4), .int .i64 (F2 5)] := by
        have h := congrArg Array.toList (six_set f k hlt (f k + 1))
        rw [← hF2, Array.toList_setIfInBounds] at h
        exact h
      have A2 : Arr (wr.alloc (.cells #[.int .i64 (F2 0), .int .i64 (F2 1), .int .i64 (F2 2), .int .i64 (F2 3), .int .i64 (F2 4), .int .i64 (F2 5)] 81)) wr.heap.size F2 := heap_alloc_new wr _
      have n3 := A2.cell k hlt
      rw [hF2k] at n3
      have e0 := A2.cell 0 (by omega)
      have e1 := A2.cell 1 (by omega)
      have e2 := A2.cell 2 (by omega)
      have e3 := A2.cell 3 (by omega)
      have e4 := A2.cell 4 (by omega)
      have e5 := A2.cell 5 (by omega)
      have hfk := hf k hlt
      have V1 : IntKind.i64.wrap (f k + 1) = f k + 1 := IntWalk.i64_in _ (by omega)
      have G5 : Keep wr (wr.alloc (.cells #[.int .i64 (F2 0), .int .i64 (F2 1), .int .i64 (F2 2), .int .i64 (F2 3), .int .i64 (F2 4), .int .i64 (F2 5)] 81)) := by go_grown
      have J5 := hJa _ _ _ none hJs (show wr.grownBy (wr.alloc (.cells #[.int .i64 (F2 0), .int .i64 (F2 1), .int .i64 (F2 2), .int .i64 (F2 3), .int .i64 (F2 4), .int .i64 (F2 5)] 81)) none from ⟨G5.os, G5.tape, G5.output, G5.size, fun j hj _ => G5.block j hj⟩) (fun r e => by cases e)
      have K5 : Ka n₀ Bg Bm W (wr.alloc (.cells #[.int .i64 (F2 0), .int .i64 (F2 1), .int .i64 (F2 2), .int .i64 (F2 3), .int .i64 (F2 4), .int .i64 (F2 5)] 81)) :=
        hka.trans ⟨G5.mono (by omega), G5.block Bg (by have := HGL.out; omega), G5.block Bm (by have := HML.out; omega)⟩
      have S5 : W.heap.size ≤ (wr.alloc (.cells #[.int .i64 (F2 0), .int .i64 (F2 1), .int .i64 (F2 2), .int .i64 (F2 3), .int .i64 (F2 4), .int .i64 (F2 5)] 81)).heap.size := by simp; omega
      by_cases hle : f k + 1 ≤ g k
      · have hYY := hY k _ hlt (decide_eq_true hle) J5
        rw [← hF2] at hYY
        unfold six at hYY
        obtain ⟨fn, tmps, assign, body, hy, hR⟩ := hYY
        have K6 := Lib.hid K5; have S6 := Lib.hid S5
        clear J5 K5 S5 G5 A1 A2 hJs hF2 hF2k hY hskip hJa
        gi_wp2
        refine hR.mono ?_
        rintro e W3 ⟨rfl, hJ3, hk3⟩
        have HK3 := Lib.hid (K6.out.trans hk3)
        have HJ3 := Lib.hid hJ3
        clear hk3 hJ3 hka
        gi_wp2
        go_roundw
        case rel => exact ⟨k + 1, by omega, by go_num, HJ3.out, HK3.out, by have := HK3.out.old.size; omega⟩
        case measure => simp [intOf]; omega
      · have J6 := Lib.hid (hskip k _ hlt (decide_eq_false hle) J5); have K6 := Lib.hid K5; have S6 := Lib.hid S5
        clear J5 K5 S5 G5 A1 A2 hka hJs hF2 hF2k hY hskip hJa
        gi_wp2
        refine ⟨fun _ h => (by cases h), ?_⟩
        gi_wp2
        go_roundw
        case rel => exact ⟨k + 1, by omega, by go_num, J6.out, K6.out, S6.out⟩
        case measure => simp [intOf]; omega
    · obtain rfl : k = 6 := by omega
      gi_wp2
      go_end0
      exact ⟨⟨_, rfl⟩, hJs⟩
/-- The boxes of a search for the product that is needed most. -/
structure NdB (U : World) (B ob db bg bm : Nat) (v dv : Value) (f g : Nat → Int) (L : List Int) : Prop where
  o : Go.Boxed U ob 22 v
  r : U.ownsRow B 2 1 v L.length (vals L)
  d : Go.Boxed U db 22 dv
  g : Arr U bg g
  m : Arr U bm f
theorem Arr.not_row {U : World} {b B n : Nat} {v : Value} {f : Nat → Int} {xs : List Value} (h : Arr U b f) (r : U.ownsRow B 2 1 v n xs) : some b ≠ v.ownBlock := by
  rcases r.2 with ⟨rfl, _⟩ | ⟨g, cap, cur, rfl, _, hg, _⟩
  · simp [Value.ownBlock]
  · intro e
    simp [Value.ownBlock] at e
    subst e
    unfold Arr at h
    rw [h] at hg
    cases hg
theorem Arr.stay {U V : World} {b ob : Nat} {v : Value} {f : Nat → Int} {x : Value} (h : Arr U b f) (o : Obj) (hgrow : (U.alloc o).grownBy V v.ownBlock) (hn : some b ≠ v.ownBlock) (hb : b ≠ ob) : Arr (V.setCell ⟨ob, 0, none⟩ x) b f := by
  unfold Arr
  rw [heap_setCell_other V ⟨ob, 0, none⟩ b x hb, hgrow.block b (by have := h.lt; simp; omega) hn]
  exact (Below.heap_alloc U o b h.lt).trans h
theorem NdB.app {U : World} {B ob db bg bm : Nat} {v dv : Value} {f g0 : Nat → Int} {L : List Int} (h : NdB U B ob db bg bm v dv f g0 L) (t : Int) (hB : B ≤ U.heap.size) (hf : B ≤ ob) (n1 : ob ≠ db) (n2 : bg ≠ ob) (n3 : bm ≠ ob) (hl : L.length < 1099511627776) :
    ∃ g cap w1, (Builtin.append_ #[22, 22] 22 #[v, .slice (some ⟨U.heap.size, 0, none⟩) 1 1]).run Try.prog (U.alloc (.cells #[.int .i64 t] 2)) = .ok (.slice (some ⟨g, 0, none⟩) (L.length + 1) cap) w1 ∧
      w1.cell? ⟨ob, 0, none⟩ = some v ∧ w1.frozen? ⟨ob, 0, none⟩ = false ∧
      NdB (w1.setCell ⟨ob, 0, none⟩ (.slice (some ⟨g, 0, none⟩) (L.length + 1) cap)) B ob db bg bm (.slice (some ⟨g, 0, none⟩) (L.length + 1) cap) dv f g0 (L ++ [t]) ∧
      KeepsOthers U (w1.setCell ⟨ob, 0, none⟩ (.slice (some ⟨g, 0, none⟩) (L.length + 1) cap)) ∧ Below B U (w1.setCell ⟨ob, 0, none⟩ (.slice (some ⟨g, 0, none⟩) (L.length + 1) cap)) := by
  obtain ⟨i0, hi, hz0, hz1, hz2⟩ := info_parts Try.infoI
  obtain ⟨g, cap, w1, hrun, hown, hgrow, _, _⟩ := run_append_lies (P := Try.prog) (U.alloc (.cells #[.int .i64 t] 2)) 22 22 B 2 i0 (.int .i64 0) 1 8 Try.underlying22 hi hz0 hz1 hz2 rfl (by decide) v L.length (vals L) (h.r.alloc _) ⟨U.heap.size, 0, none⟩ 1 1 [.int .i64 t] rfl (cell_one_new U _ _) (by simp [Value.oneCell']) (by omega) (by unfold maxLen; omega) (by omega) (by simp; omega) _ rfl
  obtain ⟨hv1, hv2, hr2, hk2, hb2⟩ := h.o.appended (by decide) h.r hB hf hown hgrow
  have d1 := ((h.d.alloc (.cells #[.int .i64 t] 2)).kept hgrow (h.d.not_row (by decide) h.r)).other (B' := ob) (fun e => n1 e.symm) (.slice (some ⟨g, 0, none⟩) (L.length + 1) cap)
  refine ⟨g, cap, w1, hrun, hv1.cell, hv1.frozen, ⟨hv2, ?_, d1, h.g.stay _ hgrow (h.g.not_row h.r) n2, h.m.stay _ hgrow (h.m.not_row h.r) n3⟩, hk2, hb2⟩
  rw [show vals (L ++ [t]) = vals L ++ [.int .i64 t] from by simp [vals], List.length_append]
  exact hr2
theorem listI_append_run {F : Fence} {n : Nat} {P : Program} {ops : Array Oper} {rest : List Oper} {o : Oper} {a : Act} {w : World} {Q : Exit → Act → World → Prop} (hgd : o.guard = none) (s x : Operand) (t : TypeId)
    (hop : o.op = .call { callee := .builtin .append, args := #[s, x], argTypes := #[t, t] }) (sv xv : Value) (ty : TypeId) (hs : a.eval s = sv) (hx : a.eval x = xv) (hty : o.type = ty) (r : Value) (w1 : World) (hrun : (Builtin.append_ #[t, t] ty #[sv, xv]).run P w = .ok r w1) (h : wpListIn F n P ops Q rest (a.put o.dst r) w1) :
    wpListIn F n P ops Q (o :: rest) a w := by
  subst hs hx hty
  refine wpListIn_plain hgd fun K hK => ?_
  unfold Oper.wpIn
  refine ⟨?_, ?_⟩
  · simp [Oper.about, hop, resolve, Target.leads, Sem.run_pure]
  · rw [Oper.semAt_plain F _ _ (by rw [hop]; intro c hc'; cases hc')]
    simp [execOp, hop, resolve, invoke, builtin, hrun, Result.andThen]
    exact hK _ _ h
/-- What the search has gathered up to product t. -/
def NdI (w1 : World) (d : List Int) (f : Nat → Int) (ob db bg bm : Nat) (dv : Value) (t : Nat) (W : World) : Prop :=
  (((∃ v, Go.Boxed W ob 22 v ∧ W.ownsRow w1.heap.size 2 1 v (opn d f t).length (vals (opn d f t)) ∧ True) ∧ Go.Boxed W db 22 dv) ∧ Arr W bg (fun i => d.getD i 0) ∧ Arr W bm f) ∧ Below w1.heap.size w1 W
theorem arr_own (b B : Nat) (f : Nat → Int) : OwnFrom B (fun (_ : Nat) W => Arr W b f) := fun _ W W' row hs hg hr => by
  have h : Arr W b f := hs
  refine (hg.block b h.lt (fun e => ?_)).trans h
  obtain ⟨_, o, h1, h2⟩ := hr b e.symm
  unfold Arr at h
  rw [h] at h1; cases h1; cases h2
theorem ndI_own (w1 : World) (d : List Int) (f : Nat → Int) (ob db bg bm : Nat) (dv : Value) (B : Nat) (hB : w1.heap.size ≤ B) : OwnFrom B (NdI w1 d f ob db bg bm dv) :=
  OwnFrom.and (OwnFrom.and (OwnFrom.and (Go.Own.from (holdsRow_own w1.heap.size ob 22 2 1 (fun t : Nat => (opn d f t).length) (fun t : Nat => vals (opn d f t)) (fun _ _ => True)) _)
    (Go.Own.from (boxed_own _ _ (fun _ : Nat => dv)) _)) (OwnFrom.and (arr_own _ _ _) (arr_own _ _ _))) (ownFrom_below (Nat.le_refl _) hB)
/-- A piece that ends in its normal way alone. -/
def onlyN (K : Act → World → Prop) : Exit → Act → World → Prop
  | .normal, a, w => K a w
  | _, _, _ => False
theorem wp_normal {P : Program} {c : Code} {K : Act → World → Prop} {Q : Exit → Act → World → Prop} {a : Act} {w : World} (h : c.wp P (onlyN K) a w) : c.wp P (Exit.then K Q) a w :=
  Code.wp_mono (fun e a w h => by cases e <;> first | exact h | exact h.elim) h
theorem getD_none (d : List Int) (i : Nat) (h : d.length ≤ i) : d.getD i 0 = 0 := by simp [List.getD_eq_getElem?_getD, h]
theorem nbst_wide {d : List Int} {f : Nat → Int} {k : Int} (hf : ∀ i, i < 6 → 0 ≤ f i ∧ f i ≤ 240) : ∀ n, d.length ≤ n → n ≤ 6 → nbst d f k d.length = nbst d f k n := by
  intro n
  induction n with
  | zero => intro h _; rw [Nat.le_zero.1 h]
  | succ n ih =>
    intro h h6
    by_cases c : d.length = n + 1
    · rw [c]
    · rw [nbst_not (fun q => by rw [getD_none d n (by omega)] at q; have := hf n (by omega); omega)]
      exact ih (by omega) (by omega)
theorem six_sum (f : Nat → Int) : ((List.range 6).map f).sum = f 0 + (f 1 + (f 2 + (f 3 + (f 4 + f 5)))) := by simp [List.range, List.range.loop]
set_option maxRecDepth 100000 in
set_option maxHeartbeats 6400000 in
/-- The product that is needed most. -/
theorem neediest_any (ad : Option Addr) (cap : Nat) (d : List Int) (f : Nat → Int) (k : Int) (w : World) (hz : Ints w ad d) (hok : okD d = true) (hf : ∀ i, i < 6 → 0 ≤ f i ∧ f i ≤ 240) (hk : ((List.range 6).map f).sum = k) (hk2 : 0 ≤ k ∧ k ≤ 240) (h0 : opn d f 6 ≠ []) :
    Calls Try.prog 54 #[.slice ad d.length cap, .agg (six f)] w fun e w' => e = .returned (.int .i64 (nbst d f (k + 1) d.length)) ∧ Keep w w' := by
  have hp := okD_parts hok
  have h6 := hp.2.1
  obtain ⟨W0, hW0⟩ : ∃ W0, W0 = w.alloc (.cells (six f) 81) := ⟨_, rfl⟩
  have K0 : Keep w W0 := by rw [hW0]; go_grown
  have A0 : Arr W0 w.heap.size f := by rw [hW0]; exact heap_alloc_new w _
  have hsz : W0.heap.size = w.heap.size + 1 := by rw [hW0]; simp
  have HA0 := Lib.hid A0
  have HK0 := Lib.hid K0
  have HZ := Lib.hid hz
  have HS : Hid (∀ W, Keep W0 W → (fun W => (W.cell? ⟨w.heap.size, 0, none⟩ = some (.int .i64 (f 0)) ∧ W.cell? ⟨w.heap.size, 1, none⟩ = some (.int .i64 (f 1)) ∧ W.cell? ⟨w.heap.size, 2, none⟩ = some (.int .i64 (f 2)) ∧ W.cell? ⟨w.heap.size, 3, none⟩ = some (.int .i64 (f 3)) ∧ W.cell? ⟨w.heap.size, 4, none⟩ = some (.int .i64 (f 4)) ∧ W.cell? ⟨w.heap.size, 5, none⟩ = some (.int .i64 (f 5))) ∧ Keep W0 W) W) := Lib.hid (fun W kk => by
    have a := A0.keep kk (by omega)
    exact ⟨⟨a.cell 0 (by omega), a.cell 1 (by omega), a.cell 2 (by omega), a.cell 3 (by omega), a.cell 4 (by omega), a.cell 5 (by omega)⟩, kk⟩)
  have HT := Lib.hid (fun W (kk : Keep W0 W) => show Calls Try.prog 53 #[.slice (some ⟨w.heap.size, 0, none⟩) 6 6] W (fun e w' => e = .returned (.int .i64 k) ∧ W = w') from by
    have a := A0.keep kk (by omega)
    have h := total_any (some ⟨w.heap.size, 0, none⟩) 6 ((List.range 6).map f) W ⟨by simp, fun z hz => (by obtain ⟨j, hj, rfl⟩ := List.mem_map.1 hz; have := hf j (List.mem_range.1 hj); exact ⟨by omega, by omega⟩), .inr ⟨w.heap.size, 0, rfl, a.lt, fun j hj => (by
      simp only [List.length_map, List.length_range] at hj
      rw [Nat.zero_add, a.cell j hj]; simp [List.getD_eq_getElem?_getD, hj])⟩⟩ (fun z hz => (by obtain ⟨j, hj, rfl⟩ := List.mem_map.1 hz; have := hf j (List.mem_range.1 hj); omega)) (by simp)
    rw [hk] at h
    exact h)
  have HD : Hid (∀ W, Keep W0 W → Calls Try.prog 90 #[.slice ad d.length cap, .agg (six f), .int .i64 (k + 1)] W fun e w' => ∃ gd, e = .returned (.slice (some ⟨gd, 0, none⟩) d.length d.length) ∧ Own w' 0 (some ⟨gd, 0, none⟩) d.length (devF d f (k + 1)) ∧ (W.heap.size < gd ∧ gd < w'.heap.size) ∧ Keep W w') := Lib.hid (fun W kk =>
    (deviationsAt_any ad cap d f (k + 1) W (hz.keep (K0.next kk) (Nat.le_refl _)) hok (fun i hi => (by have := hf i (by omega); omega)) (by omega)).mono fun _ _ ⟨e1, e2, e3⟩ => ⟨_, e1, e2.mono (Nat.zero_le _), (by
      rcases own_block e2.1 with ⟨h, _⟩ | ⟨g', h, h2, h3, _⟩
      · cases h
      · cases h; exact ⟨by omega, h3⟩), e3⟩)
  have V1 : IntKind.i64.wrap (k + 1) = k + 1 := IntWalk.i64_in _ (by omega)
  unfold six at HD
  have HW0 := Lib.hid hW0
  have HSZ := Lib.hid hsz
  clear hW0 hz A0 K0 hk hsz
  refine (callsIn_wide (n := 9)).1 ?_
  refine callsIn_of_wp_marks Try.func54 rfl trivial ?_ rfl
  simp only [Try.ntmps54, List.size_toArray, List.length_cons, List.length_nil, Nat.reduceAdd, Nat.reduceSub, Array.replicate_succ, Array.replicate_zero, List.push_toArray, List.append_toArray, List.nil_append, List.cons_append]
  refine wpIn_wide.2 ?_
  go_upto_region 1 with fail
  rw [← HW0.out]
  go_cut [5] from 8 to 13 (fun s5 wx => ∃ (db : Nat) (dd : Option Addr) (dc : Nat), s5 = .pointer (some ⟨db, 0, none⟩) ∧ Go.Boxed wx db 22 (.slice dd d.length dc) ∧ Hid (Ints wx dd (devF d f (k + 1))) ∧ Hid (Keep W0 wx))
  case first =>
    refine wp_normal ?_
    refine wp_region_held_drew (S := (fun W => (W.cell? ⟨w.heap.size, 0, none⟩ = some (.int .i64 (f 0)) ∧ W.cell? ⟨w.heap.size, 1, none⟩ = some (.int .i64 (f 1)) ∧ W.cell? ⟨w.heap.size, 2, none⟩ = some (.int .i64 (f 2)) ∧ W.cell? ⟨w.heap.size, 3, none⟩ = some (.int .i64 (f 3)) ∧ W.cell? ⟨w.heap.size, 4, none⟩ = some (.int .i64 (f 4)) ∧ W.cell? ⟨w.heap.size, 5, none⟩ = some (.int .i64 (f 5))) ∧ Keep W0 W)) (by kernel_rfl) ?_ (fun hHeld => ?_)
    · exact HS.out _ (by go_grown)
    refine takeH (v := ?_) 0 8 rfl rfl (by kernel_rfl) (by kernel_rfl) (by kernel_rfl) (fun _ _ _ h => h) (by rfl) (by assumption) ?_ ?_
    rotate_left 1
    · (intro W_ hSw; (try dsimp only at hSw); go_simp; try with_reducible rfl)
    try simp only [Act.put, List.setIfInBounds_toArray, List.set_cons_zero, List.set_cons_succ]
    refine takeH (v := ?_) 1 9 rfl rfl (by kernel_rfl) (by kernel_rfl) (by kernel_rfl) (fun _ _ _ h => h) (by rfl) (by assumption) ?_ ?_
    rotate_left 1
    · (intro W_ hSw; (try dsimp only at hSw); go_simp; try with_reducible rfl)
    try simp only [Act.put, List.setIfInBounds_toArray, List.set_cons_zero, List.set_cons_succ]
    refine takeH (v := ?_) 2 10 rfl rfl (by kernel_rfl) (by kernel_rfl) (by kernel_rfl) (fun _ _ _ h => h) (by rfl) (by assumption) ?_ ?_
    rotate_left 1
    · (intro W_ hSw; (try dsimp only at hSw); go_simp; try with_reducible rfl)
    try simp only [Act.put, List.setIfInBounds_toArray, List.set_cons_zero, List.set_cons_succ]
    refine wpAnyH_ready (rs := [3, 6]) (by kernel_rfl) (by simp) ?_
    refine AllReadyH.cons rfl (fun K hK => ?_) (AllReadyH.cons rfl (fun K hK => ?_) AllReadyH.nil)
    · -- the sum first
      first | (go_at_call 53; refine (HT.out _ (by go_grown)).mono ?_; rintro e w2 ⟨rfl, rfl⟩) | (go_simp; (go_at_call 53; refine (HT.out _ (by go_grown)).mono ?_; rintro e w2 ⟨rfl, rfl⟩))
      try (go_wp2_with fail)
      refine hK.out _ _ ?_ (fun hHeld => ?_)
      · exact HS.out _ (by go_grown)
      clear hK K
      try simp only [Act.put, List.setIfInBounds_toArray, List.set_cons_zero, List.set_cons_succ]
      refine takeH (v := ?_) 4 12 rfl rfl (by kernel_rfl) (by kernel_rfl) (by kernel_rfl) (fun _ _ _ h => h) (by rfl) (by assumption) ?_ ?_
      rotate_left 1
      · (intro W_ hSw; (try dsimp only at hSw); go_simp; try with_reducible rfl)
      try simp only [Act.put, List.setIfInBounds_toArray, List.set_cons_zero, List.set_cons_succ]
      refine wpAnyH_ready (rs := [5, 6]) (by kernel_rfl) (by simp) ?_
      refine AllReadyH.cons rfl (fun K hK => ?_) (AllReadyH.cons rfl (fun K hK => ?_) AllReadyH.nil)
      · -- then the deviations
        first | (go_at_call 90; refine (HD.out _ (by go_grown)).mono ?_; rintro e w3 ⟨gd, rfl, o3, hgd, k3⟩) | (go_simp; (go_at_call 90; refine (HD.out _ (by go_grown)).mono ?_; rintro e w3 ⟨gd, rfl, o3, hgd, k3⟩))
        try (go_wp2_with fail)
        have KX3 := k3
        have HK3 := Lib.hid (show Keep W0 w3 from Keep.next (by go_grown) k3)
        have HO3 := Lib.hid o3
        have hs3 := k3.size
        refine hK.out _ _ ?_ (fun hHeld => ?_)
        · exact HS.out _ HK3.out
        clear hK K k3 o3
        try simp only [Act.put, List.setIfInBounds_toArray, List.set_cons_zero, List.set_cons_succ]
        refine wpAnyH_ready (rs := [6]) (by kernel_rfl) (by simp) ?_
        refine AllReadyH.cons rfl (fun K hK => ?_) AllReadyH.nil
        go_simp
        refine hK.out _ _ ?_ (fun hHeld => ?_)
        · exact HS.out _ (Keep.next HK3.out (by go_grown))
        clear hK K
        try simp only [Act.put, List.setIfInBounds_toArray, List.set_cons_zero, List.set_cons_succ]
        refine wpAnyH_ready (rs := [7]) (by kernel_rfl) (by simp) ?_
        refine AllReadyH.cons rfl (fun K hK => ?_) AllReadyH.nil
        have BX := Lib.hid (Go.Boxed.new w3 22 (.slice none 0 0))
        have q0 := BX.out.cell; have q1 := BX.out.frozen
        go_simp
        have BY := Lib.hid (Go.Boxed.new w3 22 (.slice (some ⟨gd, 0, none⟩) d.length d.length))
        have KY := Lib.hid (Keep.next HK3.out (show Keep w3 (w3.alloc (.cells #[.slice (some ⟨gd, 0, none⟩) d.length d.length] 22)) from by go_grown))
        have OY := Lib.hid (HO3.out.keep (show Keep w3 (w3.alloc (.cells #[.slice (some ⟨gd, 0, none⟩) d.length d.length] 22)) from by go_grown))
        refine hK.out _ _ ?_ (fun hHeld => ?_)
        · exact HS.out _ KY.out
        clear hK K
        try simp only [Act.put, List.setIfInBounds_toArray, List.set_cons_zero, List.set_cons_succ]
        refine wpAnyH_done (by kernel_rfl) ?_ _
        unfold onlyN
        go_wp2_with fail
        go_meet
        exact ⟨_, _, _, rfl, BY.out, Lib.hid OY.out.ints, Lib.hid KY.out⟩
      · -- then the box
        go_simp
        refine hK.out _ _ ?_ (fun hHeld => ?_)
        · exact HS.out _ (by go_grown)
        clear hK K
        try simp only [Act.put, List.setIfInBounds_toArray, List.set_cons_zero, List.set_cons_succ]
        refine wpAnyH_ready (rs := [5]) (by kernel_rfl) (by simp) ?_
        refine AllReadyH.cons rfl (fun K hK => ?_) AllReadyH.nil
        first | (go_at_call 90; refine (HD.out _ (by go_grown)).mono ?_; rintro e w3 ⟨gd, rfl, o3, hgd, k3⟩) | (go_simp; (go_at_call 90; refine (HD.out _ (by go_grown)).mono ?_; rintro e w3 ⟨gd, rfl, o3, hgd, k3⟩))
        try (go_wp2_with fail)
        have KX3 := k3
        have HK3 := Lib.hid (show Keep W0 w3 from Keep.next (by go_grown) k3)
        have HO3 := Lib.hid o3
        have hs3 := k3.size
        refine hK.out _ _ ?_ (fun hHeld => ?_)
        · exact HS.out _ HK3.out
        clear hK K k3 o3
        try simp only [Act.put, List.setIfInBounds_toArray, List.set_cons_zero, List.set_cons_succ]
        refine wpAnyH_ready (rs := [7]) (by kernel_rfl) (by simp) ?_
        refine AllReadyH.cons rfl (fun K hK => ?_) AllReadyH.nil
        have BX : Hid (Go.Boxed w3 W0.heap.size 22 (.slice none 0 0)) := Lib.hid ((Go.Boxed.new (World.drew W0) 22 (.slice none 0 0)).kept (keep_grown (show Keep (World.alloc (World.drew W0) (.cells #[.slice none 0 0] 22)) w3 from KX3) none) (by simp))
        have q0 := BX.out.cell; have q1 := BX.out.frozen
        go_simp
        have BY := Lib.hid (BX.out.set (.slice (some ⟨gd, 0, none⟩) d.length d.length))
        have KY := Lib.hid ((HK3.out).setCell (p := ⟨W0.heap.size, 0, none⟩) (by exact Nat.le_refl _) (.slice (some ⟨gd, 0, none⟩) d.length d.length))
        have OY := Lib.hid ((HO3.out).set (a := ⟨W0.heap.size, 0, none⟩) (by have := hgd.1; simp at this; show W0.heap.size ≠ gd; omega) (.slice (some ⟨gd, 0, none⟩) d.length d.length))
        refine hK.out _ _ ?_ (fun hHeld => ?_)
        · exact HS.out _ KY.out
        clear hK K
        try simp only [Act.put, List.setIfInBounds_toArray, List.set_cons_zero, List.set_cons_succ]
        refine wpAnyH_done (by kernel_rfl) ?_ _
        unfold onlyN
        go_wp2_with fail
        go_meet
        exact ⟨_, _, _, rfl, BY.out, Lib.hid OY.out.ints, Lib.hid KY.out⟩
    · -- the box first
      go_simp
      refine hK.out _ _ ?_ (fun hHeld => ?_)
      · exact HS.out _ (by go_grown)
      clear hK K
      try simp only [Act.put, List.setIfInBounds_toArray, List.set_cons_zero, List.set_cons_succ]
      refine wpAnyH_ready (rs := [3]) (by kernel_rfl) (by simp) ?_
      refine AllReadyH.cons rfl (fun K hK => ?_) AllReadyH.nil
      first | (go_at_call 53; refine (HT.out _ (by go_grown)).mono ?_; rintro e w2 ⟨rfl, rfl⟩) | (go_simp; (go_at_call 53; refine (HT.out _ (by go_grown)).mono ?_; rintro e w2 ⟨rfl, rfl⟩))
      try (go_wp2_with fail)
      refine hK.out _ _ ?_ (fun hHeld => ?_)
      · exact HS.out _ (by go_grown)
      clear hK K
      try simp only [Act.put, List.setIfInBounds_toArray, List.set_cons_zero, List.set_cons_succ]
      refine takeH (v := ?_) 4 12 rfl rfl (by kernel_rfl) (by kernel_rfl) (by kernel_rfl) (fun _ _ _ h => h) (by rfl) (by assumption) ?_ ?_
      rotate_left 1
      · (intro W_ hSw; (try dsimp only at hSw); go_simp; try with_reducible rfl)
      try simp only [Act.put, List.setIfInBounds_toArray, List.set_cons_zero, List.set_cons_succ]
      refine wpAnyH_ready (rs := [5]) (by kernel_rfl) (by simp) ?_
      refine AllReadyH.cons rfl (fun K hK => ?_) AllReadyH.nil
      first | (go_at_call 90; refine (HD.out _ (by go_grown)).mono ?_; rintro e w3 ⟨gd, rfl, o3, hgd, k3⟩) | (go_simp; (go_at_call 90; refine (HD.out _ (by go_grown)).mono ?_; rintro e w3 ⟨gd, rfl, o3, hgd, k3⟩))
      try (go_wp2_with fail)
      have KX3 := k3
      have HK3 := Lib.hid (show Keep W0 w3 from Keep.next (by go_grown) k3)
      have HO3 := Lib.hid o3
      have hs3 := k3.size
      refine hK.out _ _ ?_ (fun hHeld => ?_)
      · exact HS.out _ HK3.out
      clear hK K k3 o3
      try simp only [Act.put, List.setIfInBounds_toArray, List.set_cons_zero, List.set_cons_succ]
      refine wpAnyH_ready (rs := [7]) (by kernel_rfl) (by simp) ?_
      refine AllReadyH.cons rfl (fun K hK => ?_) AllReadyH.nil
      have BX : Hid (Go.Boxed w3 W0.heap.size 22 (.slice none 0 0)) := Lib.hid ((Go.Boxed.new (World.drew W0) 22 (.slice none 0 0)).kept (keep_grown (show Keep (World.alloc (World.drew W0) (.cells #[.slice none 0 0] 22)) w3 from KX3) none) (by simp))
      have q0 := BX.out.cell; have q1 := BX.out.frozen
      go_simp
      have BY := Lib.hid (BX.out.set (.slice (some ⟨gd, 0, none⟩) d.length d.length))
      have KY := Lib.hid ((HK3.out).setCell (p := ⟨W0.heap.size, 0, none⟩) (by exact Nat.le_refl _) (.slice (some ⟨gd, 0, none⟩) d.length d.length))
      have OY := Lib.hid ((HO3.out).set (a := ⟨W0.heap.size, 0, none⟩) (by have := hgd.1; simp at this; show W0.heap.size ≠ gd; omega) (.slice (some ⟨gd, 0, none⟩) d.length d.length))
      refine hK.out _ _ ?_ (fun hHeld => ?_)
      · exact HS.out _ KY.out
      clear hK K
      try simp only [Act.put, List.setIfInBounds_toArray, List.set_cons_zero, List.set_cons_succ]
      refine wpAnyH_done (by kernel_rfl) ?_ _
      unfold onlyN
      go_wp2_with fail
      go_meet
      exact ⟨_, _, _, rfl, BY.out, Lib.hid OY.out.ints, Lib.hid KY.out⟩
  case rest =>
    obtain ⟨db, dd, dc, rfl, HBX, HI, HK⟩ := hcut
    have HA := Lib.hid (HA0.out.keep HK.out (by have := HSZ.out; omega))
    have hdb := HBX.lt
    have HB := Lib.hid HBX
    clear HBX
    obtain ⟨w1, hw1⟩ : ∃ w1, w1 = wc.alloc (.cells #[.slice none 0 0] 22) := ⟨_, rfl⟩
    have HK1 : Hid (Keep wc w1) := Lib.hid (by rw [hw1]; go_grown)
    have HO1 : Hid (Go.Boxed w1 wc.heap.size 22 (.slice none 0 0)) := Lib.hid (by rw [hw1]; exact Go.Boxed.new wc 22 (.slice none 0 0))
    have hs1 : w1.heap.size = wc.heap.size + 1 := by rw [hw1]; simp
    have HW1 := Lib.hid hw1
    have HS1 := Lib.hid hs1
    have HA1 := Lib.hid (HA.out.keep HK1.out HA.out.lt)
    have HB1 := Lib.hid (HB.out.kept (keep_grown HK1.out none) (by simp))
    have HI1 := Lib.hid (HI.out.keep HK1.out (Nat.le_refl _))
    have hcw : w.heap.size < w1.heap.size := HA1.out.lt
    have HS2 : Hid (∀ W, Keep w1 W → (fun W => (W.cell? ⟨w.heap.size, 0, none⟩ = some (.int .i64 (f 0)) ∧ W.cell? ⟨w.heap.size, 1, none⟩ = some (.int .i64 (f 1)) ∧ W.cell? ⟨w.heap.size, 2, none⟩ = some (.int .i64 (f 2)) ∧ W.cell? ⟨w.heap.size, 3, none⟩ = some (.int .i64 (f 3)) ∧ W.cell? ⟨w.heap.size, 4, none⟩ = some (.int .i64 (f 4)) ∧ W.cell? ⟨w.heap.size, 5, none⟩ = some (.int .i64 (f 5))) ∧ Keep w1 W) W) := Lib.hid (fun W kk => by
      have a := HA1.out.keep kk hcw
      exact ⟨⟨a.cell 0 (by omega), a.cell 1 (by omega), a.cell 2 (by omega), a.cell 3 (by omega), a.cell 4 (by omega), a.cell 5 (by omega)⟩, kk⟩)
    have HG := Lib.hid (fun W (kk : Keep w1 W) => goalOf_any ad cap d W (HZ.out.keep (HK0.out.next (HK.out.next (HK1.out.next kk))) (Nat.le_refl _)) h6)
    have HU := Lib.hid (fun W => upTo_any f (fun i => d.getD i 0) W)
    unfold six at HG HU
    clear hw1 hs1
    go_upto_region 3 with fail
    rw [← HW1.out]
    refine wp_normal ?_
    go_region_held3 (fun W => (W.cell? ⟨w.heap.size, 0, none⟩ = some (.int .i64 (f 0)) ∧ W.cell? ⟨w.heap.size, 1, none⟩ = some (.int .i64 (f 1)) ∧ W.cell? ⟨w.heap.size, 2, none⟩ = some (.int .i64 (f 2)) ∧ W.cell? ⟨w.heap.size, 3, none⟩ = some (.int .i64 (f 3)) ∧ W.cell? ⟨w.heap.size, 4, none⟩ = some (.int .i64 (f 4)) ∧ W.cell? ⟨w.heap.size, 5, none⟩ = some (.int .i64 (f 5))) ∧ Keep w1 W)
      (first | exact HS2.out _ (Keep.next (Keep.next (by go_grown) k2) k3) | exact HS2.out _ (Keep.next (by go_grown) k2) | exact HS2.out _ (by go_grown))
      (first | (go_at_call 92; refine (HG.out _ (by go_grown)).mono ?_; rintro e w2 ⟨rfl, k2⟩) | (go_at_call 91; refine (HU.out _).mono ?_; rintro e w3 ⟨rfl, aG, aM, hs3, k3⟩))
    have hk2 : w1.heap.size ≤ w2.heap.size := k2.size
    have HK3 : Hid (Keep w1 w3) := Lib.hid (Keep.next (Keep.next (by go_grown) k2) k3)
    have HAG := Lib.hid aG
    have HAM := Lib.hid aM
    have hs13 := HK3.out.size
    have HB3 := Lib.hid (HB1.out.kept (keep_grown HK3.out none) (by simp))
    have HO3 := Lib.hid (HO1.out.kept (keep_grown HK3.out none) (by simp))
    have HI3 := Lib.hid (HI1.out.keep HK3.out (Nat.le_refl _))
    unfold onlyN
    clear k2 k3 aG aM
    have HKC : Hid (Below wc.heap.size wc w3) := Lib.hid (HK1.out.next HK3.out)
    have hsc : wc.heap.size < w1.heap.size := by have := HS1.out; omega
    go_wp2_with fail
    refine (wpIn_wide (n := 9)).1 ?_
    refine range_up rfl (by omega) (gf := 132) (bs := #[]) (lb := #[.pointer (some ⟨w2.heap.size + 1, 0, none⟩), .pointer (some ⟨w2.heap.size, 0, none⟩)]) rfl trivial (enters_of Try.func132 (by kernel_rfl) rfl)
      (upTo_up Fence.wide 8 trivial rfl (by omega) (w2.heap.size + 1) w2.heap.size wc.heap.size f (fun i => d.getD i 0) (fun i hi => by have := hf i hi; omega) _ HAG.out HAM.out (by omega)) (fun _ => rfl) (fun h k => Ka.trans h k)
      (fun W l o o' hl ho h1 h2 => ⟨belowK_b (w := w3) (by omega) W l o o' hl ho h1 h2, World.putObj_heap_other (by omega), World.putObj_heap_other (by omega)⟩) (NdI wc d f wc.heap.size db (w2.heap.size + 1) w2.heap.size (.slice dd d.length dc)) ?own ?skip ?start ?round ?done
    case own => exact ndI_own _ _ _ _ _ _ _ _ _ (by omega)
    case skip =>
      rintro t W _ hg h
      unfold NdI at h ⊢
      rw [opn_succ, if_neg (by have := of_decide_eq_false hg; omega)]
      exact h
    case start => exact ⟨⟨⟨⟨_, HO3.out, World.ownsRow_nil _ _ _ _, trivial⟩, HB3.out⟩, HAG.out, HAM.out⟩, HKC.out⟩
    case round =>
      intro l t W ht hg hl hs hI
      gi_wp2
      refine ⟨trivial, fun U hU hIU => ?_⟩
      obtain ⟨⟨⟨⟨v, hv, hrow, _⟩, hdb⟩, hag, ham⟩, hB⟩ := hIU
      have hfl : (opn d f t).length ≤ t := by unfold opn; rw [List.length_map]; have := List.length_filter_le (fun i => decide (f i < d.getD i 0)) (List.range t); simpa using this
      have HN : Hid (opn d f (t + 1) = opn d f t ++ [(t : Int)]) := Lib.hid (by rw [opn_succ, if_pos (by have := of_decide_eq_true hg; omega)])
      have hB2 := hB.size
      obtain ⟨g, cap2, wa, hrun, r1, r2, nb, q3, q4⟩ := (NdB.mk hv hrow hdb hag ham).app (t : Int) (by omega) (Nat.le_refl _) (by have := HB.out.lt; omega) (by omega) (by omega) (by omega)
      have c1 := hv.cell
      have NB := Lib.hid nb; have Q3 := Lib.hid q3; have Q4 := Lib.hid q4
      have AG := Lib.hid hag; have AM := Lib.hid ham; have BB := Lib.hid hB
      clear hv hrow hdb hag ham hB nb q3 q4 hI hs
      gi_wp2_with (refine listI_append_run rfl (.tmp 20) (.tmp 22) 22 rfl v (.slice (some ⟨U.heap.size, 0, none⟩) 1 1) 22 (by rfl) (by rfl) (by rfl) (.slice (some ⟨g, 0, none⟩) ((opn d f t).length + 1) cap2) wa hrun ?_)
      refine ⟨Q3.out.from _, ⟨Q4.out, NB.out.g.trans AG.out.symm, NB.out.m.trans AM.out.symm⟩, ?_⟩
      unfold NdI
      rw [HN.out]
      exact ⟨⟨⟨⟨_, NB.out.o, NB.out.r, trivial⟩, NB.out.d⟩, NB.out.g, NB.out.m⟩, BB.out.trans Q4.out⟩
    case done =>
      intro D W hD hI hKD
      unfold NdI at hI
      obtain ⟨⟨⟨⟨v, hv, hrow, _⟩, hdb2⟩, hag, ham⟩, hB⟩ := hI
      have c1 := hv.cell
      have hB2 := hB.size
      have hlen6 : (opn d f 6).length ≤ 6 := by unfold opn; rw [List.length_map]; have := List.length_filter_le (fun i => decide (f i < d.getD i 0)) (List.range 6); simpa using this
      have hopn : ∀ z, z ∈ opn d f 6 → ∃ i : Nat, z = i ∧ i < d.length := fun z hz => by
        obtain ⟨i, e1, e2, e3⟩ := opn_mem hz
        refine ⟨i, e1, ?_⟩
        rcases Nat.lt_or_ge i d.length with h | h
        · exact h
        · rw [getD_none d i h] at e3; have := hf i e2; omega
      obtain ⟨g, cap2, rfl, hOw⟩ : ∃ g cap2, v = .slice (some ⟨g, 0, none⟩) (opn d f 6).length cap2 ∧ Own W wc.heap.size (some ⟨g, 0, none⟩) cap2 (opn d f 6) := by
        rcases hrow.2 with ⟨e1, e2⟩ | ⟨g, cp, cur, e1, _⟩
        · exfalso
          exact h0 (List.eq_nil_of_length_eq_zero e2)
        · subst e1
          exact ⟨g, cp, rfl, hrow, by omega, fun z hz => by obtain ⟨i, rfl, hi⟩ := hopn z hz; exact ⟨by omega, by omega⟩⟩
      have hID : Ints W dd (devF d f (k + 1)) := HI.out.keep hB (Nat.le_refl _)
      have hE := devF_len d f (k + 1)
      have hMF := fun (V : World) (kk : Keep W V) => MinFunc_any (some ⟨g, 0, none⟩) cap2 (opn d f 6) (fun z => ndv d f (k + 1) z.toNat) db V (hOw.ints.keep kk (Nat.le_refl _)) h0 (fun x y hx hy V2 kk2 => by
        obtain ⟨i, rfl, hi⟩ := hopn x hx
        obtain ⟨j, rfl, hj⟩ := hopn y hy
        have hcell := (hdb2.kept (keep_grown (kk.next kk2) none) (by simp)).cell
        refine (neediest1_any db dc dd (devF d f (k + 1)) i j V2 (by rw [hE]; exact hcell) (hID.keep (kk.next kk2) (Nat.le_refl _)) (by omega) (by omega)).mono ?_
        rintro e w' ⟨⟨c, e1, e2⟩, e3⟩
        refine ⟨⟨c, e1, e2.trans ?_⟩, e3⟩
        rw [devF_get d f (k + 1) i hi, devF_get d f (k + 1) j hj]
        rfl)
      have hval : mf8 (fun z => ndv d f (k + 1) z.toNat) ((opn d f 6).getD 0 0) ((opn d f 6).drop 1) = nbst d f (k + 1) d.length := by
        rw [nbst_wide hf 6 (by omega) (Nat.le_refl _)]
        rcases nbst_mf d f (k + 1) (fun z => ndv d f (k + 1) z.toNat) (fun i => rfl) 6 with ⟨e1, _⟩ | ⟨m, L, e1, e2⟩
        · exact absurd e1 h0
        · rw [e2, e1]; rfl
      rw [hval] at hMF
      have HMF := Lib.hid hMF
      have HKD := Lib.hid (show W.heap[D]? = some (.deferred (some [])) from hKD)
      have HB6 := Lib.hid (show Keep wc W from hB)
      have hwD : w.heap.size ≤ D := by omega
      clear hMF hKD hB hv hrow hdb2 hag ham hID
      gi_wp2
      go_wp2_with fail
      refine (HMF.out _ (by go_grown)).mono ?_
      rintro e w9 ⟨rfl, k9⟩
      have HKD9 := Lib.hid (show w9.heap[D]? = some (.deferred (some [])) from (k9.block D (by have := (Array.getElem?_eq_some_iff.1 HKD.out).1; simp; omega)).trans (by simpa using HKD.out))
      have HK9 := Lib.hid (show Keep w w9 from HK0.out.next (HK.out.next (HB6.out.next (show Keep W w9 from Keep.next (by go_grown) k9))))
      clear k9
      go_wp2_with fail
      refine ⟨by simp, .inl ⟨_, _, rfl, run_takeDeferred HKD9.out, ?_⟩⟩
      exact ⟨_, results_tmp rfl _ _ _, rfl, HK9.out.trans (belowK_b (w := w) (Nat.le_refl _) w9 D _ _ (by omega) HKD9.out rfl rfl)⟩
end Go.Proofs.Ytpdcmhnaedhkdaa
