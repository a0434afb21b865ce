/- Sums of blocks: the program's side. -/
import Derived.Test.YtlenmhefgpcmmaaChunk
import Derived.Test.YtlenmhefgpcmmaaMem
namespace Go.Proofs.Ytlenmhefgpcmmaa
open Go.ChangeShapes Go.WideShapes Go.ChangeAt Go.RowKit Go.Shelf
set_option linter.unusedVariables false
def blk (m : Nat) (zs : List Int) (k : Nat) : List Int := (zs.drop (k * m)).take m
def bsN (m : Nat) (zs : List Int) (q : Nat) : List Int := (List.range q).map fun k => (blk m zs k).sum
theorem bsN_len (m : Nat) (zs : List Int) (q : Nat) : (bsN m zs q).length = q := by simp [bsN]
theorem bsN_succ (m : Nat) (zs : List Int) (q : Nat) : bsN m zs (q + 1) = bsN m zs q ++ [(blk m zs q).sum] := by simp [bsN, List.range_succ]
def okB (s : Int) (zs : List Int) : Bool := listOk zs 1000000000 && inB s 1 40 && decide ((zs.length : Int).tmod s = 0)
def bsV (s : Int) (zs : List Int) : List Int := if okB s zs then bsN s.toNat zs (zs.length / s.toNat) else []
theorem okB_parts {s : Int} {zs : List Int} (h : okB s zs = true) : ∃ m q : Nat, s = m ∧ 1 ≤ m ∧ m ≤ 40 ∧ zs.length = q * m ∧ q * m ≤ 40 ∧ bsV s zs = bsN m zs q := by
  have h' := h
  unfold okB at h
  simp only [Bool.and_eq_true, decide_eq_true_eq] at h
  obtain ⟨⟨h1, h2⟩, h3⟩ := h
  have hl := listOk_len h1
  obtain ⟨s1, s2⟩ := inB_iff.1 h2
  obtain ⟨m, rfl⟩ : ∃ m : Nat, s = m := ⟨s.toNat, by omega⟩
  have h4 : zs.length % m = 0 := by
    have h5 : (zs.length : Int).tmod m = ((zs.length % m : Nat) : Int) := by rw [Int.tmod_eq_emod_of_nonneg (by omega)]; rfl
    omega
  have h5 := Nat.div_mul_cancel (Nat.dvd_of_mod_eq_zero h4)
  refine ⟨m, zs.length / m, rfl, by omega, by omega, h5.symm, by omega, ?_⟩
  unfold bsV; rw [if_pos h', Int.toNat_natCast]
theorem blk_len (m : Nat) (zs : List Int) (k q : Nat) (h : zs.length = q * m) (hk : k < q) : (blk m zs k).length = m := by
  have : k * m + m ≤ q * m := by have := Nat.mul_le_mul_right m (show k + 1 ≤ q from hk); rw [Nat.succ_mul] at this; exact this
  unfold blk; rw [List.length_take, List.length_drop]; omega
theorem blk_get (m : Nat) (zs : List Int) (k i : Nat) (hi : i < m) : (blk m zs k).getD i 0 = zs.getD (k * m + i) 0 := by
  unfold blk
  simp only [List.getD_eq_getElem?_getD, List.getElem?_take, hi, if_true, List.getElem?_drop]
theorem blk_mem (m : Nat) (zs : List Int) (k : Nat) (z : Int) (h : z ∈ blk m zs k) : z ∈ zs := List.mem_of_mem_drop (List.mem_of_mem_take h)
/-- A block of a slice. -/
theorem Ints.blk {w : World} {ad : Option Addr} {zs : List Int} (h : Ints w ad zs) (m k q : Nat) (hl : zs.length = q * m) (hk : k < q) (hm : 1 ≤ m) (b off : Nat) (had : ad = some ⟨b, off, none⟩) : Ints w (some ⟨b, off + k * m, none⟩) (blk m zs k) := by
  have hkm : k * m + m ≤ q * m := by have := Nat.mul_le_mul_right m (show k + 1 ≤ q from hk); rw [Nat.succ_mul] at this; exact this
  have hsm := h.small
  refine ⟨by rw [blk_len m zs k q hl hk]; omega, fun z hz => h.wf z (blk_mem m zs k z hz), .inr ⟨b, off + k * m, rfl, ?_, fun i hi => ?_⟩⟩
  · rcases h.at_ with h1 | ⟨b', off', e, hb, _⟩
    · rw [h1] at hl; simp at hl; omega
    · rw [had] at e; cases e; exact hb
  · rw [blk_len m zs k q hl hk] at hi
    rw [blk_get m zs k i hi]
    rcases h.at_ with h1 | ⟨b', off', e, hb, hc⟩
    · rw [h1] at hl; simp at hl; omega
    · rw [had] at e; cases e
      rw [Nat.add_assoc]; exact hc _ (by omega)
attribute [local go_sem] Oper.semAt_some
theorem step_append_run {F : Fence} {n : Nat} {P : Program} {ops : Array Oper} {o : Oper} {a : Act} {w : World} {K : Act → World → Prop} {Q : Exit → Act → World → Prop} {E : Prop} (hgd : o.guard = none) (s x : Operand) (t : TypeId)
    (hop : o.op = .call { callee := .builtin .append, args := #[s, x], argTypes := #[t, t] }) (r : Value) (w1 : World) (hrun : (Builtin.append_ #[t, t] o.type #[a.eval s, a.eval x]).run P w = .ok r w1) (h : K (a.put o.dst r) w1) :
    if Region.wanted o (yielded ops a.tmps) = true then Oper.wpIn F n P o a w K Q else E := by
  have hw : Region.wanted o (yielded ops a.tmps) = true := by simp [Region.wanted, hgd]
  rw [if_pos hw]
  unfold Oper.wpIn
  refine ⟨?_, ?_⟩
  · simp [Oper.about, hop, resolve, Target.leads, Sem.run_pure]
  · rw [Oper.semAt_plain F _ _ (by rw [hop]; intro c hc'; cases hc')]
    simp [execOp, hop, resolve, invoke, builtin, hrun, Result.andThen]
    exact h
set_option maxRecDepth 100000 in
set_option maxHeartbeats 2000000 in
theorem BlockSums_yes (ad : Option Addr) (cap m q : Nat) (zs : List Int) (w : World) (hz : Ints w ad zs) (hl : zs.length = q * m) (hcap : zs.length ≤ cap) (hm : 1 ≤ m) (hm2 : m ≤ 40) (hq : q * m ≤ 40) (hok : listOk zs 1000000000 = true) :
    CallsIn Fence.wide 5 Try.prog 15 #[.slice ad zs.length cap, .int .i64 m] w fun e w' =>
      ∃ rd rc, e = .returned (.tuple #[.slice rd (bsN m zs q).length rc, .bool true]) ∧ Own w' w.heap.size rd rc (bsN m zs q) ∧ Keep w w' := by
  obtain ⟨i0, hi, hz0, hz1, hz2⟩ := info_parts Try.infoI
  have hin : inB (m : Int) 1 40 = true := inB_iff.2 ⟨by omega, by omega⟩
  have htm : ((zs.length : Int) % (m : Int) != 0) = false := by
    rw [hl, show ((q * m : Nat) : Int) = (q : Int) * (m : Int) from by simp, Int.mul_emod_left]; rfl
  have HL := Lib.hid hl; clear hl
  have hlen := hz.small
  refine callsIn_of_wp_marks Try.func15 rfl trivial ?_ rfl
  simp only [Try.ntmps15, List.size_toArray, List.length_cons, List.length_nil, Nat.reduceAdd, Nat.reduceSub, Array.replicate_succ, Array.replicate_zero, List.push_toArray, List.append_toArray, List.nil_append, List.cons_append]
  gi_wp2_with (refine ⟨trivial, ?_⟩; first | (gi_at_call 39; refine (callsIn_wide.2 (allWithin_any _ _ _ _ _ hz (by omega) (by omega))).mono ?_; rw [hok]; rintro e w' ⟨rfl, rfl⟩) | (gi_at_call 36; refine (callsIn_wide.2 (within_any _ _ _ _)).mono ?_; rw [hin]; rintro e w' ⟨rfl, rfl⟩) | (gi_at_call 40; refine (chunk_in Fence.wide 4 trivial rfl ad _ cap m hm hm2 _).mono ?_; rintro e w' ⟨rfl, rfl⟩))
  have bO := Go.Boxed.new w 27 (.slice none 0 0)
  have bS := Go.Boxed.new (w.alloc (.cells #[.slice none 0 0] 27)) 27 (.slice ad zs.length cap)
  rw [World.size_alloc] at bS
  have bN := Go.Boxed.new ((w.alloc (.cells #[.slice none 0 0] 27)).alloc (.cells #[.slice ad zs.length cap] 27)) 3 (.int .i64 m)
  rw [World.size_alloc, World.size_alloc] at bN
  have bO3 := (bO.alloc (.cells #[.slice ad zs.length cap] 27)).alloc (.cells #[.int .i64 m] 3)
  have bS3 := bS.alloc (.cells #[.int .i64 m] 3)
  have hB0 : Keep w (((w.alloc (.cells #[.slice none 0 0] 27)).alloc (.cells #[.slice ad zs.length cap] 27)).alloc (.cells #[.int .i64 m] 3)) := by go_grown
  have hsz : (((w.alloc (.cells #[.slice none 0 0] 27)).alloc (.cells #[.slice ad zs.length cap] 27)).alloc (.cells #[.int .i64 m] 3)).heap.size = w.heap.size + 3 := by simp
  obtain ⟨b, off, had⟩ : ∃ b off, q = 0 ∨ ad = some ⟨b, off, none⟩ := by
    rcases hz.at_ with h | ⟨b, off, h, _⟩
    · have h2 : q * m = 0 := by rw [← HL.out, h]; rfl
      rcases Nat.mul_eq_zero.1 h2 with h3 | h3
      · exact ⟨0, 0, .inl h3⟩
      · omega
    · exact ⟨b, off, .inr h⟩
  have HQ := Lib.hid hq; have HAD := Lib.hid had
  clear hq had bO bS
  generalize hw3 : (((w.alloc (.cells #[.slice none 0 0] 27)).alloc (.cells #[.slice ad zs.length cap] 27)).alloc (.cells #[.int .i64 m] 3)) = w3 at *
  refine wpIn_rangeFunc_ownG rfl (by omega) (gf := 62) (lb := #[.pointer (some ⟨w.heap.size + 1, 0, none⟩), .pointer (some ⟨w.heap.size + 1 + 1, 0, none⟩)]) rfl trivial (enters_of Try.func62 (by kernel_rfl) rfl)
    (chunk_stops Fence.wide 4 trivial rfl (by omega) (w.heap.size + 1) (w.heap.size + 1 + 1) w.heap.size b off m q cap ad hm hm2 HQ.out (by rw [← HL.out]; exact hcap) _ (by rw [hsz]; omega) (by rw [hsz]; omega) (by rw [hsz]; omega) HAD.out (by rw [← HL.out]; exact bS3.cell) bN.cell) Kc.trans (Kc.put (by rw [hsz]; omega) (by rw [hsz]; omega) (by rw [hsz]; omega)) (Below.refl _ _) (fun _ => rfl)
    (fun pre W => ((∃ v, Go.Boxed W w.heap.size 27 v ∧ W.ownsRow w.heap.size 2 1 v pre.length (vals (pre.map fun k => (blk m zs (min k (q - 1))).sum)) ∧ True) ∧ (Go.Boxed W (w.heap.size + 1) 27 (.slice ad zs.length cap) ∧ Go.Boxed W (w.heap.size + 1 + 1) 3 (.int .i64 m))) ∧ Below w.heap.size w W)
    (fun _ _ _ => False)
    (OwnFrom.and (OwnFrom.and (Go.Own.from (holdsRow_own w.heap.size w.heap.size 27 2 1 (fun pre : List Nat => pre.length) (fun pre : List Nat => vals (pre.map fun k => (blk m zs (min k (q - 1))).sum)) (fun _ _ => True)) _) (OwnFrom.and (Go.Own.from (boxed_own _ _ _) _) (Go.Own.from (boxed_own _ _ _) _))) (ownFrom_below (Nat.le_refl _) (by omega)))
    (fun _ _ _ _ _ hs _ _ => hs)
    ⟨⟨⟨_, bO3, World.ownsRow_nil _ _ _ _, trivial⟩, bS3, bN⟩, hB0⟩
    (fun x => { tmps := #[.slice ad zs.length cap, .int .i64 m, undef, undef, .slice none 0 0, .bool false, .pointer (some ⟨w.heap.size, 0, none⟩), .slice (some ⟨b, off + min x (q - 1) * m, none⟩) m m, .slice ad zs.length cap, .bool true, .bool false, .bool false, .int .i64 m, .bool true, .bool false, .bool false, .bool false, .slice ad zs.length cap, .int .i64 zs.length, .int .i64 m, .int .i64 ((zs.length : Int) % (m : Int)), .bool false, .bool false, .slice ad zs.length cap, .int .i64 m,
      .func (.func 62) #[] #[.pointer (some ⟨w.heap.size + 1, 0, none⟩), .pointer (some ⟨w.heap.size + 1 + 1, 0, none⟩)], .slice (some ⟨b, off + min x (q - 1) * m, none⟩) m m, undef, undef, undef, undef, undef, undef], defers := [] }) ?assign ?body ?done ?stop
  case assign =>
    intro l x W K hK
    gi_wp2
    exact hK
  case body =>
    rintro l pre x W ⟨⟨⟨v, hv, hrow, _⟩, hbs, hbn⟩, hB⟩ hlt
    have hc := hv.cell
    have hf := hv.frozen
    have hxq : min x (q - 1) < q := by omega
    have hadx : ad = some ⟨b, off, none⟩ := HAD.out.resolve_left (by omega)
    have hmx : Try.prog.follows .mixedOrders = true := by kernel_rfl
    have hb1 : Ints W (some ⟨b, off + min x (q - 1) * m, none⟩) (blk m zs (min x (q - 1))) := (hz.keep hB (Nat.le_refl _)).blk m _ q HL.out hxq hm b off hadx
    generalize hy : min x (q - 1) = y at *
    have HY := Lib.hid hy; clear hy
    have hbl := blk_len m zs y q HL.out hxq
    have HT : Hid (∀ W', Below w.heap.size W W' → Calls Try.prog 41 #[.slice (some ⟨b, off + y * m, none⟩) m m] W' fun e w' => e = .returned (.int .i64 (blk m zs y).sum) ∧ W' = w') := Lib.hid (fun W' k => by
      have h1 := (hz.keep (hB.trans k) (Nat.le_refl _)).blk m y q HL.out hxq hm b off hadx
      have h := total_any (some ⟨b, off + y * m, none⟩) m (blk m zs y) W' h1 (fun z hz => listOk_num hok z (blk_mem m zs y z hz)) (by omega)
      rw [hbl] at h; exact h)
    have hS := sum_bd 1000000000 (by omega) (blk m zs y) (fun z hz => listOk_num hok z (blk_mem m zs y z hz))
    rw [hbl] at hS
    clear hbl hb1
    generalize hS0 : (blk m zs y).sum = S at *
    have HS0 := Lib.hid hS0; clear hS0
    have hpl : (vals (pre.map fun k => (blk m zs (min k (q - 1))).sum)).length = pre.length := by simp
    generalize hLL : vals (pre.map fun k => (blk m zs (min k (q - 1))).sum) = LL at *
    have HLL := Lib.hid hLL; clear hLL
    have hvd : Go.Boxed W.drew w.heap.size 27 v := hv
    have hrd : W.drew.ownsRow w.heap.size 2 1 v pre.length LL := hrow
    have hws := hB.size
    have hqb : pre.length ≤ 40 := by have h := HQ.out; have h2 := Nat.mul_le_mul_left q hm; omega
    obtain ⟨g', cap', w1, hrun, hown', hgrow, _, _⟩ := run_append_lies (P := Try.prog) (W.drew.alloc (.cells #[.int .i64 S] 2)) 27 27 w.heap.size 2 i0 (.int .i64 0) 1 8 Try.underlying27 hi hz0 hz1 hz2 rfl (by decide) v pre.length LL (hrd.alloc _) ⟨W.heap.size, 0, none⟩ 1 1 [.int .i64 S] rfl (cell_one_new W.drew _ _) (by simp [Value.oneCell']) (by omega) (by unfold maxLen; omega) (by omega) (by simp; omega) _ rfl
    obtain ⟨hv1, hv2, hr2, hk2, hb2⟩ := hvd.appended (by decide) hrd hws (Nat.le_refl _) hown' hgrow
    have hc1 := hv1.cell
    have hc2 := (hv.alloc (.cells #[.int .i64 S] 2)).cell
    have hc3 := hvd.cell
    have hf1 := hv1.frozen
    have hbs1 := ((show Go.Boxed W.drew _ _ _ from hbs).alloc (.cells #[.int .i64 S] 2)).kept hgrow (Go.Boxed.not_row (show Go.Boxed W.drew _ _ _ from hbs) (by decide) hrd)
    have hbn1 := ((show Go.Boxed W.drew _ _ _ from hbn).alloc (.cells #[.int .i64 S] 2)).kept hgrow (Go.Boxed.not_row (show Go.Boxed W.drew _ _ _ from hbn) (by decide) hrd)
    have HBS := Lib.hid (hbs1.other (B' := w.heap.size) (by omega) (.slice (some ⟨g', 0, none⟩) (pre.length + 1) cap'))
    have HBN := Lib.hid (hbn1.other (B' := w.heap.size) (by omega) (.slice (some ⟨g', 0, none⟩) (pre.length + 1) cap'))
    have HV := Lib.hid hv2; have HR := Lib.hid hr2; have HK := Lib.hid hk2; have HB2 := Lib.hid hb2; have HBS0 := Lib.hid hbs; have HBN0 := Lib.hid hbn
    clear hbs hbn hbs1 hbn1 hv1 hv2 hr2 hk2 hb2 hvd hrd hv hrow hown' hgrow
    gi_wp2
    have FIN : Hid (KeepsFrom w3.heap.size W (w1.setCell ⟨w.heap.size, 0, none⟩ (.slice (some ⟨g', 0, none⟩) (pre.length + 1) cap')) ∧ Kc w.heap.size (w.heap.size + 1) (w.heap.size + 1 + 1) W (w1.setCell ⟨w.heap.size, 0, none⟩ (.slice (some ⟨g', 0, none⟩) (pre.length + 1) cap')) ∧
        ((∃ v, Go.Boxed (w1.setCell ⟨w.heap.size, 0, none⟩ (.slice (some ⟨g', 0, none⟩) (pre.length + 1) cap')) w.heap.size 27 v ∧ (w1.setCell ⟨w.heap.size, 0, none⟩ (.slice (some ⟨g', 0, none⟩) (pre.length + 1) cap')).ownsRow w.heap.size 2 1 v (pre ++ [x]).length (vals ((pre ++ [x]).map fun k => (blk m zs (min k (q - 1))).sum)) ∧ True) ∧ (Go.Boxed (w1.setCell ⟨w.heap.size, 0, none⟩ (.slice (some ⟨g', 0, none⟩) (pre.length + 1) cap')) (w.heap.size + 1) 27 (.slice ad zs.length cap) ∧ Go.Boxed (w1.setCell ⟨w.heap.size, 0, none⟩ (.slice (some ⟨g', 0, none⟩) (pre.length + 1) cap')) (w.heap.size + 1 + 1) 3 (.int .i64 m))) ∧ Below w.heap.size w (w1.setCell ⟨w.heap.size, 0, none⟩ (.slice (some ⟨g', 0, none⟩) (pre.length + 1) cap'))) :=
      Lib.hid ⟨((KeepsOthers.drew W).trans HK.out).from _, ⟨((Below.refl _ W).drew).trans HB2.out, HBS.out.cell.trans HBS0.out.cell.symm, HBN.out.cell.trans HBN0.out.cell.symm⟩,
        ⟨⟨_, HV.out, by rw [show vals ((pre ++ [x]).map fun k => (blk m zs (min k (q - 1))).sum) = LL ++ [.int .i64 S] from by rw [← HLL.out]; simp [vals, HY.out, HS0.out], List.length_append]; exact HR.out, trivial⟩, HBS.out, HBN.out⟩, hB.trans (((Below.refl _ W).drew).trans HB2.out)⟩
    refine wpIn_region_any (by kernel_rfl) ?_
    change wpAnyIn _ _ _ _ _ _ _ _ _ (World.drew _)
    refine wpAnyIn_ready (rs := [0, 1]) (by kernel_rfl) (by simp) ?_
    refine AllReadyIn.cons rfl (fun K hK => ?_) (AllReadyIn.cons rfl (fun K hK => ?_) AllReadyIn.nil)
    · go_simp
      refine hK _ _ ?_; clear hK K
      refine wpAnyIn_ready (rs := [1]) (by kernel_rfl) (by simp) ?_
      refine AllReadyIn.cons rfl (fun K hK => ?_) AllReadyIn.nil
      go_simp
      refine hK _ _ ?_; clear hK K
      refine wpAnyIn_ready (rs := [2]) (by kernel_rfl) (by simp) ?_
      refine AllReadyIn.cons rfl (fun K hK => ?_) AllReadyIn.nil
      go_simp
      refine ⟨trivial, ?_⟩
      refine (CallsIn.inRound l (callsIn_wide.2 (HT.out _ (by go_grown)))).mono ?_
      rintro e w' ⟨rfl, rfl⟩
      go_simp
      refine hK _ _ ?_; clear hK K
      refine wpAnyIn_ready (rs := [3]) (by kernel_rfl) (by simp) ?_
      refine AllReadyIn.cons rfl (fun K hK => ?_) AllReadyIn.nil
      go_simp
      refine hK _ _ ?_; clear hK K
      refine wpAnyIn_ready (rs := [4]) (by kernel_rfl) (by simp) ?_
      refine AllReadyIn.cons rfl (fun K hK => ?_) AllReadyIn.nil
      refine step_append_run rfl (.tmp 27) (.tmp 30) 27 rfl (.slice (some ⟨g', 0, none⟩) (pre.length + 1) cap') w1 hrun ?_
      refine hK _ _ ?_; clear hK K
      refine wpAnyIn_ready (rs := [5]) (by kernel_rfl) (by simp) ?_
      refine AllReadyIn.cons rfl (fun K hK => ?_) AllReadyIn.nil
      go_simp
      refine hK _ _ ?_; clear hK K
      refine wpAnyIn_done (by kernel_rfl) ?_ _
      gi_wp2
      exact FIN.out
    · go_simp
      refine hK _ _ ?_; clear hK K
      refine wpAnyIn_ready (rs := [0, 2]) (by kernel_rfl) (by simp) ?_
      refine AllReadyIn.cons rfl (fun K hK => ?_) (AllReadyIn.cons rfl (fun K hK => ?_) AllReadyIn.nil)
      · go_simp
        refine hK _ _ ?_; clear hK K
        refine wpAnyIn_ready (rs := [2]) (by kernel_rfl) (by simp) ?_
        refine AllReadyIn.cons rfl (fun K hK => ?_) AllReadyIn.nil
        go_simp
        refine ⟨trivial, ?_⟩
        refine (CallsIn.inRound l (callsIn_wide.2 (HT.out _ (by go_grown)))).mono ?_
        rintro e w' ⟨rfl, rfl⟩
        go_simp
        refine hK _ _ ?_; clear hK K
        refine wpAnyIn_ready (rs := [3]) (by kernel_rfl) (by simp) ?_
        refine AllReadyIn.cons rfl (fun K hK => ?_) AllReadyIn.nil
        go_simp
        refine hK _ _ ?_; clear hK K
        refine wpAnyIn_ready (rs := [4]) (by kernel_rfl) (by simp) ?_
        refine AllReadyIn.cons rfl (fun K hK => ?_) AllReadyIn.nil
        refine step_append_run rfl (.tmp 27) (.tmp 30) 27 rfl (.slice (some ⟨g', 0, none⟩) (pre.length + 1) cap') w1 hrun ?_
        refine hK _ _ ?_; clear hK K
        refine wpAnyIn_ready (rs := [5]) (by kernel_rfl) (by simp) ?_
        refine AllReadyIn.cons rfl (fun K hK => ?_) AllReadyIn.nil
        go_simp
        refine hK _ _ ?_; clear hK K
        refine wpAnyIn_done (by kernel_rfl) ?_ _
        gi_wp2
        exact FIN.out
      · go_simp
        refine ⟨trivial, ?_⟩
        refine (CallsIn.inRound l (callsIn_wide.2 (HT.out _ (by go_grown)))).mono ?_
        rintro e w' ⟨rfl, rfl⟩
        go_simp
        refine hK _ _ ?_; clear hK K
        refine wpAnyIn_ready (rs := [0, 3]) (by kernel_rfl) (by simp) ?_
        refine AllReadyIn.cons rfl (fun K hK => ?_) (AllReadyIn.cons rfl (fun K hK => ?_) AllReadyIn.nil)
        · go_simp
          refine hK _ _ ?_; clear hK K
          refine wpAnyIn_ready (rs := [3]) (by kernel_rfl) (by simp) ?_
          refine AllReadyIn.cons rfl (fun K hK => ?_) AllReadyIn.nil
          go_simp
          refine hK _ _ ?_; clear hK K
          refine wpAnyIn_ready (rs := [4]) (by kernel_rfl) (by simp) ?_
          refine AllReadyIn.cons rfl (fun K hK => ?_) AllReadyIn.nil
          refine step_append_run rfl (.tmp 27) (.tmp 30) 27 rfl (.slice (some ⟨g', 0, none⟩) (pre.length + 1) cap') w1 hrun ?_
          refine hK _ _ ?_; clear hK K
          refine wpAnyIn_ready (rs := [5]) (by kernel_rfl) (by simp) ?_
          refine AllReadyIn.cons rfl (fun K hK => ?_) AllReadyIn.nil
          go_simp
          refine hK _ _ ?_; clear hK K
          refine wpAnyIn_done (by kernel_rfl) ?_ _
          gi_wp2
          exact FIN.out
        · go_simp
          refine hK _ _ ?_; clear hK K
          refine wpAnyIn_ready (rs := [0]) (by kernel_rfl) (by simp) ?_
          refine AllReadyIn.cons rfl (fun K hK => ?_) AllReadyIn.nil
          go_simp
          refine hK _ _ ?_; clear hK K
          refine wpAnyIn_ready (rs := [4]) (by kernel_rfl) (by simp) ?_
          refine AllReadyIn.cons rfl (fun K hK => ?_) AllReadyIn.nil
          refine step_append_run rfl (.tmp 27) (.tmp 30) 27 rfl (.slice (some ⟨g', 0, none⟩) (pre.length + 1) cap') w1 hrun ?_
          refine hK _ _ ?_; clear hK K
          refine wpAnyIn_ready (rs := [5]) (by kernel_rfl) (by simp) ?_
          refine AllReadyIn.cons rfl (fun K hK => ?_) AllReadyIn.nil
          go_simp
          refine hK _ _ ?_; clear hK K
          refine wpAnyIn_done (by kernel_rfl) ?_ _
          gi_wp2
          exact FIN.out
  case done =>
    rintro D ys W hD rfl ⟨⟨⟨v, hv, hrow, _⟩, hbs, hbn⟩, hB⟩ hK
    have hc := hv.cell
    have hmapq : vals ((upto (fun j => j) q).map fun k => (blk m zs (min k (q - 1))).sum) = vals (bsN m zs q) := by
      unfold upto bsN
      rw [List.map_map]
      congr 1
      refine List.map_congr_left fun k hk => ?_
      have := List.mem_range.1 hk
      show (blk m zs (min k (q - 1))).sum = (blk m zs k).sum
      rw [show min k (q - 1) = k from by omega]
    rw [hmapq, upto_length] at hrow
    have hin2 : ∀ z ∈ bsN m zs q, In64 z := fun z hz2 => by
      unfold bsN at hz2
      obtain ⟨k, hk, rfl⟩ := List.mem_map.1 hz2
      have h1 := sum_bd 1000000000 (by omega) (blk m zs k) (fun z hz => listOk_num hok z (blk_mem m zs k z hz))
      rw [blk_len m zs k q HL.out (List.mem_range.1 hk)] at h1
      exact ⟨by omega, by omega⟩
    have hqb : q ≤ 40 := by have h := HQ.out; have h2 := Nat.mul_le_mul_left q hm; omega
    gi_wp2
    refine ⟨by simp, .inl ⟨_, _, rfl, run_takeDeferred hK, ?_⟩⟩
    have hrow2 := fun o' => ownsRow_putObj hrow o' hK rfl
    have hB2 := fun o' => hB.trans (belowK_b (w := w) (Nat.le_refl _) W D _ o' (by omega) hK rfl rfl)
    rcases hrow.2 with ⟨h0, h1⟩ | ⟨gg, cp, cur, h0, _⟩
    · subst h0
      exact ⟨_, results_tmp2 rfl _ _ _, none, 0, by simp [bsN_len, h1], ⟨by have h := hrow2 (.deferred none); rw [h1] at h; rw [bsN_len, h1]; exact h, by rw [bsN_len]; omega, hin2⟩, hB2 _⟩
    · subst h0
      exact ⟨_, results_tmp2 rfl _ _ _, some ⟨gg, 0, none⟩, cp, by simp [bsN_len], ⟨by rw [bsN_len]; exact hrow2 _, by rw [bsN_len]; omega, hin2⟩, hB2 _⟩
  case stop =>
    rintro D c pre W _ _ h _
    exact h.elim
theorem okB_cases {s : Int} {zs : List Int} (h : okB s zs = false) : listOk zs 1000000000 = false ∨ (listOk zs 1000000000 = true ∧ inB s 1 40 = false) ∨ (listOk zs 1000000000 = true ∧ inB s 1 40 = true ∧ ((zs.length : Int) % s != 0) = true) := by
  unfold okB at h
  cases h1 : listOk zs 1000000000
  · exact .inl rfl
  · cases h2 : inB s 1 40
    · exact .inr (.inl ⟨rfl, rfl⟩)
    · refine .inr (.inr ⟨rfl, rfl, ?_⟩)
      rw [h1, h2] at h
      simp at h
      rw [Int.tmod_eq_emod_of_nonneg (by omega)] at h
      simpa using h
set_option maxHeartbeats 800000 in
theorem BlockSums_any (ad : Option Addr) (cap : Nat) (zs : List Int) (s : Int) (w : World) (hz : Ints w ad zs) (us : In64 s) (hcap : zs.length ≤ cap) :
    Calls Try.prog 15 #[.slice ad zs.length cap, .int .i64 s] w fun e w' =>
      ∃ rd rc, e = .returned (.tuple #[.slice rd (bsV s zs).length rc, .bool (okB s zs)]) ∧ Own w' w.heap.size rd rc (bsV s zs) ∧ Keep w w' := by
  have hlen := hz.small
  cases hok : okB s zs
  · rw [show bsV s zs = [] from by simp [bsV, hok]]
    rcases okB_cases hok with h1 | ⟨h1, h2⟩ | ⟨h1, h2, h3⟩
    · go_enter Try.func15, Try.ntmps15
      go_wp2_with (go_at_call 39; refine (allWithin_any _ _ _ _ _ hz (by omega) (by omega)).mono ?_; rw [h1]; rintro e w' ⟨rfl, rfl⟩)
      go_ret2
      exact ⟨none, 0, rfl, Own.nil _ _, Below.refl _ _⟩
    · go_enter Try.func15, Try.ntmps15
      go_wp2_with (first | (go_at_call 39; refine (allWithin_any _ _ _ _ _ hz (by omega) (by omega)).mono ?_; rw [h1]; rintro e w' ⟨rfl, rfl⟩) | (go_at_call 36; refine (within_any _ _ _ _).mono ?_; rw [h2]; rintro e w' ⟨rfl, rfl⟩))
      go_ret2
      exact ⟨none, 0, rfl, Own.nil _ _, Below.refl _ _⟩
    · obtain ⟨s1, s2⟩ := inB_iff.1 h2
      go_enter Try.func15, Try.ntmps15
      go_wp2_with (first | (go_at_call 39; refine (allWithin_any _ _ _ _ _ hz (by omega) (by omega)).mono ?_; rw [h1]; rintro e w' ⟨rfl, rfl⟩) | (go_at_call 36; refine (within_any _ _ _ _).mono ?_; rw [h2]; rintro e w' ⟨rfl, rfl⟩))
      go_ret2
      exact ⟨none, 0, rfl, Own.nil _ _, Below.refl _ _⟩
  · obtain ⟨m, q, rfl, hm, hm2, hl, hq, hb⟩ := okB_parts hok
    rw [hb]
    have h1 : listOk zs 1000000000 = true := by unfold okB at hok; simp only [Bool.and_eq_true] at hok; exact hok.1.1
    exact callsIn_wide.1 (BlockSums_yes ad cap m q zs w hz hl hcap hm hm2 hq h1)
end Go.Proofs.Ytlenmhefgpcmmaa
