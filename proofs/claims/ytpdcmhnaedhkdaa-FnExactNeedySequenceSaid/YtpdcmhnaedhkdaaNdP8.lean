/- The needy sequence: the program's whole function. -/
import Derived.Test.YtpdcmhnaedhkdaaNed8
import Derived.Test.YtpdcmhnaedhkdaaNy8
import Derived.Test.YtpdcmhnaedhkdaaRowR
import Derived.Deep.Cut
import Derived.BigQuiet
namespace Go.Proofs.Ytpdcmhnaedhkdaa
open Go.ChangeShapes Go.WideShapes Go.ChangeAt Go.RowKit Go.Deep
set_option linter.unusedVariables false
theorem ndfill_set (L : List Int) (n : Nat) (z : Int) (v : Value) : (vals L ++ List.replicate (n + 1) v).set L.length (.int .i64 z) = vals (L ++ [z]) ++ List.replicate n v := by
  rw [List.set_append_right _ _ (by simp)]; simp [vals, List.replicate_succ]
theorem ndfill_get (L : List Int) (n : Nat) (v : Value) : (vals L ++ List.replicate (n + 1) v)[L.length]? = some v := by
  rw [List.getElem?_append_right (by simp)]; simp [List.replicate_succ]
theorem ndfill_new (L : List Int) (n : Nat) (z : Int) (v : Value) : (vals (L ++ [z]) ++ List.replicate n v)[L.length]? = some (.int .i64 z) := by
  rw [List.getElem?_append_left (by simp)]; simp [vals]
set_option maxHeartbeats 6400000 in
set_option maxRecDepth 100000 in
theorem NeedySequence_any (ad : Option Addr) (cap : Nat) (d : List Int) (w : World) (hz : Ints w ad d) :
    Calls Try.prog 16 #[.slice ad d.length cap] w fun e w' => ∃ rd rc, e = .returned (.tuple #[.slice rd (ndV d).length rc, .bool (okD d)]) ∧ Own w' w.heap.size rd rc (ndV d) ∧ Keep w w' := by
  have hdl := hz.small
  have HVD := Lib.hid (ValidDemands_any ad cap d w hz)
  cases hok : okD d
  · rw [show ndV d = [] from by unfold ndV; rw [hok]; rfl]
    rw [hok] at HVD
    go_enter Try.func16, Try.ntmps16
    go_wp2_with fail
    refine HVD.out.mono ?_
    rintro e w1 ⟨rfl, rfl⟩
    go_wp2
    go_ret2
    exact ⟨none, 0, rfl, Own.nil _ _, Below.refl _ _⟩
  rw [hok] at HVD
  have hp := okD_parts hok
  have h6 := hp.2.1
  have h1 := hp.1
  have hD := okD_sum hok
  obtain ⟨N, hN⟩ : ∃ N : Nat, d.sum = N := ⟨d.sum.toNat, by omega⟩
  have HV : Hid (ndV d = ndL d N) := Lib.hid (by unfold ndV; rw [hok, if_pos rfl, hN, Int.toNat_natCast])
  have HOKL := Lib.hid (fun (k : Nat) (h : (k : Int) ≤ d.sum) => ndL_ok hok k h)
  have HNX := Lib.hid (fun (k : Nat) (h : (k : Int) < d.sum) => ndL_next hok k h)
  have HLN := Lib.hid (ndL_len d)
  have HDM := Lib.hid hp.2.2.1
  have HSU := Lib.hid (fun W (k : Keep w W) => total_any ad cap d W (hz.keep k (Nat.le_refl _)) (okD_sumb hok) (by omega))
  rw [hN] at HOKL HNX HSU
  have hN240 : N ≤ 240 := by omega
  have HNE : Hid (∀ (j : Nat) (W : World), j < N → Keep w W → Calls Try.prog 54 #[.slice ad d.length cap, .agg (six (cntI (ndL d j)))] W fun e w' => e = .returned (.int .i64 (nbst d (cntI (ndL d j)) ((j : Int) + 1) d.length)) ∧ Keep W w') := Lib.hid (fun j W hj kk => by
    have q1 := HOKL.out j (by omega)
    refine neediest_any ad cap d (cntI (ndL d j)) (j : Int) W (hz.keep kk (Nat.le_refl _)) hok (fun i hi => ?_) ?_ (by omega) ?_
    · have q2 := cntI_bd (ndL d j) (ndL d j).length i (Nat.le_refl _)
      rw [List.take_length, HLN.out] at q2
      omega
    · have q3 := cnt_sum (ndL d j) 6 (fun z hz => by have := q1.1 z hz; omega)
      rw [HLN.out] at q3
      exact q3
    · obtain ⟨b, e1, e2, e3⟩ := HNX.out j (by omega)
      exact List.ne_nil_of_mem (a := (b : Int)) (by unfold opn; exact List.mem_map.2 ⟨b, List.mem_filter.2 ⟨List.mem_range.2 (by omega), decide_eq_true e3⟩, rfl⟩))
  have HF : Hid (∀ j i, 0 ≤ cntI (ndL d j) i ∧ cntI (ndL d j) i ≤ j) := Lib.hid (fun j i => by
    have q2 := cntI_bd (ndL d j) (ndL d j).length i (Nat.le_refl _)
    rw [List.take_length, HLN.out] at q2
    exact q2)
  obtain ⟨i0, hi, hz0, hz1, hz2⟩ := info_parts Try.infoI
  have hb8 : i0.bytes * N ≤ 281474976710656 := by rw [hz2]; omega
  have hml : N ≤ maxLen := by unfold maxLen; omega
  clear hp hD hN
  rw [HV.out, HLN.out]
  unfold six at HNE
  have A0 : Arr (w.alloc (.cells #[.int .i64 0, .int .i64 0, .int .i64 0, .int .i64 0, .int .i64 0, .int .i64 0] 81)) w.heap.size (fun _ => 0) := Arr.new w
  have K0 : Keep w (w.alloc (.cells #[.int .i64 0, .int .i64 0, .int .i64 0, .int .i64 0, .int .i64 0, .int .i64 0] 81)) := by go_grown
  have hs0 : (w.alloc (.cells #[.int .i64 0, .int .i64 0, .int .i64 0, .int .i64 0, .int .i64 0, .int .i64 0] 81)).heap.size = w.heap.size + 1 := by simp
  go_enter Try.func16, Try.ntmps16
  go_wp2_with fail
  refine HVD.out.mono ?_
  rintro e w1 ⟨rfl, rfl⟩
  go_wp2_with fail
  refine (HSU.out _ K0).mono ?_
  rintro e w' ⟨rfl, rfl⟩
  generalize w.alloc (.cells #[.int .i64 0, .int .i64 0, .int .i64 0, .int .i64 0, .int .i64 0, .int .i64 0] 81) = W0 at *
  have HA0 := Lib.hid A0
  have HK0 := Lib.hid K0
  clear A0 K0
  obtain ⟨mb, hmb⟩ : ∃ mb, mb = w.heap.size := ⟨_, rfl⟩
  rw [← hmb] at HA0 hs0 ⊢
  have HMB := Lib.hid hmb
  clear hmb
  go_wp2_with (at_make; refine wpList_make_full W0 rfl _ _ 22 rfl (mb + 1) 2 i0 (.int .i64 0) 1 Try.underlying22 hi hz0 hz1 .i64 .i64 _ _ N rfl rfl rfl rfl hb8 hml (by omega) ?_)
  intro w0 hown0 hgrow0
  have hown0 : w0.ownsRow (mb + 1) 2 1 (.slice (some ⟨mb + 1, 0, none⟩) N N) N (vals (ndL d 0) ++ List.replicate (N - 0) (.int .i64 0)) := by simpa [ndL, Value.cells, toList_madeCells_one] using hown0
  have hk0 : Below (mb + 1) W0 w0 := (Below.refl _ _).grown hgrow0 (by omega) (fun k h => by cases h)
  have HOB := Lib.hid hown0
  have HA1 : Hid (Arr w0 mb (cntI (ndL d 0))) := Lib.hid (HA0.out.keep hk0 (by omega))
  have HK1 : Hid (Keep w w0) := Lib.hid (HK0.out.trans (hk0.mono (by rw [HMB.out]; omega)))
  clear hgrow0 hown0 hk0 hb8 hml HSU HVD
  go_wp2
  go_loopw [6, 15] (fun _ i wr => ∃ n : Nat, n ≤ N ∧ i = .int .i64 n ∧ Hid (wr.ownsRow (mb + 1) 2 1 (.slice (some ⟨mb + 1, 0, none⟩) N N) N (vals (ndL d n) ++ List.replicate (N - n) (.int .i64 0))) ∧ Hid (Arr wr mb (cntI (ndL d n))) ∧ Hid (Keep w wr))
    (fun _ i _ => N - (intOf i).toNat)
  case atStart => exact ⟨0, Nat.zero_le _, rfl, HOB, HA1, HK1⟩
  case round =>
    obtain ⟨n, hn, rfl, HO, HA, HK⟩ := hrel
    by_cases hlt : n < N
    · have c0 := HA.out.cell 0 (by omega); have c1 := HA.out.cell 1 (by omega); have c2 := HA.out.cell 2 (by omega); have c3 := HA.out.cell 3 (by omega); have c4 := HA.out.cell 4 (by omega); have c5 := HA.out.cell 5 (by omega)
      have hltI : (n : Int) < (N : Int) := by omega
      go_wp2_with fail
      refine (HNE.out n wr hlt HK.out).mono ?_
      rintro e w5 ⟨rfl, k5⟩
      obtain ⟨b, hb, hbn, hbl⟩ := HNX.out n (by omega)
      have HAP : Hid (ndL d (n + 1) = ndL d n ++ [(b : Int)]) := Lib.hid (by show ndL d n ++ [_] = _; rw [hb])
      rw [hb]
      have HE1 : Hid ((vals (ndL d n) ++ List.replicate (N - n) (Value.int .i64 0)).set n (.int .i64 b) = vals (ndL d (n + 1)) ++ List.replicate (N - (n + 1)) (Value.int .i64 0)) := Lib.hid (by
        have h := ndfill_set (ndL d n) (N - (n + 1)) b (.int .i64 0)
        rw [HLN.out, show N - (n + 1) + 1 = N - n by omega, ← HAP.out] at h; exact h)
      have HE2 : Hid ((vals (ndL d n) ++ List.replicate (N - n) (Value.int .i64 0))[n]? = some (.int .i64 0)) := Lib.hid (by
        have h := ndfill_get (ndL d n) (N - (n + 1)) (.int .i64 0)
        rw [HLN.out, show N - (n + 1) + 1 = N - n by omega] at h; exact h)
      have HE3 : Hid ((vals (ndL d (n + 1)) ++ List.replicate (N - (n + 1)) (Value.int .i64 0))[n]? = some (.int .i64 b)) := Lib.hid (by
        have h := ndfill_new (ndL d n) (N - (n + 1)) b (.int .i64 0)
        rw [HLN.out, ← HAP.out] at h; exact h)
      have HO5 := Lib.hid (ownsRow_keep HO.out k5)
      have HA5 := Lib.hid (HA.out.keep k5 HA.out.lt)
      have HK5 := Lib.hid (HK.out.next k5)
      have hcl : w5.cell? ⟨mb + 1, n, none⟩ = some (.int .i64 0) := by rw [HO5.out.cellAt n (by omega)]; exact HE2.out
      have hfl := HO5.out.frozenAt n
      have HST := Lib.hid (HO5.out.stored n (.int .i64 b))
      clear k5 c0 c1 c2 c3 c4 c5 hb
      go_upto_region 9 with fail
      refine code_wp_gen8 (fun W6 hW6 => ?_)
      have HO6 : Hid (W6.ownsRow (mb + 1) 2 1 (.slice (some ⟨mb + 1, 0, none⟩) N N) N (vals (ndL d (n + 1)) ++ List.replicate (N - (n + 1)) (.int .i64 0))) := Lib.hid (by
        have h := HST.out.1
        rw [HE1.out] at h
        rw [hW6]; exact h)
      have HW6 : Hid (Wrote w5 W6 (fun j => j = mb + 1)) := Lib.hid (by
        rw [hW6]
        exact ⟨rfl, rfl, rfl, by simp, fun j hj hn => heap_setCell_other _ _ _ _ (by exact hn)⟩)
      clear hW6 HST hcl hfl
      have HA6 : Hid (Arr W6 mb (cntI (ndL d n))) := Lib.hid ((HW6.out.block mb HA5.out.lt (by omega)).trans HA5.out)
      have HK6 : Hid (Keep w W6) := Lib.hid (below_wrote HK5.out HW6.out HK5.out.size (fun j e => by have := HMB.out; omega))
      have hcl6 : W6.cell? ⟨mb + 1, n, none⟩ = some (.int .i64 b) := by rw [HO6.out.cellAt n (by omega)]; exact HE3.out
      have ha6 := HA6.out.cell b (by omega)
      have hf6 := HA6.out.frozen b
      have hb6 : (b : Int) < 6 := by omega
      have hx := HF.out n b
      have HA7 : Hid (Arr (W6.setCell ⟨mb, b, none⟩ (.int .i64 (cntI (ndL d n) b + 1))) mb (cntI (ndL d (n + 1)))) := Lib.hid ((HA6.out.set b (by omega) (cntI (ndL d n) b + 1)).same (fun i hi => by
        rw [HAP.out, cntI_app]
        by_cases c : i = b
        · rw [if_pos c, if_pos (by omega), c]
        · rw [if_neg c, if_neg (by omega)]; omega))
      have V1 : IntKind.i64.wrap (cntI (ndL d n) b + 1) = cntI (ndL d n) b + 1 := IntWalk.i64_in _ (by omega)
      generalize cntI (ndL d n) b = x at *
      have HO7 : Hid ((W6.setCell ⟨mb, b, none⟩ (.int .i64 (x + 1))).ownsRow (mb + 1) 2 1 (.slice (some ⟨mb + 1, 0, none⟩) N N) N (vals (ndL d (n + 1)) ++ List.replicate (N - (n + 1)) (.int .i64 0))) := Lib.hid (row_same HO6.out (fun g e hg => heap_setCell_other _ _ _ _ (by cases e; exact Nat.succ_ne_self mb)))
      have HK7 : Hid (Keep w (W6.setCell ⟨mb, b, none⟩ (.int .i64 (x + 1)))) := Lib.hid (HK6.out.setCell (p := ⟨mb, b, none⟩) (by rw [HMB.out]; exact Nat.le_refl _) _)
      go_wp2
      go_roundw
      case rel => exact ⟨n + 1, by omega, by go_num, HO7, HA7, HK7⟩
      case measure => simp [intOf]; omega
    · have e := Lib.hid (show n = N by omega)
      have hltI : ¬ (n : Int) < (N : Int) := by omega
      go_wp2
      go_ret2
      have h := HO.out
      rw [e.out, Nat.sub_self, List.replicate_zero, List.append_nil] at h
      have hok2 := HOKL.out N (by omega)
      exact ⟨some ⟨mb + 1, 0, none⟩, N, rfl, ⟨(by rw [HLN.out]; exact World.ownsRow.mono h (by rw [HMB.out]; omega)), by rw [HLN.out]; omega, fun z hz => by have := hok2.1 z hz; exact ⟨by omega, by omega⟩⟩, HK.out⟩
end Go.Proofs.Ytpdcmhnaedhkdaa
