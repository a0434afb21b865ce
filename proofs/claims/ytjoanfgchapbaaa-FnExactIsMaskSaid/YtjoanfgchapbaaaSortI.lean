/- slices.Sort, slices.Sorted of slices.Values, slices.Equal at int64; lists of indexes. -/
import Derived.Test.YtjoanfgchapbaaaOrd9
import Derived.Test.YtjoanfgchapbaaaIter9
import Derived.Test.YtjoanfgchapbaaaRowG
import Derived.Test.YtjoanfgchapbaaaShelf
import Derived.Lib.OwnBridge
import Derived.Lib.AppendIntMem
import Derived.BigQuiet
namespace Go.Proofs.Ytjoanfgchapbaaa
open Go.ChangeShapes Go.WideShapes Go.ChangeAt Go.RowKit Go.Deep
set_option linter.unusedVariables false
set_option maxHeartbeats 800000 in
theorem sortI_any (b cap : Nat) (zs : List Int) (w : World) (hb : b < w.heap.size) (hc : ∀ i, i < zs.length → w.cell? ⟨b, i, none⟩ = some (.int .i64 (zs.getD i 0)) ∧ w.frozen? ⟨b, i, none⟩ = false) (hn : zs.length ≤ 1048576) :
    Calls Try.prog 122 #[.slice (some ⟨b, 0, none⟩) zs.length cap] w fun e w' =>
      e = .returned (.tuple #[]) ∧ (∀ i, i < zs.length → w'.cell? ⟨b, i, none⟩ = some (.int .i64 ((srt zs).getD i 0))) ∧ Below b w w' := by
  have hsz : zs.toArray.size = zs.length := by simp
  have hget : ∀ (d : Array Int) (t : Nat), t < d.size → d[t]! = d.toList.getD t 0 := fun d t ht => by
    rw [getElem!_pos d t ht]; simp [List.getD_eq_getElem?_getD, ht]
  have hH : Sort.Holds (Value.int .i64) w b 0 zs.toArray := fun j hj => by
    rw [hsz] at hj
    rw [hget _ j (by rw [hsz]; exact hj), Nat.zero_add]; simpa using hc j hj
  have hS := Go.Proofs.Try.slices_Sort_int b 0 cap zs w hH hb (by omega)
  refine hS.mono ?_
  rintro e w' ⟨rfl, q, os, rfl⟩
  obtain ⟨d', hd'⟩ : ∃ d', d' = (zs.mergeSort fun x y => decide (x ≤ y)).toArray := ⟨_, rfl⟩
  have hps : d'.size = zs.length := by rw [hd']; simp
  have hdl : d'.toList = srt zs := by rw [hd']; rfl
  rw [← hd']
  have e1 : Sort.grow (Sort.putRow (Value.int .i64) (Sort.ahead w q) b 0 d') os = Sort.putRow (Value.int .i64) (Sort.grow (Sort.ahead w q) os) b 0 d' := by
    rw [Sort.putRow_grow _ (Sort.ahead w q) _ b 0 _ (by show b < w.heap.size; omega)]
  have hHg : Sort.Holds (Value.int .i64) (Sort.grow (Sort.ahead w q) os) b 0 zs.toArray := Sort.holds_grow _ _ _ b 0 _ (by show b < w.heap.size; omega) (Sort.holds_ahead _ _ _ _ _ _ hH)
  refine ⟨rfl, fun r hr => ?_, ?_⟩
  · have := Sort.cell?_putRow (Value.int .i64) _ b 0 zs.toArray d' hHg (by rw [hps, hsz]) r (by rw [hps]; exact hr)
    rw [e1]; rw [Nat.zero_add, hget _ _ (by omega), hdl] at this; exact this
  · have k1 : Below b w (Sort.putRow (Value.int .i64) (Sort.ahead w q) b 0 d') := Lib.below_putRow (Below.refl _ _) (Nat.le_refl _)
    exact k1.trans (Lib.below_grow b _ (by rw [Sort.size_putRow]; show b ≤ w.heap.size; omega) 0 os)
theorem CollectV_any (ad : Option Addr) (cap Bs : Nat) (zs : List Int) (w : World) (hz : Ints w ad zs) (hBs : w.cell? ⟨Bs, 0, none⟩ = some (.slice ad zs.length cap)) (hl : zs.length ≤ 1048576) :
    Calls Try.prog 121 #[.func (.func 123) #[] #[.pointer (some ⟨Bs, 0, none⟩)]] w fun e w' =>
      ∃ rd rc, e = .returned (.slice rd zs.length rc) ∧ Own w' w.heap.size rd rc zs ∧ Keep w w' := by
  have H := Lib.hid (callsIn_wide.1 (AppendSeqV_in ad cap Bs zs w hz hBs hl))
  go_enter Try.func121, Try.ntmps121
  go_wp2_with fail
  refine H.out.mono ?_
  rintro e w1 ⟨rd, rc, rfl, o1, k1⟩
  have O1 := Lib.hid o1; clear o1
  go_wp2
  go_ret
  exact ⟨rd, rc, rfl, O1.out, k1⟩
theorem SortedV_any (ad : Option Addr) (cap Bs : Nat) (zs : List Int) (w : World) (hz : Ints w ad zs) (hBs : w.cell? ⟨Bs, 0, none⟩ = some (.slice ad zs.length cap)) (h1 : 1 ≤ zs.length) (hl : zs.length ≤ 1048576) :
    Calls Try.prog 99 #[.func (.func 123) #[] #[.pointer (some ⟨Bs, 0, none⟩)]] w fun e w' =>
      ∃ rd rc, e = .returned (.slice rd zs.length rc) ∧ Ints w' rd (srt zs) ∧ Keep w w' := by
  have H := Lib.hid (CollectV_any ad cap Bs zs w hz hBs hl)
  go_enter Try.func99, Try.ntmps99
  go_wp2_with fail
  refine H.out.mono ?_
  rintro e w1 ⟨rd, rc, rfl, o1, k1⟩
  rcases own_block o1.1 with ⟨_, h0, _⟩ | ⟨g, rfl, hg, hg2, _⟩
  · omega
  have r1 := o1.rowAt
  have HS := Lib.hid (sortI_any g rc zs w1 hg2 (fun i hi => ⟨by have := r1.cell i hi; rw [Nat.zero_add] at this; exact this, r1.frozen i⟩) hl)
  have HWF := Lib.hid o1.2.2
  have HK := Lib.hid k1
  have HG := Lib.hid hg
  clear o1 r1 k1 hg
  go_wp2_with fail
  refine HS.out.mono ?_
  rintro e w2 ⟨rfl, hc, hb⟩
  have HC := Lib.hid hc; have HB := Lib.hid hb
  have hsz := hb.size
  clear hc hb
  go_wp2
  go_ret
  refine ⟨some ⟨g, 0, none⟩, rc, rfl, ⟨by rw [srt_len]; omega, fun z hz => HWF.out z ((srt_perm zs).mem_iff.1 hz), .inr ⟨g, 0, rfl, by omega, fun i hi => by rw [Nat.zero_add]; rw [srt_len] at hi; exact HC.out i hi⟩⟩, HK.out.trans (HB.out.mono HG.out)⟩
theorem ValuesI_any (ad : Option Addr) (n cap : Nat) (w : World) :
    Calls Try.prog 100 #[.slice ad n cap] w fun e w' => e = .returned (.func (.func 123) #[] #[.pointer (some ⟨w.heap.size, 0, none⟩)]) ∧ w'.cell? ⟨w.heap.size, 0, none⟩ = some (.slice ad n cap) ∧ Keep w w' := by
  have hmf : ∀ (fn : Fn) (first cap : Array Value) (w : World), (Instr.makeFunc fn first cap).run Try.prog w = .ok (.func fn first cap) w := fun _ _ _ _ => rfl
  go_enter Try.func100, Try.ntmps100
  go_wp2
  go_ret
  exact ⟨rfl, by simp, by go_grown⟩
set_option maxHeartbeats 800000 in
theorem EqualI_any (ad bd : Option Addr) (ca cb : Nat) (xs ys : List Int) (w : World) (hx : Ints w ad xs) (hy : Ints w bd ys) (hl : xs.length = ys.length) :
    Calls Try.prog 101 #[.slice ad xs.length ca, .slice bd ys.length cb] w fun e w' => e = .returned (.bool (decide (xs = ys))) ∧ Keep w w' := by
  have hsm := hx.small
  have HXY : Hid (xs = ys ↔ ∀ i, i < xs.length → xs.getD i 0 = ys.getD i 0) := Lib.hid ⟨fun h i _ => by rw [h], fun h => List.ext_getElem hl (fun i h1 h2 => by
    have := h i h1
    rw [getD_get xs i h1, getD_get ys i h2] at this; exact this)⟩
  have hne : ((xs.length : Int) != (xs.length : Int)) = false := by simp
  rw [← hl]
  obtain ⟨n, hn⟩ : ∃ n, n = xs.length := ⟨_, rfl⟩
  rw [← hn] at hsm hne HXY ⊢
  have hny : n = ys.length := by omega
  have HNX := Lib.hid hn; have HNY := Lib.hid hny
  clear hn hny hl
  go_enter Try.func101, Try.ntmps101
  go_wp2
  go_loopw [5, 13] (fun _ i wr => ∃ k : Nat, k ≤ n ∧ i = .int .i64 k ∧ Hid (∀ i, i < k → xs.getD i 0 = ys.getD i 0) ∧ Hid (Keep w wr)) (fun _ i _ => n - (intOf i).toNat)
  case atStart => exact ⟨0, Nat.zero_le _, rfl, Lib.hid (fun i h => by omega), Lib.hid (Below.refl _ _)⟩
  case round =>
    obtain ⟨k, hk, rfl, HA, HK⟩ := hrel
    by_cases hlt : k < n
    · rcases hx.at_ with h | ⟨b1, o1, rfl, hb1, hc1⟩
      · have := HNX.out; rw [h] at this; simp at this; omega
      rcases hy.at_ with h | ⟨b2, o2, rfl, hb2, hc2⟩
      · have := HNY.out; rw [h] at this; simp at this; omega
      have q1 := (HK.out.cell (p := ⟨b1, o1 + k, none⟩) (by exact hb1)).trans (hc1 k (by rw [← HNX.out]; exact hlt))
      have q2 := (HK.out.cell (p := ⟨b2, o2 + k, none⟩) (by exact hb2)).trans (hc2 k (by rw [← HNY.out]; exact hlt))
      clear hc1 hc2
      have HXK : Hid (∀ p q, xs.getD k 0 = p → ys.getD k 0 = q → p ≠ q → ¬ xs = ys) := Lib.hid (fun p q h1 h2 h3 h4 => h3 (by rw [← h1, ← h2, h4]))
      generalize hp : xs.getD k 0 = p at q1
      generalize hq : ys.getD k 0 = q at q2
      have HP := Lib.hid hp; have HQ := Lib.hid hq
      clear hp hq
      by_cases hpq : p = q
      · have hb : (p != q) = false := by simp [hpq]
        have HPQ := Lib.hid hpq; clear hpq
        go_wp2
        go_quiet (fail)
        go_wp2
        go_roundw
        case rel =>
          refine ⟨k + 1, by omega, by go_num, Lib.hid (fun i hi => ?_), Lib.hid (below_drewN HK.out _)⟩
          by_cases e : i = k
          · subst e; rw [HP.out, HQ.out, HPQ.out]
          · exact HA.out i (by omega)
        case measure => simp [intOf]; omega
      · have hb : (p != q) = true := by simp [hpq]
        have HR := Lib.hid (HXK.out p q HP.out HQ.out hpq); clear hpq
        go_wp2
        go_quiet (fail)
        go_wp2
        go_ret
        exact ⟨ret_bool (by rw [decide_eq_false HR.out]), below_drewN HK.out _⟩
    · have HE := Lib.hid (show k = n by omega)
      go_wp2
      go_ret
      exact ⟨ret_bool (by rw [decide_eq_true (HXY.out.2 (fun i hi => HA.out i (by rw [HE.out]; exact hi)))]), HK.out⟩
set_option maxHeartbeats 800000 in
theorem indexesOf_any (ad : Option Addr) (cap n : Nat) (w : World) (hn : n ≤ 1048576) :
    Calls Try.prog 102 #[.slice ad n cap] w fun e w' => ∃ rd rc, e = .returned (.slice rd n rc) ∧ Own w' w.heap.size rd rc (idxs n) ∧ Keep w w' := by
  obtain ⟨i0, hi, hz0, hz1, hz2⟩ := info_parts Try.infoI
  have hb8 : i0.bytes * n ≤ 281474976710656 := by rw [hz2]; omega
  have hml : n ≤ maxLen := by unfold maxLen; omega
  go_enter Try.func102, Try.ntmps102
  go_wp2_with (at_make; refine wpList_make_full w rfl _ _ 69 rfl w.heap.size 2 i0 (.int .i64 0) 1 Try.underlying69 hi hz0 hz1 .i64 .i64 _ _ n rfl rfl rfl rfl hb8 hml (Nat.le_refl _) ?_)
  intro w0 hown0 hgrow0
  have hown0 : w0.ownsRow w.heap.size 2 1 (.slice (some ⟨w.heap.size, 0, none⟩) n n) n (List.replicate n (.int .i64 0)) := by simpa [Value.cells, toList_madeCells_one] using hown0
  have hk0 : Keep w w0 := (Below.refl _ _).grown hgrow0 (Nat.le_refl _) (fun k h => by cases h)
  clear hgrow0
  obtain ⟨B, hB⟩ : ∃ B, B = w.heap.size := ⟨_, rfl⟩
  rw [← hB] at hown0 ⊢
  have HB := Lib.hid hB; clear hB
  go_wp2
  go_loopw [4, 10] (fun _ i wr => ∃ k : Nat, k ≤ n ∧ i = .int .i64 k ∧ wr.ownsRow B 2 1 (.slice (some ⟨B, 0, none⟩) n n) n (vals (idxs k) ++ List.replicate (n - k) (.int .i64 0)) ∧ Below B w wr)
    (fun _ i _ => n - (intOf i).toNat)
  case atStart => exact ⟨0, Nat.zero_le _, rfl, by simpa [idxs] using hown0, by rw [HB.out]; exact hk0⟩
  case round =>
    obtain ⟨k, hk, rfl, hown, hbel⟩ := hrel
    by_cases hlt : k < n
    · have hil : (vals (idxs k)).length = k := by simp [vals, idxs_len]
      have hcy : wr.cell? ⟨B, k, none⟩ = some (.int .i64 0) := by
        rw [hown.cellAt k (by omega), List.getElem?_append_right (by omega), hil, List.getElem?_replicate, if_pos (by omega)]
      have hfy := hown.frozenAt k
      have HST := Lib.hid (hown.stored k (.int .i64 k))
      have HE : Hid ((vals (idxs k) ++ List.replicate (n - k) (Value.int .i64 0)).set k (.int .i64 k) = vals (idxs (k + 1)) ++ List.replicate (n - (k + 1)) (.int .i64 0)) := Lib.hid (by
        rw [List.set_append_right _ _ (by omega), hil, Nat.sub_self, show n - k = (n - (k + 1)) + 1 from by omega, List.replicate_succ, List.set_cons_zero]
        simp [idxs, vals, List.range_succ])
      clear hil
      go_wp2
      go_roundw
      case rel => exact ⟨k + 1, by omega, by go_num, by have s := HST.out.1; rw [HE.out] at s; exact s, hbel.setCell (Nat.le_refl _) _⟩
      case measure => simp [intOf]; omega
    · have HE := Lib.hid (show k = n by omega)
      go_wp2
      go_ret
      have e := HE.out
      have hBB := HB.out
      subst e
      refine ⟨some ⟨B, 0, none⟩, k, rfl, ⟨by rw [idxs_len, ← hBB]; simpa using hown, by rw [idxs_len]; omega, fun z hz => ?_⟩, by have h := hbel; rw [hBB] at h; exact h⟩
      have := (idxs_mem k z).1 hz
      exact ⟨by omega, by omega⟩
set_option maxHeartbeats 800000 in
theorem isOrder_any (ad : Option Addr) (cap : Nat) (zs : List Int) (c : Nat) (w : World) (hz : Ints w ad zs) (h1 : 1 ≤ zs.length) (hl : zs.length ≤ 1048576) (hc : c ≤ 1048576) :
    Calls Try.prog 58 #[.slice ad zs.length cap, .int .i64 c] w fun e w' => e = .returned (.bool (decide (zs.length = c) && ordB zs)) ∧ Keep w w' := by
  have hsm := hz.small
  by_cases hlc : zs.length = c
  · have HV : Hid ((decide (zs.length = c) && ordB zs) = decide (srt zs = idxs zs.length)) := Lib.hid (by rw [decide_eq_true hlc]; rfl)
    rw [HV.out]
    have hb : ((zs.length : Int) != (c : Int)) = false := by simp; omega
    have HS := Lib.hid (fun W (k : Keep w W) Bs hBs => SortedV_any ad cap Bs zs W (hz.keep k (Nat.le_refl _)) hBs h1 hl)
    have HI := Lib.hid (fun W => indexesOf_any ad cap zs.length W hl)
    have HEQ := Lib.hid (fun W rd rc sd sc (x : Ints W rd (srt zs)) (y : Ints W sd (idxs zs.length)) => EqualI_any rd sd rc sc (srt zs) (idxs zs.length) W x y (by rw [srt_len, idxs_len]))
    have hsl := srt_len zs
    rw [hsl, idxs_len] at HEQ
    have HSL := Lib.hid hsl
    clear hlc hz HV hsl
    generalize zs.length = n at *
    go_enter Try.func58, Try.ntmps58
    go_wp2_with (go_at_call 100; refine (ValuesI_any ad n cap _).mono ?_; rintro e w1 ⟨rfl, c1, k1⟩)
    refine (HS.out w1 k1 _ c1).mono ?_
    rintro e w2 ⟨rd, rc, rfl, z2, k2⟩
    have K2 : Hid (Keep w w2) := Lib.hid (Keep.next k1 k2)
    have Z2 := Lib.hid z2
    clear k2 z2
    go_wp2_with fail
    refine (HI.out _).mono ?_
    rintro e w3 ⟨sd, sc, rfl, o3, k3⟩
    have Z3 := Lib.hid o3.ints
    have K3 := Lib.hid k3
    clear o3 k3
    go_wp2_with fail
    refine (HEQ.out _ _ _ _ _ (Z2.out.keep K3.out (Nat.le_refl _)) Z3.out).mono ?_
    rintro e w4 ⟨rfl, k4⟩
    have K4 : Hid (Keep w w4) := Lib.hid (Keep.next (Keep.next K2.out K3.out) k4)
    clear k4
    go_wp2
    go_ret
    exact ⟨rfl, K4.out⟩
  · have hb : ((zs.length : Int) != (c : Int)) = true := by simp; omega
    rw [show (decide (zs.length = c) && ordB zs) = false from by rw [decide_eq_false hlc]; rfl]
    clear hlc
    go_enter Try.func58, Try.ntmps58
    go_wp2
    go_ret
    exact ⟨rfl, Below.refl _ _⟩
end Go.Proofs.Ytjoanfgchapbaaa
