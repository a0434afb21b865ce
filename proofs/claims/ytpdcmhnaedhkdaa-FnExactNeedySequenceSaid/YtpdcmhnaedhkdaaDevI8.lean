/- Deviations: the program's side. -/
import Derived.Test.YtpdcmhnaedhkdaaDev8
import Derived.Test.YtpdcmhnaedhkdaaTot
namespace Go.Proofs.Ytpdcmhnaedhkdaa
open Go.ChangeShapes Go.WideShapes Go.ChangeAt Go.RowKit Go.Deep
set_option linter.unusedVariables false
theorem devF_fill_set (d : List Int) (f : Nat → Int) (k : Int) (n : Nat) (h : n < d.length) (z : Value) :
    (vals ((devF d f k).take n) ++ List.replicate (d.length - n) z).set n (.int .i64 (d.sum * f n - k * d.getD n 0)) = vals ((devF d f k).take (n + 1)) ++ List.replicate (d.length - (n + 1)) z := by
  have e := fill_set (devF d f k) n (by rw [devF_len]; exact h) z
  rw [devF_len, devF_get d f k n h] at e
  exact e
theorem devF_fill_get (d : List Int) (f : Nat → Int) (k : Int) (n : Nat) (h : n < d.length) (z : Value) : (vals ((devF d f k).take n) ++ List.replicate (d.length - n) z)[n]? = some z := by
  have e := fill_get (devF d f k) n (by rw [devF_len]; exact h) z
  rw [devF_len] at e
  exact e
set_option maxHeartbeats 1600000 in
theorem deviationsAt_any (ad : Option Addr) (cap : Nat) (d : List Int) (f : Nat → Int) (k : Int) (w : World) (hz : Ints w ad d) (hok : okD d = true) (hf : ∀ i, i < d.length → 0 ≤ f i ∧ f i ≤ 260) (hk : 0 ≤ k ∧ k ≤ 260) :
    Calls Try.prog 90 #[.slice ad d.length cap, .agg (six f), .int .i64 k] w fun e w' =>
      e = .returned (.slice (some ⟨w.heap.size + 1, 0, none⟩) d.length d.length) ∧ Own w' (w.heap.size + 1) (some ⟨w.heap.size + 1, 0, none⟩) d.length (devF d f k) ∧ Keep w w' := by
  have hdl := hz.small
  have hp := okD_parts hok
  have h6 := hp.2.1
  have hD := okD_sum hok
  obtain ⟨i0, hi, hz0, hz1, hz2⟩ := info_parts Try.infoI
  have hb8 : i0.bytes * d.length ≤ 281474976710656 := by rw [hz2]; omega
  have hml : d.length ≤ maxLen := by unfold maxLen; omega
  have HIN := Lib.hid (devF_in hok hf hk)
  have HDM := Lib.hid hp.2.2.1
  have HF := Lib.hid hf
  have HLE := Lib.hid (devF_len d f k)
  have HTOT := Lib.hid (fun W (kk : Keep w W) => total_any ad cap d W (hz.keep kk (Nat.le_refl _)) (okD_sumb hok) (by omega))
  have HSET := Lib.hid (fun n h => devF_fill_set d f k n h (.int .i64 0))
  have HGET := Lib.hid (fun n h => devF_fill_get d f k n h (.int .i64 0))
  have A0 : Arr (w.alloc (.cells (six f) 81)) w.heap.size f := heap_alloc_new w _
  have K0 : Keep w (w.alloc (.cells (six f) 81)) := by go_grown
  have hs0 : (w.alloc (.cells (six f) 81)).heap.size = w.heap.size + 1 := by simp
  clear hf hp
  generalize devF d f k = E at *
  generalize hDs : d.sum = D at *
  clear hDs
  go_enter Try.func90, Try.ntmps90
  go_wp2_with fail
  refine (HTOT.out _ K0).mono ?_
  rintro e w1 ⟨rfl, rfl⟩
  generalize w.alloc (.cells (six f) 81) = W0 at *
  have HA0 := Lib.hid A0
  have HK0 := Lib.hid K0
  clear A0 K0
  obtain ⟨A, hA⟩ : ∃ A, A = w.heap.size := ⟨_, rfl⟩
  have HAe := Lib.hid hA
  rw [← hA] at hs0 HA0 ⊢
  clear hA
  go_wp2_with (at_make; refine wpList_make_full W0 rfl _ _ 22 rfl (A + 1) 2 i0 (.int .i64 0) 1 Try.underlying22 hi hz0 hz1 .i64 .i64 _ _ d.length rfl rfl rfl rfl hb8 hml (by omega) ?_)
  intro w0 hown0 hgrow0
  have hown0 : w0.ownsRow (A + 1) 2 1 (.slice (some ⟨A + 1, 0, none⟩) d.length d.length) d.length (List.replicate d.length (.int .i64 0)) := by simpa [Value.cells, toList_madeCells_one] using hown0
  have hk0 : Below (A + 1) W0 w0 := (Below.refl _ _).grown hgrow0 (by omega) (fun k h => by cases h)
  have HOB := Lib.hid hown0
  have HK1 := Lib.hid hk0
  clear hgrow0 hown0 hk0
  go_wp2
  go_loopw [9, 10, 18] (fun _ _ i wr => ∃ n : Nat, n ≤ d.length ∧ i = .int .i64 n ∧ Hid (wr.ownsRow (A + 1) 2 1 (.slice (some ⟨A + 1, 0, none⟩) d.length d.length) d.length (vals (E.take n) ++ List.replicate (d.length - n) (.int .i64 0))) ∧ Hid (Below (A + 1) W0 wr))
    (fun _ _ i _ => d.length - (intOf i).toNat)
  case atStart => exact ⟨0, Nat.zero_le _, rfl, Lib.hid (by simpa using HOB.out), HK1⟩
  case round =>
    obtain ⟨n, hn, rfl, HO, HK⟩ := hrel
    by_cases hlt : n < d.length
    · have HKW : Hid (Keep w wr) := Lib.hid (HK0.out.trans (HK.out.mono (by rw [HAe.out]; omega)))
      rcases (hz.keep HKW.out (Nat.le_refl _)).at_ with h | ⟨b, off, rfl, hb1, hc⟩
      · subst h; simp at hlt
      have q1 := hc n hlt
      have q2 := (HA0.out.keep HK.out (by omega)).cell n (by omega)
      have hdk := HDM.out n hlt
      have hfk := HF.out n hlt
      have hcy : wr.cell? ⟨A + 1, n, none⟩ = some (.int .i64 0) := by rw [HO.out.cellAt n (by omega), HGET.out n hlt]
      have hfy := HO.out.frozenAt n
      have HE := Lib.hid (HSET.out n hlt)
      have HST := Lib.hid (HO.out.stored n (.int .i64 (D * f n - k * d.getD n 0)))
      have hn6 : (n : Int) < 6 := by omega
      clear hc
      generalize d.getD n 0 = x at q1 hdk HE HST
      generalize f n = y at q2 hfk HE HST
      have m1 := mul_bd8 (D := D) (x := y) (by omega) (by omega)
      have m2 := mul_bd8 (D := k) (x := x) (by omega) (by omega)
      have V1 : IntKind.i64.wrap (D * y) = D * y := IntWalk.i64_in _ (by omega)
      have V2 : IntKind.i64.wrap (k * x) = k * x := IntWalk.i64_in _ (by omega)
      have V3 : IntKind.i64.wrap (D * y - k * x) = D * y - k * x := IntWalk.i64_in _ (by omega)
      go_wp2
      go_roundw
      case rel =>
        obtain ⟨s1, s2⟩ := HST.out
        rw [HE.out] at s1
        exact ⟨n + 1, by omega, by go_num, Lib.hid s1, Lib.hid (HK.out.setCell (Nat.le_refl _) _)⟩
      case measure => simp [intOf]; omega
    · have e := Lib.hid (show n = d.length by omega)
      go_wp2
      go_ret
      have h := HO.out
      rw [e.out, Nat.sub_self, List.replicate_zero, List.append_nil, ← HLE.out, List.take_length] at h
      refine ⟨congrArg (fun j => Ending.returned (Value.slice (some ⟨j + 1, 0, none⟩) d.length d.length)) HAe.out, ?_, HK0.out.trans (HK.out.mono (by rw [HAe.out]; omega))⟩
      rw [← HAe.out, ← HLE.out]
      exact ⟨h, by rw [HLE.out]; omega, fun z hz => by have := HIN.out z hz; exact ⟨by omega, by omega⟩⟩
end Go.Proofs.Ytpdcmhnaedhkdaa
