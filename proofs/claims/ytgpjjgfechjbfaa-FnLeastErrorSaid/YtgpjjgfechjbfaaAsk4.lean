/- The best rounding with a sum, and how many are as good: the model's side. -/
import Derived.Test.YtgpjjgfechjbfaaPut4
namespace Go.Proofs.Ytgpjjgfechjbfaa
open Go.ChangeShapes Go.WideShapes Go.ChangeAt Go.RowKit Go.Deep
set_option linter.unusedVariables false
theorem mst_ex {norm g : Int} {zs : List Int} {u : Nat} (hg : 1 ≤ g) (hu : u ≤ gtC 0 (reL g zs)) : ∃ m, IsMst norm g (reL g zs) u m ∧ m ≤ g := by
  have hp := List.mergeSort_perm (g :: 0 :: reL g zs) (fun a b => decide (b ≤ a))
  have hs : ((g :: 0 :: reL g zs).mergeSort (fun a b => decide (b ≤ a))).Pairwise fun a b => decide (b ≤ a) = true :=
    List.pairwise_mergeSort (fun a b c h1 h2 => by simp at *; omega) (fun a b => by simp; omega) _
  have hd : Desc ((g :: 0 :: reL g zs).mergeSort (fun a b => decide (b ≤ a))) := fun i j hij hj => by
    rw [List.pairwise_iff_getElem] at hs
    have := hs i j (by omega) hj hij
    rw [getD_get _ i (by omega), getD_get _ j hj]
    simpa using this
  have hr := ranks_of hg (rests_in hg zs) hu hp hd
  exact ⟨_, isMst_of (norm := norm) hg (rests_in hg zs) hr, (mostOf_nn hr).2⟩
set_option maxHeartbeats 800000 in
theorem l04Ask_any (B : Nat) (g : Int) (ad : Option Addr) (cap : Nat) (zs : List Int) (sum norm : Int) (w : World) (hz : Ints w ad zs)
    (c0 : w.cell? ⟨B, 0, none⟩ = some (.int .i64 g)) (c1 : w.cell? ⟨B, 1, none⟩ = some (.slice ad zs.length cap)) :
    Calls Try.prog 93 #[.pointer (some ⟨B, 0, none⟩), .int .i64 sum, .int .i64 norm] w fun e w' => e = .returned (.bool (askB norm g zs sum)) ∧ Keep w w' := by
  have HA : Hid (askB norm g zs sum = (okV g zs && (inB norm 0 2 && inB sum (sumR fl g zs) (sumR ce g zs)))) := Lib.hid rfl
  generalize askB norm g zs sum = A at *
  cases h1 : okV g zs
  · have HX : Hid (A = false) := Lib.hid (by rw [HA.out, h1]; rfl)
    go_enter Try.func93, Try.ntmps93
    go_wp2_with fail
    refine (l01Is_any B g ad cap zs _ hz c0 c1).mono ?_
    rw [h1]
    rintro e w1 ⟨rfl, rfl⟩
    go_wp2
    go_ret
    exact ⟨ret_bool HX.out.symm, Below.refl _ _⟩
  cases h2 : inB norm 0 2
  · have HX : Hid (A = false) := Lib.hid (by rw [HA.out, h1, h2]; rfl)
    go_enter Try.func93, Try.ntmps93
    go_wp2_with fail
    refine (l01Is_any B g ad cap zs _ hz c0 c1).mono ?_
    rw [h1]
    rintro e w1 ⟨rfl, rfl⟩
    go_wp2_with (go_at_call 90; refine (l04Norm_any _ _).mono ?_; rw [h2]; rintro e w' ⟨rfl, rfl⟩)
    go_ret
    exact ⟨ret_bool HX.out.symm, Below.refl _ _⟩
  · have HX : Hid (A = inB sum (sumR fl g zs) (sumR ce g zs)) := Lib.hid (by rw [HA.out, h1, h2]; rfl)
    go_enter Try.func93, Try.ntmps93
    go_wp2_with fail
    refine (l01Is_any B g ad cap zs _ hz c0 c1).mono ?_
    rw [h1]
    rintro e w1 ⟨rfl, rfl⟩
    go_wp2_with (go_at_call 90; refine (l04Norm_any _ _).mono ?_; rw [h2]; rintro e w' ⟨rfl, rfl⟩)
    refine (l04Bounds_any B g ad cap zs _ hz h1 c0 c1).mono ?_
    rintro e w2 ⟨rfl, k2⟩
    generalize sumR fl g zs = lo at *
    generalize sumR ce g zs = hi at *
    go_wp2_with (go_at_call 104; refine (l00In_any _ _ _ _).mono ?_; rintro e w' ⟨rfl, rfl⟩)
    go_ret
    exact ⟨ret_bool HX.out.symm, k2⟩
set_option maxHeartbeats 3200000 in
set_option maxRecDepth 100000 in
theorem specBestRounding_any (g : Int) (ad : Option Addr) (cap : Nat) (zs : List Int) (sum norm : Int) (w : World) (hz : Ints w ad zs) (us : In64 sum) (un : In64 norm) :
    Calls Try.prog 44 #[valV g ad zs.length cap, .int .i64 sum, .int .i64 norm] w fun e w' =>
      ∃ rd rc, e = .returned (.tuple #[.slice rd (bestV norm g zs sum).length rc, .bool (askB norm g zs sum)]) ∧ Own w' w.heap.size rd rc (bestV norm g zs sum) ∧ Keep w w' := by
  have B0 : Box (w.alloc (.cells #[.int .i64 g, .slice ad zs.length cap] 26)) w.heap.size g ad zs.length cap := ⟨by simp, by simp, by simp⟩
  cases h1 : askB norm g zs sum
  · rw [show bestV norm g zs sum = [] from by simp [bestV, h1]]
    go_enter Try.func44, Try.ntmps44
    go_wp2_with fail
    refine (l04Ask_any w.heap.size g ad cap zs sum norm _ (hz.keep (B := _) (by go_grown) (Nat.le_refl _)) (by simp) (by simp)).mono ?_
    rw [h1]
    rintro e w1 ⟨rfl, k1⟩
    have HK := Lib.hid (show Keep w w1 from Keep.next (by go_grown) k1)
    go_wp2
    go_ret2
    exact ⟨none, 0, rfl, Own.nil _ _, HK.out⟩
  obtain ⟨hok, hs, hu⟩ := ask_parts h1
  have hg := okV_den hok
  have h40 := okV_len hok
  have hnum := okV_num hok
  have HE : Hid (bestV norm g zs sum = putL (flL g zs) (fixL norm g zs (upsOf g zs sum)) (upsOf g zs sum - isC 1 (fixL norm g zs (upsOf g zs sum)))) := Lib.hid (by simp [bestV, h1])
  have HEX := Lib.hid (mst_ex (norm := norm) (by omega : 1 ≤ g) hu)
  have hu40 : upsOf g zs sum ≤ 40 := by have := List.countP_le_length (p := fun r => decide (0 < r)) (l := reL g zs); unfold gtC at hu; rw [reL_len] at this; omega
  have HFX : Hid (∀ m, IsMst norm g (reL g zs) (upsOf g zs sum) m → fixL norm g zs (upsOf g zs sum) = (reL g zs).map (fixX norm g m)) := Lib.hid (fun m h => by unfold fixL; rw [mst_eq h])
  have HN := Lib.hid hnum
  have HB := Lib.hid B0
  have HRI := Lib.hid (rests_in (by omega : 1 ≤ g) zs)
  have hRl := reL_len g zs
  have hsl : sum - sumR fl g zs = ((upsOf g zs sum : Nat) : Int) := by rw [sum_fl]; omega
  have hsb := sumR_bd fl g zs (fun z hz => by have := fl_bd (a := z) (b := g) (M := 1000000) (by omega) (hnum z hz).1 (hnum z hz).2 (by omega); omega) zs.length (Nat.le_refl _)
  rw [List.take_length] at hsb
  have hw1 : IntKind.i64.wrap (sum - sumR fl g zs) = ((upsOf g zs sum : Nat) : Int) := by rw [hsl]; exact IntWalk.i64_in _ (by omega)
  have HW1 := Lib.hid hw1
  clear hs hu hnum B0 hsl hw1
  go_enter Try.func44, Try.ntmps44
  go_wp2_with fail
  refine (l04Ask_any w.heap.size g ad cap zs sum norm _ (hz.keep (B := _) (by go_grown) (Nat.le_refl _)) (by simp) (by simp)).mono ?_
  rw [h1]
  rintro e w1 ⟨rfl, k1⟩
  have HB1 := Lib.hid (HB.out.keep k1)
  have HK := Lib.hid (show Keep w w1 from Keep.next (by go_grown) k1)
  obtain ⟨x0, x1, xl⟩ := HB1.out
  clear k1
  go_wp2_with fail
  refine (l04Bounds_any w.heap.size g ad cap zs w1 (hz.keep HK.out (Nat.le_refl _)) hok x0 x1).mono ?_
  rintro e w2 ⟨rfl, k2⟩
  have HB2 := Lib.hid (HB1.out.keep k2)
  have HK2 := Lib.hid (HK.out.next k2)
  have HZ2 := Lib.hid (hz.keep HK2.out (Nat.le_refl _))
  clear x0 x1 xl k2 HB HB1 HK
  have C1 : Hid (∀ W, Keep w2 W → Calls Try.prog 95 #[.slice ad zs.length cap, .int .i64 g] W fun e w' => ∃ rd rc, e = .returned (.slice rd (reL g zs).length rc) ∧ Own w' W.heap.size rd rc (reL g zs) ∧ Keep W w') :=
    Lib.hid (fun W k => l04Rests_any ad cap zs g W (HZ2.out.keep k (Nat.le_refl _)) (fun z hz => by have := HN.out z hz; omega) (by omega) (by omega) (by omega))
  have hw1 := HW1.out
  clear HW1 hsb
  generalize sumR fl g zs = slo at *
  generalize sumR ce g zs = shi at *
  generalize upsOf g zs sum = u at *
  generalize fixL norm g zs u = FX at *
  generalize hR : reL g zs = R at *
  have HR := Lib.hid hR; clear hR
  have hr40 : R.length ≤ 40 := by omega
  have HRl := Lib.hid hRl; clear hRl
  have HS : Hid (∀ w', Keep w2 w' → (w'.cell? ⟨w.heap.size, 0, none⟩ = some (.int .i64 g) ∧ w'.cell? ⟨w.heap.size, 1, none⟩ = some (.slice ad zs.length cap)) ∧ Keep w2 w') :=
    Lib.hid (fun w' k => ⟨⟨(HB2.out.keep k).c0, (HB2.out.keep k).c1⟩, k⟩)
  have hh0 := (HS.out w2 (Below.refl _ _)).1
  go_wp2_with fail
  go_region_held3 (fun w' => (w'.cell? ⟨w.heap.size, 0, none⟩ = some (.int .i64 g) ∧ w'.cell? ⟨w.heap.size, 1, none⟩ = some (.slice ad zs.length cap)) ∧ Keep w2 w')
    (first | exact HS.out _ (Keep.next (Keep.next (Keep.next (by go_grown) k5) (by go_grown)) k6) | exact HS.out _ (Keep.next (Keep.next (by go_grown) k5) (by go_grown)) | exact HS.out _ (by go_grown))
    (first | (go_at_call 95; refine (C1.out _ (by go_grown)).mono ?_; rintro e w5 ⟨rd, rc, rfl, o5, k5⟩) | (go_at_call 94; refine (l04Fixed_any norm g u rd rc R _ ((o5.keep (by go_grown)).ints) HRI.out hr40 (by omega) (by omega) hu40 HEX.out).mono ?_; rintro e w6 ⟨m, rd6, rc6, hm, rfl, o6, k6⟩))
  have hm2 := hm.2.1.2.1
  have HMF := Lib.hid (HFX.out m hm)
  have HK6 := Lib.hid (HK2.out.next (Keep.next (Keep.next (by go_grown) k5) k6))
  have HO6 := Lib.hid o6
  have HZ6 := Lib.hid (HZ2.out.keep (show Keep w2 w6 from Keep.next (Keep.next (by go_grown) k5) k6) (Nat.le_refl _))
  have hw56 := k6.size
  have hw5 : w2.heap.size ≤ w5.heap.size := by have := k5.size; simpa using this
  obtain ⟨⟨x0, x1⟩, _⟩ := HS.out w6 (Keep.next (Keep.next (by go_grown) k5) k6)
  have hCl : R.length = (R.map (fixX norm g m)).length := by simp
  rw [hCl]
  clear k5 k6 o5 o6 hm C1 HS hh0
  generalize R.map (fixX norm g m) = C at *
  have hCZ : C.length = zs.length := by rw [← hCl]; exact HRl.out
  have HCZ := Lib.hid hCZ
  clear hCl hCZ
  have hun : (u : Int) - (isC 1 C : Nat) = ((u - isC 1 C : Nat) : Int) := by omega
  have hle : u - isC 1 C ≤ 40 := by omega
  rw [hun]
  have HUM : Hid (u - isC 1 FX = u - isC 1 C) := Lib.hid (by rw [HMF.out])
  have HFl := Lib.hid (flL_len g zs)
  have HFB := Lib.hid (flL_in hok)
  have hf40 : (flL g zs).length ≤ 40 := by rw [HFl.out]; exact h40
  have C2 : Hid (∀ W, Keep w6 W → Calls Try.prog 97 #[.slice ad zs.length cap, .int .i64 g] W fun e w' => ∃ rd rc, e = .returned (.slice rd (flL g zs).length rc) ∧ Own w' W.heap.size rd rc (flL g zs) ∧ Keep W w') :=
    Lib.hid (fun W k => l04Floors_any ad cap zs g W (HZ6.out.keep k (Nat.le_refl _)) (fun z hz => by have := HN.out z hz; omega) (by omega) (by omega) (by omega))
  clear hun hm2
  generalize u - isC 1 C = v at *
  generalize hF : flL g zs = F at *
  clear hF
  go_wp2_with fail
  refine (C2.out _ (by go_grown)).mono ?_
  rintro e w7 ⟨fd, fc, rfl, o7, k7⟩
  have HO7 := Lib.hid o7
  have HK7 := Lib.hid (HK6.out.next (Keep.next (by go_grown) k7))
  have HOC := Lib.hid (HO6.out.keep (show Keep w6 w7 from Keep.next (by go_grown) k7))
  clear o7 k7 C2 x0 x1
  go_wp2_with fail
  refine (l04Put_any fd fc F rd6 rc6 C v w7 HO7.out.ints HOC.out.ints (by rw [HCZ.out, HFl.out]) hf40 hle (fun f hf => by have := HFB.out f hf; omega)).mono ?_
  rintro e w8 ⟨pd, pc, rfl, o8, k8⟩
  have HO8 := Lib.hid (o8.mono (B' := w.heap.size) HK7.out.size)
  have HK8 := Lib.hid (HK7.out.next k8)
  clear o8 k8
  have HPE : Hid (bestV norm g zs sum = putL F C v) := Lib.hid (by rw [HE.out, HUM.out, HMF.out])
  generalize putL F C v = P at *
  go_wp2
  refine bodyPost_ret (v := .tuple #[.slice pd P.length pc, .bool true]) (by simp [results, Try.results44, go_sem]) rfl ?_
  exact ⟨pd, pc, by rw [HPE.out], by rw [HPE.out]; exact HO8.out, HK8.out⟩
end Go.Proofs.Ytgpjjgfechjbfaa
