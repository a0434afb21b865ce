/- How many roundings are as good: the model's side. -/
import Derived.Test.YtgpjjgfechjbfaaAsk4
namespace Go.Proofs.Ytgpjjgfechjbfaa
open Go.ChangeShapes Go.WideShapes Go.ChangeAt Go.RowKit Go.Deep
set_option linter.unusedVariables false
def mn (a b : Int) : Int := if a < b then a else b
theorem l00Min_any (a b : Int) (w : World) :
    Calls Try.prog 98 #[.int .i64 a, .int .i64 b] w fun e w' => e = .returned (.int .i64 (mn a b)) ∧ w = w' := by
  by_cases h : a < b
  · rw [show mn a b = a from by simp [mn, h]]
    go_enter Try.func98, Try.ntmps98
    go_wp2
    go_ret
    exact ⟨rfl, rfl⟩
  · rw [show mn a b = b from by simp [mn, h]]
    go_enter Try.func98, Try.ntmps98
    go_wp2
    go_ret
    exact ⟨rfl, rfl⟩
set_option maxHeartbeats 3200000 in
set_option maxRecDepth 100000 in
theorem specCountBest_any (g : Int) (ad : Option Addr) (cap : Nat) (zs : List Int) (sum norm : Int) (w : World) (hz : Ints w ad zs) (us : In64 sum) (un : In64 norm) :
    Calls Try.prog 48 #[valV g ad zs.length cap, .int .i64 sum, .int .i64 norm] w fun e w' =>
      e = .returned (.tuple #[.int .i64 (cntV norm g zs sum), .bool (cntB norm g zs sum)]) ∧ Keep w w' := by
  have B0 : Box (w.alloc (.cells #[.int .i64 g, .slice ad zs.length cap] 26)) w.heap.size g ad zs.length cap := ⟨by simp, by simp, by simp⟩
  cases h1 : askB norm g zs sum
  · rw [show cntV norm g zs sum = 0 from by simp [cntV, cntB, h1], show cntB norm g zs sum = false from by simp [cntB, h1]]
    go_enter Try.func48, Try.ntmps48
    go_wp2_with fail
    refine (l04Ask_any w.heap.size g ad cap zs sum norm _ (hz.keep (B := _) (by go_grown) (Nat.le_refl _)) (by simp) (by simp)).mono ?_
    rw [h1]
    rintro e w1 ⟨rfl, k1⟩
    have HK := Lib.hid (show Keep w w1 from Keep.next (by go_grown) k1)
    go_wp2
    go_ret2
    exact ⟨rfl, HK.out⟩
  obtain ⟨hok, hs, hu⟩ := ask_parts h1
  have hg := okV_den hok
  have h40 := okV_len hok
  have hnum := okV_num hok
  have HE : Hid (cntB norm g zs sum = decide (waysN norm g zs sum ≤ 1000000)) := Lib.hid (by simp [cntB, h1])
  have HW : Hid (waysN norm g zs sum = chs (isC 0 (fixL norm g zs (upsOf g zs sum))) (upsOf g zs sum - isC 1 (fixL norm g zs (upsOf g zs sum)))) := Lib.hid rfl
  have HV : Hid (cntV norm g zs sum = ((if cntB norm g zs sum then waysN norm g zs sum else 0 : Nat) : Int)) := Lib.hid (by unfold cntV; split <;> rfl)
  generalize cntV norm g zs sum = V at *
  generalize cntB norm g zs sum = BB at *
  generalize waysN norm g zs sum = Wn at *
  have HEX := Lib.hid (mst_ex (norm := norm) (by omega : 1 ≤ g) hu)
  have hu40 : upsOf g zs sum ≤ 40 := by have := List.countP_le_length (p := fun r => decide (0 < r)) (l := reL g zs); unfold gtC at hu; rw [reL_len] at this; omega
  have HFX : Hid (∀ m, IsMst norm g (reL g zs) (upsOf g zs sum) m → fixL norm g zs (upsOf g zs sum) = (reL g zs).map (fixX norm g m)) := Lib.hid (fun m h => by unfold fixL; rw [mst_eq h])
  have HN := Lib.hid hnum
  have HB := Lib.hid B0
  have HRI := Lib.hid (rests_in (by omega : 1 ≤ g) zs)
  have hRl := reL_len g zs
  have hsl : sum - sumR fl g zs = ((upsOf g zs sum : Nat) : Int) := by rw [sum_fl]; omega
  have hsb := sumR_bd fl g zs (fun z hz => by have := fl_bd (a := z) (b := g) (M := 1000000) (by omega) (hnum z hz).1 (hnum z hz).2 (by omega); omega) zs.length (Nat.le_refl _)
  rw [List.take_length] at hsb
  have hw1 : IntKind.i64.wrap (sum - sumR fl g zs) = ((upsOf g zs sum : Nat) : Int) := by rw [hsl]; exact IntWalk.i64_in _ (by omega)
  have HW1 := Lib.hid hw1
  clear hs hu hnum B0 hsl hw1
  go_enter Try.func48, Try.ntmps48
  go_wp2_with fail
  refine (l04Ask_any w.heap.size g ad cap zs sum norm _ (hz.keep (B := _) (by go_grown) (Nat.le_refl _)) (by simp) (by simp)).mono ?_
  rw [h1]
  rintro e w1 ⟨rfl, k1⟩
  have HB1 := Lib.hid (HB.out.keep k1)
  have HK := Lib.hid (show Keep w w1 from Keep.next (by go_grown) k1)
  obtain ⟨x0, x1, xl⟩ := HB1.out
  clear k1
  go_wp2_with fail
  refine (l04Bounds_any w.heap.size g ad cap zs w1 (hz.keep HK.out (Nat.le_refl _)) hok x0 x1).mono ?_
  rintro e w2 ⟨rfl, k2⟩
  have HB2 := Lib.hid (HB1.out.keep k2)
  have HK2 := Lib.hid (HK.out.next k2)
  have HZ2 := Lib.hid (hz.keep HK2.out (Nat.le_refl _))
  clear x0 x1 xl k2 HB HB1 HK
  have C1 : Hid (∀ W, Keep w2 W → Calls Try.prog 95 #[.slice ad zs.length cap, .int .i64 g] W fun e w' => ∃ rd rc, e = .returned (.slice rd (reL g zs).length rc) ∧ Own w' W.heap.size rd rc (reL g zs) ∧ Keep W w') :=
    Lib.hid (fun W k => l04Rests_any ad cap zs g W (HZ2.out.keep k (Nat.le_refl _)) (fun z hz => by have := HN.out z hz; omega) (by omega) (by omega) (by omega))
  have hw1 := HW1.out
  clear HW1 hsb
  generalize sumR fl g zs = slo at *
  generalize sumR ce g zs = shi at *
  generalize upsOf g zs sum = u at *
  generalize fixL norm g zs u = FX at *
  generalize hR : reL g zs = R at *
  have HR := Lib.hid hR; clear hR
  have hr40 : R.length ≤ 40 := by omega
  have HRl := Lib.hid hRl; clear hRl
  have HS : Hid (∀ w', Keep w2 w' → (w'.cell? ⟨w.heap.size, 0, none⟩ = some (.int .i64 g) ∧ w'.cell? ⟨w.heap.size, 1, none⟩ = some (.slice ad zs.length cap)) ∧ Keep w2 w') :=
    Lib.hid (fun w' k => ⟨⟨(HB2.out.keep k).c0, (HB2.out.keep k).c1⟩, k⟩)
  have hh0 := (HS.out w2 (Below.refl _ _)).1
  go_wp2_with fail
  go_region_held3 (fun w' => (w'.cell? ⟨w.heap.size, 0, none⟩ = some (.int .i64 g) ∧ w'.cell? ⟨w.heap.size, 1, none⟩ = some (.slice ad zs.length cap)) ∧ Keep w2 w')
    (first | exact HS.out _ (Keep.next (Keep.next (Keep.next (by go_grown) k5) (by go_grown)) k6) | exact HS.out _ (Keep.next (Keep.next (by go_grown) k5) (by go_grown)) | exact HS.out _ (by go_grown))
    (first | (go_at_call 95; refine (C1.out _ (by go_grown)).mono ?_; rintro e w5 ⟨rd, rc, rfl, o5, k5⟩) | (go_at_call 94; refine (l04Fixed_any norm g u rd rc R _ ((o5.keep (by go_grown)).ints) HRI.out hr40 (by omega) (by omega) hu40 HEX.out).mono ?_; rintro e w6 ⟨m, rd6, rc6, hm, rfl, o6, k6⟩))
  have hm2 := hm.2.1.2.1
  have hm3 := hm.2.1.2.2
  have HMF := Lib.hid (HFX.out m hm)
  have HK6 := Lib.hid (HK2.out.next (Keep.next (Keep.next (by go_grown) k5) k6))
  have HO6 := Lib.hid o6
  have hCl : R.length = (R.map (fixX norm g m)).length := by simp
  rw [hCl]
  clear k5 k6 o5 o6 hm C1 HS hh0
  generalize R.map (fixX norm g m) = C at *
  have hC40 : C.length ≤ 40 := by omega
  clear hCl
  have hun : (u : Int) - (isC 1 C : Nat) = ((u - isC 1 C : Nat) : Int) := by omega
  rw [hun]
  have HWE : Hid (Wn = chs (isC 0 C) (u - isC 1 C)) := Lib.hid (by rw [HW.out, HMF.out])
  have hvf : u - isC 1 C ≤ isC 0 C := by omega
  have hf40 : isC 0 C ≤ 40 := by have := isC_le 0 C; omega
  clear hun hm2 hm3 HW HMF
  generalize u - isC 1 C = v at *
  go_wp2
  go_loop [12, 13] (fun fr i => ∃ k : Nat, k ≤ C.length ∧ i = .int .i64 k ∧ fr = .int .i64 (isC 0 (C.take k) : Nat))
    (fun _ i => C.length - (intOf i).toNat)
  case atStart => exact ⟨0, Nat.zero_le _, rfl, by simp [isC]⟩
  case round =>
    obtain ⟨k, hk, rfl, rfl⟩ := hrel
    have hi40 := isC_le 0 (C.take k)
    rw [List.length_take] at hi40
    by_cases hlt : k < C.length
    · rcases HO6.out.ints.at_ with h | ⟨b, off, rfl, hb, hc⟩
      · rw [h] at hlt; simp at hlt
      have hcx := hc k hlt
      have HI := Lib.hid (isC_take_succ 0 C k hlt)
      clear hc
      generalize C.getD k 0 = c at *
      generalize isC 0 (C.take k) = z at *
      by_cases c0 : c = 0
      · have c0b : (c == 0) = true := by simp [c0]
        have HC0 := Lib.hid c0; clear c0
        go_wp2
        go_round
        case rel => exact ⟨k + 1, by omega, by go_num, by rw [HI.out, if_pos HC0.out]; go_num⟩
        case measure => simp [intOf]; omega
      · have c0b : (c == 0) = false := by simp [c0]
        have HC0 := Lib.hid c0; clear c0
        go_wp2
        go_round
        case rel => exact ⟨k + 1, by omega, by go_num, by rw [HI.out, if_neg HC0.out]; simp⟩
        case measure => simp [intOf]; omega
    · have HKC : Hid (isC 0 (C.take k) = isC 0 C) := Lib.hid (by rw [show k = C.length from by omega, List.take_length])
      rw [HKC.out]
      clear HKC hi40
      generalize isC 0 C = f at *
      have hfv : (f : Int) - (v : Int) = ((f - v : Nat) : Int) := by omega
      obtain ⟨mm, hmm⟩ : ∃ mm : Nat, mm = min v (f - v) := ⟨_, rfl⟩
      have HMN : Hid (mn (v : Int) ((f - v : Nat) : Int) = (mm : Int)) := Lib.hid (by unfold mn; split <;> omega)
      have hmf : mm ≤ f := by omega
      have HSY : Hid (chs f mm = chs f v) := Lib.hid (by
        by_cases q : v ≤ f - v
        · rw [hmm, Nat.min_eq_left q]
        · rw [hmm, Nat.min_eq_right (by omega)]; exact chs_sym f v hvf)
      clear hmm
      go_wp2
      go_loop [14, 15] (fun c i => ∃ j : Nat, j ≤ mm ∧ i = .int .i64 j ∧ c = .int .i64 (chs f j : Nat))
        (fun _ i => mm - (intOf i).toNat)
      case atStart => exact ⟨0, Nat.zero_le _, rfl, by rw [chs_zero]; rfl⟩
      case round =>
        obtain ⟨j, hj, rfl, rfl⟩ := hrel
        by_cases hlt2 : j < mm
        · have h1 := chs_bd f j hf40
          have h2 : 0 ≤ ((chs f j : Nat) : Int) * ((f : Int) - (j : Int)) ∧ ((chs f j : Nat) : Int) * ((f : Int) - (j : Int)) ≤ 1099511627776 * 40 := by
            constructor
            · exact Int.mul_nonneg (by omega) (by omega)
            · exact Int.mul_le_mul (by omega) (by omega) (by omega) (by omega)
          have HD : Hid ((((chs f j : Nat) : Int) * ((f : Int) - (j : Int))) / ((j : Int) + 1) = (chs f (j + 1) : Nat)) := Lib.hid (by
            rw [← chs_div f j]
            have e : ((f - j : Nat) : Int) = (f : Int) - (j : Int) := by omega
            rw [← e]; norm_cast)
          generalize chs f j = Cj at *
          go_wp2_with (go_at_call 98; refine (l00Min_any _ _ _).mono ?_; rw [HMN.out]; rintro e w' ⟨rfl, rfl⟩)
          go_round
          case rel => exact ⟨j + 1, by omega, by go_num, by rw [← HD.out]⟩
          case measure => simp [intOf]; omega
        · have HJ : Hid (chs f j = Wn) := Lib.hid (by rw [HWE.out, ← HSY.out, show j = mm from by omega])
          by_cases hw : Wn ≤ 1000000
          · have hBB : BB = true := by rw [HE.out]; simp [hw]
            have hVV : V = (Wn : Int) := by rw [HV.out, hBB]; rfl
            have H1 := Lib.hid hBB; have H2 := Lib.hid hVV
            have hwi : ¬ (1000000 : Int) < (Wn : Int) := by omega
            clear hBB hVV
            rw [HJ.out]
            go_wp2_with (go_at_call 98; refine (l00Min_any _ _ _).mono ?_; rw [HMN.out]; rintro e w' ⟨rfl, rfl⟩)
            refine bodyPost_ret (v := .tuple #[.int .i64 Wn, .bool true]) (by simp [results, Try.results48, go_sem]) rfl ?_
            exact ⟨by rw [H1.out, H2.out], HK6.out⟩
          · have hBB : BB = false := by rw [HE.out]; simp [hw]
            have hVV : V = 0 := by rw [HV.out, hBB]; rfl
            have H1 := Lib.hid hBB; have H2 := Lib.hid hVV
            have hwi : (1000000 : Int) < (Wn : Int) := by omega
            clear hBB hVV
            rw [HJ.out]
            go_wp2_with (go_at_call 98; refine (l00Min_any _ _ _).mono ?_; rw [HMN.out]; rintro e w' ⟨rfl, rfl⟩)
            refine bodyPost_ret (v := .tuple #[.int .i64 0, .bool false]) (by simp [results, Try.results48, go_sem]) rfl ?_
            exact ⟨by rw [H1.out, H2.out], HK6.out⟩
end Go.Proofs.Ytgpjjgfechjbfaa
