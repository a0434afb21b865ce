/- The best rounding with a sum, and how many are as good: the program's side. -/
import Derived.Test.YtmckbjhmkcbjgabPick4
import Derived.Test.YtmckbjhmkcbjgabSumB4
namespace Go.Proofs.Ytmckbjhmkcbjgab
open Go.ChangeShapes Go.WideShapes Go.ChangeAt Go.RowKit Go.Deep
set_option linter.unusedVariables false
theorem ce_rest {z g : Int} (hg : 1 ≤ g) : ce z g = fl z g + (if 0 < z - g * fl z g then 1 else 0) := by
  have h1 := fl_mul (a := z) hg
  rw [ce_eq]
  by_cases h : 0 < z - g * fl z g
  · rw [if_pos h]
    have : fl (-z) g = -(fl z g) - 1 := fl_eq hg (by rw [Int.mul_sub, Int.mul_neg]; omega) (by rw [Int.mul_sub, Int.mul_neg]; omega)
    omega
  · rw [if_neg h]
    have : fl (-z) g = -(fl z g) := fl_eq hg (by rw [Int.mul_neg]; omega) (by rw [Int.mul_neg]; omega)
    omega
theorem sum_ce {g : Int} (hg : 1 ≤ g) (zs : List Int) : sumR ce g zs = sumR fl g zs + (gtC 0 (reL g zs) : Nat) := by
  induction zs with
  | nil => rfl
  | cons a t ih =>
    have e1 : ∀ φ : Int → Int → Int, sumR φ g (a :: t) = φ a g + sumR φ g t := fun φ => by simp [sumR]
    rw [e1, e1, ih, ce_rest hg]
    have e2 : gtC 0 (reL g (a :: t)) = gtC 0 (reL g t) + (if 0 < a - g * fl a g then 1 else 0) := by
      unfold gtC reL; rw [List.map_cons, List.countP_cons]; simp
    rw [e2]; split <;> omega
theorem sum_fl (g : Int) (zs : List Int) : sumR fl g zs = (flL g zs).sum := rfl
theorem rests_in {g : Int} (hg : 1 ≤ g) (zs : List Int) : ∀ r ∈ reL g zs, 0 ≤ r ∧ r < g := fun r hr => by
  unfold reL at hr
  obtain ⟨z, hz, rfl⟩ := List.mem_map.1 hr
  exact re_bd hg
/-- The least greatest error, or what stands in its place for the other norms. -/
def IsMst (norm den : Int) (R : List Int) (u : Nat) (m : Int) : Prop := 0 ≤ m ∧ fitsM norm den m R u ∧ ∀ m', 0 ≤ m' → m' < m → ¬ fitsM norm den m' R u
noncomputable def mst (norm den : Int) (R : List Int) (u : Nat) : Int := Classical.epsilon (IsMst norm den R u)
theorem mst_eq {norm den : Int} {R : List Int} {u : Nat} {m : Int} (h : IsMst norm den R u m) : mst norm den R u = m := by
  have h2 : IsMst norm den R u (mst norm den R u) := Classical.epsilon_spec ⟨m, h⟩
  generalize mst norm den R u = x at h2
  rcases Int.lt_trichotomy x m with q | q | q
  · exact absurd h2.2.1 (h.2.2 x h2.1 q)
  · exact q
  · exact absurd h.2.1 (h2.2.2 m h.1 q)
theorem mostOf_nn {norm den T S : Int} {R : List Int} {u : Nat} (h : Ranks den R u T S) : 0 ≤ mostOf norm den T S ∧ mostOf norm den T S ≤ den := by
  have h0 := h.t0; have h1 := h.t1; have h2 := h.s0
  by_cases e : u = 0
  · have := h0 e; unfold mostOf; (repeat' split) <;> omega
  · have := h1 (by omega); unfold mostOf; (repeat' split) <;> omega
theorem isMst_of {norm den : Int} {R : List Int} {u : Nat} {T S : Int} (hd : 1 ≤ den) (hr : ∀ r ∈ R, 0 ≤ r ∧ r < den) (h : Ranks den R u T S) : IsMst norm den R u (mostOf norm den T S) :=
  ⟨(mostOf_nn h).1, fits_most hd hr h, fun m' h0 h1 => not_fits hd hr h m' h0 h1⟩
/-- What must be done with each value. -/
noncomputable def fixL (norm g : Int) (zs : List Int) (u : Nat) : List Int := (reL g zs).map (fixX norm g (mst norm g (reL g zs) u))
theorem fixL_cls {norm g : Int} {zs : List Int} {u : Nat} {T S : Int} (hg : 1 ≤ g) (h : Ranks g (reL g zs) u T S) : clsL norm g zs T S = fixL norm g zs u := by
  unfold clsL fixL
  rw [mst_eq (isMst_of hg (rests_in hg zs) h)]
  apply List.map_congr_left
  intro r hr
  exact (cls_eq hg (rests_in hg zs) h r hr).symm
theorem fixL_len (norm g : Int) (zs : List Int) (u : Nat) : (fixL norm g zs u).length = zs.length := by simp [fixL, reL]
theorem fixL_fits {norm g : Int} {zs : List Int} {u : Nat} {T S : Int} (hg : 1 ≤ g) (h : Ranks g (reL g zs) u T S) : isC 1 (fixL norm g zs u) ≤ u ∧ u ≤ isC 1 (fixL norm g zs u) + isC 0 (fixL norm g zs u) := by
  unfold fixL
  rw [mst_eq (isMst_of hg (rests_in hg zs) h)]
  exact (fits_most hg (rests_in hg zs) h).2
def askB (norm g : Int) (zs : List Int) (sum : Int) : Bool := okV g zs && (inB norm 0 2 && inB sum (sumR fl g zs) (sumR ce g zs))
def upsOf (g : Int) (zs : List Int) (sum : Int) : Nat := (sum - sumR fl g zs).toNat
noncomputable def bestV (norm g : Int) (zs : List Int) (sum : Int) : List Int :=
  if askB norm g zs sum then putL (flL g zs) (fixL norm g zs (upsOf g zs sum)) (upsOf g zs sum - isC 1 (fixL norm g zs (upsOf g zs sum))) else []
noncomputable def waysN (norm g : Int) (zs : List Int) (sum : Int) : Nat :=
  chs (isC 0 (fixL norm g zs (upsOf g zs sum))) (upsOf g zs sum - isC 1 (fixL norm g zs (upsOf g zs sum)))
noncomputable def cntB (norm g : Int) (zs : List Int) (sum : Int) : Bool := askB norm g zs sum && decide (waysN norm g zs sum ≤ 1000000)
noncomputable def cntV (norm g : Int) (zs : List Int) (sum : Int) : Int := if cntB norm g zs sum then (waysN norm g zs sum : Nat) else 0
theorem flL_in {g : Int} {zs : List Int} (h : okV g zs = true) : ∀ f ∈ flL g zs, -1000000 ≤ f ∧ f ≤ 1000000 := fun f hf => by
  unfold flL at hf
  obtain ⟨z, hz, rfl⟩ := List.mem_map.1 hf
  have n := okV_num h z hz
  exact fl_bd (okV_den h).1 n.1 n.2 (by omega)
set_option maxHeartbeats 800000 in
set_option maxRecDepth 100000 in
theorem hasBest_any (g : Int) (ad : Option Addr) (cap : Nat) (zs : List Int) (sum norm : Int) (w : World) (hz : Ints w ad zs) :
    Calls Try.prog 34 #[valV g ad zs.length cap, .int .i64 sum, .int .i64 norm] w fun e w' => e = .returned (.bool (askB norm g zs sum)) ∧ Keep w w' := by
  have B0 : Box (w.alloc (.cells #[.int .i64 g, .slice ad zs.length cap] 26)) w.heap.size g ad zs.length cap := ⟨by simp, by simp, by simp⟩
  cases h1 : okV g zs
  · rw [show askB norm g zs sum = false from by simp [askB, h1]]
    go_enter Try.func34, Try.ntmps34
    go_wp2_with fail
    refine (SumBounds_any g ad cap zs _ (hz.keep (B := _) (by go_grown) (Nat.le_refl _))).mono ?_
    rw [h1]
    rintro e w1 ⟨rfl, k1⟩
    have HK := Lib.hid (show Keep w w1 from Keep.next (by go_grown) k1)
    go_wp2
    go_ret
    exact ⟨rfl, HK.out⟩
  have e1 : sbV fl g zs = sumR fl g zs := by simp [sbV, h1]
  have e2 : sbV ce g zs = sumR ce g zs := by simp [sbV, h1]
  have HA : Hid (askB norm g zs sum = (inB norm 0 2 && inB sum (sumR fl g zs) (sumR ce g zs))) := Lib.hid (by simp [askB, h1])
  generalize askB norm g zs sum = A at *
  generalize sumR fl g zs = lo at *
  generalize sumR ce g zs = hi at *
  cases h2 : inB sum lo hi
  · have HX : Hid (A = false) := Lib.hid (by rw [HA.out, h2, Bool.and_false])
    go_enter Try.func34, Try.ntmps34
    go_wp2_with fail
    refine (SumBounds_any g ad cap zs _ (hz.keep (B := _) (by go_grown) (Nat.le_refl _))).mono ?_
    rw [h1, e1, e2]
    rintro e w1 ⟨rfl, k1⟩
    have HK := Lib.hid (show Keep w w1 from Keep.next (by go_grown) k1)
    go_wp2_with (go_at_call 49; refine (within_any _ _ _ _).mono ?_; rw [h2]; rintro e w' ⟨rfl, rfl⟩)
    go_ret
    exact ⟨ret_bool HX.out.symm, HK.out⟩
  · have HX : Hid (A = inB norm 0 2) := Lib.hid (by rw [HA.out, h2, Bool.and_true])
    go_enter Try.func34, Try.ntmps34
    go_wp2_with fail
    refine (SumBounds_any g ad cap zs _ (hz.keep (B := _) (by go_grown) (Nat.le_refl _))).mono ?_
    rw [h1, e1, e2]
    rintro e w1 ⟨rfl, k1⟩
    have HK := Lib.hid (show Keep w w1 from Keep.next (by go_grown) k1)
    go_wp2_with (first | (go_at_call 49; (with_reducible refine (within_any sum lo hi _).mono ?_); rw [h2]; rintro e w' ⟨rfl, rfl⟩) | (go_at_call 49; (with_reducible refine (within_any norm _ _ _).mono ?_); rintro e w' ⟨rfl, rfl⟩))
    go_ret
    exact ⟨ret_bool HX.out.symm, HK.out⟩
theorem ask_parts {norm g : Int} {zs : List Int} {sum : Int} (h : askB norm g zs sum = true) : okV g zs = true ∧ sum = (flL g zs).sum + (upsOf g zs sum : Nat) ∧ upsOf g zs sum ≤ gtC 0 (reL g zs) := by
  unfold askB at h
  rw [Bool.and_eq_true, Bool.and_eq_true] at h
  obtain ⟨h1, h2, h3⟩ := h
  have h4 := inB_iff.1 h3
  have h5 := sum_ce (okV_den h1).1 zs
  unfold upsOf
  rw [← sum_fl]
  exact ⟨h1, by omega, by omega⟩
set_option maxHeartbeats 1600000 in
theorem BestRounding_any (g : Int) (ad : Option Addr) (cap : Nat) (zs : List Int) (sum norm : Int) (w : World) (hz : Ints w ad zs) (us : In64 sum) (un : In64 norm) :
    Calls Try.prog 12 #[valV g ad zs.length cap, .int .i64 sum, .int .i64 norm] w fun e w' =>
      ∃ rd rc, e = .returned (.tuple #[.slice rd (bestV norm g zs sum).length rc, .bool (askB norm g zs sum)]) ∧ Own w' w.heap.size rd rc (bestV norm g zs sum) ∧ Keep w w' := by
  have B0 : Box (w.alloc (.cells #[.int .i64 g, .slice ad zs.length cap] 26)) w.heap.size g ad zs.length cap := ⟨by simp, by simp, by simp⟩
  cases h1 : askB norm g zs sum
  · rw [show bestV norm g zs sum = [] from by simp [bestV, h1]]
    go_enter Try.func12, Try.ntmps12
    go_wp2_with fail
    refine (hasBest_any g ad cap zs sum norm _ (hz.keep (B := _) (by go_grown) (Nat.le_refl _))).mono ?_
    rw [h1]
    rintro e w1 ⟨rfl, k1⟩
    have HK := Lib.hid (show Keep w w1 from Keep.next (by go_grown) k1)
    go_wp2
    go_ret2
    exact ⟨none, 0, rfl, Own.nil _ _, HK.out⟩
  obtain ⟨hok, hs, hu⟩ := ask_parts h1
  have hg := okV_den hok
  have h40 := okV_len hok
  have hnum := okV_num hok
  have HE : Hid (bestV norm g zs sum = putL (flL g zs) (fixL norm g zs (upsOf g zs sum)) (upsOf g zs sum - isC 1 (fixL norm g zs (upsOf g zs sum)))) := Lib.hid (by simp [bestV, h1])
  have HS := Lib.hid hs; have HU := Lib.hid hu; have HN := Lib.hid hnum
  have HB := Lib.hid B0
  clear hs hu hnum B0
  go_enter Try.func12, Try.ntmps12
  go_wp2_with fail
  refine (hasBest_any g ad cap zs sum norm _ (hz.keep (B := _) (by go_grown) (Nat.le_refl _))).mono ?_
  rw [h1]
  rintro e w1 ⟨rfl, k1⟩
  have HB1 := Lib.hid (HB.out.keep k1)
  have HK := Lib.hid (show Keep w w1 from Keep.next (by go_grown) k1)
  obtain ⟨x0, x1, xl⟩ := HB1.out
  clear k1
  go_wp2_with fail
  refine (choiceOf_any norm g (upsOf g zs sum) ad cap zs w1 sum (hz.keep HK.out (Nat.le_refl _)) (fun z hz => by have := HN.out z hz; omega) h40 (by omega) (by omega) (flL_in hok) HS.out HU.out).mono ?_
  rintro e w2 ⟨T, S, la, lc, fa, fc, hrk, rfl, o2, n2, k2⟩
  have hcl := fixL_cls (norm := norm) (by omega : 1 ≤ g) hrk
  have hft := fixL_fits (norm := norm) (by omega : 1 ≤ g) hrk
  rw [hcl] at o2 n2 ⊢
  have HK2 := Lib.hid (HK.out.next k2)
  have hfl := fixL_len norm g zs (upsOf g zs sum)
  have HF := Lib.hid (flL_in hok)
  have hFl := flL_len g zs
  clear hcl hrk k2
  generalize upsOf g zs sum = u at *
  generalize fixL norm g zs u = C at *
  generalize flL g zs = F at *
  have hlC : F.length = C.length := by omega
  have HIP := Lib.hid (inc_put C F (u - isC 1 C) hlC)
  have hfN : (freeL C).length = isC 0 C := freeL_len C
  have hup : u - isC 1 C ≤ (freeL C).length := by omega
  have hun : (u : Int) - (isC 1 C : Nat) = ((u - isC 1 C : Nat) : Int) := by omega
  have hul : (upL F C).length = F.length := upL_len F C hlC
  have HFI : Hid (∀ i ∈ freeL C, i < (upL F C).length) := Lib.hid (fun i hi => by have := freeL_lt C i hi; omega)
  have HUB : Hid (∀ z ∈ upL F C, -2000000 ≤ z ∧ z ≤ 2000000) := Lib.hid (fun z hz => by
    have h := LK_all F C hlC
    have := LK_in F C hlC 1000000 HF.out F.length z (by rw [h]; exact hz)
    omega)
  have hlu40 : (upL F C).length ≤ 40 := by omega
  have hfl40 : (freeL C).length ≤ 40 := by
    have := List.countP_le_length (p := fun x => decide (x = 0)) (l := C)
    rw [hfN]; unfold isC; omega
  rw [hun]
  clear hun hft hul hfN hlC hfl hFl
  have HO2 := Lib.hid o2; have HN2 := Lib.hid n2
  clear o2 n2
  generalize u - isC 1 C = v at *
  generalize upL F C = L at *
  generalize freeL C = N at *
  go_wp2_with fail
  refine (first_any w1.heap.size la lc L fa fc N v w2 HO2.out HN2.out hup hlu40 hfl40 HFI.out HUB.out).mono ?_
  rw [HIP.out]
  rintro e w3 ⟨rd, rc, rfl, o3, k3⟩
  have HO3 := Lib.hid (o3.mono (B' := w.heap.size) HK2.out.size)
  have HK3 := Lib.hid (HK2.out.next k3)
  clear o3 k3
  generalize putL F C v = P at *
  go_wp2
  refine bodyPost_ret (v := .tuple #[.slice rd P.length rc, .bool true]) (by simp [results, Try.results12, go_sem]) rfl ?_
  exact ⟨rd, rc, by rw [HE.out], by rw [HE.out]; exact HO3.out, HK3.out⟩
set_option maxHeartbeats 1600000 in
theorem CountBest_any (g : Int) (ad : Option Addr) (cap : Nat) (zs : List Int) (sum norm : Int) (w : World) (hz : Ints w ad zs) (us : In64 sum) (un : In64 norm) :
    Calls Try.prog 16 #[valV g ad zs.length cap, .int .i64 sum, .int .i64 norm] w fun e w' =>
      e = .returned (.tuple #[.int .i64 (cntV norm g zs sum), .bool (cntB norm g zs sum)]) ∧ Keep w w' := by
  have B0 : Box (w.alloc (.cells #[.int .i64 g, .slice ad zs.length cap] 26)) w.heap.size g ad zs.length cap := ⟨by simp, by simp, by simp⟩
  cases h1 : askB norm g zs sum
  · rw [show cntV norm g zs sum = 0 from by simp [cntV, cntB, h1], show cntB norm g zs sum = false from by simp [cntB, h1]]
    go_enter Try.func16, Try.ntmps16
    go_wp2_with fail
    refine (hasBest_any g ad cap zs sum norm _ (hz.keep (B := _) (by go_grown) (Nat.le_refl _))).mono ?_
    rw [h1]
    rintro e w1 ⟨rfl, k1⟩
    have HK := Lib.hid (show Keep w w1 from Keep.next (by go_grown) k1)
    go_wp2
    go_ret2
    exact ⟨rfl, HK.out⟩
  obtain ⟨hok, hs, hu⟩ := ask_parts h1
  have hg := okV_den hok
  have h40 := okV_len hok
  have hnum := okV_num hok
  have HE : Hid (cntB norm g zs sum = decide (waysN norm g zs sum ≤ 1000000)) := Lib.hid (by simp [cntB, h1])
  have HW : Hid (waysN norm g zs sum = chs (isC 0 (fixL norm g zs (upsOf g zs sum))) (upsOf g zs sum - isC 1 (fixL norm g zs (upsOf g zs sum)))) := Lib.hid rfl
  have HV : Hid (cntV norm g zs sum = ((if cntB norm g zs sum then waysN norm g zs sum else 0 : Nat) : Int)) := Lib.hid (by unfold cntV; split <;> rfl)
  generalize cntV norm g zs sum = V at *
  generalize cntB norm g zs sum = BB at *
  generalize waysN norm g zs sum = W at *
  have HS := Lib.hid hs; have HU := Lib.hid hu; have HN := Lib.hid hnum
  have HB := Lib.hid B0
  clear hs hu hnum B0
  go_enter Try.func16, Try.ntmps16
  go_wp2_with fail
  refine (hasBest_any g ad cap zs sum norm _ (hz.keep (B := _) (by go_grown) (Nat.le_refl _))).mono ?_
  rw [h1]
  rintro e w1 ⟨rfl, k1⟩
  have HB1 := Lib.hid (HB.out.keep k1)
  have HK := Lib.hid (show Keep w w1 from Keep.next (by go_grown) k1)
  obtain ⟨x0, x1, xl⟩ := HB1.out
  clear k1
  go_wp2_with fail
  refine (choiceOf_any norm g (upsOf g zs sum) ad cap zs w1 sum (hz.keep HK.out (Nat.le_refl _)) (fun z hz => by have := HN.out z hz; omega) h40 (by omega) (by omega) (flL_in hok) HS.out HU.out).mono ?_
  rintro e w2 ⟨T, S, la, lc, fa, fc, hrk, rfl, o2, n2, k2⟩
  have hcl := fixL_cls (norm := norm) (by omega : 1 ≤ g) hrk
  have hft := fixL_fits (norm := norm) (by omega : 1 ≤ g) hrk
  rw [hcl]
  have HK2 := Lib.hid (HK.out.next k2)
  have hfl := fixL_len norm g zs (upsOf g zs sum)
  clear hcl hrk k2 o2 n2
  generalize upsOf g zs sum = u at *
  generalize fixL norm g zs u = C at *
  have hfN : (freeL C).length = isC 0 C := freeL_len C
  have hfl40 : isC 0 C ≤ 40 := by
    have := List.countP_le_length (p := fun x => decide (x = 0)) (l := C)
    unfold isC; omega
  have hup : u - isC 1 C ≤ isC 0 C := by omega
  have hun : (u : Int) - (isC 1 C : Nat) = ((u - isC 1 C : Nat) : Int) := by omega
  rw [hun, hfN]
  clear hun hft hfN hfl
  generalize u - isC 1 C = v at *
  generalize (upL (flL g zs) C).length = n at *
  generalize isC 0 C = f at *
  go_wp2_with fail
  refine (count_any la lc n fa fc f v w2 hup hfl40).mono ?_
  rw [← HW.out]
  rintro e w3 ⟨rfl, k3⟩
  have HK3 := Lib.hid (HK2.out.next k3)
  clear k3
  by_cases hw : W ≤ 1000000
  · have hwi : ¬ (1000000 : Int) < (W : Int) := by omega
    have hBB : BB = true := by rw [HE.out]; simp [hw]
    have hVV : V = (W : Int) := by rw [HV.out, hBB]; rfl
    have H1 := Lib.hid hBB; have H2 := Lib.hid hVV
    clear hBB hVV
    go_wp2
    refine bodyPost_ret (v := .tuple #[.int .i64 W, .bool true]) (by simp [results, Try.results16, go_sem]) rfl ?_
    exact ⟨by rw [H1.out, H2.out], HK3.out⟩
  · have hwi : (1000000 : Int) < (W : Int) := by omega
    have hBB : BB = false := by rw [HE.out]; simp [hw]
    have hVV : V = 0 := by rw [HV.out, hBB]; rfl
    have H1 := Lib.hid hBB; have H2 := Lib.hid hVV
    clear hBB hVV
    go_wp2
    refine bodyPost_ret (v := .tuple #[.int .i64 0, .bool false]) (by simp [results, Try.results16, go_sem]) rfl ?_
    exact ⟨by rw [H1.out, H2.out], HK3.out⟩
end Go.Proofs.Ytmckbjhmkcbjgab
