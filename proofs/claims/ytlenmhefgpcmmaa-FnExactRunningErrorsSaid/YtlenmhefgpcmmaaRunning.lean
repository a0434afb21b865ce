/- Running errors; whether a list runs. -/
import Derived.Test.YtlenmhefgpcmmaaRuns
namespace Go.Proofs.Ytlenmhefgpcmmaa
open Go.ChangeShapes Go.WideShapes Go.ChangeAt Go.RowKit
set_option linter.unusedVariables false
def okR (g : Int) (zs ls : List Int) : Bool := okV g zs && decide (ls.length = zs.length) && listOk ls 1000000
def rnV (g : Int) (zs ls : List Int) : List Int := if okR g zs ls then preS (errsL g zs ls) else []
theorem listOk_more {zs : List Int} (h : listOk zs 1000000 = true) : listOk zs 1000000000 = true := by
  have h1 := listOk_num h
  have h2 := listOk_len h
  unfold listOk allIn; simp only [Bool.and_eq_true, decide_eq_true_eq, List.all_eq_true]
  exact ⟨h2, fun z hz => inB_iff.2 (by have := h1 z hz; omega)⟩
theorem okE_okR {g : Int} {zs ls : List Int} (h : listOk ls 1000000 = true) : okE g zs ls = okR g zs ls := by
  unfold okE okR; rw [h, listOk_more h]
theorem okR_iff {g : Int} {zs ls : List Int} : okR g zs ls = true ↔ okV g zs = true ∧ ls.length = zs.length ∧ listOk ls 1000000 = true := by
  unfold okR; simp only [Bool.and_eq_true, decide_eq_true_eq, and_assoc]
theorem errsL_bd {g : Int} {zs ls : List Int} (h : okR g zs ls = true) : ∀ z ∈ errsL g zs ls, -2000000000 ≤ z ∧ z ≤ 2000000000 := by
  obtain ⟨h1, h2, h3⟩ := okR_iff.1 h
  intro z hz
  obtain ⟨k, hk, rfl⟩ := List.getElem_of_mem hz
  rw [errsL_len g zs ls h2] at hk
  have e := errsL_get g zs ls h2 k hk
  rw [getD_get _ k (by rw [errsL_len g zs ls h2]; exact hk)] at e
  rw [e]
  have d := okV_den h1
  have n1 := okV_num h1 _ (getD_mem zs k (by omega))
  have n2 := listOk_num h3 _ (getD_mem ls k hk)
  have e1 : g * ls.getD k 0 ≤ g * 1000000 := Int.mul_le_mul_of_nonneg_left n2.2 (by omega)
  have e2 : g * (-1000000) ≤ g * ls.getD k 0 := Int.mul_le_mul_of_nonneg_left n2.1 (by omega)
  omega
set_option maxHeartbeats 1600000 in
theorem RunningErrors_any (g : Int) (ad : Option Addr) (cap : Nat) (zs : List Int) (bd : Option Addr) (bcap : Nat) (ls : List Int) (w : World) (hz : Ints w ad zs) (hl : Ints w bd ls) :
    Calls Try.prog 21 #[valV g ad zs.length cap, .slice bd ls.length bcap] w fun e w' =>
      ∃ rd rc, e = .returned (.tuple #[.slice rd (rnV g zs ls).length rc, .bool (okR g zs ls)]) ∧ Own w' w.heap.size rd rc (rnV g zs ls) ∧ Keep w w' := by
  have B0 : Box (w.alloc (.cells #[.int .i64 g, .slice ad zs.length cap] 29)) w.heap.size g ad zs.length cap := ⟨by simp, by simp, by simp⟩
  have hlen := hz.small
  have hlen2 := hl.small
  cases h4 : listOk ls 1000000
  · rw [show okR g zs ls = false from by simp [okR, h4], show rnV g zs ls = [] from by simp [rnV, okR, h4]]
    go_enter Try.func21, Try.ntmps21
    go_wp2_with fail
    refine (allWithin_any bd bcap ls 1000000 _ (hl.keep (B := _) (by go_grown) (Nat.le_refl _)) (by omega) (by omega)).mono ?_
    rw [h4]
    rintro e w1 ⟨rfl, rfl⟩
    go_wp2
    go_ret2
    exact ⟨none, 0, rfl, Own.nil _ _, by go_grown⟩
  cases hR : okR g zs ls
  · rw [show rnV g zs ls = [] from by simp [rnV, hR]]
    have hE := (okE_okR (g := g) (zs := zs) h4).trans hR
    go_enter Try.func21, Try.ntmps21
    go_wp2_with fail
    refine (allWithin_any bd bcap ls 1000000 _ (hl.keep (B := _) (by go_grown) (Nat.le_refl _)) (by omega) (by omega)).mono ?_
    rw [h4]
    rintro e w1 ⟨rfl, rfl⟩
    go_wp2_with fail
    refine (ErrorsOf_any g ad cap zs bd bcap ls _ (hz.keep (B := _) (by go_grown) (Nat.le_refl _)) (hl.keep (B := _) (by go_grown) (Nat.le_refl _))).mono ?_
    rw [hE, show errsV g zs ls = [] from by simp [errsV, hE]]
    rintro e w2 ⟨rd, rc, rfl, o2, k2⟩
    have g2 : Keep w w2 := Keep.next (by go_grown) k2
    go_wp2
    go_ret2
    exact ⟨none, 0, rfl, Own.nil _ _, g2⟩
  · rw [show rnV g zs ls = preS (errsL g zs ls) from by simp [rnV, hR]]
    have hE := (okE_okR (g := g) (zs := zs) h4).trans hR
    have hbd := errsL_bd hR
    have hEl : (errsL g zs ls).length ≤ 40 := by rw [errsL_len g zs ls (okR_iff.1 hR).2.1]; exact listOk_len h4
    have HC := Lib.hid (fun W b c (h : Ints W b (errsL g zs ls)) => runningSums_any b c (errsL g zs ls) W h hEl (fun z hz => by have := hbd z hz; omega))
    clear hbd hEl
    generalize hEE : errsL g zs ls = E at HC ⊢
    have HEE := Lib.hid hEE; clear hEE
    go_enter Try.func21, Try.ntmps21
    go_wp2_with fail
    refine (allWithin_any bd bcap ls 1000000 _ (hl.keep (B := _) (by go_grown) (Nat.le_refl _)) (by omega) (by omega)).mono ?_
    rw [h4]
    rintro e w1 ⟨rfl, rfl⟩
    go_wp2_with fail
    refine (ErrorsOf_any g ad cap zs bd bcap ls _ (hz.keep (B := _) (by go_grown) (Nat.le_refl _)) (hl.keep (B := _) (by go_grown) (Nat.le_refl _))).mono ?_
    rw [hE, show errsV g zs ls = E from by rw [← HEE.out]; simp [errsV, hE]]
    rintro e w2 ⟨rd, rc, rfl, o2, k2⟩
    have g2 : Keep w w2 := Keep.next (by go_grown) k2
    have hEs := o2.ints.small
    go_wp2_with fail
    refine (HC.out _ rd rc o2.ints).mono ?_
    rintro e w3 ⟨rd3, rc3, rfl, o3, k3⟩
    have g3 := Keep.next g2 k3
    have o4 := o3.mono (B' := w.heap.size) g2.size
    go_wp2
    go_ret2
    exact ⟨rd3, rc3, rfl, o4, g3⟩
set_option maxHeartbeats 1600000 in
theorem l03Running_any (Bv : Nat) (g : Int) (ad : Option Addr) (cap : Nat) (zs : List Int) (bd : Option Addr) (bcap : Nat) (ls : List Int) (w : World) (hz1 : Ints w ad zs) (hl1 : Ints w bd ls) (hR : okR g zs ls = true)
    (c0 : w.cell? ⟨Bv, 0, none⟩ = some (.int .i64 g)) (c1 : w.cell? ⟨Bv, 1, none⟩ = some (.slice ad zs.length cap)) :
    Calls Try.prog 45 #[.pointer (some ⟨Bv, 0, none⟩), .slice bd ls.length bcap] w fun e w' =>
      ∃ rd rc, e = .returned (.slice rd (preS (errsL g zs ls)).length rc) ∧ Own w' w.heap.size rd rc (preS (errsL g zs ls)) ∧ Keep w w' := by
  obtain ⟨h1, h2, h4⟩ := okR_iff.1 hR
  have hlen := hz1.small
  have hlen2 := hl1.small
  have hebd := errsL_bd hR
  have hget := errsL_get g zs ls h2
  have hEl := errsL_len g zs ls h2
  have n1 := okV_num h1
  have n2 := listOk_num h4
  have l2 := listOk_len h4
  have dg := okV_den h1
  generalize errsL g zs ls = E at hebd hget hEl
  have hpl : (preS E).length = ls.length := by rw [preS_len, hEl]
  have hpg : ∀ k, k < ls.length → (preS E).getD k 0 = (E.take k).sum + E.getD k 0 := fun k hk => by rw [preS_get E k (by omega), sum_take_succ E k (by omega)]
  have hsb : ∀ k, -80000000000 ≤ (E.take k).sum ∧ (E.take k).sum ≤ 80000000000 := fun k => by have := sum_take_bd 2000000000 40 (by omega) E hebd (by omega) k; omega
  have hss : ∀ k, k < ls.length → (E.take (k + 1)).sum = (E.take k).sum + E.getD k 0 := fun k hk => sum_take_succ E k (by omega)
  have hpt : ∀ k, k < ls.length → (preS E).take (k + 1) = (preS E).take k ++ [(preS E).getD k 0] := fun k hk => take_succ_getD _ _ (by omega)
  have H2 := Lib.hid h2; clear h2
  have HG := Lib.hid hget; have HEl := Lib.hid hEl; have N1 := Lib.hid n1; have N2 := Lib.hid n2; have HPL := Lib.hid hpl; have HPG := Lib.hid hpg; have HSB := Lib.hid hsb; have HSS := Lib.hid hss; have HPT := Lib.hid hpt
  clear hget hEl n1 n2 hebd hpl hpg hsb hss hpt
  have hown0 : Own (w.alloc (.cells #[] 2)) w.heap.size (some ⟨w.heap.size, 0, none⟩) 0 [] := by
    have := World.ownsRow_lit (base := w.heap.size) (e := 2) (size := 1) w #[] 0 (by simp) (by simp) rfl
    exact ⟨by simpa using this, by simp, by simp⟩
  have hbl1 : Keep w (w.alloc (.cells #[] 2)) := by go_grown
  have cl := World.block_lt_of_cell? _ _ c0
  have HX := Lib.hid (Box.mk c0 c1 cl)
  go_enter Try.func45, Try.ntmps45
  go_wp2
  go_loopw [5, 6, 7] (fun v s i wr => ∃ (k : Nat) (rd : Option Addr) (rc : Nat), k ≤ ls.length ∧ i = .int .i64 k ∧ v = .slice rd k rc ∧ s = .int .i64 (E.take k).sum ∧ Own wr w.heap.size rd rc ((preS E).take k) ∧ Keep w wr)
    (fun _ _ i _ => ls.length - (intOf i).toNat)
  case atStart => exact ⟨0, _, _, Nat.zero_le _, rfl, rfl, by simp, by simpa using hown0, hbl1⟩
  case round =>
    obtain ⟨k, rd, rc, hk, rfl, rfl, rfl, hown, hbel⟩ := hrel
    by_cases hlt : k < ls.length
    · have hzl := H2.out
      rcases hz1.at_ with h | ⟨b, off, rfl, hb, hc⟩
      · rw [h] at hzl; simp only [List.length_nil] at hzl; omega
      rcases hl1.at_ with h | ⟨b2, off2, rfl, hb2, hc2⟩
      · subst h; simp at hlt
      have hC : ∀ w', Keep wr w' → w'.cell? ⟨b, off + k, none⟩ = some (.int .i64 (zs.getD k 0)) := fun w' k2 => by
        rw [(hbel.next k2).cell (by exact hb)]; exact hc k (by omega)
      have hD : ∀ w', Keep wr w' → w'.cell? ⟨b2, off2 + k, none⟩ = some (.int .i64 (ls.getD k 0)) := fun w' k2 => by
        rw [(hbel.next k2).cell (by exact hb2)]; exact hc2 k hlt
      have hBx : ∀ w', Keep wr w' → Box w' Bv g (some ⟨b, off, none⟩) zs.length cap := fun w' k2 => HX.out.keep (hbel.next k2)
      have HE := Lib.hid (HG.out k hlt)
      have HS1 := Lib.hid (HSS.out k hlt)
      have HP1 := Lib.hid (HPT.out k hlt)
      have HP2 := Lib.hid (HPG.out k hlt)
      have nx := N1.out _ (getD_mem zs k (by omega))
      have ny := N2.out _ (getD_mem ls k hlt)
      have hsk := HSB.out k
      have hkl : ((preS E).take k).length = k := by rw [List.length_take, HPL.out]; omega
      have HKL := Lib.hid hkl; clear hkl
      have hzk : k < zs.length := by omega
      clear hc hc2 hzl
      generalize hzx : zs.getD k 0 = x at hC nx HE
      generalize hly : ls.getD k 0 = y at hD ny HE
      generalize (E.take k).sum = s at hsk HS1 HP2
      clear hzx hly
      have hm := err_bd dg.1 dg.2 (by omega) (by omega) nx.1 nx.2 (l := y)
      have hm2 : -1001000000 ≤ g * y - x ∧ g * y - x ≤ 1001000000 := by
        have e1 : g * y ≤ g * 1000000 := Int.mul_le_mul_of_nonneg_left ny.2 (by omega)
        have e2 : g * (-1000000) ≤ g * y := Int.mul_le_mul_of_nonneg_left ny.1 (by omega)
        omega
      have HS : Hid (∀ w', Keep wr w' → (w'.cell? ⟨Bv, 0, none⟩ = some (.int .i64 g) ∧ w'.cell? ⟨Bv, 1, none⟩ = some (.slice (some ⟨b, off, none⟩) zs.length cap) ∧ w'.cell? ⟨b, off + k, none⟩ = some (.int .i64 x) ∧ w'.cell? ⟨b2, off2 + k, none⟩ = some (.int .i64 y)) ∧ Keep wr w') :=
        Lib.hid (fun w' k => ⟨⟨(hBx w' k).c0, (hBx w' k).c1, hC w' k, hD w' k⟩, k⟩)
      clear hBx hC hD
      have W1 : Hid (IntKind.i64.wrap (g * y) = g * y) := Lib.hid (IntWalk.i64_in _ (by omega))
      have W2 : Hid (IntKind.i64.wrap (g * y - x) = g * y - x) := Lib.hid (IntWalk.i64_in _ (by omega))
      have W3 : Hid (IntKind.i64.wrap (s + (g * y - x)) = s + (g * y - x)) := Lib.hid (IntWalk.i64_in _ (by omega))
      obtain ⟨⟨q0, q1, q2, q3⟩, _⟩ := HS.out wr (Below.refl _ _)
      go_wp2
      go_quiet (fail)
      have HO2 := Lib.hid (hown.keep (below_drewN (Below.refl _ _) nq))
      have hbd : Below w.heap.size wr (wr.drewN nq) := below_drewN (Below.refl _ _) nq
      generalize wr.drewN nq = wd at *
      have hsd := hbd.size
      have hsr := hbel.size
      clear hown q0 q1 q2 q3 HS
      go_wp2_with (refine list_app1 (by rfl) _ _ (by rfl) w.heap.size rd rc k _ (s + (g * y - x)) (by rfl) (HO2.out.keep (by go_grown)) HKL.out.symm wd.heap.size (by rfl) (by simp) ⟨by omega, by omega⟩ (by rw [HKL.out]; omega) (by simp; omega) ?_; intro ad' cap' w2 hown2 hgr2; have hbel2 : Below w.heap.size wd w2 := below_own (by go_grown) (HO2.out.keep (by go_grown)) hgr2 (by simp; omega) (Nat.le_refl _))
      go_roundw
      case rel => exact ⟨k + 1, ad', cap', by omega, by go_num, rfl, by rw [HS1.out, HE.out], by rw [HP1.out, HP2.out, HE.out]; exact hown2, hbel.trans (hbd.trans hbel2)⟩
      case measure => simp [intOf]; omega
    · have HK := Lib.hid (show k = ls.length from by omega)
      go_wp2
      go_ret
      have hpl := HPL.out
      refine ⟨rd, rc, by rw [hpl, HK.out]; rfl, ?_, hbel⟩
      rw [HK.out, ← hpl, List.take_length] at hown
      exact hown
def runB (g : Int) (zs ls : List Int) : Bool := rndB g zs ls && decide (∀ s ∈ preS (errsL g zs ls), -g < s ∧ s < g)
theorem rndB_iff {g : Int} {zs ls : List Int} : rndB g zs ls = true ↔ okV g zs = true ∧ ls.length = zs.length ∧ RndTo g zs ls ls.length := by
  unfold rndB RndTo; simp only [Bool.and_eq_true, decide_eq_true_eq, and_assoc]
theorem rndB_okR {g : Int} {zs ls : List Int} (h : rndB g zs ls = true) : okR g zs ls = true := by
  obtain ⟨h1, h2, h3⟩ := rndB_iff.1 h
  refine okR_iff.2 ⟨h1, h2, ?_⟩
  have hl := okV_len h1
  have hn := okV_num h1
  have hg := okV_den h1
  unfold listOk allIn; simp only [Bool.and_eq_true, decide_eq_true_eq, List.all_eq_true]
  refine ⟨by omega, fun z hz => inB_iff.2 ?_⟩
  obtain ⟨k, hk, rfl⟩ := List.getElem_of_mem hz
  have hx := hn _ (getD_mem zs k (by omega))
  have h4 := h3 k hk
  rw [getD_get ls k hk] at h4
  rcases h4 with h4 | h4
  · rw [h4]; exact fl_bd hg.1 hx.1 hx.2 (by omega)
  · rw [h4]; exact ce_bd hg.1 hx.1 hx.2 (by omega)
theorem specRunB {g : Int} {zs ls : List Int} (h : rndB g zs ls = false) : runB g zs ls = false := by simp [runB, h]
theorem canRun_any (s g : Int) (w : World) (h1 : 1 ≤ g) (h2 : g ≤ 1000) :
    Calls Try.prog 50 #[.int .i64 s, .int .i64 g] w fun e w' => e = .returned (.bool (inB s (1 - g) (g - 1))) ∧ w = w' := by
  go_enter Try.func50, Try.ntmps50
  go_wp2_with (go_at_call 36; refine (within_any _ _ _ _).mono ?_; rintro e w' ⟨rfl, rfl⟩)
  go_ret
  exact ⟨rfl, rfl⟩
set_option maxHeartbeats 1600000 in
theorem IsRunning_any (g : Int) (ad : Option Addr) (cap : Nat) (zs : List Int) (bd : Option Addr) (bcap : Nat) (ls : List Int) (w : World) (hz : Ints w ad zs) (hl : Ints w bd ls) :
    Calls Try.prog 28 #[valV g ad zs.length cap, .slice bd ls.length bcap] w fun e w' => e = .returned (.bool (runB g zs ls)) ∧ Keep w w' := by
  have B0 : Box (w.alloc (.cells #[.int .i64 g, .slice ad zs.length cap] 29)) w.heap.size g ad zs.length cap := ⟨by simp, by simp, by simp⟩
  have hlen := hz.small
  have hlen2 := hl.small
  cases hR : okR g zs ls
  · have hr : rndB g zs ls = false := by
      cases h : rndB g zs ls
      · rfl
      · rw [rndB_okR h] at hR; cases hR
    rw [specRunB hr]
    go_enter Try.func28, Try.ntmps28
    go_wp2_with fail
    refine (RunningErrors_any g ad cap zs bd bcap ls _ (hz.keep (B := _) (by go_grown) (Nat.le_refl _)) (hl.keep (B := _) (by go_grown) (Nat.le_refl _))).mono ?_
    rw [hR]
    rintro e w1 ⟨rd, rc, rfl, o1, k1⟩
    have g1 : Keep w w1 := Keep.next (by go_grown) k1
    obtain ⟨c0, c1, cl⟩ := B0.keep k1
    go_wp2
    go_ret
    exact ⟨rfl, g1⟩
  cases hB : rndB g zs ls
  · rw [specRunB hB]
    go_enter Try.func28, Try.ntmps28
    go_wp2_with fail
    refine (RunningErrors_any g ad cap zs bd bcap ls _ (hz.keep (B := _) (by go_grown) (Nat.le_refl _)) (hl.keep (B := _) (by go_grown) (Nat.le_refl _))).mono ?_
    rw [hR]
    rintro e w1 ⟨rd, rc, rfl, o1, k1⟩
    have g1 : Keep w w1 := Keep.next (by go_grown) k1
    obtain ⟨c0, c1, cl⟩ := B0.keep k1
    go_wp2_with fail
    refine (IsRounding_any g ad cap zs bd bcap ls _ (hz.keep g1 (Nat.le_refl _)) (hl.keep g1 (Nat.le_refl _))).mono ?_
    rw [hB]
    rintro e w2 ⟨rfl, k2⟩
    have g2 := Keep.next g1 k2
    go_wp2
    go_ret
    exact ⟨rfl, g2⟩
  · have dg := okV_den (okR_iff.1 hR).1
    have hpl : (rnV g zs ls).length ≤ 40 := by
      rw [show rnV g zs ls = preS (errsL g zs ls) from by simp [rnV, hR], preS_len, errsL_len g zs ls (okR_iff.1 hR).2.1]; exact listOk_len (okR_iff.1 hR).2.2
    have hno : ∀ k, k < (rnV g zs ls).length → inB ((rnV g zs ls).getD k 0) (1 - g) (g - 1) = false → runB g zs ls = false := fun k hk h => by
      have hm := getD_mem _ k hk
      rw [show rnV g zs ls = preS (errsL g zs ls) from by simp [rnV, hR]] at hm h
      unfold runB
      rw [Bool.and_eq_false_iff]; right
      rw [decide_eq_false_iff_not]
      intro h2; have := h2 _ hm; rw [inB_not] at h; omega
    have hyes : (∀ j, j < (rnV g zs ls).length → inB ((rnV g zs ls).getD j 0) (1 - g) (g - 1) = true) → runB g zs ls = true := fun h => by
      unfold runB
      rw [hB, Bool.true_and, decide_eq_true_eq]
      intro s hs
      rw [show preS (errsL g zs ls) = rnV g zs ls from by simp [rnV, hR]] at hs
      obtain ⟨j, hj, rfl⟩ := List.getElem_of_mem hs
      have h2 := h j hj
      rw [getD_get _ j hj, inB_iff] at h2; omega
    have HRE := Lib.hid (fun W (h : Ints W ad zs) (h2 : Ints W bd ls) => RunningErrors_any g ad cap zs bd bcap ls W h h2)
    generalize rnV g zs ls = E at HRE hpl hno hyes
    have HNO := Lib.hid hno; have HYES := Lib.hid hyes; clear hno hyes
    go_enter Try.func28, Try.ntmps28
    go_wp2_with fail
    refine (HRE.out _ (hz.keep (B := _) (by go_grown) (Nat.le_refl _)) (hl.keep (B := _) (by go_grown) (Nat.le_refl _))).mono ?_
    rw [hR]
    rintro e w1 ⟨rd, rc, rfl, o1, k1⟩
    have g1 : Keep w w1 := Keep.next (by go_grown) k1
    obtain ⟨c0, c1, cl⟩ := B0.keep k1
    go_wp2_with fail
    refine (IsRounding_any g ad cap zs bd bcap ls _ (hz.keep g1 (Nat.le_refl _)) (hl.keep g1 (Nat.le_refl _))).mono ?_
    rw [hB]
    rintro e w2 ⟨rfl, k2⟩
    have g2 := Keep.next g1 k2
    obtain ⟨d0, d1, dl⟩ := (Box.mk c0 c1 cl).keep k2
    have e2 := (o1.keep k2).ints
    clear c0 c1 cl
    have HG := Lib.hid g2
    go_wp2
    go_loop [8, 25] (fun _ i => ∃ k : Nat, k ≤ E.length ∧ i = .int .i64 k ∧ Hid (∀ j, j < k → inB (E.getD j 0) (1 - g) (g - 1) = true))
      (fun _ i => E.length - (intOf i).toNat)
    case atStart => exact ⟨0, Nat.zero_le _, rfl, Lib.hid (fun j hj => by omega)⟩
    case round =>
      obtain ⟨k, hk, rfl, HA⟩ := hrel
      by_cases hlt : k < E.length
      · rcases e2.at_ with h | ⟨b, off, rfl, hb1, hc⟩
        · subst h; simp at hlt
        have hcx := hc k hlt
        have HN := Lib.hid (HNO.out k hlt)
        have HA2 : Hid (inB (E.getD k 0) (1 - g) (g - 1) = true → ∀ j, j < k + 1 → inB (E.getD j 0) (1 - g) (g - 1) = true) := Lib.hid (fun h j hj => by
          rcases Nat.lt_or_eq_of_le (Nat.le_of_lt_succ hj) with h3 | h3
          · exact HA.out j h3
          · rw [h3]; exact h)
        clear hc
        generalize E.getD k 0 = x at hcx HN HA2
        cases hin : inB x (1 - g) (g - 1)
        · go_wp2_with (go_at_call 50; refine (canRun_any _ _ _ (by omega) (by omega)).mono ?_; rw [hin]; rintro e w' ⟨rfl, rfl⟩)
          go_ret
          exact ⟨ret_bool (HN.out hin).symm, HG.out⟩
        · go_wp2_with (go_at_call 50; refine (canRun_any _ _ _ (by omega) (by omega)).mono ?_; rw [hin]; rintro e w' ⟨rfl, rfl⟩)
          go_round
          case rel => exact ⟨k + 1, by omega, by go_num, Lib.hid (HA2.out hin)⟩
          case measure => simp [intOf]; omega
      · have HK := Lib.hid (show k = E.length from by omega)
        go_wp2
        go_ret
        exact ⟨ret_bool (HYES.out (by have h := HA.out; rw [HK.out] at h; exact h)).symm, HG.out⟩
end Go.Proofs.Ytlenmhefgpcmmaa
