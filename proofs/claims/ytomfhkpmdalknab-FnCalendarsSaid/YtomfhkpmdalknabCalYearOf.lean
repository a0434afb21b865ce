/- Calendars: the year of a day: the program's look and the model's. -/
import Derived.Test.YtomfhkpmdalknabCalD11
namespace Go.Proofs.Ytomfhkpmdalknab
open Go.ChangeShapes Go.WideShapes Go.ChangeAt Go.RowKit Go.Deep
set_option linter.unusedVariables false
set_option maxHeartbeats 800000 in
/-- The least number at which the closure says yes. -/
theorem Search_any (B D y : Nat) (w : World) (hy : y < 100000)
    (hcl : ∀ (n : Nat), n < 100000 → ∀ W, Keep w W → Calls Try.prog 32 #[.int .i64 n, .pointer (some ⟨B, 0, none⟩), .pointer (some ⟨D, 0, none⟩)] W fun e w' => e = .returned (.bool (decide (y ≤ n))) ∧ Keep W w') :
    Calls Try.prog 31 #[.int .i64 100000, .func (.func 32) #[] #[.pointer (some ⟨B, 0, none⟩), .pointer (some ⟨D, 0, none⟩)]] w fun e w' => e = .returned (.int .i64 (y : Nat)) ∧ Keep w w' := by
  have HC := Lib.hid hcl
  clear hcl
  go_enter Try.func31, Try.ntmps31
  go_wp2
  go_loopw [5, 6, 7] (fun lo hi _ wr => ∃ a b : Nat, lo = .int .i64 a ∧ hi = .int .i64 b ∧ a ≤ y ∧ y ≤ b ∧ b ≤ 100000 ∧ Hid (Keep w wr)) (fun lo hi _ _ => (intOf hi).toNat - (intOf lo).toNat)
  case atStart => exact ⟨0, 100000, rfl, rfl, Nat.zero_le _, by omega, Nat.le_refl _, Lib.hid (Below.refl _ _)⟩
  case round =>
    obtain ⟨a, b, rfl, rfl, h3, h4, h5, HK⟩ := hrel
    by_cases hlt : a < b
    · have hlt2 : (a : Int) < (b : Int) := by omega
      have e1 : (((a + b) / 2 : Nat) : Int) = ((a : Int) + (b : Int)) / 2 := by omega
      have HCK := Lib.hid (HC.out ((a + b) / 2) (by omega) wr HK.out)
      rw [e1] at HCK
      clear e1
      by_cases hx : y ≤ (a + b) / 2
      · have HX := Lib.hid hx
        rw [decide_eq_true hx] at HCK
        clear hx
        go_wp2_with (go_at_call 32; refine HCK.out.mono ?_; rintro e w2 ⟨rfl, k2⟩)
        have hx2 := HX.out
        go_roundw
        case rel => exact ⟨a, (a + b) / 2, rfl, by go_num, h3, hx2, by omega, Lib.hid (Keep.next HK.out k2)⟩
        case measure => simp [intOf]; omega
      · have HX := Lib.hid hx
        rw [decide_eq_false hx] at HCK
        clear hx
        go_wp2_with (go_at_call 32; refine HCK.out.mono ?_; rintro e w2 ⟨rfl, k2⟩)
        have hx2 := HX.out
        go_roundw
        case rel => exact ⟨(a + b) / 2 + 1, b, by go_num, rfl, by omega, h4, h5, Lib.hid (Keep.next HK.out k2)⟩
        case measure => simp [intOf]; omega
    · obtain rfl : a = y := by omega
      go_wp2
      go_ret
      exact ⟨rfl, HK.out⟩
set_option maxHeartbeats 800000 in
set_option maxRecDepth 100000 in
theorem yearC_any (B D : Nat) (g gh : Int) (ad : Option Addr) (cap : Nat) (zs : List Int) (day : Int) (y n : Nat) (w : World) (hz : Ints w ad zs) (hB : BoxC w B g gh ad zs.length cap) (hD : w.cell? ⟨D, 0, none⟩ = some (.int .i64 day)) (ok : okC g gh zs = true) (hy : IsY g gh zs day y) (hn : n < 100000) :
    Calls Try.prog 32 #[.int .i64 n, .pointer (some ⟨B, 0, none⟩), .pointer (some ⟨D, 0, none⟩)] w fun e w' => e = .returned (.bool (decide (y ≤ n))) ∧ Keep w w' := by
  have HDB := Lib.hid (fun W (k : Keep w W) => daysBefore_any g gh ad cap zs ((n : Int) + 1) W (hz.keep k (Nat.le_refl _)) ok (by omega) (by omega))
  have HIF : Hid (decide (day < bef g gh zs ((n : Int) + 1)) = decide (y ≤ n)) := Lib.hid (by
    have h := isY_le ok hy (m := (n : Int) + 1) (by omega)
    rw [Bool.eq_iff_iff, decide_eq_true_eq, decide_eq_true_eq]
    omega)
  generalize bef g gh zs ((n : Int) + 1) = R at *
  have hni : (n : Int) ≤ 99999 := by omega
  have W1 : IntKind.i64.wrap ((n : Int) + 1) = (n : Int) + 1 := IntWalk.i64_in _ (by omega)
  clear hn hy
  have HS : Hid (∀ W, Keep w W → ((W.cell? ⟨B, 0, none⟩ = some (.int .i64 g) ∧ W.cell? ⟨B, 1, none⟩ = some (.int .i64 gh) ∧ W.cell? ⟨B, 2, none⟩ = some (.slice ad zs.length cap)) ∧ W.cell? ⟨D, 0, none⟩ = some (.int .i64 day)) ∧ Keep w W) := Lib.hid (fun W k => ⟨⟨⟨(hB.keep k).c0, (hB.keep k).c1, (hB.keep k).c2⟩, (k.cell (p := ⟨D, 0, none⟩) (block_lt_of_cell hD)).trans hD⟩, k⟩)
  obtain ⟨b0, b1, b2, b3⟩ := hB
  go_enter Try.func32, Try.ntmps32
  go_wp2
  go_region_held3 (fun W => ((W.cell? ⟨B, 0, none⟩ = some (.int .i64 g) ∧ W.cell? ⟨B, 1, none⟩ = some (.int .i64 gh) ∧ W.cell? ⟨B, 2, none⟩ = some (.slice ad zs.length cap)) ∧ W.cell? ⟨D, 0, none⟩ = some (.int .i64 day)) ∧ Keep w W)
    (first | exact HS.out _ (Keep.next (by go_grown) k2) | exact HS.out _ (by go_grown))
    (first | (go_at_call 25; refine (HDB.out _ (by go_grown)).mono ?_; rintro e w2 ⟨rfl, k2⟩))
  go_wp2
  go_ret
  exact ⟨ret_bool HIF.out, Keep.next (by go_grown) k2⟩
set_option maxHeartbeats 1600000 in
set_option maxRecDepth 100000 in
theorem YearOf_any (g gh : Int) (ad : Option Addr) (cap : Nat) (zs : List Int) (day : Int) (w : World) (hz : Ints w ad zs) (ud : In64 day) :
    Calls Try.prog 16 #[calV g gh ad zs.length cap, .int .i64 day] w fun e w' => e = .returned (.tuple #[.int .i64 (yoV g gh zs day), .int .i64 (yoD g gh zs day), .bool (yoB g gh zs day)]) ∧ Keep w w' := by
  have HNO : Hid (yoB g gh zs day = false → yoV g gh zs day = 0 ∧ yoD g gh zs day = 0) := Lib.hid (fun h => by simp [yoV, yoD, h])
  have HDD : Hid (yoB g gh zs day = (okC g gh zs && inB day 0 (bef g gh zs 100000 - 1))) := Lib.hid rfl
  obtain ⟨wa, hwa⟩ : ∃ x, x = (w.alloc (.cells #[.int .i64 g, .int .i64 gh, .slice ad zs.length cap] 27)).alloc (.cells #[.int .i64 day] 2) := ⟨_, rfl⟩
  have hbl : Keep w wa := by rw [hwa]; go_grown
  have B0 : BoxC wa w.heap.size g gh ad zs.length cap := by rw [hwa]; exact ⟨by simp, by simp, by simp, by simp; omega⟩
  have D0 : wa.cell? ⟨w.heap.size + 1, 0, none⟩ = some (.int .i64 day) := by rw [hwa]; simp
  have HBL := Lib.hid hbl
  have HZ := Lib.hid (fun W (k : Keep wa W) => (hz.keep HBL.out (Nat.le_refl _)).keep k (Nat.le_refl _))
  have HV := Lib.hid (fun W (k : Keep wa W) => ValidCalendar_any g gh ad cap zs W (HZ.out W k))
  have HS : Hid (∀ W, Keep wa W → ((W.cell? ⟨w.heap.size, 0, none⟩ = some (.int .i64 g) ∧ W.cell? ⟨w.heap.size, 1, none⟩ = some (.int .i64 gh) ∧ W.cell? ⟨w.heap.size, 2, none⟩ = some (.slice ad zs.length cap)) ∧ W.cell? ⟨w.heap.size + 1, 0, none⟩ = some (.int .i64 day)) ∧ Keep wa W) := Lib.hid (fun W k => ⟨⟨⟨(B0.keep k).c0, (B0.keep k).c1, (B0.keep k).c2⟩, (k.cell (p := ⟨w.heap.size + 1, 0, none⟩) (block_lt_of_cell D0)).trans D0⟩, k⟩)
  have HWA := Lib.hid hwa
  have HB0 := Lib.hid B0
  have HD0 := Lib.hid D0
  clear hwa hbl B0 D0
  cases h1 : okC g gh zs
  · rw [h1, Bool.false_and] at HDD
    rw [(HNO.out HDD.out).1, (HNO.out HDD.out).2, HDD.out]
    rw [h1] at HV
    clear HNO HDD
    go_enter Try.func16, Try.ntmps16
    go_wp2
    rw [← HWA.out]
    obtain ⟨⟨⟨b0, b1, b2⟩, d0⟩, _⟩ := HS.out wa (Below.refl _ _)
    refine wp_region_held_drew (S := (fun W => ((W.cell? ⟨w.heap.size, 0, none⟩ = some (.int .i64 g) ∧ W.cell? ⟨w.heap.size, 1, none⟩ = some (.int .i64 gh) ∧ W.cell? ⟨w.heap.size, 2, none⟩ = some (.slice ad zs.length cap)) ∧ W.cell? ⟨w.heap.size + 1, 0, none⟩ = some (.int .i64 day)) ∧ Keep wa W)) (by kernel_rfl) ?_ (fun hHeld => ?_)
    · first | exact HS.out _ (by go_grown) | exact HS.out _ (Keep.next (by go_grown) k1)
    refine takeH (v := ?_) 0 8 rfl rfl (by kernel_rfl) (by kernel_rfl) (by kernel_rfl) (fun _ _ _ h => h) (by rfl) (by assumption) ?_ ?_
    rotate_left 1
    · (intro W_ hSw; (try dsimp only at hSw); go_simp; try with_reducible rfl)
    try simp only [Act.put, List.setIfInBounds_toArray, List.set_cons_zero, List.set_cons_succ]
    refine wpAnyH_ready (rs := [1]) (by kernel_rfl) (by simp) ?_
    refine AllReadyH.cons rfl (fun K hK => ?_) AllReadyH.nil
    first | (first | (go_at_call 9; refine (HV.out _ (by go_grown)).mono ?_; rintro e w1 ⟨rfl, k1⟩)) | (go_simp; first | (go_at_call 9; refine (HV.out _ (by go_grown)).mono ?_; rintro e w1 ⟨rfl, k1⟩))
    try (go_wp2_with fail)
    refine hK.out _ _ ?_ (fun hHeld => ?_)
    · first | exact HS.out _ (Keep.next (by go_grown) k1) | exact HS.out _ (by assumption) | exact HS.out _ (by go_grown)
    clear hK K
    try simp only [Act.put, List.setIfInBounds_toArray, List.set_cons_zero, List.set_cons_succ]
    refine takeH (v := ?_) 2 10 rfl rfl (by kernel_rfl) (by kernel_rfl) (by kernel_rfl) (fun _ _ _ h => h) (by rfl) (by assumption) ?_ ?_
    rotate_left 1
    · (intro W_ hSw; (try dsimp only at hSw); go_simp; try with_reducible rfl)
    try simp only [Act.put, List.setIfInBounds_toArray, List.set_cons_zero, List.set_cons_succ]
    refine takeH (v := ?_) 3 11 rfl rfl (by kernel_rfl) (by kernel_rfl) (by kernel_rfl) (fun _ _ _ h => h) (by rfl) (by assumption) ?_ ?_
    rotate_left 1
    · (intro W_ hSw; (try dsimp only at hSw); go_simp; try with_reducible rfl)
    try simp only [Act.put, List.setIfInBounds_toArray, List.set_cons_zero, List.set_cons_succ]
    refine skipH 4 12 rfl rfl (by kernel_rfl) (by kernel_rfl) (by kernel_rfl) (fun _ _ _ h => h) (by rfl) (by assumption) ?_
    try simp only [Act.put, List.setIfInBounds_toArray, List.set_cons_zero, List.set_cons_succ]
    refine skipH 5 13 rfl rfl (by kernel_rfl) (by kernel_rfl) (by kernel_rfl) (fun _ _ _ h => h) (by rfl) (by assumption) ?_
    try simp only [Act.put, List.setIfInBounds_toArray, List.set_cons_zero, List.set_cons_succ]
    refine skipH 6 14 rfl rfl (by kernel_rfl) (by kernel_rfl) (by kernel_rfl) (fun _ _ _ h => h) (by rfl) (by assumption) ?_
    try simp only [Act.put, List.setIfInBounds_toArray, List.set_cons_zero, List.set_cons_succ]
    refine skipH 7 15 rfl rfl (by kernel_rfl) (by kernel_rfl) (by kernel_rfl) (fun _ _ _ h => h) (by rfl) (by assumption) ?_
    try simp only [Act.put, List.setIfInBounds_toArray, List.set_cons_zero, List.set_cons_succ]
    refine skipH 8 16 rfl rfl (by kernel_rfl) (by kernel_rfl) (by kernel_rfl) (fun _ _ _ h => h) (by rfl) (by assumption) ?_
    try simp only [Act.put, List.setIfInBounds_toArray, List.set_cons_zero, List.set_cons_succ]
    refine skipH 9 17 rfl rfl (by kernel_rfl) (by kernel_rfl) (by kernel_rfl) (fun _ _ _ h => h) (by rfl) (by assumption) ?_
    try simp only [Act.put, List.setIfInBounds_toArray, List.set_cons_zero, List.set_cons_succ]
    refine takeH (v := ?_) 10 18 rfl rfl (by kernel_rfl) (by kernel_rfl) (by kernel_rfl) (fun _ _ _ h => h) (by rfl) (by assumption) ?_ ?_
    rotate_left 1
    · (intro W_ hSw; (try dsimp only at hSw); go_simp; try with_reducible rfl)
    try simp only [Act.put, List.setIfInBounds_toArray, List.set_cons_zero, List.set_cons_succ]
    refine wpAnyH_done (by kernel_rfl) ?_ _
    go_wp2
    refine bodyPost_ret (v := .tuple #[.int .i64 0, .int .i64 0, .bool false]) (by simp [results, Try.results16, go_sem]) rfl ?_
    exact ⟨rfl, Keep.next HBL.out (Keep.next (by go_grown) k1)⟩
  rw [h1] at HV
  have hg := okC_g h1
  have hbd := bef_bd h1 (y := 100000) (by omega)
  have HDB := Lib.hid (fun W (k : Keep wa W) (i : Int) h0 h9 => daysBefore_any g gh ad cap zs i W (HZ.out W k) h1 h0 h9)
  have HBD := Lib.hid (fun (i : Int) (h : 0 ≤ i) => bef_bd h1 h)
  have HDM := Lib.hid (fun W (k : Keep wa W) => HDB.out W k 100000 (by omega) (by omega))
  cases h2 : inB day 0 (bef g gh zs 100000 - 1)
  · rw [h1, h2] at HDD
    have HX := Lib.hid (HNO.out HDD.out)
    rw [HX.out.1, HX.out.2, show yoB g gh zs day = false from HDD.out]
    clear HNO HDD HX
    generalize bef g gh zs 100000 = R at *
    have W9 : IntKind.i64.wrap (R - 1) = R - 1 := IntWalk.i64_in _ (by omega)
    go_enter Try.func16, Try.ntmps16
    go_wp2
    rw [← HWA.out]
    obtain ⟨⟨⟨b0, b1, b2⟩, d0⟩, _⟩ := HS.out wa (Below.refl _ _)
    go_region_held3 (fun W => ((W.cell? ⟨w.heap.size, 0, none⟩ = some (.int .i64 g) ∧ W.cell? ⟨w.heap.size, 1, none⟩ = some (.int .i64 gh) ∧ W.cell? ⟨w.heap.size, 2, none⟩ = some (.slice ad zs.length cap)) ∧ W.cell? ⟨w.heap.size + 1, 0, none⟩ = some (.int .i64 day)) ∧ Keep wa W)
      (first | exact HS.out _ (Keep.next (Keep.next (by go_grown) k1) k2) | exact HS.out _ (Keep.next (by go_grown) k1) | exact HS.out _ (by go_grown))
      (first | (go_at_call 9; refine (HV.out _ (by go_grown)).mono ?_; rintro e w1 ⟨rfl, k1⟩) | (go_at_call 25; refine (HDM.out _ (Keep.next (by go_grown) k1)).mono ?_; rintro e w2 ⟨rfl, k2⟩) | (go_at_call 22; refine (within_any _ _ _ _).mono ?_; (try rw [W9]); rw [h2]; rintro e w' ⟨rfl, rfl⟩))
    go_wp2
    refine bodyPost_ret (v := .tuple #[.int .i64 0, .int .i64 0, .bool false]) (by simp [results, Try.results16, go_sem]) rfl ?_
    exact ⟨rfl, Keep.next HBL.out (Keep.next (Keep.next (by go_grown) k1) k2)⟩
  have hyes := inB_iff.1 h2
  have hY := yrV_of h1 hyes.1 (by omega)
  have HYV : Hid (yoV g gh zs day = (yrV g gh zs day : Nat) ∧ yoD g gh zs day = day - bef g gh zs (yrV g gh zs day : Nat) ∧ yoB g gh zs day = true) := Lib.hid (by
    have h : yoB g gh zs day = true := by rw [HDD.out, h1, h2]; rfl
    exact ⟨by simp [yoV, h], by simp [yoD, h], h⟩)
  rw [HYV.out.1, HYV.out.2.1, HYV.out.2.2]
  have hy9 := hY.1
  have hyb := HBD.out (yrV g gh zs day : Nat) (by omega)
  have HYY := Lib.hid hY
  clear hY HYV HNO HDD
  generalize yrV g gh zs day = y at *
  have HSE := Lib.hid (fun W (k : Keep wa W) => Search_any w.heap.size (w.heap.size + 1) y W hy9 (fun n hn W2 k2 => yearC_any w.heap.size (w.heap.size + 1) g gh ad cap zs day y n W2 (HZ.out W2 (Keep.next k k2)) (HB0.out.keep (Keep.next k k2)) (((Keep.next k k2).cell (p := ⟨w.heap.size + 1, 0, none⟩) (block_lt_of_cell HD0.out)).trans HD0.out) h1 HYY.out hn))
  have HDY := Lib.hid (fun W (k : Keep wa W) => HDB.out W k (y : Int) (by omega) (by omega))
  generalize bef g gh zs 100000 = R at *
  have W9 : IntKind.i64.wrap (R - 1) = R - 1 := IntWalk.i64_in _ (by omega)
  generalize bef g gh zs (y : Int) = X at *
  have W8 : IntKind.i64.wrap (day - X) = day - X := IntWalk.i64_in _ (by omega)
  go_enter Try.func16, Try.ntmps16
  go_wp2
  rw [← HWA.out]
  obtain ⟨⟨⟨b0, b1, b2⟩, d0⟩, _⟩ := HS.out wa (Below.refl _ _)
  go_region_held3 (fun W => ((W.cell? ⟨w.heap.size, 0, none⟩ = some (.int .i64 g) ∧ W.cell? ⟨w.heap.size, 1, none⟩ = some (.int .i64 gh) ∧ W.cell? ⟨w.heap.size, 2, none⟩ = some (.slice ad zs.length cap)) ∧ W.cell? ⟨w.heap.size + 1, 0, none⟩ = some (.int .i64 day)) ∧ Keep wa W)
    (first | exact HS.out _ (Keep.next (Keep.next (by go_grown) k1) k2) | exact HS.out _ (Keep.next (by go_grown) k1) | exact HS.out _ (by go_grown))
    (first | (go_at_call 9; refine (HV.out _ (by go_grown)).mono ?_; rintro e w1 ⟨rfl, k1⟩) | (go_at_call 25; refine (HDM.out _ (Keep.next (by go_grown) k1)).mono ?_; rintro e w2 ⟨rfl, k2⟩) | (go_at_call 22; refine (within_any _ _ _ _).mono ?_; (try rw [W9]); rw [h2]; rintro e w' ⟨rfl, rfl⟩))
  have HK2 := Lib.hid (show Keep wa w2 from Keep.next (Keep.next (by go_grown) k1) k2)
  clear k1 k2
  go_wp2_with (go_at_call 31; refine (HSE.out _ (Keep.next HK2.out (by go_grown))).mono ?_; rintro e w3 ⟨rfl, k3⟩; have HK3 := Lib.hid (show Keep wa w3 from Keep.next HK2.out (Keep.next (by go_grown) k3)); clear k3; obtain ⟨⟨⟨b0, b1, b2⟩, d0⟩, _⟩ := HS.out w3 HK3.out)
  go_region_held3 (fun W => ((W.cell? ⟨w.heap.size, 0, none⟩ = some (.int .i64 g) ∧ W.cell? ⟨w.heap.size, 1, none⟩ = some (.int .i64 gh) ∧ W.cell? ⟨w.heap.size, 2, none⟩ = some (.slice ad zs.length cap)) ∧ W.cell? ⟨w.heap.size + 1, 0, none⟩ = some (.int .i64 day)) ∧ Keep wa W)
    (first | exact HS.out _ (Keep.next (Keep.next HK3.out (by go_grown)) k4) | exact HS.out _ (Keep.next HK3.out (by go_grown)))
    (first | (go_at_call 25; refine (HDY.out _ (Keep.next HK3.out (by go_grown))).mono ?_; rintro e w4 ⟨rfl, k4⟩))
  go_wp2
  refine bodyPost_ret (v := .tuple #[.int .i64 y, .int .i64 (day - X), .bool true]) (by simp [results, Try.results16, go_sem]) rfl ?_
  exact ⟨rfl, Keep.next HBL.out (Keep.next (Keep.next HK3.out (by go_grown)) k4)⟩
end Go.Proofs.Ytomfhkpmdalknab
