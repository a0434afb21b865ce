/- Calendars: leap years and the days before a year: the program's look and the model's. -/
import Derived.Test.YtomfhkpmdalknabCalI
import Derived.Test.YtomfhkpmdalknabBs11
import Derived.Test.YtomfhkpmdalknabHold
namespace Go.Proofs.Ytomfhkpmdalknab
open Go.ChangeShapes Go.WideShapes Go.ChangeAt Go.RowKit Go.Deep
set_option linter.unusedVariables false
theorem idxI_any (r : Int) (ad : Option Addr) (cap : Nat) (zs : List Int) (w : World) (hz : Ints w ad zs) :
    Calls Try.prog 40 #[.slice ad zs.length cap, .int .i64 r] w fun e w' =>
      (∃ q, e = .returned (.int .i64 q) ∧ -1 ≤ q ∧ q < 9223372036854775807 ∧ (decide (0 ≤ q) = hasB zs r)) ∧ w = w' := by
  have hs := hz.small
  have HN0 := Lib.hid (fun h => hasB_no (zs := zs) (n := r) h)
  go_enter Try.func40, Try.ntmps40
  go_wp2
  go_loop [5, 8] (fun _ i => ∃ k : Nat, k ≤ zs.length ∧ i = .int .i64 k ∧ Hid (∀ j, j < k → zs.getD j 0 ≠ r)) (fun _ i => zs.length - (intOf i).toNat)
  case atStart => exact ⟨0, Nat.zero_le _, rfl, Lib.hid (fun j h => by omega)⟩
  case round =>
    obtain ⟨k, hk, rfl, HA⟩ := hrel
    by_cases hlt : k < zs.length
    · rcases hz.at_ with h | ⟨b, off, rfl, hb, hc⟩
      · subst h; simp at hlt
      have hcx := hc k hlt
      have HY := Lib.hid (fun h => hasB_yes (n := r) hlt h)
      have HNX : Hid (zs.getD k 0 ≠ r → ∀ j, j < k + 1 → zs.getD j 0 ≠ r) := Lib.hid (fun h j hj => by
        by_cases e : j = k
        · subst e; exact h
        · exact HA.out j (by omega))
      clear hc
      generalize zs.getD k 0 = x at *
      by_cases hx : x = r
      · have hxb : (r == x) = true := by simp [hx]
        have HX := Lib.hid (HY.out hx); clear hx
        go_wp2
        go_ret
        exact ⟨⟨_, rfl, by omega, by omega, by rw [HX.out]; simp⟩, rfl⟩
      · have hxb : (r == x) = false := by simp; exact fun h => hx h.symm
        have HX := Lib.hid (HNX.out hx); clear hx
        go_wp2
        go_round
        case rel => exact ⟨k + 1, by omega, by go_num, HX⟩
        case measure => simp [intOf]; omega
    · have HE := Lib.hid (HN0.out (fun j hj => HA.out j (by omega)))
      go_wp2
      go_ret
      exact ⟨⟨-1, rfl, by omega, by omega, by rw [HE.out]; rfl⟩, rfl⟩
theorem hasI_any (r : Int) (ad : Option Addr) (cap : Nat) (zs : List Int) (w : World) (hz : Ints w ad zs) :
    Calls Try.prog 28 #[.slice ad zs.length cap, .int .i64 r] w fun e w' => e = .returned (.bool (hasB zs r)) ∧ w = w' := by
  go_enter Try.func28, Try.ntmps28
  go_wp2_with fail
  refine (idxI_any r ad cap zs _ hz).mono ?_
  rintro e w' ⟨⟨q, rfl, h1, h2, h3⟩, rfl⟩
  have H3 := Lib.hid h3; clear h3
  go_wp2
  go_ret
  exact ⟨ret_bool H3.out, rfl⟩
set_option maxHeartbeats 800000 in
theorem daysBefore_any (g gh : Int) (ad : Option Addr) (cap : Nat) (zs : List Int) (y : Int) (w : World) (hz : Ints w ad zs) (ok : okC g gh zs = true) (y0 : 0 ≤ y) (y1 : y ≤ 100000) :
    Calls Try.prog 25 #[calV g gh ad zs.length cap, .int .i64 y] w fun e w' => e = .returned (.int .i64 (bef g gh zs y)) ∧ Keep w w' := by
  have hg := okC_g ok; have hh := okC_h ok
  obtain ⟨⟨p1, p2⟩, ⟨p3, p4⟩, ⟨p5, p6⟩, p7, p8⟩ := bef_parts ok y0 y1
  have HBS := Lib.hid (fun W (k : Keep w W) => BinarySearch_any ad cap zs (y % g) W (hz.keep k (Nat.le_refl _)) (okC_inc ok) (by omega))
  have HBE : Hid (y * gh + y / g * (zs.length : Int) + (ltN zs (y % g) : Nat) = bef g gh zs y) := Lib.hid rfl
  have hg0 : g ≠ 0 := by omega
  have m0 := Int.emod_nonneg y hg0
  have m1 := Int.emod_lt_of_pos y (show 0 < g by omega)
  have W1 : IntKind.i64.wrap (y * gh) = y * gh := IntWalk.i64_in _ (by omega)
  have W2 : IntKind.i64.wrap (y / g * (zs.length : Int)) = y / g * (zs.length : Int) := IntWalk.i64_in _ (by omega)
  generalize bef g gh zs y = R at *
  generalize fnd zs (y % g) = F at *
  generalize ltN zs (y % g) = c at *
  go_enter Try.func25, Try.ntmps25
  go_wp2
  go_quiet ((go_at_call 38; exact Calls.quiet_of_same ((HBS.out _ (below_drewN (by go_grown) _)).mono fun _ _ h => ⟨h.1, h.2.symm⟩)))
  go_wp2
  go_quiet (fail)
  go_wp2
  go_ret
  exact ⟨ret_i64 HBE.out, below_drewN (below_drewN (by go_grown) _) _⟩
theorem DaysBefore_any (g gh : Int) (ad : Option Addr) (cap : Nat) (zs : List Int) (y : Int) (w : World) (hz : Ints w ad zs) (uy : In64 y) :
    Calls Try.prog 13 #[calV g gh ad zs.length cap, .int .i64 y] w fun e w' => e = .returned (.tuple #[.int .i64 (dbV g gh zs y), .bool (dbB g gh zs y)]) ∧ Keep w w' := by
  have HV := Lib.hid (fun W (k : Keep w W) => ValidCalendar_any g gh ad cap zs W (hz.keep k (Nat.le_refl _)))
  have B0 : BoxC (w.alloc (.cells #[.int .i64 g, .int .i64 gh, .slice ad zs.length cap] 27)) w.heap.size g gh ad zs.length cap := ⟨by simp, by simp, by simp, by simp⟩
  have HB0 := Lib.hid B0
  have HDB : Hid (∀ b, dbB g gh zs y = b → dbV g gh zs y = if b then bef g gh zs y else 0) := Lib.hid (fun b h => by unfold dbV; rw [h])
  have HDD : Hid (dbB g gh zs y = (okC g gh zs && inB y 0 100000)) := Lib.hid rfl
  cases h1 : okC g gh zs
  · rw [h1, Bool.false_and] at HDD
    rw [HDB.out _ HDD.out, HDD.out]
    rw [h1] at HV
    clear HDD HDB B0 HB0
    go_enter Try.func13, Try.ntmps13
    go_wp2_with (go_at_call 9; refine (HV.out _ (by go_grown)).mono ?_; rintro e w1 ⟨rfl, k1⟩)
    go_ret2
    exact ⟨rfl, Keep.next (by go_grown) k1⟩
  cases h2 : inB y 0 100000
  · rw [h1, h2] at HDD
    rw [HDB.out _ HDD.out, show dbB g gh zs y = false from HDD.out]
    rw [h1] at HV
    clear HDD HDB B0 HB0
    go_enter Try.func13, Try.ntmps13
    go_wp2_with (first | (go_at_call 9; refine (HV.out _ (by go_grown)).mono ?_; rintro e w1 ⟨rfl, k1⟩) | (go_at_call 27; refine (isYear_any _ _).mono ?_; rw [h2]; rintro e w' ⟨rfl, rfl⟩))
    go_ret2
    exact ⟨rfl, Keep.next (by go_grown) k1⟩
  · have hy := inB_iff.1 h2
    have HD := Lib.hid (fun W (k : Keep w W) => daysBefore_any g gh ad cap zs y W (hz.keep k (Nat.le_refl _)) h1 hy.1 hy.2)
    rw [h1, h2, Bool.and_true] at HDD
    rw [HDB.out _ HDD.out, show dbB g gh zs y = true from HDD.out]
    rw [h1] at HV
    clear HDD HDB B0
    generalize bef g gh zs y = R at *
    rw [if_pos rfl]
    go_enter Try.func13, Try.ntmps13
    go_wp2_with (first | (go_at_call 9; refine (HV.out _ (by go_grown)).mono ?_; rintro e w1 ⟨rfl, k1⟩; obtain ⟨b0, b1, b2, b3⟩ := HB0.out.keep k1; have HK1 := Lib.hid (show Keep w w1 from Keep.next (by go_grown) k1); clear k1) | (go_at_call 27; refine (isYear_any _ _).mono ?_; rw [h2]; rintro e w' ⟨rfl, rfl⟩) | (go_at_call 25; refine (HD.out _ HK1.out).mono ?_; rintro e w2 ⟨rfl, k2⟩))
    go_ret2
    exact ⟨rfl, Keep.next HK1.out k2⟩
set_option maxHeartbeats 1600000 in
set_option maxRecDepth 100000 in
theorem IsLeap_any (g gh : Int) (ad : Option Addr) (cap : Nat) (zs : List Int) (y : Int) (w : World) (hz : Ints w ad zs) (uy : In64 y) :
    Calls Try.prog 11 #[calV g gh ad zs.length cap, .int .i64 y] w fun e w' => e = .returned (.bool (lpB g gh zs y)) ∧ Keep w w' := by
  have hbl : Below w.heap.size w (w.alloc (.cells #[.int .i64 g, .int .i64 gh, .slice ad zs.length cap] 27)) := by go_grown
  have B0 : BoxC (w.alloc (.cells #[.int .i64 g, .int .i64 gh, .slice ad zs.length cap] 27)) w.heap.size g gh ad zs.length cap := ⟨by simp, by simp, by simp, by simp⟩
  have HBL := Lib.hid hbl
  obtain ⟨wa, hwa⟩ : ∃ x, x = w.alloc (.cells #[.int .i64 g, .int .i64 gh, .slice ad zs.length cap] 27) := ⟨_, rfl⟩
  rw [← hwa] at B0 HBL
  have HV := Lib.hid (fun W (k : Keep wa W) => ValidCalendar_any g gh ad cap zs W ((hz.keep HBL.out (Nat.le_refl _)).keep k (Nat.le_refl _)))
  have HI := Lib.hid (fun W (k : Keep wa W) => hasI_any (y % g) ad cap zs W ((hz.keep HBL.out (Nat.le_refl _)).keep k (Nat.le_refl _)))
  have HS : Hid (∀ W, Keep wa W → (W.cell? ⟨w.heap.size, 0, none⟩ = some (.int .i64 g) ∧ W.cell? ⟨w.heap.size, 1, none⟩ = some (.int .i64 gh) ∧ W.cell? ⟨w.heap.size, 2, none⟩ = some (.slice ad zs.length cap)) ∧ Keep wa W) := Lib.hid (fun W k => ⟨⟨(B0.keep k).c0, (B0.keep k).c1, (B0.keep k).c2⟩, k⟩)
  have HWA := Lib.hid hwa
  clear hwa hbl B0
  cases h1 : okC g gh zs
  · rw [show lpB g gh zs y = false from by unfold lpB; rw [h1]; rfl]
    rw [h1] at HV
    go_enter Try.func11, Try.ntmps11
    go_wp2
    rw [← HWA.out]
    obtain ⟨⟨b0, b1, b2⟩, _⟩ := HS.out wa (Below.refl _ _)
    refine wp_region_held_drew (S := (fun W => (W.cell? ⟨w.heap.size, 0, none⟩ = some (.int .i64 g) ∧ W.cell? ⟨w.heap.size, 1, none⟩ = some (.int .i64 gh) ∧ W.cell? ⟨w.heap.size, 2, none⟩ = some (.slice ad zs.length cap)) ∧ Keep wa W)) (by kernel_rfl) ?_ (fun hHeld => ?_)
    · first | exact HS.out _ (by go_grown) | exact HS.out _ (Keep.next (by go_grown) k1)
    refine takeH (v := ?_) 0 5 rfl rfl (by kernel_rfl) (by kernel_rfl) (by kernel_rfl) (fun _ _ _ h => h) (by rfl) (by assumption) ?_ ?_
    rotate_left 1
    · (intro W_ hSw; (try dsimp only at hSw); go_simp; try with_reducible rfl)
    try simp only [Act.put, List.setIfInBounds_toArray, List.set_cons_zero, List.set_cons_succ]
    refine wpAnyH_ready (rs := [1]) (by kernel_rfl) (by simp) ?_
    refine AllReadyH.cons rfl (fun K hK => ?_) AllReadyH.nil
    first | (first | (go_at_call 9; refine (HV.out _ (by go_grown)).mono ?_; rintro e w1 ⟨rfl, k1⟩)) | (go_simp; first | (go_at_call 9; refine (HV.out _ (by go_grown)).mono ?_; rintro e w1 ⟨rfl, k1⟩))
    try (go_wp2_with fail)
    refine hK.out _ _ ?_ (fun hHeld => ?_)
    · first | exact HS.out _ (Keep.next (by go_grown) k1) | exact HS.out _ (by assumption) | exact HS.out _ (by go_grown)
    clear hK K
    try simp only [Act.put, List.setIfInBounds_toArray, List.set_cons_zero, List.set_cons_succ]
    refine takeH (v := ?_) 2 7 rfl rfl (by kernel_rfl) (by kernel_rfl) (by kernel_rfl) (fun _ _ _ h => h) (by rfl) (by assumption) ?_ ?_
    rotate_left 1
    · (intro W_ hSw; (try dsimp only at hSw); go_simp; try with_reducible rfl)
    try simp only [Act.put, List.setIfInBounds_toArray, List.set_cons_zero, List.set_cons_succ]
    refine skipH 3 8 rfl rfl (by kernel_rfl) (by kernel_rfl) (by kernel_rfl) (fun _ _ _ h => h) (by rfl) (by assumption) ?_
    try simp only [Act.put, List.setIfInBounds_toArray, List.set_cons_zero, List.set_cons_succ]
    refine skipH 4 9 rfl rfl (by kernel_rfl) (by kernel_rfl) (by kernel_rfl) (fun _ _ _ h => h) (by rfl) (by assumption) ?_
    try simp only [Act.put, List.setIfInBounds_toArray, List.set_cons_zero, List.set_cons_succ]
    refine takeH (v := ?_) 5 10 rfl rfl (by kernel_rfl) (by kernel_rfl) (by kernel_rfl) (fun _ _ _ h => h) (by rfl) (by assumption) ?_ ?_
    rotate_left 1
    · (intro W_ hSw; (try dsimp only at hSw); go_simp; try with_reducible rfl)
    try simp only [Act.put, List.setIfInBounds_toArray, List.set_cons_zero, List.set_cons_succ]
    refine takeH (v := ?_) 6 11 rfl rfl (by kernel_rfl) (by kernel_rfl) (by kernel_rfl) (fun _ _ _ h => h) (by rfl) (by assumption) ?_ ?_
    rotate_left 1
    · (intro W_ hSw; (try dsimp only at hSw); go_simp; try with_reducible rfl)
    try simp only [Act.put, List.setIfInBounds_toArray, List.set_cons_zero, List.set_cons_succ]
    refine skipH 7 12 rfl rfl (by kernel_rfl) (by kernel_rfl) (by kernel_rfl) (fun _ _ _ h => h) (by rfl) (by assumption) ?_
    try simp only [Act.put, List.setIfInBounds_toArray, List.set_cons_zero, List.set_cons_succ]
    refine skipH 8 13 rfl rfl (by kernel_rfl) (by kernel_rfl) (by kernel_rfl) (fun _ _ _ h => h) (by rfl) (by assumption) ?_
    try simp only [Act.put, List.setIfInBounds_toArray, List.set_cons_zero, List.set_cons_succ]
    refine skipH 9 14 rfl rfl (by kernel_rfl) (by kernel_rfl) (by kernel_rfl) (fun _ _ _ h => h) (by rfl) (by assumption) ?_
    try simp only [Act.put, List.setIfInBounds_toArray, List.set_cons_zero, List.set_cons_succ]
    refine skipH 10 15 rfl rfl (by kernel_rfl) (by kernel_rfl) (by kernel_rfl) (fun _ _ _ h => h) (by rfl) (by assumption) ?_
    try simp only [Act.put, List.setIfInBounds_toArray, List.set_cons_zero, List.set_cons_succ]
    refine skipH 11 16 rfl rfl (by kernel_rfl) (by kernel_rfl) (by kernel_rfl) (fun _ _ _ h => h) (by rfl) (by assumption) ?_
    try simp only [Act.put, List.setIfInBounds_toArray, List.set_cons_zero, List.set_cons_succ]
    refine skipH 12 17 rfl rfl (by kernel_rfl) (by kernel_rfl) (by kernel_rfl) (fun _ _ _ h => h) (by rfl) (by assumption) ?_
    try simp only [Act.put, List.setIfInBounds_toArray, List.set_cons_zero, List.set_cons_succ]
    refine skipH 13 18 rfl rfl (by kernel_rfl) (by kernel_rfl) (by kernel_rfl) (fun _ _ _ h => h) (by rfl) (by assumption) ?_
    try simp only [Act.put, List.setIfInBounds_toArray, List.set_cons_zero, List.set_cons_succ]
    refine takeH (v := ?_) 14 19 rfl rfl (by kernel_rfl) (by kernel_rfl) (by kernel_rfl) (fun _ _ _ h => h) (by rfl) (by assumption) ?_ ?_
    rotate_left 1
    · (intro W_ hSw; (try dsimp only at hSw); go_simp; try with_reducible rfl)
    try simp only [Act.put, List.setIfInBounds_toArray, List.set_cons_zero, List.set_cons_succ]
    refine takeH (v := ?_) 15 4 rfl rfl (by kernel_rfl) (by kernel_rfl) (by kernel_rfl) (fun _ _ _ h => h) (by rfl) (by assumption) ?_ ?_
    rotate_left 1
    · (intro W_ hSw; (try dsimp only at hSw); go_simp; try with_reducible rfl)
    try simp only [Act.put, List.setIfInBounds_toArray, List.set_cons_zero, List.set_cons_succ]
    refine wpAnyH_done (by kernel_rfl) ?_ _
    go_wp2
    go_ret
    exact ⟨rfl, Keep.next HBL.out (Keep.next (by go_grown) k1)⟩
  cases h2 : inB y 0 100000
  · rw [show lpB g gh zs y = false from by unfold lpB; rw [h1, h2]; rfl]
    rw [h1] at HV
    go_enter Try.func11, Try.ntmps11
    go_wp2
    rw [← HWA.out]
    obtain ⟨⟨b0, b1, b2⟩, _⟩ := HS.out wa (Below.refl _ _)
    refine wp_region_held_drew (S := (fun W => (W.cell? ⟨w.heap.size, 0, none⟩ = some (.int .i64 g) ∧ W.cell? ⟨w.heap.size, 1, none⟩ = some (.int .i64 gh) ∧ W.cell? ⟨w.heap.size, 2, none⟩ = some (.slice ad zs.length cap)) ∧ Keep wa W)) (by kernel_rfl) ?_ (fun hHeld => ?_)
    · first | exact HS.out _ (by go_grown) | exact HS.out _ (Keep.next (by go_grown) k1)
    refine takeH (v := ?_) 0 5 rfl rfl (by kernel_rfl) (by kernel_rfl) (by kernel_rfl) (fun _ _ _ h => h) (by rfl) (by assumption) ?_ ?_
    rotate_left 1
    · (intro W_ hSw; (try dsimp only at hSw); go_simp; try with_reducible rfl)
    try simp only [Act.put, List.setIfInBounds_toArray, List.set_cons_zero, List.set_cons_succ]
    refine wpAnyH_ready (rs := [1]) (by kernel_rfl) (by simp) ?_
    refine AllReadyH.cons rfl (fun K hK => ?_) AllReadyH.nil
    first | (first | (go_at_call 9; refine (HV.out _ (by go_grown)).mono ?_; rintro e w1 ⟨rfl, k1⟩) | (go_at_call 27; refine (isYear_any _ _).mono ?_; rw [h2]; rintro e w' ⟨rfl, rfl⟩)) | (go_simp; first | (go_at_call 9; refine (HV.out _ (by go_grown)).mono ?_; rintro e w1 ⟨rfl, k1⟩) | (go_at_call 27; refine (isYear_any _ _).mono ?_; rw [h2]; rintro e w' ⟨rfl, rfl⟩))
    try (go_wp2_with fail)
    refine hK.out _ _ ?_ (fun hHeld => ?_)
    · first | exact HS.out _ (Keep.next (by go_grown) k1) | exact HS.out _ (by assumption) | exact HS.out _ (by go_grown)
    clear hK K
    try simp only [Act.put, List.setIfInBounds_toArray, List.set_cons_zero, List.set_cons_succ]
    refine takeH (v := ?_) 2 7 rfl rfl (by kernel_rfl) (by kernel_rfl) (by kernel_rfl) (fun _ _ _ h => h) (by rfl) (by assumption) ?_ ?_
    rotate_left 1
    · (intro W_ hSw; (try dsimp only at hSw); go_simp; try with_reducible rfl)
    try simp only [Act.put, List.setIfInBounds_toArray, List.set_cons_zero, List.set_cons_succ]
    refine takeH (v := ?_) 3 8 rfl rfl (by kernel_rfl) (by kernel_rfl) (by kernel_rfl) (fun _ _ _ h => h) (by rfl) (by assumption) ?_ ?_
    rotate_left 1
    · (intro W_ hSw; (try dsimp only at hSw); go_simp; try with_reducible rfl)
    try simp only [Act.put, List.setIfInBounds_toArray, List.set_cons_zero, List.set_cons_succ]
    refine wpAnyH_ready (rs := [4]) (by kernel_rfl) (by simp) ?_
    refine AllReadyH.cons rfl (fun K hK => ?_) AllReadyH.nil
    first | (first | (go_at_call 9; refine (HV.out _ (by go_grown)).mono ?_; rintro e w1 ⟨rfl, k1⟩) | (go_at_call 27; refine (isYear_any _ _).mono ?_; rw [h2]; rintro e w' ⟨rfl, rfl⟩)) | (go_simp; first | (go_at_call 9; refine (HV.out _ (by go_grown)).mono ?_; rintro e w1 ⟨rfl, k1⟩) | (go_at_call 27; refine (isYear_any _ _).mono ?_; rw [h2]; rintro e w' ⟨rfl, rfl⟩))
    try (go_wp2_with fail)
    refine hK.out _ _ ?_ (fun hHeld => ?_)
    · first | exact HS.out _ (Keep.next (by go_grown) k1) | exact HS.out _ (by assumption) | exact HS.out _ (by go_grown)
    clear hK K
    try simp only [Act.put, List.setIfInBounds_toArray, List.set_cons_zero, List.set_cons_succ]
    refine takeH (v := ?_) 5 10 rfl rfl (by kernel_rfl) (by kernel_rfl) (by kernel_rfl) (fun _ _ _ h => h) (by rfl) (by assumption) ?_ ?_
    rotate_left 1
    · (intro W_ hSw; (try dsimp only at hSw); go_simp; try with_reducible rfl)
    try simp only [Act.put, List.setIfInBounds_toArray, List.set_cons_zero, List.set_cons_succ]
    refine takeH (v := ?_) 6 11 rfl rfl (by kernel_rfl) (by kernel_rfl) (by kernel_rfl) (fun _ _ _ h => h) (by rfl) (by assumption) ?_ ?_
    rotate_left 1
    · (intro W_ hSw; (try dsimp only at hSw); go_simp; try with_reducible rfl)
    try simp only [Act.put, List.setIfInBounds_toArray, List.set_cons_zero, List.set_cons_succ]
    refine skipH 7 12 rfl rfl (by kernel_rfl) (by kernel_rfl) (by kernel_rfl) (fun _ _ _ h => h) (by rfl) (by assumption) ?_
    try simp only [Act.put, List.setIfInBounds_toArray, List.set_cons_zero, List.set_cons_succ]
    refine skipH 8 13 rfl rfl (by kernel_rfl) (by kernel_rfl) (by kernel_rfl) (fun _ _ _ h => h) (by rfl) (by assumption) ?_
    try simp only [Act.put, List.setIfInBounds_toArray, List.set_cons_zero, List.set_cons_succ]
    refine skipH 9 14 rfl rfl (by kernel_rfl) (by kernel_rfl) (by kernel_rfl) (fun _ _ _ h => h) (by rfl) (by assumption) ?_
    try simp only [Act.put, List.setIfInBounds_toArray, List.set_cons_zero, List.set_cons_succ]
    refine skipH 10 15 rfl rfl (by kernel_rfl) (by kernel_rfl) (by kernel_rfl) (fun _ _ _ h => h) (by rfl) (by assumption) ?_
    try simp only [Act.put, List.setIfInBounds_toArray, List.set_cons_zero, List.set_cons_succ]
    refine skipH 11 16 rfl rfl (by kernel_rfl) (by kernel_rfl) (by kernel_rfl) (fun _ _ _ h => h) (by rfl) (by assumption) ?_
    try simp only [Act.put, List.setIfInBounds_toArray, List.set_cons_zero, List.set_cons_succ]
    refine skipH 12 17 rfl rfl (by kernel_rfl) (by kernel_rfl) (by kernel_rfl) (fun _ _ _ h => h) (by rfl) (by assumption) ?_
    try simp only [Act.put, List.setIfInBounds_toArray, List.set_cons_zero, List.set_cons_succ]
    refine skipH 13 18 rfl rfl (by kernel_rfl) (by kernel_rfl) (by kernel_rfl) (fun _ _ _ h => h) (by rfl) (by assumption) ?_
    try simp only [Act.put, List.setIfInBounds_toArray, List.set_cons_zero, List.set_cons_succ]
    refine takeH (v := ?_) 14 19 rfl rfl (by kernel_rfl) (by kernel_rfl) (by kernel_rfl) (fun _ _ _ h => h) (by rfl) (by assumption) ?_ ?_
    rotate_left 1
    · (intro W_ hSw; (try dsimp only at hSw); go_simp; try with_reducible rfl)
    try simp only [Act.put, List.setIfInBounds_toArray, List.set_cons_zero, List.set_cons_succ]
    refine takeH (v := ?_) 15 4 rfl rfl (by kernel_rfl) (by kernel_rfl) (by kernel_rfl) (fun _ _ _ h => h) (by rfl) (by assumption) ?_ ?_
    rotate_left 1
    · (intro W_ hSw; (try dsimp only at hSw); go_simp; try with_reducible rfl)
    try simp only [Act.put, List.setIfInBounds_toArray, List.set_cons_zero, List.set_cons_succ]
    refine wpAnyH_done (by kernel_rfl) ?_ _
    go_wp2
    go_ret
    exact ⟨rfl, Keep.next HBL.out (Keep.next (by go_grown) k1)⟩
  · have hy := inB_iff.1 h2
    have hg := okC_g h1
    have hg0 : g ≠ 0 := by omega
    have y0 := hy.1
    rw [show lpB g gh zs y = hasB zs (y % g) from by unfold lpB; rw [h1, h2]; rfl]
    rw [h1] at HV
    have HTM : Hid (y.tmod g = y % g) := Lib.hid (Int.tmod_eq_emod_of_nonneg y0)
    generalize hasB zs (y % g) = R at *
    rw [← HTM.out] at HI
    go_enter Try.func11, Try.ntmps11
    go_wp2
    rw [← HWA.out]
    obtain ⟨⟨b0, b1, b2⟩, _⟩ := HS.out wa (Below.refl _ _)
    go_region_held3 (fun W => (W.cell? ⟨w.heap.size, 0, none⟩ = some (.int .i64 g) ∧ W.cell? ⟨w.heap.size, 1, none⟩ = some (.int .i64 gh) ∧ W.cell? ⟨w.heap.size, 2, none⟩ = some (.slice ad zs.length cap)) ∧ Keep wa W)
      (first | exact HS.out _ (Keep.next (by go_grown) k1) | exact HS.out _ (by go_grown))
      (first | (go_at_call 9; refine (HV.out _ (by go_grown)).mono ?_; rintro e w1 ⟨rfl, k1⟩) | (go_at_call 27; refine (isYear_any _ _).mono ?_; rw [h2]; rintro e w' ⟨rfl, rfl⟩) | (go_at_call 28; refine (HI.out _ (Keep.next (by go_grown) k1)).mono ?_; rintro e w' ⟨rfl, rfl⟩))
    go_wp2
    go_ret
    exact ⟨rfl, Keep.next HBL.out (Keep.next (by go_grown) k1)⟩
end Go.Proofs.Ytomfhkpmdalknab
