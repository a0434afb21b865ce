/- FnCalendars: the days before a year are those of all years before it, the year of a day is the one in which it lies, and the mean year is that of a cycle: at all bytes. -/
import Derived.Test.YtomfhkpmdalknabDrwD11
import Derived.Test.YtomfhkpmdalknabCalMeanYear
import Derived.Test.YtomfhkpmdalknabCalYearOf
import Derived.Test.YtomfhkpmdalknabBten
import Derived.Test.YtomfhkpmdalknabBg7
import Derived.WalkSmall
namespace Go.Proofs.Ytomfhkpmdalknab.fnCalendars
open Go.ChangeShapes Go.WideShapes Go.ChangeAt Go.RowKit Go.Deep
open Go.ChangeMaps (open_string shut_string)
set_option linter.unusedVariables false
set_option maxHeartbeats 1600000 in
set_option maxRecDepth 100000 in
theorem B10Calendar_any (ad : Option Addr) (cap : Nat) (zs : List Int) (w : World) (hz : Bytes w ad zs) :
    Calls Try.prog 12 #[.slice ad zs.length cap] w fun e w' => ∃ (n : Nat) (gh : Int) (vs : List Int) (rd : Option Addr) (rc : Nat), e = .returned (calV n gh rd vs.length rc) ∧ Own w' w.heap.size rd rc vs ∧ okC n gh vs = true ∧ Keep w w' := by
  obtain ⟨wa, hwa⟩ : ∃ x, x = w.alloc (.cells #[.int .i64 0, .int .i64 0, .slice none 0 0] 27) := ⟨_, rfl⟩
  have HKA : Hid (Keep w wa) := Lib.hid (by rw [hwa]; go_grown)
  have R0 : Hid (ResC wa w.heap.size (.int .i64 0) (.int .i64 0) (.slice none 0 0)) := Lib.hid (by rw [hwa]; exact ResC.new w _ _ _ _)
  have HSZ : Hid (wa.heap.size = w.heap.size + 1) := Lib.hid (by rw [hwa]; simp)
  have HWA := Lib.hid hwa
  clear hwa
  have za := Lib.hid (hz.keep HKA.out (Nat.le_refl _))
  go_enter Try.func12, Try.ntmps12
  go_wp2_with fail
  rw [← HWA.out]
  refine (l00From_any ad cap zs.length wa).mono ?_
  rintro e w0 ⟨rfl, hw0⟩
  have k1 : Keep wa w0 := by rw [hw0]; go_grown
  have S0 : SrcAt w0 wa.heap.size ad cap zs 0 := by
    rw [hw0]; exact ⟨by simp, ⟨0, Nat.le_refl _, by simp⟩, ⟨0, by omega, by omega, by simp⟩, by simp, by simp⟩
  clear hw0
  have HP := Lib.hid (l11DrawOk_any wa wa.heap.size ad cap zs w0 za.out k1 S0 (Nat.le_refl _))
  clear k1 S0
  go_wp2_with fail
  refine HP.out.mono ?_
  rintro e w1 ⟨n, gh, vs, rd, rc, rfl, o1, ok, kk1⟩
  have R1 := Lib.hid (R0.out.keep kk1 (by rw [HSZ.out]; omega))
  have HF := Lib.hid (R1.out.put (.int .i64 (n : Nat)) (.int .i64 gh) (.slice rd vs.length rc))
  have HO := Lib.hid ((o1.set3 (b := w.heap.size) (by rw [HSZ.out]; omega) (.int .i64 (n : Nat)) (.int .i64 gh) (.slice rd vs.length rc)).mono (B' := w.heap.size) (by rw [HSZ.out]; omega))
  have HK := Lib.hid (keep_put3 (b := w.heap.size) (Keep.next HKA.out kk1) (Nat.le_refl _) (.int .i64 (n : Nat)) (.int .i64 gh) (.slice rd vs.length rc))
  have HOK := Lib.hid ok
  clear o1 kk1 ok HP
  obtain ⟨r0, r1, r2, q0, q1, q2⟩ := R1.out
  go_wp2
  refine bodyPost_ret (v := calV (n : Nat) gh rd vs.length rc) (by simp [results, Try.results12, go_sem, HF.out.c0, HF.out.c1, HF.out.c2]) rfl ?_
  exact ⟨n, gh, vs, rd, rc, rfl, HO.out, HOK.out, HK.out⟩
theorem b10Has_any (ad : Option Addr) (cap : Nat) (zs : List Int) (n : Int) (w : World) (hz : Ints w ad zs) :
    Calls Try.prog 15 #[.slice ad zs.length cap, .int .i64 n] w fun e w' => e = .returned (.bool (hasB zs n)) ∧ w = w' := by
  have hlen := hz.small
  go_enter Try.func15, Try.ntmps15
  go_wp2
  go_loop [5] (fun i => ∃ k : Nat, k ≤ zs.length ∧ i = .int .i64 k ∧ Hid (∀ j, j < k → zs.getD j 0 ≠ n))
    (fun i => zs.length - (intOf i).toNat)
  case atStart => exact ⟨0, Nat.zero_le _, rfl, Lib.hid (fun j h => by omega)⟩
  case round =>
    obtain ⟨k, hk, rfl, HA⟩ := hrel
    by_cases hlt : k < zs.length
    · rcases hz.at_ with h | ⟨b, off, rfl, hb, hc⟩
      · subst h; simp at hlt
      have hcx := hc k hlt
      have HY := Lib.hid (fun h => hasB_yes (n := n) hlt h)
      have HN : Hid (zs.getD k 0 ≠ n → ∀ j, j < k + 1 → zs.getD j 0 ≠ n) := Lib.hid (fun h j hj => by
        by_cases e : j = k
        · subst e; exact h
        · exact HA.out j (by omega))
      clear hc
      generalize zs.getD k 0 = x at hcx HY HN
      by_cases hx : x = n
      · have hxb : (x == n) = true := by simp [hx]
        have HX := Lib.hid (HY.out hx); clear hx
        go_wp2
        go_ret
        exact ⟨ret_bool HX.out.symm, rfl⟩
      · have hxb : (x == n) = false := by simp [hx]
        have HX := Lib.hid (HN.out hx); clear hx
        go_wp2
        go_round
        case rel => exact ⟨k + 1, by omega, by go_num, HX⟩
        case measure => simp [intOf]; omega
    · have HE := Lib.hid (hasB_no (n := n) (zs := zs) (fun j hj => HA.out j (by omega)))
      go_wp2
      go_ret
      exact ⟨ret_bool HE.out.symm, rfl⟩
theorem mean_gcd {B n : Int} (hn : 1 ≤ n) : Int.gcd (B.tdiv (Int.gcd B n)) (n.tdiv (Int.gcd B n)) = 1 := by
  have hg : 0 < Int.gcd B n := Nat.gcd_pos_of_pos_right _ (by omega)
  have e1 := Int.mul_tdiv_cancel' (Int.gcd_dvd_left (a := B) (b := n))
  have e2 := Int.mul_tdiv_cancel' (Int.gcd_dvd_right (a := B) (b := n))
  obtain ⟨G, hG⟩ : ∃ G, G = Int.gcd B n := ⟨_, rfl⟩
  rw [← hG] at e1 e2 hg ⊢
  have h : Int.gcd ((G : Int) * B.tdiv G) ((G : Int) * n.tdiv G) = G := by rw [e1, e2]; exact hG.symm
  rw [Int.gcd_mul_left, Int.natAbs_natCast] at h
  exact Nat.eq_of_mul_eq_mul_left hg (by rw [h, Nat.mul_one])

set_option maxHeartbeats 6400000 in
set_option maxRecDepth 100000 in
theorem walk (w : World) (a0 : Option Addr) (cap0 : Nat) (z0 : List Int) (w0 : Bytes w a0 z0) (a1 : Option Addr) (cap1 : Nat) (z1 : List Int) (w1 : Bytes w a1 z1) :
    Calls Try.prog 4 #[.slice a0 z0.length cap0, .slice a1 z1.length cap1] w fun e w' => e = .returned (.bool true) ∧ Below w.heap.size w w' := by
  have s0 := w0.small
  have s1 := w1.small
  cases hl : (decide (1048576 < z0.length) || decide (1048576 < z1.length))
  case true =>
    go_enter Try.func4, Try.ntmps4
    go_wp2_with (go_at_call 6; refine (b10Long_any _ _ _ _ _ _ _ s0 s1).mono ?_; rw [hl]; rintro e w' ⟨rfl, rfl⟩)
    go_ret
    exact ⟨rfl, Below.refl _ _⟩
  have p3 := pickB_bd z1 0 200
  have HA3 := Lib.hid (fun W (h : Keep w W) => b10At_any a1 cap1 z1 0 200 W (w1.keep h (Nat.le_refl _)) (by omega) (by omega) (by omega) (by omega))
  generalize pickB z1 0 200 = x3 at *
  have p3 := p3.2 (by omega)
  obtain ⟨y, rfl⟩ : ∃ n : Nat, x3 = n := ⟨x3.toNat, by omega⟩
  have hy : y ≤ 199 := by omega
  clear p3
  have HB := Lib.hid (B10Calendar_any a0 cap0 z0 w w0)
  go_enter Try.func4, Try.ntmps4
  go_wp2_with (go_at_call 6; refine (b10Long_any _ _ _ _ _ _ _ s0 s1).mono ?_; rw [hl]; rintro e w' ⟨rfl, rfl⟩)
  refine HB.out.mono ?_
  rintro e w2 ⟨n, gh, zs, rd, rc, rfl, o2, ok, k2⟩
  have HO2 := Lib.hid o2.ints
  have HK2 := Lib.hid k2
  clear o2 k2 HB
  -- what is told of the calendar
  have hg := okC_g ok; have hh := okC_h ok
  have HOK := Lib.hid ok
  have hby := bef_bd ok (y := (y : Int)) (by omega)
  have hbn := bef_bd ok (y := (n : Int)) (by omega)
  have HST := Lib.hid (fun (j : Nat) => bef_step ok (y := (j : Int)) (by omega))
  have HBD := Lib.hid (fun (j : Nat) => bef_bd ok (y := (j : Int)) (by omega))
  have HZ0 := Lib.hid (bef_zero ok)
  have HDY := Lib.hid (fun (W : World) ad cap h => DaysBefore_any n gh ad cap zs (y : Int) W h ⟨by omega, by omega⟩)
  have dy : dbB n gh zs (y : Int) = true := by unfold dbB; rw [ok, inB_iff.2 (by omega)]; rfl
  rw [show dbV n gh zs (y : Int) = bef n gh zs (y : Int) from by simp [dbV, dy], dy] at HDY
  have HDN := Lib.hid (fun (W : World) ad cap h => DaysBefore_any n gh ad cap zs (n : Int) W h ⟨by omega, by omega⟩)
  have dn : dbB n gh zs (n : Int) = true := by unfold dbB; rw [ok, inB_iff.2 (by omega)]; rfl
  rw [show dbV n gh zs (n : Int) = bef n gh zs (n : Int) from by simp [dbV, dn], dn] at HDN
  have HLP := Lib.hid (fun (j : Nat) (hj : j ≤ 199) (W : World) ad cap h => IsLeap_any n gh ad cap zs (j : Int) W h ⟨by omega, by omega⟩)
  have HLV : Hid (∀ j : Nat, j ≤ 199 → lpB n gh zs (j : Int) = hasB zs ((j : Int) % (n : Int))) := Lib.hid (fun j hj => by unfold lpB; rw [ok, inB_iff.2 (by omega)]; rfl)
  have HM := Lib.hid (fun (W : World) ad cap h => MeanYear_any n gh ad cap zs W h)
  rw [show myN n gh zs = (bef n gh zs n).tdiv (Int.gcd (bef n gh zs n) n) from by simp [myN, ok], show myD n gh zs = (n : Int).tdiv (Int.gcd (bef n gh zs n) n) from by simp [myD, ok], ok] at HM
  have HV := Lib.hid (fun (W : World) ad cap h => ValidCalendar_any n gh ad cap zs W h)
  rw [ok] at HV
  have HGC := Lib.hid (mean_gcd (B := bef n gh zs n) (n := (n : Int)) (by omega))
  obtain ⟨G, g1, e1, e2, u1, u2, u3, u4⟩ := mean_low (B := bef n gh zs n) (n := (n : Int)) hbn.1 (by omega)
  have hq : (bef n gh zs n).tdiv (Int.gcd (bef n gh zs n) n) * (n : Int) = bef n gh zs n * (n : Int).tdiv (Int.gcd (bef n gh zs n) n) := by
    generalize (bef n gh zs n).tdiv (Int.gcd (bef n gh zs n) n) = num at *
    generalize (n : Int).tdiv (Int.gcd (bef n gh zs n) n) = den at *
    rw [e1]
    calc num * (n : Int) = num * (G * den) := by rw [← e2]
      _ = G * num * den := by rw [← Int.mul_assoc, Int.mul_comm num G]
  generalize (bef n gh zs n).tdiv (Int.gcd (bef n gh zs n) n) = num at *
  generalize (n : Int).tdiv (Int.gcd (bef n gh zs n) n) = den at *
  clear e1 e2 dy dn
  generalize bef n gh zs (n : Int) = BN at *
  have m1 : 0 ≤ num * (n : Int) := Int.mul_nonneg u1 (by omega)
  have m2 : num * (n : Int) ≤ 400400 * 400 := Int.mul_le_mul (by omega) (by omega) (by omega) (by omega)
  have W1 : IntKind.i64.wrap (num * (n : Int)) = num * (n : Int) := IntWalk.i64_in _ (by omega)
  have W2 : IntKind.i64.wrap (BN * den) = BN * den := IntWalk.i64_in _ (by omega)
  have hqb : (num * (n : Int) != BN * den) = false := by rw [hq]; simp
  have HGD := Lib.hid (fun W => b10Gcd_any num den W (by omega) (by omega) (by omega) (by omega))
  rw [HGC.out] at HGD
  -- the day
  have p4 := pickB_bd z1 1 gh
  have HA4 := Lib.hid (fun W (h : Keep w W) => b10At_any a1 cap1 z1 1 gh W (w1.keep h (Nat.le_refl _)) (by omega) (by omega) (by omega) (by omega))
  generalize pickB z1 1 gh = x4 at *
  have p4b := p4.2 (by omega)
  have HIY : Hid (IsY n gh zs (bef n gh zs (y : Int) + x4) y) := Lib.hid (by
    refine ⟨by omega, by omega, ?_⟩
    have := HST.out y
    rw [this]; split <;> omega)
  have HYV := Lib.hid (yrV_eq ok HIY.out)
  have hb9 := bef_le ok (a := (y : Int) + 1) (b := 100000) (by omega) (by omega)
  have hyo : yoB n gh zs (bef n gh zs (y : Int) + x4) = true := by
    unfold yoB
    rw [ok, inB_iff.2 ⟨by omega, by have := HIY.out.2.2; omega⟩]; rfl
  have HY := Lib.hid (fun (W : World) ad cap h => YearOf_any n gh ad cap zs (bef n gh zs (y : Int) + x4) W h ⟨by omega, by omega⟩)
  rw [show yoV n gh zs (bef n gh zs (y : Int) + x4) = (y : Int) from by simp [yoV, hyo, HYV.out], show yoD n gh zs (bef n gh zs (y : Int) + x4) = bef n gh zs (y : Int) + x4 - bef n gh zs (y : Int) from by simp [yoD, hyo, HYV.out], hyo] at HY
  clear hyo hb9 HIY HYV ok HOK HGC hq
  have HEY : Hid (∀ j : Nat, j = y → bef n gh zs (j : Int) = bef n gh zs (y : Int)) := Lib.hid (fun j h => by rw [h])
  have HL0 := Lib.hid (HLP.out y (by omega))
  rw [HLV.out y (by omega)] at HL0
  have HT : Hid ((y : Int).tmod (n : Int) = (y : Int) % (n : Int)) := Lib.hid (Int.tmod_eq_emod_of_nonneg (by omega))
  have HHS := Lib.hid (fun (W : World) ad cap h => b10Has_any ad cap zs ((y : Int) % (n : Int)) W h)
  have HHT : Hid (∀ (W : World) ad cap, Ints W ad zs → Calls Try.prog 15 #[.slice ad zs.length cap, .int .i64 ((y : Int).tmod (n : Int))] W fun e w' => e = .returned (.bool (hasB zs ((y : Int) % (n : Int)))) ∧ W = w') := Lib.hid (by rw [HT.out]; exact HHS.out)
  obtain ⟨LQ, hLQ⟩ : ∃ q, q = hasB zs ((y : Int) % (n : Int)) := ⟨_, rfl⟩
  rw [← hLQ] at HL0 HHS HHT
  clear hLQ
  obtain ⟨BY, hBY⟩ : ∃ q, q = bef n gh zs (y : Int) := ⟨_, rfl⟩
  rw [← hBY] at HDY HY HEY hby
  clear hBY
  have hn0 : (n : Int) ≠ 0 := by omega
  have hn0n : ¬ n = 0 := by omega
  have hLL : (LQ != LQ) = false := by simp
  have hbb : (BY != BY) = false := by simp
  have W3 : IntKind.i64.wrap (BY + x4) = BY + x4 := IntWalk.i64_in _ (by omega)
  have W4 : IntKind.i64.wrap (BY + x4 - BY) = BY + x4 - BY := IntWalk.i64_in _ (by omega)
  go_wp2_with fail
  have B0 : BoxC (w2.alloc (.cells #[.int .i64 (n : Nat), .int .i64 gh, .slice rd zs.length rc] 27)) w2.heap.size n gh rd zs.length rc := ⟨by simp, by simp, by simp, by simp⟩
  have HKA := Lib.hid (show Keep w2 (w2.alloc (.cells #[.int .i64 (n : Nat), .int .i64 gh, .slice rd zs.length rc] 27)) by go_grown)
  generalize w2.alloc (.cells #[.int .i64 (n : Nat), .int .i64 gh, .slice rd zs.length rc] 27) = wa at *
  have HS : Hid (∀ W, Keep wa W → (W.cell? ⟨w2.heap.size, 0, none⟩ = some (.int .i64 (n : Nat)) ∧ W.cell? ⟨w2.heap.size, 1, none⟩ = some (.int .i64 gh) ∧ W.cell? ⟨w2.heap.size, 2, none⟩ = some (.slice rd zs.length rc)) ∧ Keep wa W) := Lib.hid (fun W k => ⟨⟨(B0.keep k).c0, (B0.keep k).c1, (B0.keep k).c2⟩, k⟩)
  have HZ := Lib.hid (fun W (k : Keep wa W) => (HO2.out.keep HKA.out (Nat.le_refl _)).keep k (Nat.le_refl _))
  have HWK := Lib.hid (fun W (k : Keep wa W) => (show Keep w W from Keep.next HK2.out (Keep.next HKA.out k)))
  clear B0
  refine (HA3.out _ (HWK.out _ (Below.refl _ _))).mono ?_
  rintro e w' ⟨rfl, rfl⟩
  obtain ⟨⟨b0, b1, b2⟩, _⟩ := HS.out wa (Below.refl _ _)
  go_wp2_with fail
  refine (HDY.out _ rd rc (HZ.out _ (Below.refl _ _))).mono ?_
  rintro e w3 ⟨rfl, k3⟩
  have HK3 := Lib.hid k3
  clear k3 b0 b1 b2
  go_wp2_with fail
  go_loopw [9, 10] (fun s i wr => ∃ j : Nat, j ≤ y ∧ i = .int .i64 j ∧ s = .int .i64 (bef n gh zs (j : Int)) ∧ Hid (Keep wa wr)) (fun _ i _ => y - (intOf i).toNat)
  case atStart => exact ⟨0, Nat.zero_le _, rfl, by rw [show ((0 : Nat) : Int) = 0 from rfl, HZ0.out], HK3⟩
  case round =>
    obtain ⟨j, hj, rfl, rfl, HK⟩ := hrel
    obtain ⟨⟨b0, b1, b2⟩, _⟩ := HS.out wr HK.out
    have hbj := HBD.out j
    by_cases hlt : j < y
    · have hle : (j : Int) < (y : Int) := by omega
      have HLJ := Lib.hid (HLP.out j (by omega) wr rd rc (HZ.out _ HK.out))
      rw [HLV.out j (by omega)] at HLJ
      have HSJ := Lib.hid (HST.out j)
      generalize bef n gh zs (j : Int) = X at *
      cases hq2 : hasB zs ((j : Int) % (n : Int))
      · rw [hq2] at HLJ HSJ
        go_wp2_with (go_at_call 11; refine HLJ.out.mono ?_; rintro e w4 ⟨rfl, k4⟩)
        go_roundw
        case rel => exact ⟨j + 1, by omega, by go_num, by rw [show ((j + 1 : Nat) : Int) = (j : Int) + 1 by omega, HSJ.out]; simp, Lib.hid (Keep.next HK.out k4)⟩
        case measure => simp [intOf]; omega
      · rw [hq2] at HLJ HSJ
        go_wp2_with (go_at_call 11; refine HLJ.out.mono ?_; rintro e w4 ⟨rfl, k4⟩)
        go_roundw
        case rel => exact ⟨j + 1, by omega, by go_num, by rw [show ((j + 1 : Nat) : Int) = (j : Int) + 1 by omega, HSJ.out]; simp, Lib.hid (Keep.next HK.out k4)⟩
        case measure => simp [intOf]; omega
    · have hle : ¬ (j : Int) < (y : Int) := by omega
      rw [HEY.out j (by omega)] at hbj ⊢
      rename World => wq
      go_wp2_with fail
      refine (HM.out _ rd rc (HZ.out _ HK.out)).mono ?_
      rintro e w4 ⟨rfl, k4⟩
      have HK4 := Lib.hid (Keep.next HK.out k4)
      clear k4 b0 b1 b2
      obtain ⟨⟨b0, b1, b2⟩, _⟩ := HS.out w4 HK4.out
      go_wp2_with fail
      refine (HDN.out _ rd rc (HZ.out _ HK4.out)).mono ?_
      rintro e w5 ⟨rfl, k5⟩
      have HK5 := Lib.hid (Keep.next HK4.out k5)
      clear k5 b0 b1 b2
      obtain ⟨⟨b0, b1, b2⟩, _⟩ := HS.out w5 HK5.out
      go_wp2_with fail
      go_region_held3 (fun W => (W.cell? ⟨w2.heap.size, 0, none⟩ = some (.int .i64 (n : Nat)) ∧ W.cell? ⟨w2.heap.size, 1, none⟩ = some (.int .i64 gh) ∧ W.cell? ⟨w2.heap.size, 2, none⟩ = some (.slice rd zs.length rc)) ∧ Keep wa W)
        (first | exact HS.out _ (Keep.next (Keep.next HK5.out (by go_grown)) k6) | exact HS.out _ (Keep.next HK5.out (by go_grown)))
        (first | (go_at_call 14; refine (HGD.out _).mono ?_; rintro e w' ⟨rfl, rfl⟩) | (go_at_call 11; refine (HL0.out _ rd rc (HZ.out _ (Keep.next HK5.out (by go_grown)))).mono ?_; rintro e w6 ⟨rfl, k6⟩) | (go_at_call 15; first | (refine (HHT.out _ rd rc (HZ.out _ (by first | exact Keep.next (Keep.next HK5.out (by go_grown)) k6 | exact Keep.next HK5.out (by go_grown)))).mono ?_; rintro e w' ⟨rfl, rfl⟩) | (refine (HHS.out _ rd rc (HZ.out _ (by first | exact Keep.next (Keep.next HK5.out (by go_grown)) k6 | exact Keep.next HK5.out (by go_grown)))).mono ?_; rintro e w' ⟨rfl, rfl⟩)))
      all_goals
        have HK6 := Lib.hid (show Keep wa w6 from Keep.next (Keep.next HK5.out (by go_grown)) k6)
        clear k6
        try clear b0 b1 b2
        obtain ⟨⟨b0, b1, b2⟩, _⟩ := HS.out w6 HK6.out
        go_wp2_with fail
        refine (HA4.out _ (HWK.out _ HK6.out)).mono ?_
        rintro e w' ⟨rfl, rfl⟩
        go_wp2_with fail
        refine (HY.out _ rd rc (HZ.out _ HK6.out)).mono ?_
        rintro e w7 ⟨rfl, k7⟩
        have HK7 := Lib.hid (Keep.next HK6.out k7)
        clear k7 b0 b1 b2
        obtain ⟨⟨b0, b1, b2⟩, _⟩ := HS.out w7 HK7.out
        go_wp2_with (go_at_call 9; refine (HV.out _ rd rc (HZ.out _ HK7.out)).mono ?_; rintro e w8 ⟨rfl, k8⟩; have HK8 := Lib.hid (Keep.next HK7.out k8); clear k8)
        go_ret
        exact ⟨rfl, HWK.out _ HK8.out⟩

theorem own : ownKnob Try.prog.godebug = none := by kernel_rfl
theorem laidOut : laidOutB Try.prog = true := by kernel_rfl
set_option maxRecDepth 100000 in
theorem lifted (os : Os) (started : os.Started) (H : Type) (enc : TypeId × Value → H) :
    ReturnsInHanded {} Try.checked os 4 .any (Rows.fnCalendarsSpec.pre6 enc Try.prog Try.f4 Rows.fnCalendarsRow.domain false) (Rows.fnCalendarsSpec.post enc Try.prog Try.f4 false true false false) := by
  refine returnsInHanded_of_change (C := Try.checked) own started (by kernel_rfl) Try.func4
    (ChangeSpec.witness6 (enc := enc) (C := Try.checked) false ⟨#[], #[.slice none 0 0, .slice none 0 0], []⟩ 8 (by kernel_rfl) (by kernel_rfl) (by kernel_rfl) (by kernel_rfl)) ?_
  intro W base args ds gs before hval0 hW hcnd _
  have hval : ∀ (j : Nat) t v, Try.f4.params[j]? = some t → args[j]? = some v → Value.okWide Try.prog W .any base t v := hval0
  have hW' := hW
  obtain ⟨p, q, hA0, hV, rfl, hfz, hnd⟩ := hW
  have hA : DataW.TrodAll enc Try.prog W 0 (fun _ => true) true Try.f4.params.toList args.toList ds p := hA0
  rw [Try.params4] at hA hval
  obtain ⟨v0, vs0, d0, ds0, p0, q0, hargs, rfl, rfl, h0, r0⟩ := trodAll_cons hA
  obtain ⟨v1, vs1, d1, ds1, p1, q1, rfl, rfl, rfl, h1, r1⟩ := trodAll_cons r0
  obtain ⟨rfl, rfl, rfl⟩ := trodAll_nil r1
  obtain rfl : args = #[v0, v1] := by cases args; simp_all
  obtain ⟨rfl, rfl⟩ := trodVars_none hV
  have k0 := h0
  have lt0 : ∀ x ∈ p0, x.block < W.heap.size := by obtain ⟨m, hm⟩ := k0; exact DataW.trod_lt m _ _ _ hm
  obtain ⟨a0, len0, cap0, rfl⟩ := okWide_slice Try.underlying22 (hval 0 22 v0 rfl rfl)
  obtain ⟨z0, e0, w0⟩ := bytes_open Try.underlying22 Try.underlying5 (by kernel_rfl) h0
  subst e0
  have k1 := h1
  have lt1 : ∀ x ∈ p1, x.block < W.heap.size := by obtain ⟨m, hm⟩ := k1; exact DataW.trod_lt m _ _ _ hm
  obtain ⟨a1, len1, cap1, rfl⟩ := okWide_slice Try.underlying22 (hval 1 22 v1 rfl rfl)
  obtain ⟨z1, e1, w1⟩ := bytes_open Try.underlying22 Try.underlying5 (by kernel_rfl) h1
  subst e1
  clear hA0 hval0
  refine (walk W a0 cap0 z0 w0 a1 cap1 z1 w1).mono fun e W' ⟨he, bel⟩ => ?_
  subst he
  exact ⟨_, rfl, _, _, _, [], _, [], hW', trodAll_mk1 (shut_bool Try.underlying4 _), (trodAll_cons_mk (Below.trod laidOut (by kernel_rfl) (of_decide_eq_true (by kernel_rfl)) k0 bel lt0) (trodAll_cons_mk (Below.trod laidOut (by kernel_rfl) (of_decide_eq_true (by kernel_rfl)) k1 bel lt1) trodAll_mk0)), rfl, bel.frame _, fun h => by cases h⟩
theorem over : Rows.fnCalendarsRow.holds Try.pinned (OpenSpec.ofChange Rows.fnCalendarsSpec) :=
  OpenClaim.holds_of_wide 4 Try.f4 rfl rfl rfl rfl rfl rfl rfl ⟨rfl, rfl, rfl, rfl, rfl⟩ rfl rfl rfl rfl rfl (by kernel_rfl) Try.func4 (by kernel_rfl)
    (of_decide_eq_true (by kernel_rfl)) (by unfold Func.isWrapper; first | (rw [if_pos (by decide +kernel)]; kernel_rfl) | (rw [if_neg (by decide +kernel)]; exact ⟨rfl, rfl⟩))
    (fun os started H enc _ => lifted os started H enc)
/-- THE STATEMENT. -/
theorem proved : Rows.FnCalendarsSaid := over
end Go.Proofs.Ytomfhkpmdalknab.fnCalendars
