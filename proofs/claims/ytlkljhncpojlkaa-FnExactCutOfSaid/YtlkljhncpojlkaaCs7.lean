/- Where a Christoffel word is cut: the model's walk. -/
import Derived.Test.YtlkljhncpojlkaaCu7
import Derived.Test.YtlkljhncpojlkaaStep
import Derived.Deep.DeepCutAuto
import Derived.Deep.RegionLaw
import Derived.Test.YtlkljhncpojlkaaHold
namespace Go.Proofs.Ytlkljhncpojlkaa
open Go.ChangeShapes Go.WideShapes Go.ChangeAt Go.RowKit Go.Deep
set_option linter.unusedVariables false
def cuB (a b : Int) : Bool := chB a b && (decide (1 ≤ a) && decide (1 ≤ b))
theorem cuB_iff {a b : Int} : cuB a b = true ↔ (1 ≤ a ∧ a ≤ 60) ∧ (1 ≤ b ∧ b ≤ 60) ∧ Int.gcd a b = 1 := by
  unfold cuB; simp only [Bool.and_eq_true, chB_iff, decide_eq_true_eq]
  constructor
  · rintro ⟨⟨h1, h2, h3⟩, h4, h5⟩; exact ⟨by omega, by omega, h3⟩
  · rintro ⟨h1, h2, h3⟩; exact ⟨⟨by omega, by omega, h3⟩, by omega, by omega⟩
theorem cu_gcd {a b : Int} (h : Int.gcd a b = 1) : Int.gcd b (a + b) = 1 := by
  have h1 : (Int.gcd b (a + b) : Int) ∣ 1 := by
    have d1 : (Int.gcd b (a + b) : Int) ∣ b := Int.gcd_dvd_left ..
    have d2 : (Int.gcd b (a + b) : Int) ∣ (a + b) := Int.gcd_dvd_right ..
    have d3 : (Int.gcd b (a + b) : Int) ∣ a := by
      have := Int.dvd_sub d2 d1
      rwa [show a + b - b = a by omega] at this
    have d4 := Int.dvd_coe_gcd d3 d1
    rw [h] at d4; exact d4
  have := Int.le_of_dvd (by omega) h1
  by_cases c : Int.gcd b (a + b) = 0
  · have := Int.gcd_eq_zero_iff.1 c
    have ha : a = 0 := by omega
    have hb : b = 0 := by omega
    rw [ha, hb] at h; simp at h
  · omega
noncomputable def cuQ (b n : Int) : Int := by classical exact if h : ∃ x : Int × Int, b * x.2 - x.1 * n = 1 ∧ 1 ≤ x.2 ∧ x.2 < n then h.choose.2 else 0
theorem cuQ_eq {b n q p : Int} (hd : b * q - p * n = 1) (h1 : 1 ≤ q) (h2 : q < n) : cuQ b n = q := by
  unfold cuQ
  have hx : ∃ x : Int × Int, b * x.2 - x.1 * n = 1 ∧ 1 ≤ x.2 ∧ x.2 < n := ⟨(p, q), hd, h1, h2⟩
  rw [dif_pos hx]
  have hs := hx.choose_spec
  generalize hx.choose = x at *
  exact (cut_uni hs.2.1 hs.2.2 hs.1 h1 h2 hd).1
noncomputable def cuV (a b : Int) : Int := if cuB a b then cuQ b (a + b) else 0
theorem bytes_beq7 (a b : ByteArray) : (a.toList == b.toList) = decide (a = b) := by
  rw [Bool.eq_iff_iff, beq_iff_eq, decide_eq_true_eq, Lib.toList_data, Lib.toList_data]
  exact ⟨fun h => ByteArray.ext (Array.ext' h), fun h => by rw [h]⟩
/-- The bounds of the heights at a place. -/
theorem cut_bd {b n : Int} (h1 : 1 ≤ b) (h2 : b < n) {i : Nat} (hi : (i : Int) < n) (hi1 : 1 ≤ i) : 0 ≤ fl ((i : Int) * b) n ∧ fl ((i : Int) * b) n ≤ i ∧ fl ((i : Int) * b) n ≤ b ∧ b - fl ((i : Int) * b) n ≤ n - i := by
  have hm := fl_mul (a := (i : Int) * b) (b := n) (by omega)
  generalize fl ((i : Int) * b) n = e at *
  have e1 : (i : Int) * b ≤ (i : Int) * n := Int.mul_le_mul_of_nonneg_left (by omega) (by omega)
  have e2 : (i : Int) * b ≤ n * b := Int.mul_le_mul_of_nonneg_right (by omega) (by omega)
  have e0 : 0 ≤ (i : Int) * b := Int.mul_nonneg (by omega) (by omega)
  have x1 : 0 ≤ e := by
    by_cases c : e ≤ -1
    · have : n * e ≤ n * (-1) := Int.mul_le_mul_of_nonneg_left c (by omega)
      omega
    · omega
  have x2 : e ≤ i := by
    have : n * e ≤ n * i := by rw [Int.mul_comm n (i : Int)]; omega
    exact Int.le_of_mul_le_mul_left this (by omega)
  have x3 : e ≤ b := Int.le_of_mul_le_mul_left (show n * e ≤ n * b by omega) (by omega)
  refine ⟨x1, x2, x3, ?_⟩
  by_cases c : b - e ≤ n - i
  · exact c
  · exfalso
    -- i - e ≥ n - b + 1
    have c2 : n - b + 1 ≤ (i : Int) - e := by omega
    have c3 : n * (n - b + 1) ≤ n * ((i : Int) - e) := Int.mul_le_mul_of_nonneg_left c2 (by omega)
    have c4 : (i : Int) * (n - b) ≤ (n - 1) * (n - b) := Int.mul_le_mul_of_nonneg_right (by omega) (by omega)
    simp only [Int.mul_sub, Int.mul_add, Int.sub_mul, Int.mul_one, Int.one_mul] at c3 c4
    have := Int.mul_comm n b; have := Int.mul_comm n (i : Int)
    omega
local macro "tk" i:num d:num : tactic => `(tactic| (refine takeH (v := ?_) $i $d rfl rfl (by kernel_rfl) (by kernel_rfl) (by kernel_rfl) (fun _ _ _ h => h) (by first | kernel_rfl | rfl) trivial ?_ ?_; rotate_left 1; focus (intro W_ hSw; go_simp; try with_reducible rfl); try simp only [Act.put, List.setIfInBounds_toArray, List.set_cons_zero, List.set_cons_succ]))
local macro "sk" i:num d:num : tactic => `(tactic| (refine skipH $i $d rfl rfl (by kernel_rfl) (by kernel_rfl) (by kernel_rfl) (fun _ _ _ h => h) (by first | kernel_rfl | rfl) trivial ?_; try simp only [Act.put, List.setIfInBounds_toArray, List.set_cons_zero, List.set_cons_succ]))
local macro "tv" i:num d:num b:ident f:ident : tactic => `(tactic| (refine takeH (v := .bool $b) $i $d rfl rfl (by kernel_rfl) (by kernel_rfl) (by kernel_rfl) (fun _ _ _ h => h) (by first | kernel_rfl | rfl) trivial ?_ ?_; focus (intro W_ hSw; go_simp; first | (rw [$f:ident]; done) | (simp [$f:ident]; done) | skip); try simp only [Act.put, List.setIfInBounds_toArray, List.set_cons_zero, List.set_cons_succ]))
local macro "rg0" : tactic => `(tactic| (refine wp_region_held_drew (S := fun _ => True) (by kernel_rfl) trivial (fun hHeld => ?_)))
set_option maxHeartbeats 4000000 in
set_option maxRecDepth 100000 in
theorem specCutOf_any (a b : Int) (w : World) (ua : In64 a) (ub : In64 b) :
    Calls Try.prog 18 #[.int .i64 a, .int .i64 b] w fun e w' => e = .returned (.tuple #[.int .i64 (cuV a b), .bool (cuB a b)]) ∧ Keep w w' := by
  cases hcu : cuB a b
  · rw [show cuV a b = 0 from by unfold cuV; rw [hcu]; rfl]
    cases hch : chB a b
    · go_enter Try.func18, Try.ntmps18
      go_wp2_with (go_at_call 29; refine (l07Pair_any _ _ _).mono ?_; rw [hch]; rintro e w' ⟨rfl, rfl⟩)
      go_ret2
      exact ⟨rfl, Below.refl _ _⟩
    · have hbd := chB_iff.1 hch
      by_cases h1 : a < 1
      · go_enter Try.func18, Try.ntmps18
        go_wp2_with (go_at_call 29; refine (l07Pair_any _ _ _).mono ?_; rw [hch]; rintro e w' ⟨rfl, rfl⟩)
        go_ret2
        exact ⟨rfl, Below.refl _ _⟩
      · have h2 : b < 1 := by
          by_cases h2 : b < 1
          · exact h2
          · exfalso
            rw [cuB_iff.2 ⟨by omega, by omega, hbd.2.2⟩] at hcu; cases hcu
        go_enter Try.func18, Try.ntmps18
        go_wp2_with (go_at_call 29; refine (l07Pair_any _ _ _).mono ?_; rw [hch]; rintro e w' ⟨rfl, rfl⟩)
        go_ret2
        exact ⟨rfl, Below.refl _ _⟩
  have hbd := cuB_iff.1 hcu
  have hch : chB a b = true := chB_iff.2 ⟨by omega, by omega, hbd.2.2⟩
  obtain ⟨p, q, hd, hq1, hqn, hp0⟩ := cut_ex (cu_gcd hbd.2.2) hbd.2.1.1 (show b < a + b by omega)
  rw [show cuV a b = q from by unfold cuV; rw [hcu, if_pos rfl]; exact cuQ_eq hd hq1 hqn]
  obtain ⟨m, hm⟩ : ∃ m : Nat, (m : Int) = a + b := ⟨(a + b).toNat, by omega⟩
  obtain ⟨q0, hq0⟩ : ∃ q0 : Nat, (q0 : Int) = q := ⟨q.toNat, by omega⟩
  have h120 : m ≤ 120 := by omega
  have HL := Lib.hid (fun W => l07Line_any b (a + b) 0 m W (by omega) (by omega) (by omega) (by omega) (by omega) (by omega) h120)
  have hwd : wdB (strOfNums (lnN b (a + b) 0 m)) = true := wdB_ab _ (lnN_ab7 b (a + b) 0 m) (by rw [lnN_len]; exact h120)
  have hsz : (strOfNums (lnN b (a + b) 0 m)).size = m := by rw [strOfNums_size, lnN_len]
  have HH := Lib.hid (fun W => l07Heights_any (strOfNums (lnN b (a + b) 0 m)) W hwd)
  have HGT := Lib.hid (fun (j : Nat) (h : j ≤ m) => (hgtL_get (strOfNums (lnN b (a + b) 0 m)) m j h).trans (lnh0 (show (1 : Int) ≤ a + b by omega) (show 0 ≤ b by omega) (by omega) m j h))
  have HLEN := Lib.hid (hgtL_len (strOfNums (lnN b (a + b) 0 m)) m)
  have HNO := Lib.hid (fun (i : Nat) (e : Int) (h1 : 1 ≤ i) (h2 : (i : Int) < q) (he : e = fl ((i : Int) * b) (a + b)) h3 h4 hg => cut_no (e := e) hq1 hqn hd (show 0 ≤ b by omega) (show b ≤ a + b by omega) h1 h2 he h3 h4 hm hg)
  have HYES := Lib.hid (cut_yes hq1 hqn hd hbd.2.1.1 (show b < a + b by omega) hp0 hq0 hm)
  have HBD := Lib.hid (fun (i : Nat) (h1 : 1 ≤ i) (h2 : (i : Int) < a + b) => cut_bd hbd.2.1.1 (show b < a + b by omega) h2 h1)
  rw [hm] at HL
  rw [hsz] at HH
  have hw1 : IntKind.i64.wrap (a + b) = a + b := IntWalk.i64_in _ (by omega)
  generalize hS : strOfNums (lnN b (a + b) 0 m) = S at *
  have HSZ := Lib.hid hsz
  clear hS hwd hsz
  generalize hgtL S m = L at *
  go_enter Try.func18, Try.ntmps18
  go_wp2_with (first | (go_at_call 29; refine (l07Pair_any _ _ _).mono ?_; rw [hch]; rintro e w' ⟨rfl, rfl⟩) | (go_at_call 26; refine (HL.out _).mono ?_; rintro e w1 ⟨rfl, k1⟩))
  refine (HH.out _).mono ?_
  rintro e w2 ⟨rd, rc, rfl, o2, k2⟩
  have I2 := Lib.hid o2.ints
  have K2 : Hid (Keep w w2) := Lib.hid (k1.next k2)
  clear o2 k1 k2
  rcases I2.out.at_ with h | ⟨hb, off, rfl, hlt, hc⟩
  · have := HLEN.out; rw [h] at this; simp at this
  have HC : Hid (∀ W, Keep w2 W → ∀ j, j ≤ m → W.cell? ⟨hb, off + j, none⟩ = some (.int .i64 (fl ((j : Int) * b) (a + b)))) := Lib.hid (fun W k j hj => by
    rw [(k.cell (p := ⟨hb, off + j, none⟩) (by exact hlt)).trans (hc j (by have := HLEN.out; omega)), HGT.out j hj])
  have hls : L.length = m + 1 := HLEN.out
  have HLB := Lib.hid hls
  have hl121 : L.length ≤ 121 := by omega
  clear hc hls
  go_wp2
  go_loopg [8, 9, 10] (q0 - 1) (fun kk i _ _ wr => ∃ i1 : Nat, 1 ≤ i1 ∧ i1 ≤ q0 ∧ kk = q0 - i1 ∧ i = .int .i64 i1 ∧ Hid (Keep w2 wr))
  case atStart => exact ⟨1, Nat.le_refl _, by omega, rfl, rfl, Lib.hid (Below.refl _ _)⟩
  case round =>
    obtain ⟨i1, hi1, hiq, rfl, rfl, HK⟩ := hrel
    have hin : (i1 : Int) < a + b := by omega
    have hbds := HBD.out i1 hi1 hin
    have hcx := HC.out wr HK.out i1 (by omega)
    have hil : (i1 : Int) < (L.length : Int) := by have := HLB.out; omega
    have hii : (i1 : Int) < (m : Int) := by omega
    have hsl0 : (0 : Int) ≤ (i1 : Int) := by omega
    have hsl1 : (i1 : Int) ≤ (S.size : Int) := by rw [HSZ.out]; omega
    have HLa := Lib.hid (fun W => l07Line_any (fl ((i1 : Int) * b) (a + b)) i1 0 i1 W (by omega) (by omega) (by omega) (by omega) (by omega) (by omega) (by omega))
    have HLb := Lib.hid (fun W => l07Line_any (b - fl ((i1 : Int) * b) (a + b)) (a + b - i1) 0 (m - i1) W (by omega) (by omega) (by omega) (by omega) (by omega) (by omega) (by omega))
    rw [show ((m - i1 : Nat) : Int) = a + b - i1 by omega] at HLb
    have HGa := Lib.hid (fun W => l07Gcd_any ((i1 : Int) - fl ((i1 : Int) * b) (a + b)) (fl ((i1 : Int) * b) (a + b)) W (by omega) (by omega) (by omega) (by omega))
    have HGb := Lib.hid (fun W => l07Gcd_any (a - ((i1 : Int) - fl ((i1 : Int) * b) (a + b))) (b - fl ((i1 : Int) * b) (a + b)) W (by omega) (by omega) (by omega) (by omega))
    have HNOi := Lib.hid (fun h2 h3 h4 hg => HNO.out i1 (fl ((i1 : Int) * b) (a + b)) hi1 h2 rfl h3 h4 hg)
    obtain ⟨e, he⟩ : ∃ e, e = fl ((i1 : Int) * b) (a + b) := ⟨_, rfl⟩
    have HE := Lib.hid he
    rw [← he] at hbds hcx HLa HLb HGa HGb HNOi
    obtain ⟨b1, b2, b3, b4⟩ := hbds
    clear he
    have HW1 : Hid (IntKind.i64.wrap (b - e) = b - e) := Lib.hid (IntWalk.i64_in _ (by omega))
    have HW2 : Hid (IntKind.i64.wrap (a + b - i1) = a + b - i1) := Lib.hid (IntWalk.i64_in _ (by omega))
    by_cases hq : i1 = q0
    · subst hq
      obtain ⟨y1, y2, y3, y4, y5⟩ := HYES.out
      have hep : e = p := by rw [HE.out]; exact y1
      rw [show a + b - b - ((i1 : Int) - p) = a - ((i1 : Int) - p) by omega, ← hep] at y3
      rw [← hep] at y2 y4 y5
      rw [y2] at HGa
      rw [y3] at HGb
      have f1 : ((S.extract 0 i1).toList == (strOfNums (lnN e i1 0 i1)).toList) = true := by rw [bytes_beq7]; exact decide_eq_true y4
      have f2 : ((S.extract i1 S.size).toList == (strOfNums (lnN (b - e) (a + b - i1) 0 (m - i1))).toList) = true := by rw [bytes_beq7]; exact decide_eq_true y5
      clear y1 y2 y3 y4 y5 hep
      have HQ0 := Lib.hid hq0
      clear hq0
      generalize strOfNums (lnN e i1 0 i1) = S1 at *
      generalize strOfNums (lnN (b - e) (a + b - i1) 0 (m - i1)) = S2 at *
      go_wp2_with (go_at_call 32; first | (with_reducible refine (HGa.out _).mono ?_; rintro e w' ⟨rfl, rfl⟩) | (with_reducible refine (HGb.out _).mono ?_; rintro e w' ⟨rfl, rfl⟩))
      rg0
      tk 0 61
      tk 1 62
      tk 2 63
      tk 3 64
      tk 4 65
      tk 5 66
      refine wpAnyH_ready (rs := [6]) (by kernel_rfl) (by simp) ?_
      refine AllReadyH.cons rfl (fun K hK => ?_) AllReadyH.nil
      (try go_simp)
      go_at_call 26
      with_reducible refine (HLa.out _).mono ?_
      rintro e wX ⟨rfl, kX⟩
      try (go_wp2_with fail)
      refine hK.out _ _ trivial (fun hHeld => ?_)
      clear hK K
      try simp only [Act.put, List.setIfInBounds_toArray, List.set_cons_zero, List.set_cons_succ]
      tv 7 68 true f1
      tk 8 69
      tk 9 70
      tk 10 71
      tk 11 72
      tk 12 73
      tk 13 74
      tk 14 75
      tk 15 76
      tk 16 77
      tk 17 78
      tk 18 79
      tk 19 80
      tk 20 81
      tk 21 82
      tk 22 83
      tk 23 84
      tk 24 85
      refine wpAnyH_ready (rs := [25]) (by kernel_rfl) (by simp) ?_
      refine AllReadyH.cons rfl (fun K hK => ?_) AllReadyH.nil
      (try go_simp)
      go_at_call 26
      rw [HW1.out, HW2.out]
      with_reducible refine (HLb.out _).mono ?_
      rintro e wY ⟨rfl, kY⟩
      try (go_wp2_with fail)
      refine hK.out _ _ trivial (fun hHeld => ?_)
      clear hK K
      try simp only [Act.put, List.setIfInBounds_toArray, List.set_cons_zero, List.set_cons_succ]
      tv 26 87 true f2
      tk 27 88
      refine wpAnyH_done (by kernel_rfl) ?_ _
      go_wp2
      go_ret2
      exact ⟨by rw [← HQ0.out]; rfl, K2.out.next (HK.out.next (Keep.next (Keep.next (by go_grown) kX) (Keep.next (by go_grown) kY)))⟩
    · have hlt2 : (i1 : Int) < q := by omega
      by_cases g1 : Int.gcd ((i1 : Int) - e) e = 1
      · rw [g1] at HGa
        by_cases g2 : Int.gcd (a - ((i1 : Int) - e)) (b - e) = 1
        · have hne := HNOi.out hlt2 (by omega) (by omega) (by rw [show a + b - b - ((i1 : Int) - e) = a - ((i1 : Int) - e) by omega]; exact g2)
          rw [g2] at HGb
          have f2 : ((S.extract i1 S.size).toList == (strOfNums (lnN (b - e) (a + b - i1) 0 (m - i1))).toList) = false := by rw [bytes_beq7]; exact decide_eq_false hne
          clear hne g1 g2
          generalize strOfNums (lnN e i1 0 i1) = S1 at *
          generalize strOfNums (lnN (b - e) (a + b - i1) 0 (m - i1)) = S2 at *
          cases f1 : ((S.extract 0 i1).toList == S1.toList)
          · go_wp2_with (go_at_call 32; first | (with_reducible refine (HGa.out _).mono ?_; rintro e w' ⟨rfl, rfl⟩) | (with_reducible refine (HGb.out _).mono ?_; rintro e w' ⟨rfl, rfl⟩))
            rg0
            tk 0 61
            tk 1 62
            tk 2 63
            tk 3 64
            tk 4 65
            tk 5 66
            refine wpAnyH_ready (rs := [6]) (by kernel_rfl) (by simp) ?_
            refine AllReadyH.cons rfl (fun K hK => ?_) AllReadyH.nil
            (try go_simp)
            go_at_call 26
            with_reducible refine (HLa.out _).mono ?_
            rintro e wX ⟨rfl, kX⟩
            try (go_wp2_with fail)
            refine hK.out _ _ trivial (fun hHeld => ?_)
            clear hK K
            try simp only [Act.put, List.setIfInBounds_toArray, List.set_cons_zero, List.set_cons_succ]
            tv 7 68 false f1
            tk 8 69
            sk 9 70
            sk 10 71
            sk 11 72
            sk 12 73
            sk 13 74
            sk 14 75
            sk 15 76
            sk 16 77
            sk 17 78
            sk 18 79
            sk 19 80
            sk 20 81
            sk 21 82
            sk 22 83
            sk 23 84
            sk 24 85
            sk 25 86
            sk 26 87
            tk 27 88
            refine wpAnyH_done (by kernel_rfl) ?_ _
            go_wp2
            go_roundg (q0 - (i1 + 1))
            case measure => omega
            case rel => exact ⟨i1 + 1, by omega, by omega, rfl, by go_num, Lib.hid (HK.out.next (Keep.next (by go_grown) kX))⟩
          · go_wp2_with (go_at_call 32; first | (with_reducible refine (HGa.out _).mono ?_; rintro e w' ⟨rfl, rfl⟩) | (with_reducible refine (HGb.out _).mono ?_; rintro e w' ⟨rfl, rfl⟩))
            rg0
            tk 0 61
            tk 1 62
            tk 2 63
            tk 3 64
            tk 4 65
            tk 5 66
            refine wpAnyH_ready (rs := [6]) (by kernel_rfl) (by simp) ?_
            refine AllReadyH.cons rfl (fun K hK => ?_) AllReadyH.nil
            (try go_simp)
            go_at_call 26
            with_reducible refine (HLa.out _).mono ?_
            rintro e wX ⟨rfl, kX⟩
            try (go_wp2_with fail)
            refine hK.out _ _ trivial (fun hHeld => ?_)
            clear hK K
            try simp only [Act.put, List.setIfInBounds_toArray, List.set_cons_zero, List.set_cons_succ]
            tv 7 68 true f1
            tk 8 69
            tk 9 70
            tk 10 71
            tk 11 72
            tk 12 73
            tk 13 74
            tk 14 75
            tk 15 76
            tk 16 77
            tk 17 78
            tk 18 79
            tk 19 80
            tk 20 81
            tk 21 82
            tk 22 83
            tk 23 84
            tk 24 85
            refine wpAnyH_ready (rs := [25]) (by kernel_rfl) (by simp) ?_
            refine AllReadyH.cons rfl (fun K hK => ?_) AllReadyH.nil
            (try go_simp)
            go_at_call 26
            rw [HW1.out, HW2.out]
            with_reducible refine (HLb.out _).mono ?_
            rintro e wY ⟨rfl, kY⟩
            try (go_wp2_with fail)
            refine hK.out _ _ trivial (fun hHeld => ?_)
            clear hK K
            try simp only [Act.put, List.setIfInBounds_toArray, List.set_cons_zero, List.set_cons_succ]
            tv 26 87 false f2
            tk 27 88
            refine wpAnyH_done (by kernel_rfl) ?_ _
            go_wp2
            go_roundg (q0 - (i1 + 1))
            case measure => omega
            case rel => exact ⟨i1 + 1, by omega, by omega, rfl, by go_num, Lib.hid (HK.out.next (Keep.next (Keep.next (by go_grown) kX) (Keep.next (by go_grown) kY)))⟩
        · have g2b : (((Int.gcd (a - ((i1 : Int) - e)) (b - e) : Nat) : Int) != 1) = true := by rw [bne_iff_ne]; omega
          generalize Int.gcd (a - ((i1 : Int) - e)) (b - e) = G2 at *
          clear g1 g2
          go_wp2_with (go_at_call 32; first | (with_reducible refine (HGa.out _).mono ?_; rintro e w' ⟨rfl, rfl⟩) | (with_reducible refine (HGb.out _).mono ?_; rintro e w' ⟨rfl, rfl⟩))
          go_roundg (q0 - (i1 + 1))
          case measure => omega
          case rel => exact ⟨i1 + 1, by omega, by omega, rfl, by go_num, HK⟩
      · have g1b : (((Int.gcd ((i1 : Int) - e) e : Nat) : Int) != 1) = true := by rw [bne_iff_ne]; omega
        generalize Int.gcd ((i1 : Int) - e) e = G1 at *
        clear g1
        go_wp2_with (go_at_call 32; first | (with_reducible refine (HGa.out _).mono ?_; rintro e w' ⟨rfl, rfl⟩) | (with_reducible refine (HGb.out _).mono ?_; rintro e w' ⟨rfl, rfl⟩))
        go_roundg (q0 - (i1 + 1))
        case measure => omega
        case rel => exact ⟨i1 + 1, by omega, by omega, rfl, by go_num, HK⟩
end Go.Proofs.Ytlkljhncpojlkaa
