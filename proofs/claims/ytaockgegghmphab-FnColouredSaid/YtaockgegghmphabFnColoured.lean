/- FnColoured: the discrepancy is reached and least, colours exchanged turn the signs, the average counts the sets' points: at all bytes. -/
import Derived.Test.YtaockgegghmphabDrwS10
import Derived.Test.YtaockgegghmphabCol10
import Derived.Test.YtaockgegghmphabColP10
import Derived.Test.YtaockgegghmphabDisI10
import Derived.Test.YtaockgegghmphabAvgI10
import Derived.BigQuiet
namespace Go.Proofs.Ytaockgegghmphab.fnColoured
open Go.ChangeShapes Go.WideShapes Go.ChangeAt Go.RowKit Go.Deep
set_option linter.unusedVariables false
/-- What is true of a colouring's numbers: F + 1 is the number of parts. -/
structure ColF (n F : Nat) (vs : List Int) (d : Int) (c : Nat) : Prop where
  cF : c ≤ F
  d0 : 0 ≤ d
  d1 : d ≤ 64
  has : gr (imbL vs 4095 c) = d
  least : ∀ r, r ≤ F → d ≤ gr (imbL vs 4095 r)
  turn : ∀ r i, r ≤ F → i < vs.length → (imbL vs 4095 r).getD i 0 = -(imbL vs 4095 (F ^^^ r)).getD i 0
  xle : ∀ r, r ≤ F → F ^^^ r ≤ F
theorem col_facts {n : Nat} {vs : List Int} (h : okS n vs = true) (hn : n ≤ 6) : ColF n (2 ^ n - 1) vs (disV vs (2 ^ n - 1)).1 (disV vs (2 ^ n - 1)).2 := by
  obtain ⟨q0, q1, q2, q3⟩ := okS_parts h
  have hP : 1 ≤ 2 ^ n := Nat.one_le_two_pow
  have hs : ∀ z ∈ vs, 0 ≤ z ∧ z < (2 ^ n : Nat) := fun z hz => by
    have := q3 z hz
    obtain ⟨m, e, _, e2, _, _⟩ := topS_nat q0 q1
    have : n = m := by omega
    subst this
    omega
  obtain ⟨a1, a2, a3⟩ := disV_bd vs (2 ^ n - 1)
  obtain ⟨b1, b2⟩ := dis_has vs (2 ^ n - 1)
  refine ⟨b2, a1, a2, ?_, fun r hr => ?_, fun r i hr hi => ?_, fun r hr => ?_⟩
  · rw [← imbL_all hs (by omega)]; exact b1
  · rw [← imbL_all hs (by omega)]; exact dis_least vs (by omega)
  · have hz := hs _ (getD_mem vs i hi)
    have h2 : (vs.getD i 0).toNat < 2 ^ n := by omega
    rw [← imbL_all hs (by omega), ← imbL_all hs (by omega), imbL_get _ _ _ _ hi, imbL_get _ _ _ _ hi, Nat.and_two_pow_sub_one_of_lt_two_pow h2, imb_flip h2]
    omega
  · have := flip_lt (n := n) (r := r) (by omega); omega
theorem xorF {F r : Nat} (hF : F ≤ 63) (hr : r ≤ 63) : bits .xor .i64 (F : Int) (r : Int) = ((F ^^^ r : Nat) : Int) := i64_xorX F r (by omega) (by omega)
theorem wrF {F : Nat} (h : F ≤ 63) : wrap64 ((F : Int) + 1 - 1) = (F : Int) ∧ wrap64 ((F : Int) + 1) = (F : Int) + 1 := by
  refine ⟨?_, IntWalk.wrap64_in _ (by omega)⟩
  rw [IntWalk.wrap64_in _ (by omega)]; omega
theorem wrP {n F : Nat} (h : F ≤ 63) (hF : 2 ^ n = F + 1) : wrap64 ((2 : Int) ^ n) = (F : Int) + 1 := by
  have : (2 : Int) ^ n = ((2 ^ n : Nat) : Int) := by norm_cast
  rw [this, hF]
  exact IntWalk.wrap64_in _ (by omega)
theorem mulF {F : Nat} {S : Int} (h : F ≤ 63) (hS : 0 ≤ S ∧ S ≤ 768) : wrap64 (S * ((F : Int) + 1)) = ((F : Int) + 1) * S := by
  have h1 : S * ((F : Int) + 1) ≤ 768 * 64 := Int.mul_le_mul hS.2 (by omega) (by omega) (by omega)
  have h2 : 0 ≤ S * ((F : Int) + 1) := Int.mul_nonneg hS.1 (by omega)
  rw [IntWalk.wrap64_in _ (by omega), Int.mul_comm]
theorem pcT_take (vs : List Int) (j : Nat) (h : j < vs.length) : ((pcL vs).take (j + 1)).sum = ((pcL vs).take j).sum + (pc (vs.getD j 0).toNat : Nat) := by
  rw [take_succ_getD (pcL vs) j (by rw [pcL_len]; exact h), List.sum_append, List.sum_cons, List.sum_nil, Int.add_zero]
  congr 1
  unfold pcL
  rw [getD_get _ j (by simpa using h), List.getElem_map, getD_get vs j h]
theorem pcL_tk (vs : List Int) (j : Nat) : (0 : Int) ≤ ((pcL vs).take j).sum ∧ ((pcL vs).take j).sum ≤ 64 * vs.length := by
  have h : ∀ l : List Int, (∀ z ∈ l, (0 : Int) ≤ z ∧ z ≤ 64) → (0 : Int) ≤ l.sum ∧ l.sum ≤ 64 * l.length := by
    intro l
    induction l with
    | nil => intro _; simp
    | cons a t ih =>
      intro hl
      have h1 := ih fun z hz => hl z (List.mem_cons_of_mem _ hz)
      have h2 := hl a (List.mem_cons_self ..)
      rw [List.sum_cons, List.length_cons]; omega
  have h1 := h ((pcL vs).take j) fun z hz => pcL_in vs z (List.mem_of_mem_take hz)
  have h2 : ((pcL vs).take j).length ≤ vs.length := by rw [List.length_take, pcL_len]; omega
  omega
set_option maxHeartbeats 6400000 in
set_option maxRecDepth 100000 in
theorem walk (w : World) (a0 : Option Addr) (cap0 : Nat) (z0 : List Int) (w0 : Bytes w a0 z0) (a1 : Option Addr) (cap1 : Nat) (z1 : List Int) (w1 : Bytes w a1 z1) :
    Calls Try.prog 3 #[.slice a0 z0.length cap0, .slice a1 z1.length cap1] w fun e w' => e = .returned (.bool true) ∧ Below w.heap.size w w' := by
  have s0 := w0.small
  have s1 := w1.small
  cases hl : (decide (48 < z0.length) || decide (48 < z1.length))
  case true =>
    go_enter Try.func3, Try.ntmps3
    go_wp2_with fail
    refine (r8Long_any a0 a1 cap0 cap1 _ _ _ s0 s1).mono ?_
    rw [hl]
    rintro e w' ⟨rfl, rfl⟩
    go_wp2
    go_ret
    exact ⟨rfl, Below.refl _ _⟩
  have HL := Lib.hid hl; clear hl
  go_enter Try.func3, Try.ntmps3
  go_wp2_with fail
  refine (r8Long_any a0 a1 cap0 cap1 _ _ _ s0 s1).mono ?_
  rw [HL.out]
  rintro e w' ⟨rfl, rfl⟩
  go_wp2_with fail
  refine (R8System_any a0 cap0 z0 w w0).mono ?_
  rintro e w2 ⟨g, vs, rd, rc, rfl, o2, g0, g6, hl5, hv, k2⟩
  obtain ⟨n, rfl⟩ : ∃ n : Nat, g = n := ⟨g.toNat, by omega⟩
  have hn : n ≤ 6 := by omega
  have hok : okS n vs = true := by
    unfold okS
    simp only [Bool.and_eq_true, decide_eq_true_eq, List.all_eq_true]
    exact ⟨inB_iff.2 (by omega), by omega, fun z hz => inB_iff.2 (hv z hz)⟩
  have HF := Lib.hid (col_facts hok hn)
  have HD := disR_yes hok
  have HW := (shl6 g0 (by omega : (n : Int) ≤ 6)).1
  have htop : topS n = ((2 ^ n - 1 : Nat) : Int) ∧ 1 ≤ 2 ^ n ∧ 2 ^ n ≤ 64 := by
    obtain ⟨m, e, _, e2, _, _⟩ := topS_nat (g := (n : Int)) g0 (by omega)
    have : n = m := by omega
    subst this
    have h3 : 2 ^ n ≤ 2 ^ 6 := Nat.pow_le_pow_right (by omega) hn
    exact ⟨e2, Nat.one_le_two_pow, by simpa using h3⟩
  have HS : avgS n vs = (2 ^ n : Nat) * (pcL vs).sum := by simp [avgS, hok]
  have HC : avgC n vs = (2 ^ n : Nat) := by simp [avgC, hok]
  have HIM : Hid (∀ r : Nat, r ≤ 2 ^ n - 1 → imbOk n vs r = true ∧ imbV n vs r = imbL vs 4095 r) := Lib.hid (fun r hr => by
    have h1 : imbOk n vs r = true := by
      unfold imbOk; rw [hok, htop.1, Bool.true_and]
      exact inB_iff.2 (by omega)
    exact ⟨h1, by simp [imbV, h1]⟩)
  obtain ⟨F, hF⟩ : ∃ F, F = 2 ^ n - 1 := ⟨_, rfl⟩
  rw [← hF] at HF HD htop HIM
  have hF2 : 2 ^ n = F + 1 := by omega
  rw [hF2] at HS HC
  rw [htop.1] at HW
  have hF63 : F ≤ 63 := by omega
  have e1 : wrap64 ((2 : Int) ^ n) = (F : Int) + 1 := wrP hF63 hF2
  obtain ⟨e2, e3⟩ := wrF hF63
  have HE := Lib.hid (And.intro e1 (And.intro e2 e3))
  clear htop hF hF2 HW e1 e2 e3
  have hsets : ∀ z ∈ vs, 0 ≤ z ∧ z < 4096 := okS_sets hok
  have hsum := pcL_sum (zs := vs) (by omega)
  generalize hdd : (disV vs F).1 = d at *
  generalize hcc : (disV vs F).2 = c at *
  have HD1 : Hid ((disR n vs).1 = d ∧ (disR n vs).2 = c) := Lib.hid (by rw [HD]; exact ⟨hdd, hcc⟩)
  clear hdd hcc HD
  have K2 := Lib.hid k2; have I2 := Lib.hid o2.ints
  have W1 := Lib.hid (w1.keep k2 (Nat.le_refl _))
  have HV := Lib.hid hv; have HSETS := Lib.hid hsets; have HOK := Lib.hid hok
  clear k2 o2 hv hsets hok
  have HIMB : Hid (∀ (W : World) (I : Ints W rd vs) (r : Nat), r ≤ F → Calls Try.prog 13 #[valV n rd vs.length rc, .int .i64 r] W fun e w' =>
      ∃ ld lc, e = .returned (.tuple #[.slice ld vs.length lc, .bool true]) ∧ Own w' W.heap.size ld lc (imbL vs 4095 r) ∧ Keep W w') := Lib.hid (fun W I r hr => by
    refine (ImbalancesOf_any n rd rc vs r W I ⟨by omega, by omega⟩).mono ?_
    obtain ⟨h1, h2⟩ := HIM.out r hr
    rw [h1, h2, imbL_len]
    exact fun _ _ h => h)
  have HDIS : Hid (∀ (W : World) (I : Ints W rd vs), Calls Try.prog 12 #[valV n rd vs.length rc] W fun e w' => e = .returned (.tuple #[.int .i64 d, .int .i64 (c : Nat), .bool true]) ∧ Keep W w') := Lib.hid (fun W I => by
    refine (DiscrepancyOf_any n rd rc vs W I).mono ?_
    rw [HD1.out.1, HD1.out.2, HOK.out]
    exact fun _ _ h => h)
  have HAVG : Hid (∀ (W : World) (I : Ints W rd vs), Calls Try.prog 16 #[valV n rd vs.length rc] W fun e w' => e = .returned (.tuple #[.int .i64 (((F : Int) + 1) * (pcL vs).sum), .int .i64 ((F : Int) + 1), .bool true]) ∧ Keep W w') := Lib.hid (fun W I => by
    refine (AverageImbalance_any n rd rc vs W I).mono ?_
    rw [HS, HC, HOK.out, show ((F + 1 : Nat) : Int) = (F : Int) + 1 from by omega]
    exact fun _ _ h => h)
  clear HS HC HD1 HIM HOK HV
  have B0 : Hid (Box (w2.alloc (.cells #[.int .i64 (n : Int), .slice rd vs.length rc] 26)) w2.heap.size n rd vs.length rc) := Lib.hid ⟨by simp, by simp, by simp⟩
  have KB : Hid (Keep w2 (w2.alloc (.cells #[.int .i64 (n : Int), .slice rd vs.length rc] 26))) := Lib.hid (by go_grown)
  have hF1 : c ≤ F := HF.out.cF
  have hd0 := HF.out.d0
  have hd1 := HF.out.d1
  go_wp2_with fail
  generalize w2.alloc (.cells #[.int .i64 (n : Int), .slice rd vs.length rc] 26) = w3 at *
  refine (HDIS.out w3 (I2.out.keep KB.out (Nat.le_refl _))).mono ?_
  rintro e w4 ⟨rfl, k4⟩
  have B4 := Lib.hid (B0.out.keep k4)
  have I4 := Lib.hid ((I2.out.keep KB.out (Nat.le_refl _)).keep k4 (Nat.le_refl _))
  have W4 := Lib.hid ((W1.out.keep KB.out (Nat.le_refl _)).keep k4 (Nat.le_refl _))
  have K4 := Lib.hid (Keep.next (Keep.next K2.out KB.out) k4)
  clear B0 KB I2 W1 K2 k4 HDIS
  obtain ⟨b0, b1, _⟩ := B4.out
  go_wp2_with fail
  refine (HIMB.out w4 I4.out c hF1).mono ?_
  rintro e w5 ⟨ld1, lc1, rfl, o5, k5⟩
  have B5 := Lib.hid (B4.out.keep k5)
  have I5 := Lib.hid (I4.out.keep k5 (Nat.le_refl _))
  have W5 := Lib.hid (W4.out.keep k5 (Nat.le_refl _))
  have K5 := Lib.hid (Keep.next K4.out k5)
  have L5 := Lib.hid o5.ints
  clear B4 I4 W4 K4 k5 o5 b0 b1
  obtain ⟨b0, b1, _⟩ := B5.out
  go_wp2_with fail
  obtain ⟨e1, e2, e3⟩ := HE.out
  simp only [e1, e2, e3]
  clear e1 e2 e3
  refine (r8At_any a1 cap1 z1 0 ((F : Int) + 1) w5 W5.out (by omega) (by omega) (by omega) (by omega)).mono ?_
  rintro e w' ⟨q, q0, q1, rfl, rfl⟩
  obtain ⟨r, rfl⟩ : ∃ m : Nat, q = m := ⟨q.toNat, by omega⟩
  have hr : r ≤ F := by omega
  clear q0 q1
  go_wp2_with fail
  refine (HIMB.out w5 I5.out r hr).mono ?_
  rintro e w6 ⟨ld2, lc2, rfl, o6, k6⟩
  have B6 := Lib.hid (B5.out.keep k6)
  have I6 := Lib.hid (I5.out.keep k6 (Nat.le_refl _))
  have K6 := Lib.hid (Keep.next K5.out k6)
  have L6 := Lib.hid o6.ints
  have L6a := Lib.hid (L5.out.keep k6 (Nat.le_refl _))
  clear B5 I5 W5 K5 k6 o6 b0 b1 L5
  obtain ⟨b0, b1, _⟩ := B6.out
  have hxor := xorF hF63 (Nat.le_trans hr hF63)
  have hxle := HF.out.xle r hr
  have HT := Lib.hid (fun i hi => HF.out.turn r i hr hi)
  have HLE := Lib.hid (HF.out.least r hr)
  have HHAS := Lib.hid HF.out.has
  generalize F ^^^ r = x at *
  go_wp2_with fail
  refine (HIMB.out w6 I6.out x hxle).mono ?_
  rintro e w7 ⟨ld3, lc3, rfl, o7, k7⟩
  have B7 := Lib.hid (B6.out.keep k7)
  have I7 := Lib.hid (I6.out.keep k7 (Nat.le_refl _))
  have K7 := Lib.hid (Keep.next K6.out k7)
  have M1 := Lib.hid (L6a.out.keep k7 (Nat.le_refl _))
  have M2 := Lib.hid (L6.out.keep k7 (Nat.le_refl _))
  have M3 := Lib.hid o7.ints
  clear B6 I6 K6 k7 o7 b0 b1 L6 L6a HIMB
  obtain ⟨b0, b1, _⟩ := B7.out
  have HG1 : Hid (Calls Try.prog 15 #[.slice ld1 vs.length lc1] w7 fun e w' => e = .returned (.int .i64 d) ∧ w7 = w') := Lib.hid (by
    have := r8Greatest_any ld1 lc1 (imbL vs 4095 c) w7 M1.out (imbL_bd vs 4095 c)
    rwa [HHAS.out, imbL_len] at this)
  have HG2 : Hid (Calls Try.prog 15 #[.slice ld2 vs.length lc2] w7 fun e w' => e = .returned (.int .i64 (gr (imbL vs 4095 r))) ∧ w7 = w') := Lib.hid (by
    have := r8Greatest_any ld2 lc2 (imbL vs 4095 r) w7 M2.out (imbL_bd vs 4095 r)
    rwa [imbL_len] at this)
  have HN2 := Lib.hid (imbL_len vs 4095 r)
  have HN3 := Lib.hid (imbL_len vs 4095 x)
  have HB2 := Lib.hid (imbL_bd vs 4095 r)
  have HB3 := Lib.hid (imbL_bd vs 4095 x)
  have hg2 := mostS_bd vs 4095 r
  unfold mostS at hg2
  generalize hm2 : gr (imbL vs 4095 r) = m2 at *
  clear hm2
  generalize imbL vs 4095 r = L2 at *
  generalize imbL vs 4095 x = L3 at *
  have hle := HLE.out
  have d1 : decide (m2 < d) = false := decide_eq_false (by omega)
  have d2 : ((d : Int) != d) = false := by simp
  have d3 : ((vs.length : Int) != (vs.length : Int)) = false := by simp
  clear hle HF HHAS HLE M1
  go_wp2_with (go_at_call 15; first | (with_reducible refine HG1.out.mono ?_; rintro e w' ⟨rfl, rfl⟩) | (with_reducible refine HG2.out.mono ?_; rintro e w' ⟨rfl, rfl⟩))
  have HK : Hid (∀ k, k < vs.length → ∃ y : Int, -64 ≤ y ∧ y ≤ 64 ∧ L3.getD k 0 = y ∧ L2.getD k 0 = -y) := Lib.hid (fun k hk => by
    have h1 := HT.out k hk
    have h2 := HB3.out _ (getD_mem L3 k (by rw [HN3.out]; exact hk))
    exact ⟨_, h2.1, h2.2, rfl, h1⟩)
  clear HT HB2 HB3 HG1 HG2 hxor hg2 d1 d2 d3 b0 b1
  go_loopg [17] vs.length (fun kk i wr => ∃ k : Nat, k ≤ vs.length ∧ kk = vs.length - k ∧ i = .int .i64 k ∧ Hid (Keep w7 wr))
  case atStart => exact ⟨0, Nat.zero_le _, rfl, rfl, Lib.hid (Below.refl _ _)⟩
  case round =>
    obtain ⟨k, hk, rfl, rfl, HKR⟩ := hrel
    by_cases hlt : k < vs.length
    · rcases M2.out.at_ with h | ⟨p2, q2, rfl, hb2, hc2⟩
      · have := HN2.out; rw [h, List.length_nil] at this; omega
      rcases M3.out.at_ with h | ⟨p3, q3, rfl, hb3, hc3⟩
      · have := HN3.out; rw [h, List.length_nil] at this; omega
      have hcx := (HKR.out.cell (p := ⟨p2, q2 + k, none⟩) (by exact hb2)).trans (hc2 k (by rw [HN2.out]; exact hlt))
      have hcy := (HKR.out.cell (p := ⟨p3, q3 + k, none⟩) (by exact hb3)).trans (hc3 k (by rw [HN3.out]; exact hlt))
      obtain ⟨y, y0, y1, ey, ex⟩ := HK.out k hlt
      rw [ex] at hcx
      rw [ey] at hcy
      clear hc2 hc3 ey ex
      have dd : ((-y : Int) != -y) = false := by simp
      go_wp2
      go_quiet (fail)
      have HKS := Lib.hid (below_drewN HKR.out nq)
      go_wp2
      go_roundg (vs.length - (k + 1))
      case measure => omega
      case rel => exact ⟨k + 1, by omega, rfl, by go_num, HKS⟩
    · have HKE := Lib.hid (show k = vs.length from by omega)
      have BR := Lib.hid (B7.out.keep HKR.out)
      have IR := Lib.hid (I7.out.keep HKR.out (Nat.le_refl _))
      have KR := Lib.hid (Keep.next K7.out HKR.out)
      clear B7 I7 K7 M2 M3 HK HN2 HN3 HKR
      obtain ⟨b0, b1, _⟩ := BR.out
      go_wp2_with fail
      refine (HAVG.out _ IR.out).mono ?_
      rintro e w8 ⟨rfl, k8⟩
      have B8 := Lib.hid (BR.out.keep k8)
      have I8 := Lib.hid (IR.out.keep k8 (Nat.le_refl _))
      have K8 := Lib.hid (Keep.next KR.out k8)
      clear BR IR KR k8 HAVG HKE b0 b1
      have HP := Lib.hid (fun j (hj : j < vs.length) => pcT_take vs j hj)
      have HPS := Lib.hid (show ((pcL vs).take vs.length).sum = (pcL vs).sum by rw [← pcL_len vs, List.take_length])
      have HPB := Lib.hid (fun j => pcL_tk vs j)
      have hmul : wrap64 ((pcL vs).sum * ((F : Int) + 1)) = ((F : Int) + 1) * (pcL vs).sum := mulF hF63 hsum
      have HM := Lib.hid hmul
      clear hmul
      generalize hS : (pcL vs).sum = S at *
      clear hS
      generalize hPP : pcL vs = PL at *
      clear hPP
      obtain ⟨b0, b1, _⟩ := B8.out
      go_wp2
      go_loop [21, 22] (fun s i => ∃ j : Nat, j ≤ vs.length ∧ i = .int .i64 j ∧ s = .int .i64 ((PL.take j).sum)) (fun _ i => vs.length - (intOf i).toNat)
      case atStart => exact ⟨0, Nat.zero_le _, rfl, by simp⟩
      case round =>
        obtain ⟨j, hj, rfl, rfl⟩ := hrel
        by_cases hlt2 : j < vs.length
        · rcases I8.out.at_ with h | ⟨p2, q2, rfl, hb2, hc2⟩
          · rw [h, List.length_nil] at hlt2; omega
          have hcx := hc2 j hlt2
          have hz := HSETS.out _ (getD_mem vs j hlt2)
          have hps := HP.out j hlt2
          have hpb := HPB.out j
          clear hc2
          generalize vs.getD j 0 = z at *
          obtain ⟨z, rfl⟩ : ∃ m : Nat, z = m := ⟨z.toNat, by omega⟩
          rw [Int.toNat_natCast] at hps
          have hpc := pc_le z
          have HWG := Lib.hid (fun W => r8Weight_any z W (by omega))
          have HPP := Lib.hid hps
          clear hps
          generalize pc z = e at *
          generalize (PL.take j).sum = s at *
          have hb := hpb.2
          go_wp2_with (go_at_call 17; refine (HWG.out _).mono ?_; rintro e w' ⟨rfl, rfl⟩)
          go_round
          case rel => exact ⟨j + 1, by omega, by go_num, by rw [HPP.out]⟩
          case measure => simp [intOf]; omega
        · have HJE := show j = vs.length from by omega
          subst HJE
          rw [HPS.out]
          have hmul := HM.out
          clear HP HPB HPS HM
          go_wp2
          go_ret
          exact ⟨rfl, K8.out⟩

theorem own : ownKnob Try.prog.godebug = none := by kernel_rfl
theorem laidOut : laidOutB Try.prog = true := by kernel_rfl
set_option maxRecDepth 100000 in
theorem lifted (os : Os) (started : os.Started) (H : Type) (enc : TypeId × Value → H) :
    ReturnsInHanded {} Try.checked os 3 .any (Rows.fnColouredSpec.pre6 enc Try.prog Try.f3 Rows.fnColouredRow.domain false) (Rows.fnColouredSpec.post enc Try.prog Try.f3 false true false false) := by
  refine returnsInHanded_of_change (C := Try.checked) own started (by kernel_rfl) Try.func3
    (ChangeSpec.witness6 (enc := enc) (C := Try.checked) false ⟨#[], #[.slice none 0 0, .slice none 0 0], []⟩ 8 (by kernel_rfl) (by kernel_rfl) (by kernel_rfl) (by kernel_rfl)) ?_
  intro W base args ds gs before hval0 hW hcnd _
  have hval : ∀ (j : Nat) t v, Try.f3.params[j]? = some t → args[j]? = some v → Value.okWide Try.prog W .any base t v := hval0
  have hW' := hW
  obtain ⟨p, q, hA0, hV, rfl, hfz, hnd⟩ := hW
  have hA : DataW.TrodAll enc Try.prog W 0 (fun _ => true) true Try.f3.params.toList args.toList ds p := hA0
  rw [Try.params3] at hA hval
  obtain ⟨v0, vs0, d0, ds0, p0, q0, hargs, rfl, rfl, h0, r0⟩ := trodAll_cons hA
  obtain ⟨v1, vs1, d1, ds1, p1, q1, rfl, rfl, rfl, h1, r1⟩ := trodAll_cons r0
  obtain ⟨rfl, rfl, rfl⟩ := trodAll_nil r1
  obtain rfl : args = #[v0, v1] := by cases args; simp_all
  obtain ⟨rfl, rfl⟩ := trodVars_none hV
  have k0 := h0
  have lt0 : ∀ x ∈ p0, x.block < W.heap.size := by obtain ⟨m, hm⟩ := k0; exact DataW.trod_lt m _ _ _ hm
  obtain ⟨a0, len0, cap0, rfl⟩ := okWide_slice Try.underlying22 (hval 0 22 v0 rfl rfl)
  obtain ⟨z0, e0, w0⟩ := bytes_open Try.underlying22 Try.underlying5 (by kernel_rfl) h0
  subst e0
  have k1 := h1
  have lt1 : ∀ x ∈ p1, x.block < W.heap.size := by obtain ⟨m, hm⟩ := k1; exact DataW.trod_lt m _ _ _ hm
  obtain ⟨a1, len1, cap1, rfl⟩ := okWide_slice Try.underlying22 (hval 1 22 v1 rfl rfl)
  obtain ⟨z1, e1, w1⟩ := bytes_open Try.underlying22 Try.underlying5 (by kernel_rfl) h1
  subst e1
  clear hA0 hval0
  refine (walk W a0 cap0 z0 w0 a1 cap1 z1 w1).mono fun e W' ⟨he, bel⟩ => ?_
  subst he
  exact ⟨_, rfl, _, _, _, [], _, [], hW', trodAll_mk1 (shut_bool Try.underlying4 _), (trodAll_cons_mk (Below.trod laidOut (by kernel_rfl) (of_decide_eq_true (by kernel_rfl)) k0 bel lt0) (trodAll_cons_mk (Below.trod laidOut (by kernel_rfl) (of_decide_eq_true (by kernel_rfl)) k1 bel lt1) trodAll_mk0)), rfl, bel.frame _, fun h => by cases h⟩
theorem over : Rows.fnColouredRow.holds Try.pinned (OpenSpec.ofChange Rows.fnColouredSpec) :=
  OpenClaim.holds_of_wide 3 Try.f3 rfl rfl rfl rfl rfl rfl rfl ⟨rfl, rfl, rfl, rfl, rfl⟩ rfl rfl rfl rfl rfl (by kernel_rfl) Try.func3 (by kernel_rfl)
    (of_decide_eq_true (by kernel_rfl)) (by unfold Func.isWrapper; first | (rw [if_pos (by decide +kernel)]; kernel_rfl) | (rw [if_neg (by decide +kernel)]; exact ⟨rfl, rfl⟩))
    (fun os started H enc _ => lifted os started H enc)
/-- THE STATEMENT. -/
theorem proved : Rows.FnColouredSaid := over
end Go.Proofs.Ytaockgegghmphab.fnColoured
