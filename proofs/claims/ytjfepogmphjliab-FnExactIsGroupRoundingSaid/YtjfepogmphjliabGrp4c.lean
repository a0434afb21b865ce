/- Group roundings: the program's look. -/
import Derived.Test.YtjfepogmphjliabFam4b
import Derived.Test.YtjfepogmphjliabGrp4b
import Derived.Test.YtjfepogmphjliabReg
namespace Go.Proofs.Ytjfepogmphjliab
open Go.ChangeShapes Go.WideShapes Go.ChangeAt Go.RowKit Go.Deep
set_option linter.unusedVariables false
theorem roundingsOf_any (a b : Int) (w : World) (ha : -1000000000 ≤ a) (ha' : a ≤ 1000000000) (hb : 1 ≤ b) (hb' : b ≤ 1000000000) :
    Calls Try.prog 26 #[.int .i64 a, .int .i64 b] w fun e w' => e = .returned (.agg #[.int .i64 (fl a b), .int .i64 (ce a b)]) ∧ Keep w w' := by
  go_enter Try.func26, Try.ntmps26
  go_wp2_with (first | (go_at_call 34; refine (floorOf_any _ _ _ (by omega) (by omega) hb hb').mono ?_; rintro e w' ⟨rfl, rfl⟩) | (go_at_call 35; refine (ceilingOf_any _ _ _ (by omega) (by omega) hb hb').mono ?_; rintro e w' ⟨rfl, rfl⟩))
  refine bodyPost_ret (v := .agg #[.int .i64 (fl a b), .int .i64 (ce a b)]) (by simp [results, Try.results26, go_sem]) rfl ?_
  exact ⟨rfl, by go_grown⟩
theorem ce_fl {a b : Int} (hb : 1 ≤ b) : fl a b ≤ ce a b ∧ ce a b ≤ fl a b + 1 := by
  have h1 := fl_mul (a := a) hb
  have h2 := fl_mul (a := -a) hb
  rw [ce_eq]
  generalize fl a b = x at *
  generalize fl (-a) b = y at *
  have h3 : b * (x + y) ≤ 0 := by rw [Int.mul_add]; omega
  have h4 : -(2 * b) < b * (x + y) := by rw [Int.mul_add]; omega
  have h5 : x + y ≤ 0 := by
    by_cases h : x + y ≤ 0
    · exact h
    · have : b * 1 ≤ b * (x + y) := Int.mul_le_mul_of_nonneg_left (by omega) (by omega)
      omega
  have h6 : -2 < x + y := by
    by_cases h : -2 < x + y
    · exact h
    · have : b * (x + y) ≤ b * (-2) := Int.mul_le_mul_of_nonneg_left (by omega) (by omega)
      omega
  omega
theorem okSet_in {g : Int} {zs ls set : List Int} (hg : 1 ≤ g) : okSet g zs ls set = inB (partS ls set) (fl (partS zs set) g) (ce (partS zs set) g) := by
  have := ce_fl (a := partS zs set) hg
  unfold okSet inB
  generalize partS ls set = x at *
  generalize fl (partS zs set) g = y at *
  generalize ce (partS zs set) g = z at *
  by_cases h1 : y ≤ x <;> by_cases h2 : x ≤ z <;> by_cases h3 : x = y <;> by_cases h4 : x = z <;> simp [h1, h2, h3, h4] <;> omega
/-- One set of the family: its sums in the values and in the list. -/
theorem fam_sel {zs : List Int} {zss : List (List Int)} {n k : Nat} (hn : zs.length = n) (hlam : lamB n zss = true) (hk : k < (famL zss ++ [2 ^ n - 1]).length) :
    selS zs ((famL zss ++ [2 ^ n - 1]).getD k 0) n = partS zs ((zss ++ [allI n]).getD k []) := by
  have hl : (famL zss).length = zss.length := by simp [famL]
  by_cases h : k < zss.length
  · have hr := (lamB_rises hlam).2 k h
    have e1 : (famL zss ++ [2 ^ n - 1]).getD k 0 = bitsOf (zss.getD k []) := by
      rw [List.getD_eq_getElem?_getD, List.getElem?_append_left (by omega)]
      simp [famL, List.getD_eq_getElem?_getD, h]
    have e2 : (zss ++ [allI n]).getD k [] = zss.getD k [] := by
      rw [List.getD_eq_getElem?_getD, List.getElem?_append_left h, ← List.getD_eq_getElem?_getD]
    rw [e1, e2]
    exact selS_set zs n _ (rises_nodup (rises_to hr)) (fun i hi => by have := rises_nn (rises_to hr) i hi; omega)
  · have hk2 : k = zss.length := by simp at hk; omega
    subst hk2
    have e1 : (famL zss ++ [2 ^ n - 1]).getD zss.length 0 = 2 ^ n - 1 := by
      rw [List.getD_eq_getElem?_getD, List.getElem?_append_right (by omega), hl]; simp
    have e2 : (zss ++ [allI n]).getD zss.length [] = allI n := by
      rw [List.getD_eq_getElem?_getD, List.getElem?_append_right (by omega)]; simp
    rw [e1, e2]
    exact selS_whole zs n hn
theorem fam_bd {n : Nat} {zss : List (List Int)} (hn : n ≤ 40) (hlam : lamB n zss = true) {k : Nat} (hk : k < (famL zss ++ [2 ^ n - 1]).length) : (famL zss ++ [2 ^ n - 1]).getD k 0 < 18446744073709551616 := by
  have hl : (famL zss).length = zss.length := by simp [famL]
  by_cases h : k < zss.length
  · have hr := (lamB_rises hlam).2 k h
    have e1 : (famL zss ++ [2 ^ n - 1]).getD k 0 = bitsOf (zss.getD k []) := by
      rw [List.getD_eq_getElem?_getD, List.getElem?_append_left (by omega)]
      simp [famL, List.getD_eq_getElem?_getD, h]
    rw [e1]; exact bits_bd hn hr
  · have hk2 : k = zss.length := by simp at hk; omega
    subst hk2
    have e1 : (famL zss ++ [2 ^ n - 1]).getD zss.length 0 = 2 ^ n - 1 := by
      rw [List.getD_eq_getElem?_getD, List.getElem?_append_right (by omega), hl]; simp
    rw [e1]
    have hp2 : 2 ^ n < 18446744073709551616 := Nat.lt_of_le_of_lt (Nat.pow_le_pow_right (by omega) hn) (by decide)
    omega
set_option maxHeartbeats 3200000 in
set_option maxRecDepth 100000 in
theorem IsGroupRounding_any (g : Int) (ad : Option Addr) (cap : Nat) (zs : List Int) (bd : Option Addr) (bcap : Nat) (zss : List (List Int)) (cd : Option Addr) (ccap : Nat) (ls : List Int) (w : World) (hz : Ints w ad zs) (hg : Intss w bd zss) (hl : Ints w cd ls) :
    Calls Try.prog 15 #[valV g ad zs.length cap, .slice bd zss.length bcap, .slice cd ls.length ccap] w fun e w' => e = .returned (.bool (grpB g zs zss ls)) ∧ Keep w w' := by
  have B0 : Box (w.alloc (.cells #[.int .i64 g, .slice ad zs.length cap] 29)) w.heap.size g ad zs.length cap := ⟨by simp, by simp, by simp⟩
  cases h1 : lamV g zs zss
  · rw [show grpB g zs zss ls = false from by simp [grpB, h1]]
    go_enter Try.func15, Try.ntmps15
    go_wp2_with fail
    refine (familyOf_any g ad cap zs bd bcap zss _ (hz.keep (B := _) (by go_grown) (Nat.le_refl _)) (hg.keep (B := _) (by go_grown) (Nat.le_refl _))).mono ?_
    rw [h1]
    rintro e w1 ⟨rd, rc, rfl, o1, k1⟩
    have HK := Lib.hid (show Keep w w1 from Keep.next (by go_grown) k1)
    go_wp2
    go_ret
    exact ⟨rfl, HK.out⟩
  have hok : okV g zs = true := by unfold lamV at h1; rw [Bool.and_eq_true] at h1; exact h1.1
  have hlam : lamB zs.length zss = true := by unfold lamV at h1; rw [Bool.and_eq_true] at h1; exact h1.2
  cases h2 : rndB g zs ls
  · rw [show grpB g zs zss ls = false from by simp [grpB, h2]]
    go_enter Try.func15, Try.ntmps15
    go_wp2_with fail
    refine (familyOf_any g ad cap zs bd bcap zss _ (hz.keep (B := _) (by go_grown) (Nat.le_refl _)) (hg.keep (B := _) (by go_grown) (Nat.le_refl _))).mono ?_
    rw [h1]
    rintro e w1 ⟨rd, rc, rfl, o1, k1⟩
    have g1 : Keep w w1 := Keep.next (by go_grown) k1
    obtain ⟨q0, q1, q2⟩ := B0.keep k1
    have HK := Lib.hid g1
    go_wp2_with fail
    refine (IsRounding_any g ad cap zs cd ccap ls _ (hz.keep HK.out (Nat.le_refl _)) (hl.keep HK.out (Nat.le_refl _))).mono ?_
    rw [h2]
    rintro e w2 ⟨rfl, k2⟩
    go_wp2
    go_ret
    exact ⟨rfl, HK.out.next k2⟩
  rw [show grpB g zs zss ls = setsB g zs ls (zss ++ [allI ls.length]) from by simp [grpB, h1, h2]]
  obtain ⟨hll, hlb⟩ := rnd_bd h2
  have hgd := okV_den hok
  have h40 := okV_len hok
  have hzb := okV_num hok
  have h12 := (lamB_rises hlam).1
  have hfv : famV g zs zss = famL zss ++ [2 ^ zs.length - 1] := by simp [famV, h1]
  have HTL : Hid ((zss ++ [allI ls.length]).length = zss.length + 1) := Lib.hid (by simp)
  have HFL : Hid ((famL zss ++ [2 ^ zs.length - 1]).length = zss.length + 1) := Lib.hid (by simp [famL])
  have HSZ : Hid (∀ k, k < zss.length + 1 → selS zs ((famL zss ++ [2 ^ zs.length - 1]).getD k 0) zs.length = partS zs ((zss ++ [allI ls.length]).getD k [])) := Lib.hid (fun k hk => by rw [hll]; exact fam_sel rfl hlam (by rw [HFL.out]; exact hk))
  have HSL : Hid (∀ k, k < zss.length + 1 → selS ls ((famL zss ++ [2 ^ zs.length - 1]).getD k 0) ls.length = partS ls ((zss ++ [allI ls.length]).getD k [])) := Lib.hid (fun k hk => by
    have e : 2 ^ zs.length = 2 ^ ls.length := by rw [hll]
    rw [e]
    exact fam_sel rfl (by rw [hll]; exact hlam) (by simp [famL]; exact hk))
  have HFB : Hid (∀ k, k < zss.length + 1 → (famL zss ++ [2 ^ zs.length - 1]).getD k 0 < 18446744073709551616) := Lib.hid (fun k hk => fam_bd h40 hlam (by rw [HFL.out]; exact hk))
  have HLL := Lib.hid hll
  have hl40 : ls.length ≤ 40 := by omega
  clear hll
  generalize famL zss ++ [2 ^ zs.length - 1] = FL at *
  generalize zss ++ [allI ls.length] = T at *
  have HZB := Lib.hid hzb; have HLB := Lib.hid hlb
  clear hzb hlb
  go_enter Try.func15, Try.ntmps15
  go_wp2_with fail
  refine (familyOf_any g ad cap zs bd bcap zss _ (hz.keep (B := _) (by go_grown) (Nat.le_refl _)) (hg.keep (B := _) (by go_grown) (Nat.le_refl _))).mono ?_
  rw [h1, hfv]
  rintro e w1 ⟨rd, rc, rfl, o1, k1⟩
  have g1 : Keep w w1 := Keep.next (by go_grown) k1
  have BX := Lib.hid (B0.keep k1)
  obtain ⟨q0, q1, q2⟩ := BX.out
  have HK := Lib.hid g1
  have HO1 := Lib.hid o1
  clear B0 k1 g1 o1
  go_wp2_with fail
  refine (IsRounding_any g ad cap zs cd ccap ls _ (hz.keep HK.out (Nat.le_refl _)) (hl.keep HK.out (Nat.le_refl _))).mono ?_
  rw [h2]
  rintro e w2 ⟨rfl, k2⟩
  have BX2 := Lib.hid (BX.out.keep k2)
  have HK2 := Lib.hid (HK.out.next k2)
  have HO2 := Lib.hid (HO1.out.keep k2)
  have HZ2 := Lib.hid (hz.keep HK2.out (Nat.le_refl _))
  have HL2 := Lib.hid (hl.keep HK2.out (Nat.le_refl _))
  clear q0 q1 q2 k2
  have hfl : FL.length ≤ 13 := by rw [HFL.out]; omega
  go_wp2
  go_loopg [10, 28] FL.length (fun kk _ i wr => ∃ (k : Nat), k ≤ FL.length ∧ kk = FL.length - k ∧ i = .int .i64 k ∧ Hid (∀ j, j < k → okSet g zs ls (T.getD j []) = true) ∧ Hid (Keep w2 wr))
  case atStart => exact ⟨0, Nat.zero_le _, rfl, rfl, Lib.hid (fun j h => by omega), Lib.hid (Below.refl _ _)⟩
  case round =>
    obtain ⟨k, hk, rfl, rfl, HA, HB⟩ := hrel
    by_cases hkl : k < FL.length
    · have hlt : k < zss.length + 1 := by rw [← HFL.out]; exact hkl
      rcases (HO2.out.keep HB.out).at_ with h | ⟨b, rfl, hb, _, hc⟩
      · rw [h] at HFL; have := HFL.out; simp at this
      have hcx := hc k hkl
      have hmb := HFB.out k hlt
      have HS1 := Lib.hid (HSZ.out k hlt)
      have HS2 := Lib.hid (HSL.out k hlt)
      have HIN : Hid (okSet g zs ls (T.getD k []) = inB (partS ls (T.getD k [])) (fl (partS zs (T.getD k [])) g) (ce (partS zs (T.getD k [])) g)) := Lib.hid (okSet_in hgd.1)
      have HNO := Lib.hid (fun h => setsB_no (g := g) (zs := zs) (ls := ls) (T := T) (k := k) (by rw [HTL.out]; exact hlt) h)
      have HAS : Hid (okSet g zs ls (T.getD k []) = true → ∀ j, j < k + 1 → okSet g zs ls (T.getD j []) = true) := Lib.hid (fun h j hj => by
        by_cases e : j = k
        · subst e; exact h
        · exact HA.out j (by omega))
      clear hc
      have hp1 := selS_bd 1000000 (by omega) zs HZB.out (FL.getD k 0) zs.length (Nat.le_refl _)
      have hp2 := selS_bd 1000000 (by omega) ls HLB.out (FL.getD k 0) ls.length (Nat.le_refl _)
      rw [← HS1.out, ← HS2.out] at HIN
      generalize FL.getD k 0 = m at *
      have C1 : Hid (∀ W, Keep w2 W → Calls Try.prog 27 #[.int .u64 m, .slice ad zs.length cap] W fun e w' => e = .returned (.int .i64 (selS zs m zs.length)) ∧ W = w') :=
        Lib.hid (fun W k => sumOf_any m hmb ad cap zs W (HZ2.out.keep k (Nat.le_refl _)) (by omega) (fun z hz => by have := HZB.out z hz; omega))
      have C2 : Hid (∀ W, Keep w2 W → Calls Try.prog 27 #[.int .u64 m, .slice cd ls.length ccap] W fun e w' => e = .returned (.int .i64 (selS ls m ls.length)) ∧ W = w') :=
        Lib.hid (fun W k => sumOf_any m hmb cd ccap ls W (HL2.out.keep k (Nat.le_refl _)) (by omega) (fun z hz => by have := HLB.out z hz; omega))
      have hzl : zs.length ≤ 40 := h40
      have hx1 : -1000000000 ≤ selS zs m zs.length ∧ selS zs m zs.length ≤ 1000000000 := by omega
      have hx2 : -1000000000 ≤ selS ls m ls.length ∧ selS ls m ls.length ≤ 1000000000 := by omega
      clear HS1 HS2 hp1 hp2
      generalize selS zs m zs.length = x at *
      generalize selS ls m ls.length = y at *
      have C3 : Hid (∀ W, Calls Try.prog 26 #[.int .i64 x, .int .i64 g] W fun e w' => e = .returned (.agg #[.int .i64 (fl x g), .int .i64 (ce x g)]) ∧ Keep W w') :=
        Lib.hid (fun W => roundingsOf_any x g W (by omega) (by omega) (by omega) (by omega))
      have hx3 := fl_bd (a := x) (b := g) (M := 1000000000) (by omega) (by omega) (by omega) (by omega)
      have hx4 := ce_bd (a := x) (b := g) (M := 1000000000) (by omega) (by omega) (by omega) (by omega)
      have HBX := Lib.hid (BX2.out.keep HB.out)
      obtain ⟨x0, x1, xl⟩ := HBX.out
      go_upto_region 7 with fail
      go_cut [11] (fun s11 wx => ∃ gb : Nat, s11 = .pointer (some ⟨gb, 0, none⟩) ∧ wx.cell? ⟨gb, 0, none⟩ = some (.int .i64 (fl x g)) ∧ wx.cell? ⟨gb, 1, none⟩ = some (.int .i64 (ce x g)) ∧ Keep wr wx)
      case first =>
        go_region_law
          (first
            | (refine at_fn 27 _ _ rfl ?_; go_simp
               refine (C1.out _ (HB.out.next (by go_grown))).mono ?_; rintro e w6 ⟨rfl, rfl⟩)
            | (refine at_fn 26 _ _ rfl ?_; go_simp
               refine (C3.out _).mono ?_; rintro e w7 ⟨rfl, k7⟩
               have d7 : Duo w7 wr.drew.heap.size (.int .i64 0) (.int .i64 0) := (Duo.new wr.drew (.int .i64 0) (.int .i64 0) 53).keep k7 (by simp)
               have e7 : wr.drew.heap.size = wr.heap.size := by simp
               rw [e7] at d7
               obtain ⟨d70, d71, d72, d73⟩ := d7
               clear e7
               have kk7 : Keep wr w7 := Keep.next (by go_grown) k7
               have b7 := Lib.hid (HBX.out.keep kk7)
               have x7 := b7.out.c0; have y7 := b7.out.c1)
            | (refine at_fn 26 _ _ rfl ?_; go_simp
               refine (C3.out _).mono ?_; rintro e w7 ⟨rfl, k7⟩
               have kk7 : Keep wr w7 := Keep.next (by go_grown) k7
               have b7 := Lib.hid (HBX.out.keep kk7)
               have x7 := b7.out.c0; have y7 := b7.out.c1))
        all_goals go_wp2_with fail
        all_goals go_meet
        all_goals first
          | (have q7 := (Duo.mk d70 d71 d72 d73).set (.int .i64 (fl x g)) (.int .i64 (ce x g))
             exact ⟨wr.heap.size, rfl, q7.c0, q7.c1, (kk7.setCell (by simp) _).setCell (by simp) _⟩)
          | (have q7 := Duo.new w7 (.int .i64 (fl x g)) (.int .i64 (ce x g)) 53
             exact ⟨w7.heap.size, rfl, q7.c0, q7.c1, Keep.next kk7 (by go_grown)⟩)
      case rest =>
        obtain ⟨gb, rfl, e0, e1, kx⟩ := hcut
        have HIN2 := HIN.out
        have HINH := Lib.hid HIN2; clear HIN2
        have HB2 := Lib.hid (HB.out.next kx)
        clear HIN x0 x1 xl hcx
        generalize fl x g = lo at *
        generalize ce x g = hi at *
        have HQ : Hid (∀ n, Calls Try.prog 27 #[.int .u64 m, .slice cd ls.length ccap] (wc.drewN n) fun e w' => e = .returned (.int .i64 y) ∧ wc.drewN n = w') :=
          Lib.hid (fun n => C2.out _ (below_drewN HB2.out n))
        cases hin : inB y lo hi
        · have HHX := Lib.hid (congrArg (fun b => Ending.returned (Value.bool b)) hin)
          go_wp2_with fail
          go_quiet ((first | (go_at_call 27; exact Calls.quiet_of_same ((HQ.out _).mono fun _ _ h => ⟨h.1, h.2.symm⟩)) | (go_at_call 28; exact Calls.quiet_of_same ((within_any _ _ _ _).mono fun _ _ h => ⟨h.1.trans HHX.out, h.2.symm⟩))))
          go_wp2
          go_ret
          exact ⟨ret_bool (HNO.out (by rw [HINH.out, hin])).symm, below_drewN (HK2.out.next HB2.out) _⟩
        · have HHX := Lib.hid (congrArg (fun b => Ending.returned (Value.bool b)) hin)
          go_wp2_with fail
          go_quiet ((first | (go_at_call 27; exact Calls.quiet_of_same ((HQ.out _).mono fun _ _ h => ⟨h.1, h.2.symm⟩)) | (go_at_call 28; exact Calls.quiet_of_same ((within_any _ _ _ _).mono fun _ _ h => ⟨h.1.trans HHX.out, h.2.symm⟩))))
          go_wp2
          go_roundg (FL.length - (k + 1))
          case measure => omega
          case rel => exact ⟨k + 1, by omega, rfl, by go_num, Lib.hid (HAS.out (by rw [HINH.out, hin])), Lib.hid (below_drewN HB2.out _)⟩
    · have HK9 := Lib.hid (show k = FL.length from by omega)
      have HY : Hid (setsB g zs ls T = true) := Lib.hid (setsB_yes (fun j hj => HA.out j (by rw [HK9.out, HFL.out, ← HTL.out]; exact hj)))
      go_wp2
      go_ret
      exact ⟨ret_bool HY.out.symm, HK2.out.next HB.out⟩
end Go.Proofs.Ytjfepogmphjliab
