/- Whether seats can arise by a method: the model's whole. -/
import Derived.Test.YtanfbddmigbncaaSeatSpec
namespace Go.Proofs.Ytanfbddmigbncaa
open Go.ChangeShapes Go.WideShapes Go.ChangeAt Go.RowKit
set_option linter.unusedVariables false
/-- How the model compares the last seat of party i with one more for party j. -/
def cmpIJ (M : Int) (zs ls : List Int) (i j : Nat) : Int := sgn (cL (zs.getD i 0) (zs.getD j 0) (divM M (ls.getD i 0 - 1)) (divM M (ls.getD j 0))) (cR (zs.getD i 0) (zs.getD j 0) (divM M (ls.getD i 0 - 1)) (divM M (ls.getD j 0)))
theorem allStand_iff {M : Int} {zs ls : List Int} (hM : inB M 0 3 = true) (hv : okVotes zs = true) (hs : seatsOk ls zs.length = true) :
    allStand ls (fun p _ => nM M (zs.getD p 0)) (fun p k => dM M (zs.getD p 0) k) = true ↔ ∀ i, i < ls.length → ∀ j, j < ls.length → j ≠ i → 0 < ls.getD i 0 → 0 ≤ cmpIJ M zs ls i j := by
  obtain ⟨m0, m3⟩ := inB_iff.1 hM
  have hn := okVotes_num hv
  have hl := seatsOk_num hs
  have hll := seatsOk_len hs
  unfold allStand cmpIJ
  rw [decide_eq_true_eq]
  constructor
  · intro h i hi j hj hne h0
    dsimp only at h
    have h2 := (h i hi h0 j hj).resolve_left hne
    have h3 := cmp_same M (zs.getD i 0) (ls.getD i 0 - 1) (zs.getD j 0) (ls.getD j 0) m0 m3 (hn _ (getD_mem zs i (by omega))).1 (hn _ (getD_mem zs j (by omega))).1 (by omega) (hl _ (getD_mem ls j hj)).1
    omega
  · intro h i hi h0 j hj
    dsimp only
    by_cases hne : j = i
    · exact .inl hne
    · right
      have h2 := h i hi j hj hne h0
      have h3 := cmp_same M (zs.getD i 0) (ls.getD i 0 - 1) (zs.getD j 0) (ls.getD j 0) m0 m3 (hn _ (getD_mem zs i (by omega))).1 (hn _ (getD_mem zs j (by omega))).1 (by omega) (hl _ (getD_mem ls j hj)).1
      omega
set_option maxHeartbeats 3200000 in
set_option maxRecDepth 100000 in
theorem specIsSeatsBy_any (M : Int) (ad : Option Addr) (cap : Nat) (zs : List Int) (ld : Option Addr) (lcap : Nat) (ls : List Int) (w : World) (uM : In64 M) (hz : Ints w ad zs) (hl : Ints w ld ls) (hsm : ls.length ≤ 1073741824) :
    Calls Try.prog 29 #[.int .i64 M, .slice ad zs.length cap, .slice ld ls.length lcap] w fun e w' => e = .returned (.bool (isB M zs ls)) ∧ Keep w w' := by
  have hzs := hz.small
  have hls := hl.small
  cases hM : inB M 0 3
  · rw [show isB M zs ls = false from by simp [isB, hM]]
    go_enter Try.func29, Try.ntmps29
    go_wp2_with (go_at_call 71; refine (l02Method_any _ _).mono ?_; rw [hM]; rintro e w' ⟨rfl, rfl⟩)
    go_ret
    exact ⟨rfl, Below.refl _ _⟩
  cases hv : okVotes zs
  · rw [show isB M zs ls = false from by simp [isB, hv]]
    go_enter Try.func29, Try.ntmps29
    go_wp2_with (first | (go_at_call 71; refine (l02Method_any _ _).mono ?_; rw [hM]; rintro e w' ⟨rfl, rfl⟩) | (go_at_call 72; refine (l02Is_any ad cap zs w hz).mono ?_; rw [hv]; rintro e w' ⟨rfl, rfl⟩))
    go_ret
    exact ⟨rfl, Below.refl _ _⟩
  cases hs : seatsOk ls zs.length
  · rw [show isB M zs ls = false from by simp [isB, hs]]
    go_enter Try.func29, Try.ntmps29
    go_wp2_with (first | (go_at_call 71; refine (l02Method_any _ _).mono ?_; rw [hM]; rintro e w' ⟨rfl, rfl⟩) | (go_at_call 72; refine (l02Is_any ad cap zs w hz).mono ?_; rw [hv]; rintro e w' ⟨rfl, rfl⟩) | (go_at_call 73; refine (l02List_any ad zs.length cap ld lcap ls w hl hsm hzs).mono ?_; rw [hs]; rintro e w' ⟨rfl, rfl⟩))
    go_ret
    exact ⟨rfl, Below.refl _ _⟩
  have hll := seatsOk_len hs
  have HAS := Lib.hid (allStand_iff hM hv hs)
  have hi1 : isB M zs ls = allStand ls (fun p _ => nM M (zs.getD p 0)) (fun p k => dM M (zs.getD p 0) k) := by simp [isB, hM, hv, hs]
  rw [hi1]
  clear hi1
  have HN := Lib.hid (okVotes_num hv); have HLN := Lib.hid (seatsOk_num hs); have HLL := Lib.hid hll
  have h12 := okVotes_len hv
  generalize allStand ls (fun p _ => nM M (zs.getD p 0)) (fun p k => dM M (zs.getD p 0) k) = R at HAS ⊢
  have HNO : Hid (∀ i, i < zs.length → ∀ j, j < zs.length → j ≠ i → 0 < ls.getD i 0 → cmpIJ M zs ls i j < 0 → R = false) := Lib.hid (fun i hi j hj hne h0 hc => by
    cases hR : R
    · rfl
    · have := (HAS.out.1 hR) i (by rw [HLL.out]; exact hi) j (by rw [HLL.out]; exact hj) hne h0; omega)
  have HYES : Hid ((∀ i, i < zs.length → ∀ j, j < zs.length → j ≠ i → 0 < ls.getD i 0 → 0 ≤ cmpIJ M zs ls i j) → R = true) := Lib.hid (fun h => HAS.out.2 (fun i hi j hj => h i (by rw [← HLL.out]; exact hi) j (by rw [← HLL.out]; exact hj)))
  clear hll HAS
  go_enter Try.func29, Try.ntmps29
  go_wp2_with (first | (go_at_call 71; refine (l02Method_any _ _).mono ?_; rw [hM]; rintro e w' ⟨rfl, rfl⟩) | (go_at_call 72; refine (l02Is_any ad cap zs w hz).mono ?_; rw [hv]; rintro e w' ⟨rfl, rfl⟩) | (go_at_call 73; refine (l02List_any ad zs.length cap ld lcap ls w hl hsm hzs).mono ?_; rw [hs]; rintro e w' ⟨rfl, rfl⟩))
  go_loopg [7] zs.length (fun kk i wr => ∃ k : Nat, k ≤ zs.length ∧ kk = zs.length - k ∧ i = .int .i64 k ∧ Hid (∀ i', i' < k → ∀ j, j < zs.length → j ≠ i' → 0 < ls.getD i' 0 → 0 ≤ cmpIJ M zs ls i' j) ∧ Hid (Keep w wr))
  case atStart => exact ⟨0, Nat.zero_le _, rfl, rfl, Lib.hid (fun i' h => by omega), Lib.hid (Below.refl _ _)⟩
  case round =>
    obtain ⟨k, hk, rfl, rfl, HALL, HKW⟩ := hrel
    by_cases hlt : k < zs.length
    · go_wp2
      go_loopg [8] zs.length (fun kk i wi => ∃ j : Nat, j ≤ zs.length ∧ kk = zs.length - j ∧ i = .int .i64 j ∧ Hid (∀ j', j' < j → j' ≠ k → 0 < ls.getD k 0 → 0 ≤ cmpIJ M zs ls k j') ∧ Hid (Keep wr wi))
      case atStart => exact ⟨0, Nat.zero_le _, rfl, rfl, Lib.hid (fun i' h => by omega), Lib.hid (Below.refl _ _)⟩
      case round =>
        obtain ⟨j, hj, rfl, rfl, HIN, HKI⟩ := hrel
        rename_i wi
        by_cases hlj : j < zs.length
        · have KW := Lib.hid (Keep.next HKW.out HKI.out)
          rcases (hz.keep KW.out (Nat.le_refl _)).at_ with h | ⟨b, off, rfl, hb, hc⟩
          · subst h; simp at hlt
          rcases (hl.keep KW.out (Nat.le_refl _)).at_ with h | ⟨b2, off2, rfl, hb2, hc2⟩
          · exfalso; have h2 := HLL.out; rw [h] at h2; simp at h2; omega
          have p1 := hc k hlt
          have p2 := hc j hlj
          have p3 := hc2 k (by rw [HLL.out]; exact hlt)
          have p4 := hc2 j (by rw [HLL.out]; exact hlj)
          have n1 := HN.out _ (getD_mem zs k hlt)
          have n2 := HN.out _ (getD_mem zs j hlj)
          have n3 := HLN.out _ (getD_mem ls k (by rw [HLL.out]; exact hlt))
          have n4 := HLN.out _ (getD_mem ls j (by rw [HLL.out]; exact hlj))
          have HNJ := Lib.hid (HNO.out k hlt j hlj)
          have HIN2 : Hid ((j ≠ k → 0 < ls.getD k 0 → 0 ≤ cmpIJ M zs ls k j) → ∀ j', j' < j + 1 → j' ≠ k → 0 < ls.getD k 0 → 0 ≤ cmpIJ M zs ls k j') := Lib.hid (fun h j' hj' => by
            rcases Nat.lt_or_eq_of_le (Nat.le_of_lt_succ hj') with h3 | h3
            · exact HIN.out j' h3
            · rw [h3]; exact h)
          have HCM : Hid (0 < ls.getD k 0 → ∀ W, Calls Try.prog 74 #[.int .i64 M, .int .i64 (zs.getD k 0), .int .i64 (ls.getD k 0 - 1), .int .i64 (zs.getD j 0), .int .i64 (ls.getD j 0)] W fun e w' => e = .returned (.int .i64 (cmpIJ M zs ls k j)) ∧ W = w') :=
            Lib.hid (fun h W => l02Cmp_any M _ _ _ _ W n1.1 n1.2 n2.1 n2.2 (by omega) (by omega) n4.1 n4.2)
          have hlk : k < ls.length := by rw [HLL.out]; exact hlt
          have hlj2 : j < ls.length := by rw [HLL.out]; exact hlj
          clear hc hc2
          generalize cmpIJ M zs ls k j = c at HNJ HIN2 HCM
          generalize zs.getD k 0 = v at *
          generalize zs.getD j 0 = u at *
          generalize ls.getD j 0 = y at *
          by_cases hjk : k = j
          · have g1 : ((k : Int) != (j : Int)) = false := by simp [hjk]
            have HJK := Lib.hid hjk; clear hjk
            generalize ls.getD k 0 = x at *
            go_wp2
            go_quiet (fail)
            go_wp2
            go_roundg (zs.length - (j + 1))
            case measure => omega
            case rel => exact ⟨j + 1, by omega, rfl, by go_num, Lib.hid (HIN2.out (fun h => absurd HJK.out.symm h)), Lib.hid (below_drewN HKI.out _)⟩
          · have g1 : ((k : Int) != (j : Int)) = true := by simp; omega
            have HJK := Lib.hid hjk; clear hjk
            generalize ls.getD k 0 = x at *
            by_cases hx : 0 < x
            · have g2 : decide (0 < x) = true := decide_eq_true hx
              have HCX := Lib.hid (HCM.out hx)
              by_cases hc : c < 0
              · have g3 : decide (c < 0) = true := decide_eq_true hc
                go_wp2
                go_quiet ((go_at_call 74; exact Calls.quiet_of_same ((HCX.out _).mono fun _ _ h => ⟨h.1, h.2.symm⟩)))
                go_wp2
                go_ret
                exact ⟨ret_bool (HNJ.out (fun h => HJK.out h.symm) hx hc).symm, below_drewN KW.out _⟩
              · have g3 : decide (c < 0) = false := decide_eq_false hc
                go_wp2
                go_quiet ((go_at_call 74; exact Calls.quiet_of_same ((HCX.out _).mono fun _ _ h => ⟨h.1, h.2.symm⟩)))
                go_wp2
                go_roundg (zs.length - (j + 1))
                case measure => omega
                case rel => exact ⟨j + 1, by omega, rfl, by go_num, Lib.hid (HIN2.out (fun _ _ => by omega)), Lib.hid (below_drewN HKI.out _)⟩
            · have g2 : decide (0 < x) = false := decide_eq_false hx
              go_wp2
              go_quiet (fail)
              go_wp2
              go_roundg (zs.length - (j + 1))
              case measure => omega
              case rel => exact ⟨j + 1, by omega, rfl, by go_num, Lib.hid (HIN2.out (fun _ h => absurd h (by omega))), Lib.hid (below_drewN HKI.out _)⟩
        · have hjn : j = zs.length := by omega
          subst hjn
          go_wp2
          go_roundg (zs.length - (k + 1))
          case measure => omega
          case rel => exact ⟨k + 1, by omega, rfl, by go_num, Lib.hid (fun i' hi' => by
            rcases Nat.lt_or_eq_of_le (Nat.le_of_lt_succ hi') with h3 | h3
            · exact HALL.out i' h3
            · rw [h3]; exact HIN.out), Lib.hid (Keep.next HKW.out HKI.out)⟩
    · have hkn : k = zs.length := by omega
      subst hkn
      go_wp2
      go_ret
      exact ⟨ret_bool (HYES.out HALL.out).symm, HKW.out⟩
end Go.Proofs.Ytanfbddmigbncaa
