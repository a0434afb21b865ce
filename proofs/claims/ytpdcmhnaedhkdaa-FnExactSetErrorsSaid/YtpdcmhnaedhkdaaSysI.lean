/- Systems: the program's look at one, and the model's. -/
import Derived.Test.YtpdcmhnaedhkdaaDis10
import Derived.Test.YtpdcmhnaedhkdaaIdx10
import Derived.Test.YtpdcmhnaedhkdaaInts
import Derived.Deep.LoopGhost
import Derived.Deep.QuietTactic
import Derived.BigQuiet
namespace Go.Proofs.Ytpdcmhnaedhkdaa
open Go.ChangeShapes Go.WideShapes Go.ChangeAt Go.RowKit Go.Deep
set_option linter.unusedVariables false
theorem topS_of (n : Nat) : topS (n : Int) = ((2 ^ n : Nat) : Int) - 1 := by
  unfold topS
  rw [Int.toNat_natCast, show ((2 : Int) ^ n) = ((2 ^ n : Nat) : Int) from by norm_cast]
theorem shl12 {n : Nat} (h : n ≤ 12) : IntKind.i64.wrap ((2 ^ n : Nat) : Int) = ((2 ^ n : Nat) : Int) ∧ 1 ≤ 2 ^ n ∧ 2 ^ n ≤ 4096 ∧ IntKind.i64.wrap (((2 ^ n : Nat) : Int) - 1) = ((2 ^ n : Nat) : Int) - 1 := by
  have h2 : 1 ≤ 2 ^ n := Nat.one_le_two_pow
  have h3 : 2 ^ n ≤ 2 ^ 12 := Nat.pow_le_pow_right (by omega) h
  have h4 : (2 : Nat) ^ 12 = 4096 := by decide
  generalize 2 ^ n = m at *
  exact ⟨IntWalk.i64_in _ (by omega), h2, by omega, IntWalk.i64_in _ (by omega)⟩
theorem isSetOf_any (n : Nat) (z : Int) (w : World) (hn : n ≤ 12) :
    Calls Try.prog 138 #[.int .i64 n, .int .i64 z] w fun e w' => e = .returned (.bool (inB z 0 (topS n))) ∧ w = w' := by
  obtain ⟨p1, p2, p3, p4⟩ := shl12 hn
  have HT := Lib.hid (topS_of n)
  have HW : Hid (wrap64 (wrap64 ((2 : Int) ^ n) - 1) = ((2 ^ n : Nat) : Int) - 1) := Lib.hid (by
    rw [show ((2 : Int) ^ n) = ((2 ^ n : Nat) : Int) from by norm_cast]
    clear HT p1 p4
    generalize 2 ^ n = m at *
    rw [IntWalk.wrap64_in (m : Int) (by omega), IntWalk.wrap64_in _ (by omega)])
  go_enter Try.func138, Try.ntmps138
  go_wp2_with (go_at_call 47; refine (within_any _ _ _ _).mono ?_; rintro e w' ⟨rfl, rfl⟩)
  go_ret
  exact ⟨ret_bool (by rw [HT.out]; exact congrArg (inB z 0) HW.out), rfl⟩
theorem l10Set_any (n : Nat) (z : Int) (w : World) (hn : n ≤ 12) :
    Calls Try.prog 135 #[.int .i64 n, .int .i64 z] w fun e w' => e = .returned (.bool (inB z 0 (topS n))) ∧ w = w' := by
  obtain ⟨p1, p2, p3, p4⟩ := shl12 hn
  have HT := Lib.hid (topS_of n)
  have HW : Hid (wrap64 (wrap64 ((2 : Int) ^ n) - 1) = ((2 ^ n : Nat) : Int) - 1) := Lib.hid (by
    rw [show ((2 : Int) ^ n) = ((2 ^ n : Nat) : Int) from by norm_cast]
    clear HT p1 p4
    generalize 2 ^ n = m at *
    rw [IntWalk.wrap64_in (m : Int) (by omega), IntWalk.wrap64_in _ (by omega)])
  go_enter Try.func135, Try.ntmps135
  go_wp2_with (go_at_call 45; refine (l00In_any _ _ _ _).mono ?_; rintro e w' ⟨rfl, rfl⟩)
  go_ret
  exact ⟨ret_bool (by rw [HT.out]; exact congrArg (inB z 0) HW.out), rfl⟩
theorem sysC_any (n : Nat) (z : Int) (vb : Nat) (w : World) (hn : n ≤ 12) (c0 : w.cell? ⟨vb, 0, none⟩ = some (.int .i64 (n : Nat))) :
    Calls Try.prog 137 #[.int .i64 z, .pointer (some ⟨vb, 0, none⟩)] w fun e w' => e = .returned (.bool (!inB z 0 (topS n))) ∧ w = w' := by
  go_enter Try.func137, Try.ntmps137
  go_wp2_with (go_at_call 138; refine (isSetOf_any _ _ _ hn).mono ?_; rintro e w' ⟨rfl, rfl⟩)
  go_ret
  exact ⟨ret_bool (by cases inB z 0 (topS n) <;> rfl), rfl⟩
theorem idxSys_any (n : Nat) (vb : Nat) (ad : Option Addr) (cap : Nat) (zs : List Int) (w : World) (hn : n ≤ 12) (hz : Ints w ad zs) (c0 : w.cell? ⟨vb, 0, none⟩ = some (.int .i64 (n : Nat))) :
    Calls Try.prog 148 #[.slice ad zs.length cap, .func (.func 137) #[] #[.pointer (some ⟨vb, 0, none⟩)]] w fun e w' =>
      (∃ r, e = .returned (.int .i64 r) ∧ idxOkX (fun z => !inB z 0 (topS n)) zs r) ∧ w = w' := by
  have hs := hz.small
  go_enter Try.func148, Try.ntmps148
  go_wp2
  go_loop [5, 8] (fun _ i => ∃ k : Nat, k ≤ zs.length ∧ i = .int .i64 k ∧ Hid ((zs.take k).any (fun z => !inB z 0 (topS n)) = false)) (fun _ i => zs.length - (intOf i).toNat)
  case atStart => exact ⟨0, Nat.zero_le _, rfl, Lib.hid (by simp)⟩
  case round =>
    obtain ⟨k, hk, rfl, HA⟩ := hrel
    by_cases hlt : k < zs.length
    · rcases hz.at_ with h | ⟨b, off, rfl, hb, hc⟩
      · subst h; simp at hlt
      have hcx := hc k hlt
      have HS := Lib.hid (any_takeX (fun z => !inB z 0 (topS n)) zs k 0 hlt)
      have HN := Lib.hid (fun h => any_noX (p := fun z => !inB z 0 (topS n)) (0 : Int) hlt h)
      clear hc
      generalize zs.getD k 0 = x at *
      cases hin : inB x 0 (topS n)
      · go_wp2_with (go_at_call 137; refine (sysC_any _ _ _ _ hn c0).mono ?_; rw [hin]; rintro e w' ⟨rfl, rfl⟩)
        go_ret
        exact ⟨⟨_, rfl, by omega, by omega, by rw [HN.out (by rw [hin]; rfl)]; simp⟩, rfl⟩
      · go_wp2_with (go_at_call 137; refine (sysC_any _ _ _ _ hn c0).mono ?_; rw [hin]; rintro e w' ⟨rfl, rfl⟩)
        go_round
        case rel => exact ⟨k + 1, by omega, by go_num, Lib.hid (by rw [HS.out, HA.out, hin]; rfl)⟩
        case measure => simp [intOf]; omega
    · have HE := Lib.hid (show k = zs.length by omega)
      go_wp2
      go_ret
      have h := HA.out
      rw [HE.out, List.take_length] at h
      exact ⟨⟨-1, rfl, by omega, by omega, by rw [h]; rfl⟩, rfl⟩
theorem hasSys_any (n : Nat) (vb : Nat) (ad : Option Addr) (cap : Nat) (zs : List Int) (w : World) (hn : n ≤ 12) (hz : Ints w ad zs) (c0 : w.cell? ⟨vb, 0, none⟩ = some (.int .i64 (n : Nat))) :
    Calls Try.prog 136 #[.slice ad zs.length cap, .func (.func 137) #[] #[.pointer (some ⟨vb, 0, none⟩)]] w fun e w' =>
      e = .returned (.bool (zs.any fun z => !inB z 0 (topS n))) ∧ w = w' := by
  go_enter Try.func136, Try.ntmps136
  go_wp2_with fail
  refine (idxSys_any n vb ad cap zs _ hn hz c0).mono ?_
  rintro e w' ⟨⟨r, rfl, h1, h2, h3⟩, rfl⟩
  have H3 := Lib.hid h3; clear h3
  go_wp2
  go_ret
  exact ⟨ret_bool H3.out, rfl⟩
set_option maxHeartbeats 800000 in
theorem ValidSystem_any (g : Int) (ad : Option Addr) (cap : Nat) (zs : List Int) (w : World) (hz : Ints w ad zs) :
    Calls Try.prog 109 #[valV g ad zs.length cap] w fun e w' => e = .returned (.bool (okS g zs)) ∧ Keep w w' := by
  have hlen := hz.small
  cases h1 : inB g 0 12
  · rw [show okS g zs = false from by unfold okS; rw [h1]; rfl]
    go_enter Try.func109, Try.ntmps109
    go_wp2_with (go_at_call 47; refine (within_any _ _ _ _).mono ?_; rw [h1]; rintro e w' ⟨rfl, rfl⟩)
    go_ret
    exact ⟨rfl, by go_grown⟩
  have hg := inB_iff.1 h1
  obtain ⟨n, rfl⟩ : ∃ n : Nat, g = n := ⟨g.toNat, by omega⟩
  by_cases h2 : zs.length ≤ 12
  · have HE : Hid (okS (n : Int) zs = zs.all fun z => inB z 0 (topS n)) := Lib.hid (by unfold okS; rw [h1, decide_eq_true h2]; rfl)
    rw [HE.out]
    clear HE
    have h12 : ¬ (12 : Int) < (zs.length : Int) := by omega
    go_enter Try.func109, Try.ntmps109
    go_wp2_with (first | (go_at_call 47; refine (within_any _ _ _ _).mono ?_; rw [h1]; rintro e w' ⟨rfl, rfl⟩) | (go_at_call 136; refine (hasSys_any n w.heap.size ad cap zs _ (by omega) (hz.keep (B := _) (by go_grown) (Nat.le_refl _)) (by simp)).mono ?_; rintro e w' ⟨rfl, rfl⟩))
    go_ret
    exact ⟨ret_bool (by rw [not_anyX]; cases (zs.all fun z => inB z 0 (topS n)) <;> rfl), by go_grown⟩
  · have h12 : (12 : Int) < (zs.length : Int) := by omega
    rw [show okS (n : Int) zs = false from by unfold okS; rw [h1, decide_eq_false h2]; rfl]
    go_enter Try.func109, Try.ntmps109
    go_wp2_with (go_at_call 47; refine (within_any _ _ _ _).mono ?_; rw [h1]; rintro e w' ⟨rfl, rfl⟩)
    go_ret
    exact ⟨rfl, by go_grown⟩
/-- The model's look at a system behind a pointer. -/
theorem l10Is_any (B : Nat) (g : Int) (ad : Option Addr) (cap : Nat) (zs : List Int) (w : World) (hz : Ints w ad zs)
    (c0 : w.cell? ⟨B, 0, none⟩ = some (.int .i64 g)) (c1 : w.cell? ⟨B, 1, none⟩ = some (.slice ad zs.length cap)) :
    Calls Try.prog 105 #[.pointer (some ⟨B, 0, none⟩)] w fun e w' => e = .returned (.bool (okS g zs)) ∧ Keep w w' := by
  have hlen := hz.small
  have hB := block_lt_of_cell c0
  cases h1 : inB g 0 12
  · rw [show okS g zs = false from by unfold okS; rw [h1]; rfl]
    go_enter Try.func105, Try.ntmps105
    go_wp2_with (go_at_call 45; refine (l00In_any _ _ _ _).mono ?_; rw [h1]; rintro e w' ⟨rfl, rfl⟩)
    go_ret
    exact ⟨rfl, Below.refl _ _⟩
  have hg := inB_iff.1 h1
  obtain ⟨n, rfl⟩ : ∃ n : Nat, g = n := ⟨g.toNat, by omega⟩
  have hn : n ≤ 12 := by omega
  by_cases h2 : zs.length ≤ 12
  · have HE : Hid (okS (n : Int) zs = zs.all fun z => inB z 0 (topS n)) := Lib.hid (by unfold okS; rw [h1, decide_eq_true h2]; rfl)
    rw [HE.out]
    clear HE
    have h12 : ¬ (12 : Int) < (zs.length : Int) := by omega
    obtain ⟨V, hV⟩ : ∃ V, V = zs.all fun z => inB z 0 (topS n) := ⟨_, rfl⟩
    rw [← hV]
    have HV := Lib.hid hV; clear hV
    go_enter Try.func105, Try.ntmps105
    go_wp2_with (go_at_call 45; refine (l00In_any _ _ _ _).mono ?_; rw [h1]; rintro e w' ⟨rfl, rfl⟩)
    go_loopw [3] (fun i wr => ∃ k : Nat, k ≤ zs.length ∧ i = .int .i64 k ∧ Hid ((zs.take k).any (fun z => !inB z 0 (topS n)) = false) ∧ Hid (Keep w wr)) (fun i _ => zs.length - (intOf i).toNat)
    case atStart => exact ⟨0, Nat.zero_le _, rfl, Lib.hid (by simp), Lib.hid (Below.refl _ _)⟩
    case round =>
      obtain ⟨k, hk, rfl, HA, HK⟩ := hrel
      have d0 := (HK.out.cell (p := ⟨B, 0, none⟩) hB).trans c0
      have d1 := (HK.out.cell (p := ⟨B, 1, none⟩) hB).trans c1
      by_cases hlt : k < zs.length
      · rcases (hz.keep HK.out (Nat.le_refl _)).at_ with h | ⟨b, off, rfl, hb, hc⟩
        · subst h; simp at hlt
        have hcx := hc k hlt
        have HS := Lib.hid (any_takeX (fun z => !inB z 0 (topS n)) zs k 0 hlt)
        have HN := Lib.hid (fun h => any_noX (p := fun z => !inB z 0 (topS n)) (0 : Int) hlt h)
        clear hc c0 c1
        generalize zs.getD k 0 = x at *
        cases hin : inB x 0 (topS n)
        · have HIN := Lib.hid (congrArg (fun b => Ending.returned (.bool b)) hin)
          go_wp2
          go_quiet ((go_at_call 135; exact Calls.quiet_of_same ((l10Set_any _ _ _ hn).mono fun _ _ h => ⟨h.1.trans HIN.out, h.2.symm⟩)))
          go_wp2
          go_ret
          refine ⟨ret_bool ?_, below_drewN HK.out _⟩
          have h3 := HN.out (by rw [hin]; rfl)
          rw [not_anyX] at h3
          rw [HV.out]; revert h3; cases (zs.all fun z => inB z 0 (topS n)) <;> simp
        · have HIN := Lib.hid (congrArg (fun b => Ending.returned (.bool b)) hin)
          go_wp2
          go_quiet ((go_at_call 135; exact Calls.quiet_of_same ((l10Set_any _ _ _ hn).mono fun _ _ h => ⟨h.1.trans HIN.out, h.2.symm⟩)))
          go_wp2
          go_roundw
          case rel => exact ⟨k + 1, by omega, by go_num, Lib.hid (by rw [HS.out, HA.out, hin]; rfl), Lib.hid (below_drewN HK.out _)⟩
          case measure => simp [intOf]; omega
      · have HE := Lib.hid (show k = zs.length by omega)
        go_wp2
        go_ret
        have h := HA.out
        rw [HE.out, List.take_length, not_anyX] at h
        exact ⟨ret_bool (by rw [HV.out]; revert h; cases (zs.all fun z => inB z 0 (topS n)) <;> simp), HK.out⟩
  · have h12 : (12 : Int) < (zs.length : Int) := by omega
    rw [show okS (n : Int) zs = false from by unfold okS; rw [h1, decide_eq_false h2]; rfl]
    go_enter Try.func105, Try.ntmps105
    go_wp2_with (go_at_call 45; refine (l00In_any _ _ _ _).mono ?_; rw [h1]; rintro e w' ⟨rfl, rfl⟩)
    go_ret
    exact ⟨rfl, Below.refl _ _⟩
end Go.Proofs.Ytpdcmhnaedhkdaa
