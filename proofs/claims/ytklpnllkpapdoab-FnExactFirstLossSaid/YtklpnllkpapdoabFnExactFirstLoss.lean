/- FirstLoss answers as its model, at every slice of int64; it writes nothing of its argument. -/
import Derived.Test.YtklpnllkpapdoabRemSpec
import Derived.Test.YtklpnllkpapdoabLoss
import Derived.Deep.RegionHeld3
namespace Go.Proofs.Ytklpnllkpapdoab.fnExactFirstLoss
open Go.ChangeShapes Go.WideShapes Go.ChangeAt Go.RowKit
open Go.ChangeMaps (open_string shut_string)
set_option linter.unusedVariables false
set_option maxHeartbeats 6400000 in
theorem specFirstLoss_any (ad : Option Addr) (cap : Nat) (zs : List Int) (w : World) (hz : Ints w ad zs) :
    Calls Try.prog 17 #[.slice ad zs.length cap] w fun e w' => e = .returned (.tuple #[.int .i64 (flT zs).1, .int .i64 (flT zs).2.1, .bool (flT zs).2.2]) ∧ Keep w w' := by
  cases h1 : okVotes zs
  · have HF : Hid (FL zs 0 0 false) := Lib.hid (.inl ⟨h1, rfl, rfl, rfl⟩)
    go_enter Try.func17, Try.ntmps17
    go_wp2_with (go_at_call 19; refine (l02Is_any ad cap zs w hz).mono ?_; rw [h1]; rintro e w' ⟨rfl, rfl⟩)
    go_ret3
    exact ⟨HF.out.ret, by go_grown⟩
  · have hl := okVotes_len h1
    have HQ : Hid (∀ s : Int, 0 ≤ s → s ≤ 100 → ∀ W, Ints W ad zs → Calls Try.prog 27 #[.slice ad zs.length cap, .int .i64 s] W fun e w' =>
      ∃ rd rc, e = .returned (.slice rd zs.length rc) ∧ Own w' W.heap.size rd rc (remS s zs) ∧ Keep W w') := Lib.hid (fun s s1 s2 W h => by
      obtain ⟨hL1, hL2⟩ := leftN_eq (s := s) h1
      have := l02Remainders_any ad cap zs s W h h1 s1 s2 hL1 hL2 (fun m i hi => remTo_bd h1 s1 s2 m i hi)
      rw [remS_len] at this
      exact this)
    have HLN := Lib.hid (fun s => remS_len s zs)
    have HFY : Hid (∀ k i : Nat, k < 100 → i < zs.length → lossAt zs k i → (∀ k' i', k' < k → i' < zs.length → ¬ lossAt zs k' i') → (∀ i', i' < i → ¬ lossAt zs k i') → FL zs k i true) := Lib.hid (fun k i hk hi h2 h3 h4 => .inr (.inr ⟨h1, rfl, k, i, rfl, rfl, hk, hi, h2, h3, h4⟩))
    have HFN : Hid ((∀ k i, k < 100 → i < zs.length → ¬ lossAt zs k i) → FL zs 0 0 false) := Lib.hid (fun h => .inr (.inl ⟨h1, rfl, rfl, rfl, h⟩))
    have H1 := Lib.hid h1; clear h1
    have H0 := Lib.hid (HQ.out 0 (by omega) (by omega) w hz)
    go_enter Try.func17, Try.ntmps17
    go_wp2_with (go_at_call 19; refine (l02Is_any ad cap zs w hz).mono ?_; rw [H1.out]; rintro e w' ⟨rfl, rfl⟩)
    refine H0.out.mono ?_
    rintro e w0 ⟨rd0, rc0, rfl, o0, k0⟩
    have HO0 := Lib.hid o0; have HK0 := Lib.hid k0; clear o0 k0 H0
    go_wp2
    go_loopg [5, 6] 100 (fun kk now i wr => ∃ (k : Nat) (rd : Option Addr) (rc : Nat), k ≤ 100 ∧ kk = 100 - k ∧ i = .int .i64 k ∧ now = .slice rd zs.length rc ∧ Hid (∀ k' i', k' < k → i' < zs.length → ¬ lossAt zs k' i') ∧ Hid (Own wr w.heap.size rd rc (remS (k : Int) zs)) ∧ Keep w wr)
    case atStart => exact ⟨0, rd0, rc0, Nat.zero_le _, rfl, rfl, rfl, Lib.hid (fun k' i' h => by omega), HO0, HK0.out⟩
    case round =>
      obtain ⟨k, rd, rc, hk, rfl, rfl, rfl, HNO, HOW, hbel⟩ := hrel
      by_cases hlt : k < 100
      · have HB := Lib.hid hbel; clear hbel
        go_wp2_with fail
        refine (HQ.out ((k : Int) + 1) (by omega) (by omega) _ (hz.keep HB.out (Nat.le_refl _))).mono ?_
        rintro e w2 ⟨rd2, rc2, rfl, o2, k2⟩
        have HB2 := Lib.hid (Keep.next HB.out k2)
        have i1 := (HOW.out.keep k2).ints
        have i2 := o2.ints
        have HO2 : Hid (Own w2 w.heap.size rd2 rc2 (remS (((k + 1 : Nat)) : Int) zs)) := Lib.hid (o2.mono HB.out.size)
        clear o2 k2
        generalize hw9 : wr = w9 at *
        clear hw9
        have hLD : ∀ i, lossAt zs k i ↔ (remS ((k : Int) + 1) zs).getD i 0 < (remS (k : Int) zs).getD i 0 := fun i => Iff.rfl
        have HLD := Lib.hid hLD; clear hLD
        have hl1 := HLN.out (k : Int)
        have hl2 := HLN.out ((k : Int) + 1)
        generalize remS ((k : Int) + 1) zs = nx at HLD i2 hl2
        have HL1 := Lib.hid hl1; have HL2 := Lib.hid hl2; clear hl1 hl2
        generalize hnw : remS (k : Int) zs = nw at HLD i1 HL1
        clear hnw
        go_wp2
        go_loopg [8] zs.length (fun kk i wi => ∃ j : Nat, j ≤ zs.length ∧ kk = zs.length - j ∧ i = .int .i64 j ∧ Hid (∀ i', i' < j → ¬ lossAt zs k i') ∧ Keep w2 wi)
        case atStart => exact ⟨0, Nat.zero_le _, rfl, rfl, Lib.hid (fun i' h => by omega), Below.refl _ _⟩
        case round =>
          obtain ⟨j, hj, rfl, rfl, HNJ, hkw⟩ := hrel
          have HKW := Lib.hid hkw
          by_cases hjn : j < zs.length
          · rcases i1.at_ with h | ⟨b1, off1, rfl, hb1, hc1⟩
            · have := HL1.out; rw [h] at this; simp at this; omega
            rcases i2.at_ with h | ⟨b2, off2, rfl, hb2, hc2⟩
            · have := HL2.out; rw [h] at this; simp at this; omega
            have hcx := (hkw.cell (p := ⟨b1, off1 + j, none⟩) (by exact hb1)).trans (hc1 j (by rw [HL1.out]; exact hjn))
            have hcy := (hkw.cell (p := ⟨b2, off2 + j, none⟩) (by exact hb2)).trans (hc2 j (by rw [HL2.out]; exact hjn))
            have HLJ := Lib.hid (HLD.out j)
            clear hc1 hc2 hkw
            generalize nw.getD j 0 = x at hcx HLJ
            generalize nx.getD j 0 = y at hcy HLJ
            by_cases hxy : y < x
            · have HY := Lib.hid (HFY.out k j hlt hjn (HLJ.out.2 hxy) HNO.out HNJ.out)
              go_wp2
              go_quiet (fail)
              go_wp2
              go_ret3
              exact ⟨HY.out.ret, below_drewN (Keep.next HB2.out HKW.out) _⟩
            · have HNX := Lib.hid (fun hh => hxy (HLJ.out.1 hh))
              go_wp2
              go_quiet (fail)
              go_wp2
              go_roundg (zs.length - (j + 1))
              case measure => omega
              case rel =>
                refine ⟨j + 1, by omega, rfl, by go_num, Lib.hid (fun i' hi' => ?_), below_drewN HKW.out _⟩
                rcases Nat.lt_or_eq_of_le (Nat.le_of_lt_succ hi') with h | h
                · exact HNJ.out i' h
                · subst h; exact HNX.out
          · have hje : j = zs.length := by omega
            subst hje
            clear hkw
            go_wp2
            go_roundg (100 - (k + 1))
            case measure => omega
            case rel =>
              refine ⟨k + 1, rd2, rc2, by omega, rfl, by go_num, rfl, Lib.hid (fun k' i' hk' hi' => ?_), Lib.hid (HO2.out.keep HKW.out), Keep.next HB2.out HKW.out⟩
              rcases Nat.lt_or_eq_of_le (Nat.le_of_lt_succ hk') with h | h
              · exact HNO.out k' i' h hi'
              · subst h; exact HNJ.out i' hi'
      · have hke : k = 100 := by omega
        subst hke
        have HN := Lib.hid (HFN.out (fun k' i' h1 h2 => HNO.out k' i' h1 h2))
        have HB := Lib.hid hbel; clear hbel
        go_wp2
        go_ret3
        exact ⟨HN.out.ret, HB.out⟩
set_option maxHeartbeats 1600000 in
set_option maxRecDepth 100000 in
theorem walk (w : World) (a0 : Option Addr) (cap0 : Nat) (z0 : List Int) (af0 : Ints w a0 z0) :
    Calls Try.prog 6 #[.slice a0 z0.length cap0] w fun e w' => e = .returned (.bool true) ∧ Below w.heap.size w w' := by
  have K0 : Keep w w := Below.refl _ _
  have len0_ := af0.small
  by_cases big0_ : (1048576 : Int) < (z0.length : Int)
  · -- too long: nothing is asked
    go_enter Try.func6, Try.ntmps6
    go_wp2
    go_ret
    exact ⟨rfl, Keep.next K0 (by go_grown)⟩
  have fit0_ : 0 ≤ (1048576 : Int) - (z0.length : Int) := by omega
  clear big0_
  obtain ⟨r0, r1, r2, H1, H2⟩ : ∃ (r0 : Int) (r1 : Int) (r2 : Bool), Hid (∀ (W : World) (p0 : Option Addr) (c0 : Nat), Ints W p0 z0 → Calls Try.prog 17 #[.slice p0 z0.length c0] W fun e w' => e = .returned (.tuple #[.int .i64 r0, .int .i64 r1, .bool r2]) ∧ Keep W w') ∧ Hid (∀ (W : World) (p0 : Option Addr) (c0 : Nat), Ints W p0 z0 → Calls Try.prog 18 #[.slice p0 z0.length c0] W fun e w' => e = .returned (.tuple #[.int .i64 r0, .int .i64 r1, .bool r2]) ∧ Keep W w') :=
    ⟨_, _, _, Lib.hid (fun W p0 c0 h0 => specFirstLoss_any p0 c0 z0 W h0), Lib.hid (fun W p0 c0 h0 => FirstLoss_any p0 c0 z0 W h0)⟩
  go_enter Try.func6, Try.ntmps6
  go_wp2_with fail
  refine (toInt64S_ex a0 cap0 z0 _ ((af0.keep K0 (Nat.le_refl _)).keep (B := _) (by go_grown) (Nat.le_refl _)) (by omega)).mono ?_
  rintro e w1 ⟨t0b, rfl, t0o, k1⟩
  have t0 : Mine w1 (w.heap.size) w1.heap.size _ _ _ := Mine.new (by go_size) t0o
  clear t0o
  have g1_ : Keep w w1 := Keep.next (by go_grown) k1
  have K1 := Keep.next K0 g1_
  have s1_ := g1_.size
  go_wp2_with fail
  refine (H1.out _ (some ⟨t0b, 0, none⟩) z0.length (t0.keep (by go_grown)).ints).mono ?_
  rintro e w2 ⟨rfl, k2⟩
  have g2_ : Keep w1 w2 := Keep.next (by go_grown) k2
  have K2 := Keep.next K1 g2_
  have s2_ := g2_.size
  replace t0 := t0.keep g2_
  go_wp2_with fail
  refine (toInt64S_ex a0 cap0 z0 _ ((af0.keep K2 (Nat.le_refl _)).keep (B := _) (by go_grown) (Nat.le_refl _)) (by omega)).mono ?_
  rintro e w3 ⟨x0b, rfl, x0o, k3⟩
  have x0 : Mine w3 (w2.heap.size) w3.heap.size _ _ _ := Mine.new (by go_size) x0o
  clear x0o
  have g3_ : Keep w2 w3 := Keep.next (by go_grown) k3
  have K3 := Keep.next K2 g3_
  have s3_ := g3_.size
  replace t0 := t0.keep g3_
  go_wp2_with fail
  refine (H2.out _ (some ⟨x0b, 0, none⟩) z0.length (x0.keep (by go_grown)).ints).mono ?_
  rintro e w4 ⟨rfl, k4⟩
  have g4_ : Keep w3 w4 := Keep.next (by go_grown) k4
  have K4 := Keep.next K3 g4_
  have s4_ := g4_.size
  replace t0 := t0.keep g4_
  replace x0 := x0.keep g4_
  go_wp2_with fail
  refine (toInt64S_ex a0 cap0 z0 _ ((af0.keep K4 (Nat.le_refl _)).keep (B := _) (by go_grown) (Nat.le_refl _)) (by omega)).mono ?_
  rintro e w5 ⟨y0b, rfl, y0o, k5⟩
  have y0 : Mine w5 (w4.heap.size) w5.heap.size _ _ _ := Mine.new (by go_size) y0o
  clear y0o
  have g5_ : Keep w4 w5 := Keep.next (by go_grown) k5
  have K5 := Keep.next K4 g5_
  have s5_ := g5_.size
  replace t0 := t0.keep g5_
  replace x0 := x0.keep g5_
  go_wp2_with fail
  refine (eqInt64S_same _ _ _ _ z0 _ (x0.keep (by go_grown)).ints (y0.keep (by go_grown)).ints).mono ?_
  rintro e w6 ⟨rfl, k6⟩
  have g6_ : Keep w5 w6 := Keep.next (by go_grown) k6
  have K6 := Keep.next K5 g6_
  have s6_ := g6_.size
  replace t0 := t0.keep g6_
  replace x0 := x0.keep g6_
  replace y0 := y0.keep g6_
  go_wp2
  go_ret
  exact ⟨rfl, Keep.next K6 (by go_grown)⟩


theorem own : ownKnob Try.prog.godebug = none := by kernel_rfl
theorem laidOut : laidOutB Try.prog = true := by kernel_rfl
set_option maxRecDepth 100000 in
theorem lifted (os : Os) (started : os.Started) (H : Type) (enc : TypeId × Value → H) :
    ReturnsInHanded {} Try.checked os 6 .any (Rows.fnExactFirstLossSpec.pre6 enc Try.prog Try.f6 Rows.fnExactFirstLossRow.domain false) (Rows.fnExactFirstLossSpec.post enc Try.prog Try.f6 false true false false) := by
  refine returnsInHanded_of_change (C := Try.checked) own started (by kernel_rfl) Try.func6
    (ChangeSpec.witness6 (enc := enc) (C := Try.checked) false ⟨#[], #[.slice none 0 0], []⟩ 8 (by kernel_rfl) (by kernel_rfl) (by kernel_rfl) (by kernel_rfl)) ?_
  intro W base args ds gs before hval0 hW hcnd _
  have hval : ∀ (j : Nat) t v, Try.f6.params[j]? = some t → args[j]? = some v → Value.okWide Try.prog W .any base t v := hval0
  have hW' := hW
  obtain ⟨p, q, hA0, hV, rfl, hfz, hnd⟩ := hW
  have hA : DataW.TrodAll enc Try.prog W 0 (fun _ => true) true Try.f6.params.toList args.toList ds p := hA0
  rw [Try.params6] at hA hval
  obtain ⟨v0, vs0, d0, ds0, p0, q0, hargs, rfl, rfl, h0, r0⟩ := trodAll_cons hA
  obtain ⟨rfl, rfl, rfl⟩ := trodAll_nil r0
  obtain rfl : args = #[v0] := by cases args; simp_all
  obtain ⟨rfl, rfl⟩ := trodVars_none hV
  have k0 := h0
  have lt0 : ∀ x ∈ p0, x.block < W.heap.size := by obtain ⟨m, hm⟩ := k0; exact DataW.trod_lt m _ _ _ hm
  obtain ⟨a0, len0, cap0, rfl⟩ := okWide_slice Try.underlying22 (hval 0 22 v0 rfl rfl)
  obtain ⟨z0, e0, w0⟩ := ints_open Try.underlying22 Try.underlying2 (by kernel_rfl) h0
  subst e0
  clear hA0 hval0
  refine (walk W a0 cap0 z0 w0).mono fun e W' ⟨he, bel⟩ => ?_
  subst he
  exact ⟨_, rfl, _, _, _, [], _, [], hW', trodAll_mk1 (shut_bool Try.underlying4 _), (trodAll_cons_mk (Below.trod laidOut (by kernel_rfl) (of_decide_eq_true (by kernel_rfl)) k0 bel lt0) trodAll_mk0), rfl, bel.frame _, fun h => by cases h⟩
theorem over : Rows.fnExactFirstLossRow.holds Try.pinned (OpenSpec.ofChange Rows.fnExactFirstLossSpec) :=
  OpenClaim.holds_of_wide 6 Try.f6 rfl rfl rfl rfl rfl rfl rfl ⟨rfl, rfl, rfl, rfl, rfl⟩ rfl rfl rfl rfl rfl (by kernel_rfl) Try.func6 (by kernel_rfl)
    (of_decide_eq_true (by kernel_rfl)) (by unfold Func.isWrapper; first | (rw [if_pos (by decide +kernel)]; kernel_rfl) | (rw [if_neg (by decide +kernel)]; exact ⟨rfl, rfl⟩))
    (fun os started H enc _ => lifted os started H enc)
/-- THE STATEMENT. -/
theorem proved : Rows.FnExactFirstLossSaid := over
end Go.Proofs.Ytklpnllkpapdoab.fnExactFirstLoss
