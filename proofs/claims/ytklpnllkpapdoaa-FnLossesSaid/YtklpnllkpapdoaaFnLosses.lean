/- FnLosses: where a party loses first by one seat more, it has fewer seats, and with fewer seats no party loses one: at all bytes. -/
import Derived.Test.YtklpnllkpapdoaaLoss
import Derived.Test.YtklpnllkpapdoaaDraw8
namespace Go.Proofs.Ytklpnllkpapdoaa.fnLosses
open Go.ChangeShapes Go.WideShapes Go.ChangeAt Go.RowKit
set_option linter.unusedVariables false

set_option maxHeartbeats 6400000 in
set_option maxRecDepth 100000 in
theorem walk (w : World) (a0 : Option Addr) (cap0 : Nat) (z0 : List Int) (w0 : Bytes w a0 z0) (a1 : Option Addr) (cap1 : Nat) (z1 : List Int) (w1 : Bytes w a1 z1) :
    Calls Try.prog 3 #[.slice a0 z0.length cap0, .slice a1 z1.length cap1] w fun e w' => e = .returned (.bool true) ∧ Below w.heap.size w w' := by
  have s0 := w0.small
  have s1 := w1.small
  cases hl : (decide (48 < z0.length) || decide (48 < z1.length))
  case true =>
    go_enter Try.func3, Try.ntmps3
    go_wp2_with fail
    refine (r8Long_any a0 a1 cap0 cap1 _ _ _ s0 s1).mono ?_
    rw [hl]
    rintro e w' ⟨rfl, rfl⟩
    go_wp2
    go_ret
    exact ⟨rfl, Below.refl _ _⟩
  have HL := Lib.hid hl; clear hl
  go_enter Try.func3, Try.ntmps3
  go_wp2_with fail
  refine (r8Long_any a0 a1 cap0 cap1 _ _ _ s0 s1).mono ?_
  rw [HL.out]
  rintro e w' ⟨rfl, rfl⟩
  go_wp2_with fail
  refine (R8Votes_any a0 cap0 z0 w w0).mono ?_
  rintro e w2 ⟨vs, rd, rc, rfl, o2, hok, k2⟩
  have hl12 := okVotes_len hok
  have i2 := o2.ints
  have HOK := Lib.hid hok; have HO2 := Lib.hid o2; have K2 := Lib.hid k2
  clear hok o2 k2
  go_wp2_with fail
  refine (FirstLoss_fl rd rc vs w2 i2).mono ?_
  rintro e w3 ⟨ka, kb, one, rfl, hfl, k3⟩
  have K3 := Lib.hid (Keep.next K2.out k3)
  have I3 := Lib.hid (i2.keep k3 (Nat.le_refl _))
  have HFL := Lib.hid hfl
  clear i2 hfl k3
  go_wp2_with fail
  refine (r8At_any a1 cap1 z1 0 100 w3 (w1.keep K3.out (Nat.le_refl _)) (by omega) (by omega) (by omega) (by omega)).mono ?_
  rintro e w' ⟨at_, at0, at1, rfl, rfl⟩
  obtain ⟨m, rfl⟩ : ∃ m : Nat, at_ = m := ⟨at_.toNat, by omega⟩
  go_wp2_with fail
  refine (RemainderSeats_ok rd rc vs (m : Int) w3 I3.out HOK.out (by omega) (by omega)).mono ?_
  rintro e w4 ⟨xd, xc, rfl, ox, k4⟩
  have I4 := Lib.hid (I3.out.keep k4 (Nat.le_refl _))
  have K4 := Lib.hid (Keep.next K3.out k4)
  have HX4 := Lib.hid ox; clear ox k4
  go_wp2_with fail
  refine (RemainderSeats_ok rd rc vs ((m : Int) + 1) w4 I4.out HOK.out (by omega) (by omega)).mono ?_
  rintro e w5 ⟨yd, yc, rfl, oy, k5⟩
  have I5 := Lib.hid (I4.out.keep k5 (Nat.le_refl _))
  have K5 := Lib.hid (Keep.next K4.out k5)
  have ix := (HX4.out.keep k5).ints
  have iy := oy.ints
  clear oy k5 HX4
  have HLD : Hid (∀ i, lossAt vs m i ↔ (remS ((m : Int) + 1) vs).getD i 0 < (remS (m : Int) vs).getD i 0) := Lib.hid (fun i => Iff.rfl)
  have HL1 := Lib.hid (remS_len (m : Int) vs)
  have HL2 := Lib.hid (remS_len ((m : Int) + 1) vs)
  generalize remS ((m : Int) + 1) vs = nx at HLD iy HL2
  generalize remS (m : Int) vs = nw at HLD ix HL1
  rcases HFL.out with ⟨h0, _⟩ | ⟨_, rfl, rfl, rfl, hno⟩ | ⟨_, rfl, k, i, rfl, rfl, hk, hi, hloss, hnol, hnoi⟩
  · rw [HOK.out] at h0; cases h0
  · have HNO := Lib.hid hno; clear hno HFL
    go_wp2
    go_loopg [14] vs.length (fun kk i wr => ∃ j : Nat, j ≤ vs.length ∧ kk = vs.length - j ∧ i = .int .i64 j ∧ Keep w5 wr)
    case atStart => exact ⟨0, Nat.zero_le _, rfl, rfl, Below.refl _ _⟩
    case round =>
      obtain ⟨j, hj, rfl, rfl, hkw⟩ := hrel
      have HKW := Lib.hid hkw
      by_cases hjn : j < vs.length
      · rcases ix.at_ with h | ⟨b1, off1, rfl, hb1, hc1⟩
        · have := HL1.out; rw [h] at this; simp at this; omega
        rcases iy.at_ with h | ⟨b2, off2, rfl, hb2, hc2⟩
        · have := HL2.out; rw [h] at this; simp at this; omega
        have hcx := (hkw.cell (p := ⟨b1, off1 + j, none⟩) (by exact hb1)).trans (hc1 j (by rw [HL1.out]; exact hjn))
        have hcy := (hkw.cell (p := ⟨b2, off2 + j, none⟩) (by exact hb2)).trans (hc2 j (by rw [HL2.out]; exact hjn))
        have hnl : ¬ nx.getD j 0 < nw.getD j 0 := fun h => HNO.out m j (by omega) hjn ((HLD.out j).2 h)
        clear hc1 hc2 hkw
        generalize nw.getD j 0 = x at hcx hnl
        generalize nx.getD j 0 = y at hcy hnl
        have hd : decide (y < x) = false := decide_eq_false hnl
        go_wp2
        go_quiet (fail)
        go_wp2
        go_roundg (vs.length - (j + 1))
        case measure => omega
        case rel => exact ⟨j + 1, by omega, rfl, by go_num, below_drewN HKW.out _⟩
      · have HK6 := Lib.hid (Keep.next K5.out hkw)
        clear hkw
        go_wp2
        go_ret
        exact ⟨rfl, HK6.out⟩
  · have HLS := Lib.hid hloss; have HNL := Lib.hid hnol; clear hloss hnol hnoi HFL
    have hmk : ∀ j, j < vs.length → lossAt vs m j → k ≤ m := fun j hj h => by
      rcases Nat.lt_or_ge m k with h2 | h2
      · exact absurd h (HNL.out m j h2 hj)
      · exact h2
    have HMK := Lib.hid hmk; clear hmk
    have e1 : decide ((i : Int) < 0) = false := decide_eq_false (by omega)
    have e2 : decide (vs.length ≤ i) = false := decide_eq_false (by omega)
    have e3 : decide ((k : Int) < 0) = false := decide_eq_false (by omega)
    have e4 : decide ((100 : Int) ≤ (k : Int)) = false := decide_eq_false (by omega)
    go_wp2
    go_loopg [14] vs.length (fun kk i wr => ∃ j : Nat, j ≤ vs.length ∧ kk = vs.length - j ∧ i = .int .i64 j ∧ Keep w5 wr)
    case atStart => exact ⟨0, Nat.zero_le _, rfl, rfl, Below.refl _ _⟩
    case round =>
      obtain ⟨j, hj, rfl, rfl, hkw⟩ := hrel
      have HKW := Lib.hid hkw
      by_cases hjn : j < vs.length
      · rcases ix.at_ with h | ⟨b1, off1, rfl, hb1, hc1⟩
        · have := HL1.out; rw [h] at this; simp at this; omega
        rcases iy.at_ with h | ⟨b2, off2, rfl, hb2, hc2⟩
        · have := HL2.out; rw [h] at this; simp at this; omega
        have hcx := (hkw.cell (p := ⟨b1, off1 + j, none⟩) (by exact hb1)).trans (hc1 j (by rw [HL1.out]; exact hjn))
        have hcy := (hkw.cell (p := ⟨b2, off2 + j, none⟩) (by exact hb2)).trans (hc2 j (by rw [HL2.out]; exact hjn))
        have hkm : nx.getD j 0 < nw.getD j 0 → k ≤ m := fun h => HMK.out j hjn ((HLD.out j).2 h)
        clear hc1 hc2 hkw
        generalize nw.getD j 0 = x at hcx hkm
        generalize nx.getD j 0 = y at hcy hkm
        by_cases hxy : y < x
        · have hkm2 := hkm hxy
          have hkm3 : ¬ (m : Int) < k := by omega
          have hd : decide (y < x) = true := decide_eq_true hxy
          have hd2 : decide (m < k) = false := decide_eq_false (by omega)
          clear hkm
          go_wp2
          go_quiet (fail)
          go_wp2
          go_roundg (vs.length - (j + 1))
          case measure => omega
          case rel => exact ⟨j + 1, by omega, rfl, by go_num, below_drewN HKW.out _⟩
        · have hd : decide (y < x) = false := decide_eq_false hxy
          clear hkm
          go_wp2
          go_quiet (fail)
          go_wp2
          go_roundg (vs.length - (j + 1))
          case measure => omega
          case rel => exact ⟨j + 1, by omega, rfl, by go_num, below_drewN HKW.out _⟩
      · have HK6 := Lib.hid (Keep.next K5.out hkw)
        have I6 := Lib.hid (I5.out.keep hkw (Nat.le_refl _))
        clear hkw
        go_wp2_with fail
        refine (RemainderSeats_ok rd rc vs (k : Int) _ I6.out HOK.out (by omega) (by omega)).mono ?_
        rintro e w7 ⟨pd, pc, rfl, op, k7⟩
        have I7 := Lib.hid (I6.out.keep k7 (Nat.le_refl _))
        have K7 := Lib.hid (Keep.next HK6.out k7)
        have HP7 := Lib.hid op; clear op k7
        go_wp2_with fail
        refine (RemainderSeats_ok rd rc vs ((k : Int) + 1) _ I7.out HOK.out (by omega) (by omega)).mono ?_
        rintro e w8 ⟨qd, qc, rfl, oq, k8⟩
        have K8 := Lib.hid (Keep.next K7.out k8)
        have ip := (HP7.out.keep k8).ints
        have iq := oq.ints
        clear oq k8 HP7
        have hlk : (remS ((k : Int) + 1) vs).getD i 0 < (remS (k : Int) vs).getD i 0 := HLS.out
        have HM1 := Lib.hid (remS_len (k : Int) vs)
        have HM2 := Lib.hid (remS_len ((k : Int) + 1) vs)
        generalize remS ((k : Int) + 1) vs = mx at hlk iq HM2
        generalize remS (k : Int) vs = mw at hlk ip HM1
        rcases ip.at_ with h | ⟨b1, off1, rfl, hb1, hc1⟩
        · have := HM1.out; rw [h] at this; simp at this; omega
        rcases iq.at_ with h | ⟨b2, off2, rfl, hb2, hc2⟩
        · have := HM2.out; rw [h] at this; simp at this; omega
        have hcx := hc1 i (by rw [HM1.out]; exact hi)
        have hcy := hc2 i (by rw [HM2.out]; exact hi)
        clear hc1 hc2
        generalize mw.getD i 0 = x at hcx hlk
        generalize mx.getD i 0 = y at hcy hlk
        go_wp2
        go_quiet (fail)
        go_wp2
        go_ret
        exact ⟨rfl, below_drewN K8.out _⟩

theorem own : ownKnob Try.prog.godebug = none := by kernel_rfl
theorem laidOut : laidOutB Try.prog = true := by kernel_rfl
set_option maxRecDepth 100000 in
theorem lifted (os : Os) (started : os.Started) (H : Type) (enc : TypeId × Value → H) :
    ReturnsInHanded {} Try.checked os 3 .any (Rows.fnLossesSpec.pre6 enc Try.prog Try.f3 Rows.fnLossesRow.domain false) (Rows.fnLossesSpec.post enc Try.prog Try.f3 false true false false) := by
  refine returnsInHanded_of_change (C := Try.checked) own started (by kernel_rfl) Try.func3
    (ChangeSpec.witness6 (enc := enc) (C := Try.checked) false ⟨#[], #[.slice none 0 0, .slice none 0 0], []⟩ 8 (by kernel_rfl) (by kernel_rfl) (by kernel_rfl) (by kernel_rfl)) ?_
  intro W base args ds gs before hval0 hW hcnd _
  have hval : ∀ (j : Nat) t v, Try.f3.params[j]? = some t → args[j]? = some v → Value.okWide Try.prog W .any base t v := hval0
  have hW' := hW
  obtain ⟨p, q, hA0, hV, rfl, hfz, hnd⟩ := hW
  have hA : DataW.TrodAll enc Try.prog W 0 (fun _ => true) true Try.f3.params.toList args.toList ds p := hA0
  rw [Try.params3] at hA hval
  obtain ⟨v0, vs0, d0, ds0, p0, q0, hargs, rfl, rfl, h0, r0⟩ := trodAll_cons hA
  obtain ⟨v1, vs1, d1, ds1, p1, q1, rfl, rfl, rfl, h1, r1⟩ := trodAll_cons r0
  obtain ⟨rfl, rfl, rfl⟩ := trodAll_nil r1
  obtain rfl : args = #[v0, v1] := by cases args; simp_all
  obtain ⟨rfl, rfl⟩ := trodVars_none hV
  have k0 := h0
  have lt0 : ∀ x ∈ p0, x.block < W.heap.size := by obtain ⟨m, hm⟩ := k0; exact DataW.trod_lt m _ _ _ hm
  obtain ⟨a0, len0, cap0, rfl⟩ := okWide_slice Try.underlying22 (hval 0 22 v0 rfl rfl)
  obtain ⟨z0, e0, w0⟩ := bytes_open Try.underlying22 Try.underlying5 (by kernel_rfl) h0
  subst e0
  have k1 := h1
  have lt1 : ∀ x ∈ p1, x.block < W.heap.size := by obtain ⟨m, hm⟩ := k1; exact DataW.trod_lt m _ _ _ hm
  obtain ⟨a1, len1, cap1, rfl⟩ := okWide_slice Try.underlying22 (hval 1 22 v1 rfl rfl)
  obtain ⟨z1, e1, w1⟩ := bytes_open Try.underlying22 Try.underlying5 (by kernel_rfl) h1
  subst e1
  clear hA0 hval0
  refine (walk W a0 cap0 z0 w0 a1 cap1 z1 w1).mono fun e W' ⟨he, bel⟩ => ?_
  subst he
  exact ⟨_, rfl, _, _, _, [], _, [], hW', trodAll_mk1 (shut_bool Try.underlying4 _), (trodAll_cons_mk (Below.trod laidOut (by kernel_rfl) (of_decide_eq_true (by kernel_rfl)) k0 bel lt0) (trodAll_cons_mk (Below.trod laidOut (by kernel_rfl) (of_decide_eq_true (by kernel_rfl)) k1 bel lt1) trodAll_mk0)), rfl, bel.frame _, fun h => by cases h⟩
theorem over : Rows.fnLossesRow.holds Try.pinned (OpenSpec.ofChange Rows.fnLossesSpec) :=
  OpenClaim.holds_of_wide 3 Try.f3 rfl rfl rfl rfl rfl rfl rfl ⟨rfl, rfl, rfl, rfl, rfl⟩ rfl rfl rfl rfl rfl (by kernel_rfl) Try.func3 (by kernel_rfl)
    (of_decide_eq_true (by kernel_rfl)) (by unfold Func.isWrapper; first | (rw [if_pos (by decide +kernel)]; kernel_rfl) | (rw [if_neg (by decide +kernel)]; exact ⟨rfl, rfl⟩))
    (fun os started H enc _ => lifted os started H enc)
/-- THE STATEMENT. -/
theorem proved : Rows.FnLossesSaid := over
end Go.Proofs.Ytklpnllkpapdoaa.fnLosses
