/- FnConstant: the word of a fraction against running floors, its period, and the sums of its blocks: at all bytes. -/
import Derived.Test.YtlenmhefgpcmmaaConst
import Derived.Test.YtlenmhefgpcmmaaBten
import Derived.Test.YtlenmhefgpcmmaaMem
import Derived.Deep.RegionHeld3
import Derived.Deep.LoopGhost
namespace Go.Proofs.Ytlenmhefgpcmmaa.fnConstant
open Go.ChangeShapes Go.WideShapes Go.ChangeAt Go.RowKit
set_option linter.unusedVariables false
/-- A variable of two cells. -/
structure Pair (W : World) (b : Nat) (u0 u1 : Value) : Prop where
  c0 : W.cell? ⟨b, 0, none⟩ = some u0
  c1 : W.cell? ⟨b, 1, none⟩ = some u1
  f0 : W.frozen? ⟨b, 0, none⟩ = false
  f1 : W.frozen? ⟨b, 1, none⟩ = false
theorem Pair.keep {W W' : World} {b B : Nat} {u0 u1 : Value} (h : Pair W b u0 u1) (k : Below B W W') (hb : b < B) : Pair W' b u0 u1 :=
  ⟨(k.cell (p := ⟨b, 0, none⟩) hb).trans h.c0, (k.cell (p := ⟨b, 1, none⟩) hb).trans h.c1, (k.frozen (p := ⟨b, 0, none⟩) hb).trans h.f0, (k.frozen (p := ⟨b, 1, none⟩) hb).trans h.f1⟩
theorem Pair.lt {W : World} {b : Nat} {u0 u1 : Value} (h : Pair W b u0 u1) : b < W.heap.size := World.block_lt_of_cell? _ _ h.c0
theorem Pair.set1 {W : World} {b : Nat} {u0 u1 : Value} (h : Pair W b u0 u1) (v : Value) : Pair (W.setCell ⟨b, 1, none⟩ v) b u0 v :=
  ⟨by rw [World.cell?_setCell_other _ _ _ _ (by simp)]; exact h.c0, World.cell?_setCell_same _ _ _ h.c1, by simpa using h.f0, by simpa using h.f1⟩
set_option maxHeartbeats 3200000 in
set_option maxRecDepth 100000 in
theorem walk (w : World) (a0 : Option Addr) (cap0 : Nat) (z0 : List Int) (w0 : Bytes w a0 z0) (a1 : Option Addr) (cap1 : Nat) (z1 : List Int) (w1 : Bytes w a1 z1) :
    Calls Try.prog 3 #[.slice a0 z0.length cap0, .slice a1 z1.length cap1] w fun e w' => e = .returned (.bool true) ∧ Below w.heap.size w w' := by
  have s0 := w0.small
  have s1 := w1.small
  cases hl : (decide (1048576 < z0.length) || decide (1048576 < z1.length))
  case true =>
    go_enter Try.func3, Try.ntmps3
    go_wp2_with fail
    refine (b10Long_any a0 a1 cap0 cap1 _ _ _ s0 s1).mono ?_
    rw [hl]
    rintro e w' ⟨rfl, rfl⟩
    go_wp2
    go_ret
    exact ⟨rfl, Below.refl _ _⟩
  have HL := Lib.hid hl; clear hl
  have p1 := pickB_bd z0 0 12
  obtain ⟨d, hd⟩ : ∃ d : Nat, (d : Int) = 1 + pickB z0 0 12 := ⟨(1 + pickB z0 0 12).toNat, by omega⟩
  have p2 := pickB_bd z0 1 ((d : Int) + 1)
  obtain ⟨a, ha⟩ : ∃ a : Int, a = pickB z0 1 ((d : Int) + 1) := ⟨_, rfl⟩
  have p3 := pickB_bd z1 0 6
  obtain ⟨m, hm⟩ : ∃ m : Nat, (m : Int) = 1 + pickB z1 0 6 := ⟨(1 + pickB z1 0 6).toNat, by omega⟩
  have p4 := pickB_bd z1 1 6
  obtain ⟨q, hq⟩ : ∃ q : Nat, (q : Int) = 1 + pickB z1 1 6 := ⟨(1 + pickB z1 1 6).toNat, by omega⟩
  rw [← ha] at p2
  have d1 : 1 ≤ d ∧ d ≤ 12 := by omega
  have x1 : 0 ≤ a ∧ a ≤ d := by have := p2.2 (by omega); omega
  have m1 : 1 ≤ m ∧ m ≤ 6 := by omega
  have q1 : 1 ≤ q ∧ q ≤ 6 := by omega
  have HD := Lib.hid hd; have HA := Lib.hid ha; have HM := Lib.hid hm; have HQ := Lib.hid hq
  clear p1 p2 p3 p4 hd ha hm hq
  have n36 : m * q ≤ 36 := by have := Nat.mul_le_mul m1.2 q1.2; omega
  obtain ⟨n, hn⟩ : ∃ n : Nat, n = m * q := ⟨_, rfl⟩
  have HN : Hid ((m : Int) * (q : Int) = (n : Int)) := Lib.hid (by rw [hn]; simp)
  have HN2 : Hid (n = q * m) := Lib.hid (by rw [hn, Nat.mul_comm])
  have n1 : n ≤ 36 := by omega
  clear hn n36
  go_enter Try.func3, Try.ntmps3
  go_wp2_with fail
  refine (b10Long_any a0 a1 cap0 cap1 _ _ _ s0 s1).mono ?_
  rw [HL.out]
  rintro e w' ⟨rfl, rfl⟩
  go_wp2_with fail
  refine (b10At_any a0 cap0 z0 0 12 w w0 (by omega) (by omega) (by omega) (by omega)).mono ?_
  rintro e w' ⟨rfl, rfl⟩
  rw [show pickB z0 0 12 = (d : Int) - 1 from by have := HD.out; omega]
  go_wp2_with fail
  rw [show (1 : Int) + ((d : Int) - 1) = d from by omega]
  refine (b10At_any a0 cap0 z0 1 ((d : Int) + 1) w w0 (by omega) (by omega) (by omega) (by omega)).mono ?_
  rw [← HA.out]
  rintro e w' ⟨rfl, rfl⟩
  go_wp2_with fail
  refine (b10At_any a1 cap1 z1 0 6 w w1 (by omega) (by omega) (by omega) (by omega)).mono ?_
  rintro e w' ⟨rfl, rfl⟩
  rw [show pickB z1 0 6 = (m : Int) - 1 from by have := HM.out; omega]
  go_wp2_with fail
  rw [show (1 : Int) + ((m : Int) - 1) = m from by omega]
  refine (b10At_any a1 cap1 z1 1 6 w w1 (by omega) (by omega) (by omega) (by omega)).mono ?_
  rintro e w' ⟨rfl, rfl⟩
  rw [show pickB z1 1 6 = (q : Int) - 1 from by have := HQ.out; omega]
  go_wp2_with fail
  rw [show (1 : Int) + ((q : Int) - 1) = q from by omega, HN.out, IntWalk.wrap64_in (n : Int) (by omega), IntWalk.wrap64_in ((n : Int) + (d : Int)) (by omega)]
  refine (ConstantWord_any a d ((n : Int) + d) w ⟨by omega, by omega⟩ ⟨by omega, by omega⟩ ⟨by omega, by omega⟩).mono ?_
  have hokw : okW a d ((n : Int) + d) = true := by
    unfold okW
    rw [inB_iff.2 ⟨by omega, by omega⟩, inB_iff.2 ⟨by omega, by omega⟩, inB_iff.2 ⟨by omega, by omega⟩]; rfl
  obtain ⟨S, hS⟩ : ∃ S, S = strOfNums (wordN a d (n + d)) := ⟨_, rfl⟩
  rw [hokw, show wordS a d ((n : Int) + d) = S from by rw [hS, wordS, hokw, show ((n : Int) + (d : Int)).toNat = n + d from by omega]; rfl]
  have HSZ : Hid (S.size = n + d) := Lib.hid (by rw [hS, strOfNums_size, wordN_len])
  have HSB : Hid (∀ (k : Nat) (h : k < S.size), ((S[k]'h).toNat : Int) = wB a d k) := Lib.hid (by subst hS; exact fun k h => word_byte a d (n + d) k h)
  clear hS hokw
  rintro e w2 ⟨rfl, k2⟩
  have B2 : Pair (w2.alloc (.cells #[.int .i64 d, .slice none 0 0] 29)) w2.heap.size (.int .i64 d) (.slice none 0 0) := ⟨by simp, by simp, by simp, by simp⟩
  have hk3 : Keep w2 (w2.alloc (.cells #[.int .i64 d, .slice none 0 0] 29)) := by go_grown
  have hz3 : (w2.alloc (.cells #[.int .i64 d, .slice none 0 0] 29)).heap.size = w2.heap.size + 1 := by simp
  have K3 := Lib.hid (Keep.next k2 hk3)
  go_wp2
  generalize w2.alloc (.cells #[.int .i64 d, .slice none 0 0] 29) = w3 at *
  obtain ⟨vb, hvb⟩ : ∃ vb, vb = w2.heap.size := ⟨_, rfl⟩
  rw [← hvb] at B2 hz3
  try rw [← hvb]
  have hwv : w.heap.size ≤ vb := by have := k2.size; omega
  clear hvb hk3 k2
  have HB3 := Lib.hid B2; clear B2
  go_loopw [13] (fun i wr => ∃ (k : Nat) (rd : Option Addr) (rc : Nat), k ≤ n ∧ i = .int .i64 k ∧ Hid (Pair wr vb (.int .i64 d) (.slice rd k rc)) ∧ Hid (Own wr (vb + 1) rd rc (List.replicate k a)) ∧ Hid (Below vb w3 wr))
    (fun i _ => n - (intOf i).toNat)
  case atStart => exact ⟨0, none, 0, Nat.zero_le _, rfl, HB3, Lib.hid (Own.nil _ _), Lib.hid (Below.refl _ _)⟩
  case round =>
    obtain ⟨k, rd, rc, hk, rfl, HP, HO, HB⟩ := hrel
    have hsr := HB.out.size
    by_cases hlt : k < n
    · obtain ⟨c0, c1, f0, f1⟩ := HP.out
      go_wp2_with (refine list_app2 (by rfl) _ _ (by rfl) (vb + 1) rd rc k _ a (by rfl) (HO.out.keep (by go_grown)) (by simp) wr.heap.size (by rfl) (by simp) ⟨by omega, by omega⟩ (by simp; omega) (by simp; omega) ?_; intro g' cap' w5 hown5 hgr5 hat5 hlt5; have hbel5 : Below (vb + 1) wr w5 := below_own (by go_grown) (HO.out.keep (by go_grown)) hgr5 (by simp; omega) (Nat.le_refl _); have HP5 := Lib.hid (HP.out.keep hbel5 (by omega)); have c15 := HP5.out.c1; have f15 := HP5.out.f1)
      go_roundw
      case rel =>
        have hge : vb + 1 ≤ g' := by
          rcases own_block hown5.1 with ⟨e, _⟩ | ⟨g2, e, h, _⟩
          · cases e
          · cases e; exact h
        have ho6 : Own (w5.setCell ⟨vb, 1, none⟩ (.slice (some ⟨g', 0, none⟩) (k + 1) cap')) (vb + 1) (some ⟨g', 0, none⟩) cap' (List.replicate (k + 1) a) := by
          rw [List.replicate_succ']
          exact hown5.set (by show vb ≠ g'; omega) _
        exact ⟨k + 1, some ⟨g', 0, none⟩, cap', by omega, by go_num, Lib.hid (HP5.out.set1 _), Lib.hid ho6, Lib.hid ((HB.out.trans (hbel5.mono (by omega))).setCell (Nat.le_refl _) _)⟩
      case measure => simp [intOf]; omega
    · have hkn : k = n := by omega
      subst hkn
      obtain ⟨c0, c1, f0, f1⟩ := HP.out
      go_wp2_with fail
      have hok : okV (d : Int) (List.replicate k a) = true := by
        unfold okV listOk allIn
        rw [inB_iff.2 ⟨by omega, by omega⟩, List.length_replicate, decide_eq_true (show k ≤ 40 from by omega), Bool.true_and, Bool.true_and, List.all_eq_true]
        intro z hz; rw [List.eq_of_mem_replicate hz, inB_iff]; omega
      have hcl := PrefixFloors_any (d : Int) rd rc (List.replicate k a) wr HO.out.ints
      rw [hok, List.length_replicate, show pdV fl (d : Int) (List.replicate k a) = pdL fl d (List.replicate k a) from by unfold pdV; rw [if_pos hok]] at hcl
      have HEL : Hid ((pdL fl (d : Int) (List.replicate k a)).length = k) := Lib.hid (by rw [pdL_len, List.length_replicate])
      have HEG : Hid (∀ i, i < k → (pdL fl (d : Int) (List.replicate k a)).getD i 0 = fl (((i : Int) + 1) * a) d - fl ((i : Int) * a) d) := Lib.hid (fun i hi => pd_get a d k i hi)
      have HNS : Hid (∀ i, i < q → -(d : Int) < d * (blk m (pdL fl (d : Int) (List.replicate k a)) i).sum - (m : Int) * a ∧ d * (blk m (pdL fl (d : Int) (List.replicate k a)) i).sum - (m : Int) * a < d) := Lib.hid (fun i hi => near_sum a d m k i (by omega) (by
        have h := HN2.out
        have h2 := Nat.mul_le_mul_right m (show i + 1 ≤ q from hi)
        rw [Nat.succ_mul] at h2; omega))
      generalize pdL fl (d : Int) (List.replicate k a) = E at *
      rw [HEL.out] at hcl
      refine hcl.mono ?_
      clear hcl hok c0 c1 f0 f1
      rintro e w6 ⟨ed, ec, rfl, oe, k6⟩
      have hE01 : ∀ i, i < k → E.getD i 0 = 0 ∨ E.getD i 0 = 1 := fun i hi => by
        have h := fl_next i a d (by omega) x1.1 x1.2
        rw [HEG.out i hi]; omega
      have hEb : ∀ z ∈ E, -1000000000 ≤ z ∧ z ≤ 1000000000 := fun z hz => by
        obtain ⟨i, hi, rfl⟩ := List.getElem_of_mem hz
        have h := hE01 i (by rw [HEL.out] at hi; exact hi)
        rw [getD_get E i hi] at h; omega
      have hokb : okB (m : Int) E = true := by
        unfold okB listOk allIn
        rw [HEL.out, decide_eq_true (show k ≤ 40 from by omega), inB_iff.2 ⟨by omega, by omega⟩, Bool.true_and, Bool.and_true, Bool.and_eq_true, List.all_eq_true]
        refine ⟨fun z hz => by have := hEb z hz; rw [inB_iff]; omega, ?_⟩
        rw [decide_eq_true_eq, HN2.out, Int.tmod_eq_emod_of_nonneg (by omega), show ((q * m : Nat) : Int) = (q : Int) * (m : Int) from by simp, Int.mul_emod_left]
      have hbv : bsV (m : Int) E = bsN m E q := by
        unfold bsV
        rw [if_pos hokb, Int.toNat_natCast, HEL.out, HN2.out, Nat.mul_div_cancel _ (by omega)]
      have hcap : E.length ≤ ec := by
        rcases own_block oe.1 with ⟨_, h, h2⟩ | ⟨_, _, _, _, h⟩
        · omega
        · exact h
      have hc6 := BlockSums_any ed ec E (m : Int) w6 oe.ints ⟨by omega, by omega⟩ hcap
      rw [hokb, hbv, HEL.out] at hc6
      have HC6 := Lib.hid hc6
      have HE01 := Lib.hid hE01; have OE := Lib.hid oe; have K6 := Lib.hid k6
      have HQB : Hid (∀ i, i < q → -(d : Int) < d * (bsN m E q).getD i 0 - (m : Int) * a ∧ d * (bsN m E q).getD i 0 - (m : Int) * a < d) := Lib.hid (fun i hi => by rw [bsN_get m E q i hi]; exact HNS.out i hi)
      have HQL := Lib.hid (bsN_len m E q)
      generalize bsN m E q = Q at *
      clear hE01 hEb hokb hbv hcap hc6 oe k6
      go_wp2_with fail
      have hc7 := HC6.out
      rw [HQL.out] at hc7
      refine hc7.mono ?_
      clear hc7
      rintro e w7 ⟨qd, qc, rfl, oq, k7⟩
      have G1 : ((S.size : Int) != (k : Int) + (d : Int)) = false := by rw [HSZ.out]; simp
      have K7 := Lib.hid (Keep.next (Keep.next (K3.out.trans (HB.out.mono hwv)) K6.out) k7)
      have E7 := Lib.hid (OE.out.keep k7).ints
      have Q7 := Lib.hid oq.ints
      clear oq k7
      go_wp2
      go_loopw [18] (fun i wr => ∃ j : Nat, j ≤ k ∧ i = .int .i64 j ∧ Hid (Keep w7 wr))
        (fun i _ => k - (intOf i).toNat)
      case atStart => exact ⟨0, Nat.zero_le _, rfl, Lib.hid (Below.refl _ _)⟩
      case round =>
        obtain ⟨j, hj, rfl, HKW⟩ := hrel
        by_cases hlt2 : j < k
        · rcases (E7.out.keep HKW.out (Nat.le_refl _)).at_ with h | ⟨b, off, rfl, hb, hc⟩
          · exfalso; have h2 := HEL.out; rw [h] at h2; simp at h2; omega
          have hcx := hc j (by rw [HEL.out]; exact hlt2)
          have hj1 : j < S.size := by rw [HSZ.out]; omega
          obtain ⟨t, hjt⟩ : ∃ t : Nat, (j : Int) + (d : Int) = (t : Int) := ⟨j + d, by simp⟩
          have hj2 : t < S.size := by rw [HSZ.out]; omega
          have b1 := HSB.out j hj1
          have b2 := HSB.out t hj2
          rw [← hjt, wB_shift a d j (by omega)] at b2
          have hx := HEG.out j hlt2
          have hn := fl_next j a d (by omega) x1.1 x1.2
          clear hc
          by_cases hq1 : fl ((j : Int) * a) d < fl (((j : Int) + 1) * a) d
          · have w49 : wB a d j = 49 := by unfold wB; rw [if_pos hq1]
            have x01 : E.getD j 0 = 1 := by rw [hx]; omega
            rw [w49] at b1 b2
            rw [x01] at hcx
            clear hx hn hq1 w49 x01
            go_wp2
            go_quiet (fail)
            go_wp2
            go_roundw
            case rel => exact ⟨j + 1, by omega, by go_num, Lib.hid (below_drewN HKW.out _)⟩
            case measure => simp [intOf]; omega
          · have w48 : wB a d j = 48 := by unfold wB; rw [if_neg hq1]
            have x00 : E.getD j 0 = 0 := by rw [hx]; omega
            rw [w48] at b1 b2
            rw [x00] at hcx
            clear hx hn hq1 w48 x00
            go_wp2
            go_quiet (fail)
            go_wp2
            go_roundw
            case rel => exact ⟨j + 1, by omega, by go_num, Lib.hid (below_drewN HKW.out _)⟩
            case measure => simp [intOf]; omega
        · have Q8 := Lib.hid (Q7.out.keep HKW.out (Nat.le_refl _))
          have K8 := Lib.hid (Keep.next K7.out HKW.out)
          clear Q7 K7
          go_wp2
          rename_i wq
          go_loopw [19] (fun i wr2 => ∃ j : Nat, j ≤ q ∧ i = .int .i64 j ∧ Hid (Keep wr wr2))
            (fun i _ => q - (intOf i).toNat)
          case atStart => exact ⟨0, Nat.zero_le _, rfl, Lib.hid (Below.refl _ _)⟩
          case round =>
            obtain ⟨j2, hj2, rfl, HKW2⟩ := hrel
            by_cases hlt3 : j2 < q
            · rcases (Q8.out.keep HKW2.out (Nat.le_refl _)).at_ with h | ⟨b, off, rfl, hb, hc⟩
              · exfalso; have h2 := HQL.out; rw [h] at h2; simp at h2; omega
              have hcx := hc j2 (by rw [HQL.out]; exact hlt3)
              obtain ⟨y1, y2⟩ := HQB.out j2 hlt3
              have hma : 0 ≤ (m : Int) * a ∧ (m : Int) * a ≤ 72 := by
                have e1 : (m : Int) * a ≤ 6 * 12 := Int.mul_le_mul (by omega) (by omega) (by omega) (by omega)
                have e2 : 0 ≤ (m : Int) * a := Int.mul_nonneg (by omega) (by omega)
                omega
              clear hc
              generalize Q.getD j2 0 = y at *
              obtain ⟨u, hu⟩ : ∃ u : Int, (d : Int) * y = u := ⟨_, rfl⟩
              obtain ⟨v, hv⟩ : ∃ v : Int, (m : Int) * a = v := ⟨_, rfl⟩
              rw [hu, hv] at y1 y2
              rw [hv] at hma
              by_cases hs : u - v ≤ 0
              · go_wp2_with (go_at_call 16; refine (b10Abs_neg (u - v) _ (by omega) (by omega)).mono ?_; rintro e w' ⟨rfl, rfl⟩)
                go_roundw
                case rel => exact ⟨j2 + 1, by omega, by go_num, HKW2⟩
                case measure => simp [intOf]; omega
              · go_wp2_with (go_at_call 16; refine (b10Abs_pos (u - v) _ (by omega)).mono ?_; rintro e w' ⟨rfl, rfl⟩)
                go_roundw
                case rel => exact ⟨j2 + 1, by omega, by go_num, HKW2⟩
                case measure => simp [intOf]; omega
            · go_wp2
              go_ret
              exact ⟨rfl, Keep.next K8.out HKW2.out⟩

theorem own : ownKnob Try.prog.godebug = none := by kernel_rfl
theorem laidOut : laidOutB Try.prog = true := by kernel_rfl
set_option maxRecDepth 100000 in
theorem lifted (os : Os) (started : os.Started) (H : Type) (enc : TypeId × Value → H) :
    ReturnsInHanded {} Try.checked os 3 .any (Rows.fnConstantSpec.pre6 enc Try.prog Try.f3 Rows.fnConstantRow.domain false) (Rows.fnConstantSpec.post enc Try.prog Try.f3 false true false false) := by
  refine returnsInHanded_of_change (C := Try.checked) own started (by kernel_rfl) Try.func3
    (ChangeSpec.witness6 (enc := enc) (C := Try.checked) false ⟨#[], #[.slice none 0 0, .slice none 0 0], []⟩ 8 (by kernel_rfl) (by kernel_rfl) (by kernel_rfl) (by kernel_rfl)) ?_
  intro W base args ds gs before hval0 hW hcnd _
  have hval : ∀ (j : Nat) t v, Try.f3.params[j]? = some t → args[j]? = some v → Value.okWide Try.prog W .any base t v := hval0
  have hW' := hW
  obtain ⟨p, q, hA0, hV, rfl, hfz, hnd⟩ := hW
  have hA : DataW.TrodAll enc Try.prog W 0 (fun _ => true) true Try.f3.params.toList args.toList ds p := hA0
  rw [Try.params3] at hA hval
  obtain ⟨v0, vs0, d0, ds0, p0, q0, hargs, rfl, rfl, h0, r0⟩ := trodAll_cons hA
  obtain ⟨v1, vs1, d1, ds1, p1, q1, rfl, rfl, rfl, h1, r1⟩ := trodAll_cons r0
  obtain ⟨rfl, rfl, rfl⟩ := trodAll_nil r1
  obtain rfl : args = #[v0, v1] := by cases args; simp_all
  obtain ⟨rfl, rfl⟩ := trodVars_none hV
  have k0 := h0
  have lt0 : ∀ x ∈ p0, x.block < W.heap.size := by obtain ⟨m, hm⟩ := k0; exact DataW.trod_lt m _ _ _ hm
  obtain ⟨a0, len0, cap0, rfl⟩ := okWide_slice Try.underlying22 (hval 0 22 v0 rfl rfl)
  obtain ⟨z0, e0, w0⟩ := bytes_open Try.underlying22 Try.underlying5 (by kernel_rfl) h0
  subst e0
  have k1 := h1
  have lt1 : ∀ x ∈ p1, x.block < W.heap.size := by obtain ⟨m, hm⟩ := k1; exact DataW.trod_lt m _ _ _ hm
  obtain ⟨a1, len1, cap1, rfl⟩ := okWide_slice Try.underlying22 (hval 1 22 v1 rfl rfl)
  obtain ⟨z1, e1, w1⟩ := bytes_open Try.underlying22 Try.underlying5 (by kernel_rfl) h1
  subst e1
  clear hA0 hval0
  refine (walk W a0 cap0 z0 w0 a1 cap1 z1 w1).mono fun e W' ⟨he, bel⟩ => ?_
  subst he
  exact ⟨_, rfl, _, _, _, [], _, [], hW', trodAll_mk1 (shut_bool Try.underlying4 _), (trodAll_cons_mk (Below.trod laidOut (by kernel_rfl) (of_decide_eq_true (by kernel_rfl)) k0 bel lt0) (trodAll_cons_mk (Below.trod laidOut (by kernel_rfl) (of_decide_eq_true (by kernel_rfl)) k1 bel lt1) trodAll_mk0)), rfl, bel.frame _, fun h => by cases h⟩
theorem over : Rows.fnConstantRow.holds Try.pinned (OpenSpec.ofChange Rows.fnConstantSpec) :=
  OpenClaim.holds_of_wide 3 Try.f3 rfl rfl rfl rfl rfl rfl rfl ⟨rfl, rfl, rfl, rfl, rfl⟩ rfl rfl rfl rfl rfl (by kernel_rfl) Try.func3 (by kernel_rfl)
    (of_decide_eq_true (by kernel_rfl)) (by unfold Func.isWrapper; first | (rw [if_pos (by decide +kernel)]; kernel_rfl) | (rw [if_neg (by decide +kernel)]; exact ⟨rfl, rfl⟩))
    (fun os started H enc _ => lifted os started H enc)
/-- THE STATEMENT. -/
theorem proved : Rows.FnConstantSaid := over
end Go.Proofs.Ytlenmhefgpcmmaa.fnConstant
