/- Imbalances: the program's side, and the model's. -/
import Derived.Test.YtaockgegghmphaaSysI
import Derived.Test.YtaockgegghmphaaCnt10
import Derived.Test.YtaockgegghmphaaMap10
namespace Go.Proofs.Ytaockgegghmphaa
open Go.ChangeShapes Go.WideShapes Go.ChangeAt Go.RowKit Go.Deep
set_option linter.unusedVariables false
/-- All points of a system, as bits. -/
theorem allPoints_any (n : Nat) (ad : Option Addr) (len cap : Nat) (w : World) (hn : n ≤ 12) :
    Calls Try.prog 62 #[valV n ad len cap] w fun e w' => e = .returned (.int .u64 ((2 ^ n - 1 : Nat) : Int)) ∧ Keep w w' := by
  obtain ⟨p1, p2, p3, p4⟩ := shl12 hn
  have HW : Hid (IntKind.u64.wrap (IntKind.u64.wrap ((2 : Int) ^ n) - 1) = ((2 ^ n - 1 : Nat) : Int)) := Lib.hid (by
    rw [show ((2 : Int) ^ n) = ((2 ^ n : Nat) : Int) from by norm_cast]
    clear p1 p4
    generalize 2 ^ n = m at *
    rw [IntKind.wrap_u64, IntKind.wrap_u64]; omega)
  go_enter Try.func62, Try.ntmps62
  go_wp2
  go_ret
  exact ⟨congrArg (fun z => Ending.returned (.int .u64 z)) HW.out, by go_grown⟩
/-- The closure: one set's imbalance, where some points count. -/
theorem imbC_any (z : Nat) (p r pb rb : Nat) (w : World) (hz : z < 4096) (hp : p < 4096) (hr : r < 4096) (c0 : w.cell? ⟨pb, 0, none⟩ = some (.int .u64 p)) (c1 : w.cell? ⟨rb, 0, none⟩ = some (.int .u64 r)) :
    Calls Try.prog 92 #[.int .i64 z, .pointer (some ⟨pb, 0, none⟩), .pointer (some ⟨rb, 0, none⟩)] w fun e w' => e = .returned (.int .i64 (imb (z &&& p) r)) ∧ ∃ n, w' = w.drewN n := by
  have hl : z &&& p ≤ z := Nat.and_le_left
  have e0 : IntKind.u64.wrap (z : Int) = (z : Int) := by rw [IntKind.wrap_u64]; omega
  have e1 := u64_and_nat z p (by omega) (by omega)
  have HI := Lib.hid (imb_is (z &&& p) r (by omega))
  have hx : z &&& p < 4096 := by omega
  generalize z &&& p = x at *
  have e2 := u64_and_nat x r (by omega) (by omega)
  have e3 := u64_andNot_nat x r (by omega) (by omega)
  have l2 : x &&& r ≤ x := Nat.and_le_left
  have l3 : x &&& (18446744073709551615 - r) ≤ x := Nat.and_le_left
  have HQ := Lib.hid (fun W => (size_any (x &&& r) W (by omega)))
  have HQ2 := Lib.hid (fun W => (size_any (x &&& (18446744073709551615 - r)) W (by omega)))
  have p1 := pc_le (x &&& r)
  have p2 := pc_le (x &&& (18446744073709551615 - r))
  generalize pc (x &&& r) = a at *
  generalize pc (x &&& (18446744073709551615 - r)) = b at *
  generalize imb x r = v at *
  generalize x &&& r = y at *
  generalize x &&& (18446744073709551615 - r) = y2 at *
  have w2 : IntKind.i64.wrap ((a : Int) - (b : Int)) = (a : Int) - (b : Int) := IntWalk.i64_in _ (by omega)
  go_enter Try.func92, Try.ntmps92
  go_wp2
  go_quiet ((go_at_call 75; first | with_reducible exact Calls.quiet_of_same ((HQ.out _).mono fun _ _ h => ⟨h.1, h.2.symm⟩) | with_reducible exact Calls.quiet_of_same ((HQ2.out _).mono fun _ _ h => ⟨h.1, h.2.symm⟩)))
  go_wp2
  go_ret
  exact ⟨ret_i64 (by rw [HI.out]), _, rfl⟩
theorem imbalancesOn_any (g : Int) (ad : Option Addr) (cap : Nat) (zs : List Int) (p r : Nat) (w : World) (hz : Ints w ad zs) (hs : ∀ z ∈ zs, 0 ≤ z ∧ z < 4096) (hl : zs.length ≤ 12) (hp : p < 4096) (hr : r < 4096) :
    Calls Try.prog 61 #[valV g ad zs.length cap, .int .u64 p, .int .u64 r] w fun e w' =>
      ∃ rd rc, e = .returned (.slice rd (imbL zs p r).length rc) ∧ Own w' w.heap.size rd rc (imbL zs p r) ∧ Keep w w' := by
  have hlen := hz.small
  go_enter Try.func61, Try.ntmps61
  go_wp2_with fail
  refine (mappedImb_any (fun z => imb (z.toNat &&& p) r) (.pointer (some ⟨w.heap.size + 1, 0, none⟩)) (.pointer (some ⟨w.heap.size + 1 + 1, 0, none⟩)) ad cap zs _ (hz.keep (B := _) (by go_grown) (Nat.le_refl _)) (by omega)
    (fun z _ => by have := imb_bd (z.toNat &&& p) r; exact ⟨by omega, by omega⟩) ?_).mono ?_
  · intro x hx W kW
    have hx2 := hs x hx
    obtain ⟨n, rfl⟩ : ∃ n : Nat, x = n := ⟨x.toNat, by omega⟩
    rw [Int.toNat_natCast]
    refine imbC_any n p r _ _ W (by omega) hp hr ?_ ?_
    · refine (kW.cell (by first | (simp; done) | (simp; omega))).trans ?_; simp [go_sem]
    · refine (kW.cell (by first | (simp; done) | (simp; omega))).trans ?_; simp [go_sem]
  · rintro e w1 ⟨rd, rc, rfl, o1, k1⟩
    have g1 : Keep w w1 := Keep.next (by go_grown) k1
    have o2 := o1.mono (B' := w.heap.size) (by simp; omega)
    go_wp2
    go_ret
    exact ⟨rd, rc, by rw [imbL_len]; rfl, o2, g1⟩
def imbOk (g : Int) (zs : List Int) (a : Int) : Bool := okS g zs && inB a 0 (topS g)
def imbV (g : Int) (zs : List Int) (a : Int) : List Int := if imbOk g zs a then imbL zs 4095 a.toNat else []
theorem imbL_all {n : Nat} {zs : List Int} (h : ∀ z ∈ zs, 0 ≤ z ∧ z < (2 ^ n : Nat)) (hn : n ≤ 12) (r : Nat) : imbL zs (2 ^ n - 1) r = imbL zs 4095 r := by
  unfold imbL
  apply List.map_congr_left
  intro z hz
  have h1 := h z hz
  have h2 : z.toNat < 2 ^ n := by omega
  have h3 : 2 ^ n ≤ 2 ^ 12 := Nat.pow_le_pow_right (by omega) hn
  rw [Nat.and_two_pow_sub_one_of_lt_two_pow h2, show (4095 : Nat) = 2 ^ 12 - 1 from rfl, Nat.and_two_pow_sub_one_of_lt_two_pow (by omega)]
set_option maxHeartbeats 800000 in
theorem ImbalancesOf_any (g : Int) (ad : Option Addr) (cap : Nat) (zs : List Int) (a : Int) (w : World) (hz : Ints w ad zs) (ua : In64 a) :
    Calls Try.prog 20 #[valV g ad zs.length cap, .int .i64 a] w fun e w' =>
      ∃ rd rc, e = .returned (.tuple #[.slice rd (imbV g zs a).length rc, .bool (imbOk g zs a)]) ∧ Own w' w.heap.size rd rc (imbV g zs a) ∧ Keep w w' := by
  have hlen := hz.small
  have B0 : Box (w.alloc (.cells #[.int .i64 g, .slice ad zs.length cap] 27)) w.heap.size g ad zs.length cap := ⟨by simp, by simp, by simp⟩
  cases h1 : okS g zs
  · rw [show imbOk g zs a = false from by simp [imbOk, h1], show imbV g zs a = [] from by simp [imbV, imbOk, h1]]
    go_enter Try.func20, Try.ntmps20
    go_wp2_with fail
    refine (ValidSystem_any g ad cap zs _ (hz.keep (B := _) (by go_grown) (Nat.le_refl _))).mono ?_
    rw [h1]
    rintro e w1 ⟨rfl, k1⟩
    have g1 : Keep w w1 := Keep.next (by go_grown) k1
    go_wp2
    go_ret2
    exact ⟨none, 0, rfl, Own.nil _ _, g1⟩
  obtain ⟨q0, q1, q2, q3⟩ := okS_parts h1
  have hs := okS_sets h1
  obtain ⟨n, rfl⟩ : ∃ n : Nat, g = n := ⟨g.toNat, by omega⟩
  have hn : n ≤ 12 := by omega
  cases h2 : inB a 0 (topS n)
  · rw [show imbOk n zs a = false from by simp [imbOk, h2], show imbV n zs a = [] from by simp [imbV, imbOk, h2]]
    go_enter Try.func20, Try.ntmps20
    go_wp2_with fail
    refine (ValidSystem_any n ad cap zs _ (hz.keep (B := _) (by go_grown) (Nat.le_refl _))).mono ?_
    rw [h1]
    rintro e w1 ⟨rfl, k1⟩
    have g1 : Keep w w1 := Keep.next (by go_grown) k1
    obtain ⟨b0, b1, b2⟩ := B0.keep k1
    go_wp2_with (go_at_call 58; refine (isSetOf_any _ _ _ hn).mono ?_; rw [h2]; rintro e w' ⟨rfl, rfl⟩)
    go_ret2
    exact ⟨none, 0, rfl, Own.nil _ _, g1⟩
  have ha := inB_iff.1 h2
  obtain ⟨p1, p2, p3, p4⟩ := shl12 hn
  have ht := topS_of n
  obtain ⟨r, rfl⟩ : ∃ r : Nat, a = r := ⟨a.toNat, by omega⟩
  have hr : r < 4096 := by omega
  have e0 : IntKind.u64.wrap (r : Int) = (r : Int) := by rw [IntKind.wrap_u64]; omega
  have HV : Hid (imbV n zs r = imbL zs (2 ^ n - 1) r) := Lib.hid (by
    unfold imbV; rw [show imbOk n zs r = true from by simp [imbOk, h1, h2], if_pos rfl, Int.toNat_natCast, imbL_all (fun z hz => by have := q3 z hz; omega) hn])
  rw [show imbOk n zs r = true from by simp [imbOk, h1, h2], HV.out]
  have HL := imbL_len zs (2 ^ n - 1) r
  have HI := Lib.hid (fun W (k : Keep w W) => imbalancesOn_any n ad cap zs (2 ^ n - 1) r W (hz.keep k (Nat.le_refl _)) hs q2 (by omega) hr)
  have HA := Lib.hid (fun W => allPoints_any n ad zs.length cap W hn)
  clear HV q3 hs ht p1 p4
  rw [HL] at HI ⊢
  generalize imbL zs (2 ^ n - 1) r = L at *
  generalize 2 ^ n - 1 = m at *
  go_enter Try.func20, Try.ntmps20
  go_wp2_with fail
  refine (ValidSystem_any n ad cap zs _ (hz.keep (B := _) (by go_grown) (Nat.le_refl _))).mono ?_
  rw [h1]
  rintro e w1 ⟨rfl, k1⟩
  have g1 : Keep w w1 := Keep.next (by go_grown) k1
  have B1 := B0.keep k1
  have HS : Hid (∀ W, Keep w1 W → (W.cell? ⟨w.heap.size, 0, none⟩ = some (.int .i64 n) ∧ W.cell? ⟨w.heap.size, 1, none⟩ = some (.slice ad zs.length cap)) ∧ Keep w1 W) := Lib.hid (fun W k => ⟨⟨(B1.keep k).c0, (B1.keep k).c1⟩, k⟩)
  have G1 := Lib.hid g1
  obtain ⟨b0, b1, b2⟩ := B1
  clear B0 k1 g1
  go_wp2_with (go_at_call 58; refine (isSetOf_any _ _ _ hn).mono ?_; rw [h2]; rintro e w' ⟨rfl, rfl⟩)
  go_region_held3 (fun W => (W.cell? ⟨w.heap.size, 0, none⟩ = some (.int .i64 n) ∧ W.cell? ⟨w.heap.size, 1, none⟩ = some (.slice ad zs.length cap)) ∧ Keep w1 W)
    (first | exact HS.out _ (Keep.next (Keep.next (by go_grown) k2) k3) | exact HS.out _ (Keep.next (by go_grown) k2) | exact HS.out _ (by go_grown))
    (first | (go_at_call 62; refine (HA.out _).mono ?_; rintro e w2 ⟨rfl, k2⟩) | (go_at_call 61; refine (HI.out _ (Keep.next (G1.out.next (by go_grown)) k2)).mono ?_; rintro e w3 ⟨rd, rc, rfl, o3, k3⟩))
  go_wp2
  go_ret2
  have K2 := Keep.next (G1.out.next (by go_grown)) k2
  exact ⟨rd, rc, rfl, o3.mono (B' := w.heap.size) K2.size, Keep.next K2 k3⟩
theorem imbL_succ (zs : List Int) (p r k : Nat) (h : k < zs.length) : imbL (zs.take (k + 1)) p r = imbL (zs.take k) p r ++ [imb ((zs.getD k 0).toNat &&& p) r] := by
  rw [take_succ_getD zs k h]; unfold imbL; rw [List.map_append]; rfl
set_option maxHeartbeats 800000 in
theorem specImbalancesOf_any (g : Int) (ad : Option Addr) (cap : Nat) (zs : List Int) (a : Int) (w : World) (hz : Ints w ad zs) (ua : In64 a) :
    Calls Try.prog 19 #[valV g ad zs.length cap, .int .i64 a] w fun e w' =>
      ∃ rd rc, e = .returned (.tuple #[.slice rd (imbV g zs a).length rc, .bool (imbOk g zs a)]) ∧ Own w' w.heap.size rd rc (imbV g zs a) ∧ Keep w w' := by
  have hlen := hz.small
  have B0 : Box (w.alloc (.cells #[.int .i64 g, .slice ad zs.length cap] 27)) w.heap.size g ad zs.length cap := ⟨by simp, by simp, by simp⟩
  have HIS := Lib.hid (l10Is_any w.heap.size g ad cap zs _ (hz.keep (B := _) (by go_grown) (Nat.le_refl _)) B0.c0 B0.c1)
  cases h1 : okS g zs
  · rw [show imbOk g zs a = false from by simp [imbOk, h1], show imbV g zs a = [] from by simp [imbV, imbOk, h1]]
    rw [h1] at HIS
    go_enter Try.func19, Try.ntmps19
    go_wp2_with fail
    refine HIS.out.mono ?_
    rintro e w1 ⟨rfl, k1⟩
    have g1 : Keep w w1 := Keep.next (by go_grown) k1
    go_wp2
    go_ret2
    exact ⟨none, 0, rfl, Own.nil _ _, g1⟩
  obtain ⟨q0, q1, q2, q3⟩ := okS_parts h1
  have hs := okS_sets h1
  rw [h1] at HIS
  obtain ⟨n, rfl⟩ : ∃ n : Nat, g = n := ⟨g.toNat, by omega⟩
  have hn : n ≤ 12 := by omega
  cases h2 : inB a 0 (topS n)
  · rw [show imbOk n zs a = false from by simp [imbOk, h2], show imbV n zs a = [] from by simp [imbV, imbOk, h2]]
    go_enter Try.func19, Try.ntmps19
    go_wp2_with fail
    refine HIS.out.mono ?_
    rintro e w1 ⟨rfl, k1⟩
    have g1 : Keep w w1 := Keep.next (by go_grown) k1
    obtain ⟨b0, b1, b2⟩ := B0.keep k1
    go_wp2_with (go_at_call 59; refine (l10Set_any _ _ _ hn).mono ?_; rw [h2]; rintro e w' ⟨rfl, rfl⟩)
    go_ret2
    exact ⟨none, 0, rfl, Own.nil _ _, g1⟩
  have ha := inB_iff.1 h2
  obtain ⟨p1, p2, p3, p4⟩ := shl12 hn
  have ht := topS_of n
  obtain ⟨r, rfl⟩ : ∃ r : Nat, a = r := ⟨a.toNat, by omega⟩
  have hr : r < 4096 := by omega
  have HV : Hid (imbV n zs r = imbL zs 4095 r) := Lib.hid (by
    unfold imbV; rw [show imbOk n zs r = true from by simp [imbOk, h1, h2], if_pos rfl, Int.toNat_natCast])
  rw [show imbOk n zs r = true from by simp [imbOk, h1, h2], HV.out]
  have HLT := Lib.hid (fun k => imbL_len (zs.take k) 4095 r)
  have HSU := Lib.hid (imbL_succ zs 4095 r)
  have HIN := Lib.hid (fun k => imbL_in (zs.take k) 4095 r)
  have HXI := Lib.hid (fun k (hk : k < zs.length) W => by
    have hx := hs _ (getD_mem zs k hk)
    have h := l10Imbalance_any (zs.getD k 0).toNat r W (by omega) hr
    rw [show (((zs.getD k 0).toNat : Nat) : Int) = zs.getD k 0 from by omega] at h
    have e : (zs.getD k 0).toNat &&& 4095 = (zs.getD k 0).toNat := by
      rw [show (4095 : Nat) = 2 ^ 12 - 1 from rfl, Nat.and_two_pow_sub_one_of_lt_two_pow (by omega)]
    rw [← e] at h
    exact h)
  have HBD := Lib.hid (fun k => imb_bd ((zs.getD k 0).toNat &&& 4095) r)
  have HOUT : Hid (imbL (zs.take zs.length) 4095 r = imbL zs 4095 r) := Lib.hid (by rw [List.take_length])
  clear HV q3 hs ht p1 p4 p2 p3
  go_enter Try.func19, Try.ntmps19
  go_wp2_with fail
  refine HIS.out.mono ?_
  rintro e w1 ⟨rfl, k1⟩
  have g1 : Keep w w1 := Keep.next (by go_grown) k1
  have B1 := Lib.hid (B0.keep k1)
  have HZ1 := Lib.hid (hz.keep g1 (Nat.le_refl _))
  have G1 := Lib.hid g1
  obtain ⟨b0, b1, b2⟩ := B1.out
  clear B0 k1 g1 hz
  go_wp2_with (go_at_call 59; refine (l10Set_any _ _ _ hn).mono ?_; rw [h2]; rintro e w' ⟨rfl, rfl⟩)
  go_loopw [6, 7] (fun v i wr => ∃ (k : Nat) (rd : Option Addr) (rc : Nat), k ≤ zs.length ∧ i = .int .i64 k ∧ v = .slice rd k rc ∧ Hid (Own wr w1.heap.size rd rc (imbL (zs.take k) 4095 r)) ∧ Hid (Keep w1 wr)) (fun _ i _ => zs.length - (intOf i).toNat)
  case atStart =>
    refine ⟨0, _, _, Nat.zero_le _, rfl, rfl, Lib.hid ?_, Lib.hid (by go_grown)⟩
    have := World.ownsRow_lit (base := w1.heap.size) (e := 2) (size := 1) w1 #[] 0 (Nat.le_refl _) (by simp) rfl
    exact ⟨by simpa [imbL] using this, by simp [imbL], by simp [imbL]⟩
  case round =>
    obtain ⟨k, rd, rc, hk, rfl, rfl, HO, HK⟩ := hrel
    obtain ⟨d0, d1, d2⟩ := B1.out.keep HK.out
    have hws : w1.heap.size ≤ wr.heap.size := HK.out.size
    by_cases hlt : k < zs.length
    · rcases (HZ1.out.keep HK.out (Nat.le_refl _)).at_ with h | ⟨b, off, rfl, hb, hc⟩
      · subst h; simp at hlt
      have hcx := hc k hlt
      have HX := Lib.hid (HXI.out k hlt)
      have hbd := HBD.out k
      have HS := Lib.hid (HSU.out k hlt)
      have HLK := Lib.hid (HLT.out k)
      have hlk : (zs.take k).length = k := by rw [List.length_take]; omega
      rw [hlk] at HLK
      clear hc b0 b1 b2 hlk
      generalize imb ((zs.getD k 0).toNat &&& 4095) r = y at *
      generalize zs.getD k 0 = x at *
      generalize imbL (zs.take k) 4095 r = L at *
      go_wp2_with (first | (go_at_call 60; refine (HX.out _).mono ?_; rintro e w' ⟨rfl, rfl⟩) | (refine list_app1 (by rfl) _ _ (by rfl) w1.heap.size rd rc k L y (by rfl) (HO.out.keep (by go_grown)) HLK.out.symm wr.heap.size (by rfl) (by simp) ⟨by omega, by omega⟩ (by rw [HLK.out]; omega) (by simp; omega) ?_; intro ad' cap' w3 hown3 hgr3; have hbel3 : Below w1.heap.size w1 w3 := HK.out.trans (below_own (by go_grown) (HO.out.keep (w' := wr.alloc _) (by go_grown)) hgr3 (by simp; omega) (Nat.le_refl _))))
      go_roundw
      case rel => exact ⟨k + 1, ad', cap', by omega, by go_num, rfl, Lib.hid (by rw [HS.out]; exact hown3), Lib.hid hbel3⟩
      case measure => simp [intOf]; omega
    · have HE := Lib.hid (show k = zs.length by omega)
      go_wp2
      go_ret2
      have o := HO.out
      rw [HE.out, HOUT.out] at o
      exact ⟨rd, rc, by rw [imbL_len, ← HE.out]; rfl, o.mono (B' := w.heap.size) G1.out.size, G1.out.next HK.out⟩
end Go.Proofs.Ytaockgegghmphaa
