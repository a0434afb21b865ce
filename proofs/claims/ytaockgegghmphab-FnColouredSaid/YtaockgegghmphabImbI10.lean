/- Imbalances: the program's side, and the model's. -/
import Derived.Test.YtaockgegghmphabSysI
import Derived.Test.YtaockgegghmphabCnt10
import Derived.Test.YtaockgegghmphabMap10
namespace Go.Proofs.Ytaockgegghmphab
open Go.ChangeShapes Go.WideShapes Go.ChangeAt Go.RowKit Go.Deep
set_option linter.unusedVariables false
/-- All points of a system, as bits. -/
theorem allPoints_any (n : Nat) (ad : Option Addr) (len cap : Nat) (w : World) (hn : n ≤ 12) :
    Calls Try.prog 50 #[valV n ad len cap] w fun e w' => e = .returned (.int .u64 ((2 ^ n - 1 : Nat) : Int)) ∧ Keep w w' := by
  obtain ⟨p1, p2, p3, p4⟩ := shl12 hn
  have HW : Hid (IntKind.u64.wrap (IntKind.u64.wrap ((2 : Int) ^ n) - 1) = ((2 ^ n - 1 : Nat) : Int)) := Lib.hid (by
    rw [show ((2 : Int) ^ n) = ((2 ^ n : Nat) : Int) from by norm_cast]
    clear p1 p4
    generalize 2 ^ n = m at *
    rw [IntKind.wrap_u64, IntKind.wrap_u64]; omega)
  go_enter Try.func50, Try.ntmps50
  go_wp2
  go_ret
  exact ⟨congrArg (fun z => Ending.returned (.int .u64 z)) HW.out, by go_grown⟩
/-- The closure: one set's imbalance, where some points count. -/
theorem imbC_any (z : Nat) (p r pb rb : Nat) (w : World) (hz : z < 4096) (hp : p < 4096) (hr : r < 4096) (c0 : w.cell? ⟨pb, 0, none⟩ = some (.int .u64 p)) (c1 : w.cell? ⟨rb, 0, none⟩ = some (.int .u64 r)) :
    Calls Try.prog 105 #[.int .i64 z, .pointer (some ⟨pb, 0, none⟩), .pointer (some ⟨rb, 0, none⟩)] w fun e w' => e = .returned (.int .i64 (imb (z &&& p) r)) ∧ ∃ n, w' = w.drewN n := by
  have hl : z &&& p ≤ z := Nat.and_le_left
  have e0 : IntKind.u64.wrap (z : Int) = (z : Int) := by rw [IntKind.wrap_u64]; omega
  have e1 := u64_and_nat z p (by omega) (by omega)
  have HI := Lib.hid (imb_is (z &&& p) r (by omega))
  have hx : z &&& p < 4096 := by omega
  generalize z &&& p = x at *
  have e2 := u64_and_nat x r (by omega) (by omega)
  have e3 := u64_andNot_nat x r (by omega) (by omega)
  have l2 : x &&& r ≤ x := Nat.and_le_left
  have l3 : x &&& (18446744073709551615 - r) ≤ x := Nat.and_le_left
  have HQ := Lib.hid (fun W => (size_any (x &&& r) W (by omega)))
  have HQ2 := Lib.hid (fun W => (size_any (x &&& (18446744073709551615 - r)) W (by omega)))
  have p1 := pc_le (x &&& r)
  have p2 := pc_le (x &&& (18446744073709551615 - r))
  generalize pc (x &&& r) = a at *
  generalize pc (x &&& (18446744073709551615 - r)) = b at *
  generalize imb x r = v at *
  generalize x &&& r = y at *
  generalize x &&& (18446744073709551615 - r) = y2 at *
  have w2 : IntKind.i64.wrap ((a : Int) - (b : Int)) = (a : Int) - (b : Int) := IntWalk.i64_in _ (by omega)
  go_enter Try.func105, Try.ntmps105
  go_wp2
  go_quiet ((go_at_call 56; first | with_reducible exact Calls.quiet_of_same ((HQ.out _).mono fun _ _ h => ⟨h.1, h.2.symm⟩) | with_reducible exact Calls.quiet_of_same ((HQ2.out _).mono fun _ _ h => ⟨h.1, h.2.symm⟩)))
  go_wp2
  go_ret
  exact ⟨ret_i64 (by rw [HI.out]), _, rfl⟩
theorem imbalancesOn_any (g : Int) (ad : Option Addr) (cap : Nat) (zs : List Int) (p r : Nat) (w : World) (hz : Ints w ad zs) (hs : ∀ z ∈ zs, 0 ≤ z ∧ z < 4096) (hl : zs.length ≤ 12) (hp : p < 4096) (hr : r < 4096) :
    Calls Try.prog 52 #[valV g ad zs.length cap, .int .u64 p, .int .u64 r] w fun e w' =>
      ∃ rd rc, e = .returned (.slice rd (imbL zs p r).length rc) ∧ Own w' w.heap.size rd rc (imbL zs p r) ∧ Keep w w' := by
  have hlen := hz.small
  go_enter Try.func52, Try.ntmps52
  go_wp2_with fail
  refine (mappedImb_any (fun z => imb (z.toNat &&& p) r) (.pointer (some ⟨w.heap.size + 1, 0, none⟩)) (.pointer (some ⟨w.heap.size + 1 + 1, 0, none⟩)) ad cap zs _ (hz.keep (B := _) (by go_grown) (Nat.le_refl _)) (by omega)
    (fun z _ => by have := imb_bd (z.toNat &&& p) r; exact ⟨by omega, by omega⟩) ?_).mono ?_
  · intro x hx W kW
    have hx2 := hs x hx
    obtain ⟨n, rfl⟩ : ∃ n : Nat, x = n := ⟨x.toNat, by omega⟩
    rw [Int.toNat_natCast]
    refine imbC_any n p r _ _ W (by omega) hp hr ?_ ?_
    · refine (kW.cell (by first | (simp; done) | (simp; omega))).trans ?_; simp [go_sem]
    · refine (kW.cell (by first | (simp; done) | (simp; omega))).trans ?_; simp [go_sem]
  · rintro e w1 ⟨rd, rc, rfl, o1, k1⟩
    have g1 : Keep w w1 := Keep.next (by go_grown) k1
    have o2 := o1.mono (B' := w.heap.size) (by simp; omega)
    go_wp2
    go_ret
    exact ⟨rd, rc, by rw [imbL_len]; rfl, o2, g1⟩
def imbOk (g : Int) (zs : List Int) (a : Int) : Bool := okS g zs && inB a 0 (topS g)
def imbV (g : Int) (zs : List Int) (a : Int) : List Int := if imbOk g zs a then imbL zs 4095 a.toNat else []
theorem imbL_all {n : Nat} {zs : List Int} (h : ∀ z ∈ zs, 0 ≤ z ∧ z < (2 ^ n : Nat)) (hn : n ≤ 12) (r : Nat) : imbL zs (2 ^ n - 1) r = imbL zs 4095 r := by
  unfold imbL
  apply List.map_congr_left
  intro z hz
  have h1 := h z hz
  have h2 : z.toNat < 2 ^ n := by omega
  have h3 : 2 ^ n ≤ 2 ^ 12 := Nat.pow_le_pow_right (by omega) hn
  rw [Nat.and_two_pow_sub_one_of_lt_two_pow h2, show (4095 : Nat) = 2 ^ 12 - 1 from rfl, Nat.and_two_pow_sub_one_of_lt_two_pow (by omega)]
set_option maxHeartbeats 800000 in
theorem ImbalancesOf_any (g : Int) (ad : Option Addr) (cap : Nat) (zs : List Int) (a : Int) (w : World) (hz : Ints w ad zs) (ua : In64 a) :
    Calls Try.prog 13 #[valV g ad zs.length cap, .int .i64 a] w fun e w' =>
      ∃ rd rc, e = .returned (.tuple #[.slice rd (imbV g zs a).length rc, .bool (imbOk g zs a)]) ∧ Own w' w.heap.size rd rc (imbV g zs a) ∧ Keep w w' := by
  have hlen := hz.small
  have B0 : Box (w.alloc (.cells #[.int .i64 g, .slice ad zs.length cap] 26)) w.heap.size g ad zs.length cap := ⟨by simp, by simp, by simp⟩
  cases h1 : okS g zs
  · rw [show imbOk g zs a = false from by simp [imbOk, h1], show imbV g zs a = [] from by simp [imbV, imbOk, h1]]
    go_enter Try.func13, Try.ntmps13
    go_wp2_with fail
    refine (ValidSystem_any g ad cap zs _ (hz.keep (B := _) (by go_grown) (Nat.le_refl _))).mono ?_
    rw [h1]
    rintro e w1 ⟨rfl, k1⟩
    have g1 : Keep w w1 := Keep.next (by go_grown) k1
    go_wp2
    go_ret2
    exact ⟨none, 0, rfl, Own.nil _ _, g1⟩
  obtain ⟨q0, q1, q2, q3⟩ := okS_parts h1
  have hs := okS_sets h1
  obtain ⟨n, rfl⟩ : ∃ n : Nat, g = n := ⟨g.toNat, by omega⟩
  have hn : n ≤ 12 := by omega
  cases h2 : inB a 0 (topS n)
  · rw [show imbOk n zs a = false from by simp [imbOk, h2], show imbV n zs a = [] from by simp [imbV, imbOk, h2]]
    go_enter Try.func13, Try.ntmps13
    go_wp2_with fail
    refine (ValidSystem_any n ad cap zs _ (hz.keep (B := _) (by go_grown) (Nat.le_refl _))).mono ?_
    rw [h1]
    rintro e w1 ⟨rfl, k1⟩
    have g1 : Keep w w1 := Keep.next (by go_grown) k1
    obtain ⟨b0, b1, b2⟩ := B0.keep k1
    go_wp2_with (go_at_call 51; refine (isSetOf_any _ _ _ hn).mono ?_; rw [h2]; rintro e w' ⟨rfl, rfl⟩)
    go_ret2
    exact ⟨none, 0, rfl, Own.nil _ _, g1⟩
  have ha := inB_iff.1 h2
  obtain ⟨p1, p2, p3, p4⟩ := shl12 hn
  have ht := topS_of n
  obtain ⟨r, rfl⟩ : ∃ r : Nat, a = r := ⟨a.toNat, by omega⟩
  have hr : r < 4096 := by omega
  have e0 : IntKind.u64.wrap (r : Int) = (r : Int) := by rw [IntKind.wrap_u64]; omega
  have HV : Hid (imbV n zs r = imbL zs (2 ^ n - 1) r) := Lib.hid (by
    unfold imbV; rw [show imbOk n zs r = true from by simp [imbOk, h1, h2], if_pos rfl, Int.toNat_natCast, imbL_all (fun z hz => by have := q3 z hz; omega) hn])
  rw [show imbOk n zs r = true from by simp [imbOk, h1, h2], HV.out]
  have HL := imbL_len zs (2 ^ n - 1) r
  have HI := Lib.hid (fun W (k : Keep w W) => imbalancesOn_any n ad cap zs (2 ^ n - 1) r W (hz.keep k (Nat.le_refl _)) hs q2 (by omega) hr)
  have HA := Lib.hid (fun W => allPoints_any n ad zs.length cap W hn)
  clear HV q3 hs ht p1 p4
  rw [HL] at HI ⊢
  generalize imbL zs (2 ^ n - 1) r = L at *
  generalize 2 ^ n - 1 = m at *
  go_enter Try.func13, Try.ntmps13
  go_wp2_with fail
  refine (ValidSystem_any n ad cap zs _ (hz.keep (B := _) (by go_grown) (Nat.le_refl _))).mono ?_
  rw [h1]
  rintro e w1 ⟨rfl, k1⟩
  have g1 : Keep w w1 := Keep.next (by go_grown) k1
  have B1 := B0.keep k1
  have HS : Hid (∀ W, Keep w1 W → (W.cell? ⟨w.heap.size, 0, none⟩ = some (.int .i64 n) ∧ W.cell? ⟨w.heap.size, 1, none⟩ = some (.slice ad zs.length cap)) ∧ Keep w1 W) := Lib.hid (fun W k => ⟨⟨(B1.keep k).c0, (B1.keep k).c1⟩, k⟩)
  have G1 := Lib.hid g1
  obtain ⟨b0, b1, b2⟩ := B1
  clear B0 k1 g1
  go_wp2_with (go_at_call 51; refine (isSetOf_any _ _ _ hn).mono ?_; rw [h2]; rintro e w' ⟨rfl, rfl⟩)
  go_region_held3 (fun W => (W.cell? ⟨w.heap.size, 0, none⟩ = some (.int .i64 n) ∧ W.cell? ⟨w.heap.size, 1, none⟩ = some (.slice ad zs.length cap)) ∧ Keep w1 W)
    (first | exact HS.out _ (Keep.next (Keep.next (by go_grown) k2) k3) | exact HS.out _ (Keep.next (by go_grown) k2) | exact HS.out _ (by go_grown))
    (first | (go_at_call 50; refine (HA.out _).mono ?_; rintro e w2 ⟨rfl, k2⟩) | (go_at_call 52; refine (HI.out _ (Keep.next (G1.out.next (by go_grown)) k2)).mono ?_; rintro e w3 ⟨rd, rc, rfl, o3, k3⟩))
  go_wp2
  go_ret2
  have K2 := Keep.next (G1.out.next (by go_grown)) k2
  exact ⟨rd, rc, rfl, o3.mono (B' := w.heap.size) K2.size, Keep.next K2 k3⟩
end Go.Proofs.Ytaockgegghmphab
