/- FnRules: a rule of one number makes leap years of its multiples, a further rule takes those of its multiples away, and each further one gives them back or takes them again: at all bytes. -/
import Derived.Test.YtomfhkpmdalknabRulI11
import Derived.Test.YtomfhkpmdalknabRulP11
import Derived.Test.YtomfhkpmdalknabCalMeanYear
import Derived.Test.YtomfhkpmdalknabBten
import Derived.WalkSmall
namespace Go.Proofs.Ytomfhkpmdalknab.fnRules
open Go.ChangeShapes Go.WideShapes Go.ChangeAt Go.RowKit Go.Deep
open Go.ChangeMaps (open_string shut_string)
set_option linter.unusedVariables false
theorem ints_three (w : World) (b : Nat) (x y z : Int) (hx : In64 x) (hy : In64 y) (hz : In64 z) (c0 : w.cell? ⟨b, 0, none⟩ = some (.int .i64 x)) (c1 : w.cell? ⟨b, 1, none⟩ = some (.int .i64 y)) (c2 : w.cell? ⟨b, 2, none⟩ = some (.int .i64 z)) : Ints w (some ⟨b, 0, none⟩) [x, y, z] := by
  refine ⟨by simp, ?_, .inr ⟨b, 0, rfl, block_lt_of_cell c0, fun i hi => ?_⟩⟩
  · intro q hq
    simp at hq
    rcases hq with rfl | rfl | rfl <;> assumption
  · match i, hi with
    | 0, _ => simpa using c0
    | 1, _ => simpa using c1
    | 2, _ => simpa using c2
/-- What the law wants of three rules. -/
theorem rules_told {a' k m : Nat} (ha : a' < 8) (hk : k < 5) (hm : m < 4) {a b d : Nat} (ea : a = a' + 1) (eb : b = a * (k + 2)) (ed : d = b * (m + 2)) :
    rcB [(a : Int), (b : Int), (d : Int)] 365 = true ∧ rcG [(a : Int), (b : Int), (d : Int)] 365 = d ∧ rcH [(a : Int), (b : Int), (d : Int)] 365 = 365 ∧ rcL [(a : Int), (b : Int), (d : Int)] 365 = pickL (r3N a b d) d ∧
    ((pickL (r3N a b d) d).length : Int) = (d : Int) / a - (d : Int) / b + 1 ∧ 1 ≤ a ∧ a ≤ 8 ∧ 1 ≤ b ∧ b ≤ 48 ∧ 1 ≤ d ∧ d ≤ 240 ∧ a ∣ b ∧ b ∣ d := by
  subst ea
  have hb1 : (a' + 1) * 2 ≤ (a' + 1) * (k + 2) := Nat.mul_le_mul_left _ (by omega)
  have hb2 : (a' + 1) * (k + 2) ≤ 8 * 6 := Nat.mul_le_mul (by omega) (by omega)
  have hd1 : b * 2 ≤ b * (m + 2) := Nat.mul_le_mul_left _ (by omega)
  have hd2 : b * (m + 2) ≤ 48 * 5 := Nat.mul_le_mul (by omega) (by omega)
  rw [← eb] at hb1 hb2
  rw [← ed] at hd1 hd2
  have da : (a' + 1) ∣ b := ⟨k + 2, eb⟩
  have db : b ∣ d := ⟨m + 2, ed⟩
  have hR : rulB [((a' + 1 : Nat) : Int), (b : Int), (d : Int)] = true := by
    refine rulB_three (by omega) (by omega) (by omega) (by omega) ?_ ?_
    · rw [← Int.natCast_emod, Nat.mod_eq_zero_of_dvd da]; rfl
    · rw [← Int.natCast_emod, Nat.mod_eq_zero_of_dvd db]; rfl
  have hB : rcB [((a' + 1 : Nat) : Int), (b : Int), (d : Int)] 365 = true := by unfold rcB; rw [hR]; rfl
  have hG : ([((a' + 1 : Nat) : Int), (b : Int), (d : Int)]).getD (([((a' + 1 : Nat) : Int), (b : Int), (d : Int)]).length - 1) 0 = d := rfl
  have hp : rlP [((a' + 1 : Nat) : Int), (b : Int), (d : Int)] = r3N (a' + 1) b d := funext fun y => rlP_three (by omega) da db y
  have q1 : d / (a' + 1) = (k + 2) * (m + 2) := by rw [ed, eb, Nat.mul_assoc]; exact Nat.mul_div_cancel_left _ (by omega)
  have q2 : d / b = m + 2 := by rw [ed]; exact Nat.mul_div_cancel_left _ (by omega)
  have hle : m + 2 ≤ (k + 2) * (m + 2) := Nat.le_mul_of_pos_left _ (by omega)
  refine ⟨hB, by rw [show rcG [((a' + 1 : Nat) : Int), (b : Int), (d : Int)] 365 = ([((a' + 1 : Nat) : Int), (b : Int), (d : Int)]).getD (([((a' + 1 : Nat) : Int), (b : Int), (d : Int)]).length - 1) 0 from by unfold rcG; rw [hB]; rfl, hG], by unfold rcH; rw [hB]; rfl, ?_, ?_, by omega, by omega, by omega, by omega, by omega, by omega, da, db⟩
  · rw [show rcL [((a' + 1 : Nat) : Int), (b : Int), (d : Int)] 365 = pickL (rlP [((a' + 1 : Nat) : Int), (b : Int), (d : Int)]) (([((a' + 1 : Nat) : Int), (b : Int), (d : Int)]).getD (([((a' + 1 : Nat) : Int), (b : Int), (d : Int)]).length - 1) 0).toNat from by unfold rcL; rw [hB]; rfl, hG, hp, Int.toNat_natCast]
  · have h := r3_len ha hk hm
    rw [← eb, ← ed] at h
    rw [h, ← Int.natCast_ediv, ← Int.natCast_ediv, q1, q2]; omega
theorem bef_whole {n : Nat} {gh : Int} {p : Nat → Bool} (n1 : 1 ≤ n) : bef n gh (pickL p n) (n : Int) = gh * (n : Int) + ((pickL p n).length : Int) := by
  unfold bef
  rw [Int.ediv_self (by omega), Int.emod_self, ltN_none _ _ (fun z hz => by obtain ⟨j, rfl, hj, _⟩ := pickL_mem.1 hz; omega), Int.mul_comm gh]; omega
theorem leap_told {a b d y : Nat} (d1 : 1 ≤ d) (da : a ∣ b) (db : b ∣ d) : r3N a b d (y % d) = (decide (y % a = 0) && (!decide (y % b = 0) || decide (y % d = 0))) := by
  unfold r3N
  rw [Nat.mod_mod_of_dvd y (Nat.dvd_trans da db), Nat.mod_mod_of_dvd y db, Nat.mod_mod]

set_option maxHeartbeats 6400000 in
set_option maxRecDepth 100000 in
theorem walk (w : World) (a0 : Option Addr) (cap0 : Nat) (z0 : List Int) (w0 : Bytes w a0 z0) (a1 : Option Addr) (cap1 : Nat) (z1 : List Int) (w1 : Bytes w a1 z1) :
    Calls Try.prog 3 #[.slice a0 z0.length cap0, .slice a1 z1.length cap1] w fun e w' => e = .returned (.bool true) ∧ Below w.heap.size w w' := by
  have s0 := w0.small
  have s1 := w1.small
  cases hl : (decide (1048576 < z0.length) || decide (1048576 < z1.length))
  case true =>
    go_enter Try.func3, Try.ntmps3
    go_wp2_with (go_at_call 6; refine (b10Long_any _ _ _ _ _ _ _ s0 s1).mono ?_; rw [hl]; rintro e w' ⟨rfl, rfl⟩)
    go_ret
    exact ⟨rfl, Below.refl _ _⟩
  have p1 := pickB_bd z0 0 8
  have p2 := pickB_bd z0 1 5
  have p3 := pickB_bd z1 0 4
  have p4 := pickB_bd z1 1 250
  have HA1 := Lib.hid (fun W (h : w = W) => b10At_any a0 cap0 z0 0 8 W (h ▸ w0) (by omega) (by omega) (by omega) (by omega))
  have HA2 := Lib.hid (fun W (h : w = W) => b10At_any a0 cap0 z0 1 5 W (h ▸ w0) (by omega) (by omega) (by omega) (by omega))
  have HA3 := Lib.hid (fun W (h : w = W) => b10At_any a1 cap1 z1 0 4 W (h ▸ w1) (by omega) (by omega) (by omega) (by omega))
  have HA4 := Lib.hid (fun W (h : Keep w W) => b10At_any a1 cap1 z1 1 250 W (w1.keep h (Nat.le_refl _)) (by omega) (by omega) (by omega) (by omega))
  generalize pickB z0 0 8 = x1 at *
  generalize pickB z0 1 5 = x2 at *
  generalize pickB z1 0 4 = x3 at *
  generalize pickB z1 1 250 = x4 at *
  have p1 := p1.2 (by omega); have p2 := p2.2 (by omega); have p3 := p3.2 (by omega); have p4 := p4.2 (by omega)
  obtain ⟨a', rfl⟩ : ∃ n : Nat, x1 = n := ⟨x1.toNat, by omega⟩
  obtain ⟨k, rfl⟩ : ∃ n : Nat, x2 = n := ⟨x2.toNat, by omega⟩
  obtain ⟨m, rfl⟩ : ∃ n : Nat, x3 = n := ⟨x3.toNat, by omega⟩
  obtain ⟨y, rfl⟩ : ∃ n : Nat, x4 = n := ⟨x4.toNat, by omega⟩
  have hy : y < 250 := by omega
  obtain ⟨a, ea⟩ : ∃ a, a = a' + 1 := ⟨_, rfl⟩
  obtain ⟨b, eb⟩ : ∃ b, b = a * (k + 2) := ⟨_, rfl⟩
  obtain ⟨d, ed⟩ : ∃ d, d = b * (m + 2) := ⟨_, rfl⟩
  obtain ⟨t1, t2, t3, t4, t5, a1', a2, b1, b2, d1, d2, da, db⟩ := rules_told (by omega) (by omega) (by omega) ea eb ed
  have HEA : Hid (1 + (a' : Int) = (a : Nat)) := Lib.hid (by omega)
  have HEB : Hid ((a : Int) * (2 + (k : Int)) = (b : Nat)) := Lib.hid (by rw [eb, Int.natCast_mul]; congr 1; omega)
  have HED : Hid ((b : Int) * (2 + (m : Int)) = (d : Nat)) := Lib.hid (by rw [ed, Int.natCast_mul]; congr 1; omega)
  have HLP := Lib.hid (leap_told (y := y) d1 da db)
  have HDVA : Hid (y % b = 0 → y % a = 0) := Lib.hid (fun h => Nat.mod_eq_zero_of_dvd (Nat.dvd_trans da (Nat.dvd_of_mod_eq_zero h)))
  have HDVB : Hid (y % d = 0 → y % b = 0) := Lib.hid (fun h => Nat.mod_eq_zero_of_dvd (Nat.dvd_trans db (Nat.dvd_of_mod_eq_zero h)))
  have HR := Lib.hid (fun (W : World) ad cap (h : Ints W ad [(a : Int), (b : Int), (d : Int)]) => RuleCalendar_any ad cap [(a : Int), (b : Int), (d : Int)] 365 W h ⟨by omega, by omega⟩)
  rw [t1, t2, t3, t4] at HR
  have HOK := Lib.hid (okC_pick (p := r3N a b d) (n := d) (gh := 365) (by omega) (by omega) (by omega) (by omega))
  have HBF := Lib.hid (bef_whole (gh := 365) (p := r3N a b d) (n := d) d1)
  have HHS := Lib.hid (pick_has (p := r3N a b d) (n := d) (i := y % d) (Nat.mod_lt _ (by omega)))
  have hll := pickL_len (r3N a b d) d
  have HM := Lib.hid (fun (W : World) ad cap h => MeanYear_any d 365 ad cap (pickL (r3N a b d) d) W h)
  obtain ⟨G, g1, e1, e2, u1, u2, u3, u4⟩ := mean_low (B := 365 * (d : Int) + ((pickL (r3N a b d) d).length : Int)) (n := (d : Int)) (by omega) (by omega)
  rw [show myN d 365 (pickL (r3N a b d) d) = (365 * (d : Int) + ((pickL (r3N a b d) d).length : Int)).tdiv (Int.gcd (365 * (d : Int) + ((pickL (r3N a b d) d).length : Int)) d) from by simp [myN, HOK.out, HBF.out], show myD d 365 (pickL (r3N a b d) d) = (d : Int).tdiv (Int.gcd (365 * (d : Int) + ((pickL (r3N a b d) d).length : Int)) d) from by simp [myD, HOK.out, HBF.out], HOK.out] at HM
  generalize (365 * (d : Int) + ((pickL (r3N a b d) d).length : Int)).tdiv (Int.gcd (365 * (d : Int) + ((pickL (r3N a b d) d).length : Int)) d) = num at *
  generalize (d : Int).tdiv (Int.gcd (365 * (d : Int) + ((pickL (r3N a b d) d).length : Int)) d) = den at *
  have HV := Lib.hid (fun (W : World) ad cap h => ValidCalendar_any d 365 ad cap (pickL (r3N a b d) d) W h)
  rw [HOK.out] at HV
  have HI := Lib.hid (fun (W : World) ad cap h => IsLeap_any d 365 ad cap (pickL (r3N a b d) d) (y : Int) W h ⟨by omega, by omega⟩)
  rw [show lpB d 365 (pickL (r3N a b d) d) (y : Int) = r3N a b d (y % d) from by unfold lpB; rw [HOK.out, inB_iff.2 (by omega), ← Int.natCast_emod, HHS.out]; rfl] at HI
  generalize r3N a b d (y % d) = LP at *
  generalize pickL (r3N a b d) d = L at *
  have hq : num * (d : Int) = den * (365 * (d : Int) + (L.length : Int)) := by
    rw [e1]
    calc num * (d : Int) = num * (G * den) := by rw [← e2]
      _ = den * (G * num) := by rw [Int.mul_comm G den, Int.mul_comm G num, ← Int.mul_assoc, ← Int.mul_assoc, Int.mul_comm num den]
  have m1 : 0 ≤ num * (d : Int) := Int.mul_nonneg u1 (by omega)
  have m2 : num * (d : Int) ≤ 90000 * 240 := Int.mul_le_mul (by omega) (by omega) (by omega) (by omega)
  have W1 : IntKind.i64.wrap (num * (d : Int)) = num * (d : Int) := IntWalk.i64_in _ (by omega)
  have W3 : IntKind.i64.wrap (den * (365 * (d : Int) + (L.length : Int))) = den * (365 * (d : Int) + (L.length : Int)) := IntWalk.i64_in _ (by omega)
  have W4 : IntKind.i64.wrap ((a : Int) * (2 + (k : Int))) = (b : Nat) := by rw [HEB.out]; exact IntWalk.i64_in _ (by omega)
  have W5 : IntKind.i64.wrap ((b : Int) * (2 + (m : Int))) = (d : Nat) := by rw [HED.out]; exact IntWalk.i64_in _ (by omega)
  have hqb : (num * (d : Int) == den * (365 * (d : Int) + (L.length : Int))) = true := by simp [hq]
  have hT1 : (d : Int).tdiv (a : Int) = (d : Int) / (a : Int) := Int.tdiv_eq_ediv_of_nonneg (by omega)
  have hT2 : (d : Int).tdiv (b : Int) = (d : Int) / (b : Int) := Int.tdiv_eq_ediv_of_nonneg (by omega)
  have hT3 : (y : Int).tmod (a : Int) = (y : Int) % (a : Int) := Int.tmod_eq_emod_of_nonneg (by omega)
  have hT4 : (y : Int).tmod (b : Int) = (y : Int) % (b : Int) := Int.tmod_eq_emod_of_nonneg (by omega)
  have hT5 : (y : Int).tmod (d : Int) = (y : Int) % (d : Int) := Int.tmod_eq_emod_of_nonneg (by omega)
  have HT := Lib.hid (And.intro hT1 (And.intro hT2 (And.intro hT3 (And.intro hT4 hT5))))
  have j1 : 0 ≤ (d : Int) / (a : Int) ∧ (d : Int) / (a : Int) ≤ 240 := ⟨Int.ediv_nonneg (by omega) (by omega), Int.le_trans (Int.ediv_le_self _ (by omega)) (by omega)⟩
  have j2 : 0 ≤ (d : Int) / (b : Int) ∧ (d : Int) / (b : Int) ≤ 240 := ⟨Int.ediv_nonneg (by omega) (by omega), Int.le_trans (Int.ediv_le_self _ (by omega)) (by omega)⟩
  have W6 : IntKind.i64.wrap ((d : Int) / (a : Int)) = (d : Int) / (a : Int) := IntWalk.i64_in _ (by omega)
  have W7 : IntKind.i64.wrap ((d : Int) / (b : Int)) = (d : Int) / (b : Int) := IntWalk.i64_in _ (by omega)
  have W8 : IntKind.i64.wrap ((d : Int) / (a : Int) - (d : Int) / (b : Int)) = (d : Int) / (a : Int) - (d : Int) / (b : Int) := IntWalk.i64_in _ (by omega)
  have W9 : IntKind.i64.wrap ((d : Int) / (a : Int) - (d : Int) / (b : Int) + 1) = (d : Int) / (a : Int) - (d : Int) / (b : Int) + 1 := IntWalk.i64_in _ (by omega)
  have a0' : (a : Int) ≠ 0 := by omega
  have b0' : (b : Int) ≠ 0 := by omega
  have d0' : (d : Int) ≠ 0 := by omega
  have a0n : ¬ a = 0 := by omega
  have b0n : ¬ b = 0 := by omega
  have d0n : ¬ d = 0 := by omega
  have hlb : ((L.length : Int) != (d : Int) / (a : Int) - (d : Int) / (b : Int) + 1) = false := by rw [t5]; simp
  have hdd : ((d : Int) != (d : Int)) = false := by simp
  have E1 : ((y : Int) % (a : Int) == 0) = decide (y % a = 0) := by rw [← Int.natCast_emod, Bool.eq_iff_iff, beq_iff_eq, decide_eq_true_eq]; omega
  have eb0 : ((y : Int) % (b : Int) = 0) ↔ y % b = 0 := by rw [← Int.natCast_emod]; omega
  have E2 : ((y : Int) % (b : Int) != 0) = !decide (y % b = 0) := by rw [Bool.eq_iff_iff, bne_iff_ne, Bool.not_eq_true', decide_eq_false_iff_not]; exact not_congr eb0
  clear eb0
  have E3 : ((y : Int) % (d : Int) == 0) = decide (y % d = 0) := by rw [← Int.natCast_emod, Bool.eq_iff_iff, beq_iff_eq, decide_eq_true_eq]; omega
  clear e1 e2 hq HBF HOK HHS ea eb ed t1 t2 t3 t4 t5 da db hT1 hT2 hT3 hT4 hT5
  have HVAL : Hid (LP = (decide (y % a = 0) && (!decide (y % b = 0) || decide (y % d = 0)))) := HLP
  generalize hc1 : decide (y % a = 0) = c1 at *
  generalize hc2 : decide (y % b = 0) = c2 at *
  generalize hc3 : decide (y % d = 0) = c3 at *
  clear hc1 hc2 hc3
  have HE := Lib.hid (And.intro E1 (And.intro E2 E3))
  clear E1 E2 E3 HLP HDVA HDVB
  cases c1 <;> cases c2 <;> cases c3
  all_goals
    obtain rfl : LP = _ := HVAL.out
    obtain ⟨E1, E2, E3⟩ := HE.out
    obtain ⟨hT1, hT2, hT3, hT4, hT5⟩ := HT.out
    have E1t := E1; have E2t := E2; have E3t := E3
    rw [← hT3] at E1t
    rw [← hT4] at E2t
    rw [← hT5] at E3t
    have hlbt := hlb
    rw [← hT1, ← hT2] at hlbt
    clear hT1 hT2 hT3 hT4 hT5
    go_enter Try.func3, Try.ntmps3
    go_wp2_with (go_at_call 6; refine (b10Long_any _ _ _ _ _ _ _ s0 s1).mono ?_; rw [hl]; rintro e w' ⟨rfl, rfl⟩)
    refine (HA1.out _ rfl).mono ?_
    rintro e w' ⟨rfl, rfl⟩
    go_wp2_with fail
    rw [HEA.out]
    refine (HA2.out _ rfl).mono ?_
    rintro e w' ⟨rfl, rfl⟩
    go_wp2_with fail
    refine (HA3.out _ rfl).mono ?_
    rintro e w' ⟨rfl, rfl⟩
    go_wp2_with fail
    refine (HR.out _ (some ⟨w.heap.size, 0, none⟩) 3 (ints_three _ _ _ _ _ ⟨by omega, by omega⟩ ⟨by omega, by omega⟩ ⟨by omega, by omega⟩ (by simp) (by simp) (by simp))).mono ?_
    rintro e w2 ⟨rd, rc, rfl, o2, k2⟩
    have HO2 := Lib.hid o2.ints
    have HK2 := Lib.hid (show Keep w w2 from Keep.next (by go_grown) k2)
    clear o2 k2
    go_wp2_with fail
    have B0 : BoxC (w2.alloc (.cells #[.int .i64 (d : Nat), .int .i64 365, .slice rd L.length rc] 27)) w2.heap.size d 365 rd L.length rc := ⟨by simp, by simp, by simp, by simp⟩
    have HKA := Lib.hid (show Keep w2 (w2.alloc (.cells #[.int .i64 (d : Nat), .int .i64 365, .slice rd L.length rc] 27)) by go_grown)
    generalize w2.alloc (.cells #[.int .i64 (d : Nat), .int .i64 365, .slice rd L.length rc] 27) = wa at *
    have HS : Hid (∀ W, Keep wa W → (W.cell? ⟨w2.heap.size, 0, none⟩ = some (.int .i64 (d : Nat)) ∧ W.cell? ⟨w2.heap.size, 1, none⟩ = some (.int .i64 365) ∧ W.cell? ⟨w2.heap.size, 2, none⟩ = some (.slice rd L.length rc)) ∧ Keep wa W) := Lib.hid (fun W k => ⟨⟨(B0.keep k).c0, (B0.keep k).c1, (B0.keep k).c2⟩, k⟩)
    have HZ := Lib.hid (fun W (k : Keep wa W) => (HO2.out.keep HKA.out (Nat.le_refl _)).keep k (Nat.le_refl _))
    clear B0
    obtain ⟨⟨b0, b1, b2⟩, _⟩ := HS.out wa (Below.refl _ _)
    go_region_held3 (fun W => (W.cell? ⟨w2.heap.size, 0, none⟩ = some (.int .i64 (d : Nat)) ∧ W.cell? ⟨w2.heap.size, 1, none⟩ = some (.int .i64 365) ∧ W.cell? ⟨w2.heap.size, 2, none⟩ = some (.slice rd L.length rc)) ∧ Keep wa W)
      (first | exact HS.out _ (Keep.next (by go_grown) k3) | exact HS.out _ (by go_grown))
      (first | (go_at_call 9; refine (HV.out _ rd rc (HZ.out _ (by go_grown))).mono ?_; rintro e w3 ⟨rfl, k3⟩))
    have HK3 := Lib.hid (show Keep wa w3 from Keep.next (by go_grown) k3)
    clear k3
    go_wp2_with fail
    refine (HA4.out _ (Keep.next HK2.out (Keep.next HKA.out (by first | exact HK3.out | exact Keep.next HK3.out (by go_grown))))).mono ?_
    rintro e w4 ⟨rfl, rfl⟩
    go_wp2_with (first | (go_at_call 10; refine (HM.out _ rd rc (HZ.out _ (by first | exact HK3.out | exact Keep.next HK3.out (by go_grown)))).mono ?_; rintro e w5 ⟨rfl, k5⟩; have HK5 := Lib.hid (show Keep wa w5 from Keep.next (by first | exact HK3.out | exact Keep.next HK3.out (by go_grown)) k5); clear k5; obtain ⟨⟨b0, b1, b2⟩, _⟩ := HS.out w5 HK5.out) | (go_at_call 11; refine (HI.out _ rd rc (HZ.out _ (by first | exact HK5.out | exact Keep.next HK5.out (by go_grown)))).mono ?_; rintro e w6 ⟨rfl, k6⟩; have HK6 := Lib.hid (show Keep wa w6 from Keep.next (by first | exact HK5.out | exact Keep.next HK5.out (by go_grown)) k6); clear k6; obtain ⟨⟨b0, b1, b2⟩, _⟩ := HS.out w6 HK6.out))
    go_ret
    exact ⟨rfl, Keep.next HK2.out (Keep.next HKA.out HK6.out)⟩

theorem own : ownKnob Try.prog.godebug = none := by kernel_rfl
theorem laidOut : laidOutB Try.prog = true := by kernel_rfl
set_option maxRecDepth 100000 in
theorem lifted (os : Os) (started : os.Started) (H : Type) (enc : TypeId × Value → H) :
    ReturnsInHanded {} Try.checked os 3 .any (Rows.fnRulesSpec.pre6 enc Try.prog Try.f3 Rows.fnRulesRow.domain false) (Rows.fnRulesSpec.post enc Try.prog Try.f3 false true false false) := by
  refine returnsInHanded_of_change (C := Try.checked) own started (by kernel_rfl) Try.func3
    (ChangeSpec.witness6 (enc := enc) (C := Try.checked) false ⟨#[], #[.slice none 0 0, .slice none 0 0], []⟩ 8 (by kernel_rfl) (by kernel_rfl) (by kernel_rfl) (by kernel_rfl)) ?_
  intro W base args ds gs before hval0 hW hcnd _
  have hval : ∀ (j : Nat) t v, Try.f3.params[j]? = some t → args[j]? = some v → Value.okWide Try.prog W .any base t v := hval0
  have hW' := hW
  obtain ⟨p, q, hA0, hV, rfl, hfz, hnd⟩ := hW
  have hA : DataW.TrodAll enc Try.prog W 0 (fun _ => true) true Try.f3.params.toList args.toList ds p := hA0
  rw [Try.params3] at hA hval
  obtain ⟨v0, vs0, d0, ds0, p0, q0, hargs, rfl, rfl, h0, r0⟩ := trodAll_cons hA
  obtain ⟨v1, vs1, d1, ds1, p1, q1, rfl, rfl, rfl, h1, r1⟩ := trodAll_cons r0
  obtain ⟨rfl, rfl, rfl⟩ := trodAll_nil r1
  obtain rfl : args = #[v0, v1] := by cases args; simp_all
  obtain ⟨rfl, rfl⟩ := trodVars_none hV
  have k0 := h0
  have lt0 : ∀ x ∈ p0, x.block < W.heap.size := by obtain ⟨m, hm⟩ := k0; exact DataW.trod_lt m _ _ _ hm
  obtain ⟨a0, len0, cap0, rfl⟩ := okWide_slice Try.underlying22 (hval 0 22 v0 rfl rfl)
  obtain ⟨z0, e0, w0⟩ := bytes_open Try.underlying22 Try.underlying5 (by kernel_rfl) h0
  subst e0
  have k1 := h1
  have lt1 : ∀ x ∈ p1, x.block < W.heap.size := by obtain ⟨m, hm⟩ := k1; exact DataW.trod_lt m _ _ _ hm
  obtain ⟨a1, len1, cap1, rfl⟩ := okWide_slice Try.underlying22 (hval 1 22 v1 rfl rfl)
  obtain ⟨z1, e1, w1⟩ := bytes_open Try.underlying22 Try.underlying5 (by kernel_rfl) h1
  subst e1
  clear hA0 hval0
  refine (walk W a0 cap0 z0 w0 a1 cap1 z1 w1).mono fun e W' ⟨he, bel⟩ => ?_
  subst he
  exact ⟨_, rfl, _, _, _, [], _, [], hW', trodAll_mk1 (shut_bool Try.underlying4 _), (trodAll_cons_mk (Below.trod laidOut (by kernel_rfl) (of_decide_eq_true (by kernel_rfl)) k0 bel lt0) (trodAll_cons_mk (Below.trod laidOut (by kernel_rfl) (of_decide_eq_true (by kernel_rfl)) k1 bel lt1) trodAll_mk0)), rfl, bel.frame _, fun h => by cases h⟩
theorem over : Rows.fnRulesRow.holds Try.pinned (OpenSpec.ofChange Rows.fnRulesSpec) :=
  OpenClaim.holds_of_wide 3 Try.f3 rfl rfl rfl rfl rfl rfl rfl ⟨rfl, rfl, rfl, rfl, rfl⟩ rfl rfl rfl rfl rfl (by kernel_rfl) Try.func3 (by kernel_rfl)
    (of_decide_eq_true (by kernel_rfl)) (by unfold Func.isWrapper; first | (rw [if_pos (by decide +kernel)]; kernel_rfl) | (rw [if_neg (by decide +kernel)]; exact ⟨rfl, rfl⟩))
    (fun os started H enc _ => lifted os started H enc)
/-- THE STATEMENT. -/
theorem proved : Rows.FnRulesSaid := over
end Go.Proofs.Ytomfhkpmdalknab.fnRules
