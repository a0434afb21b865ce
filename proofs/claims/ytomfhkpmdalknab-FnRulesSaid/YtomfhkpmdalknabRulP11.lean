/- Calendars of three rules: how many leap years there are, and which (pure). -/
import Derived.Test.YtomfhkpmdalknabRul11
import Derived.Test.YtomfhkpmdalknabEvP11
namespace Go.Proofs.Ytomfhkpmdalknab
open Go.ChangeShapes Go.WideShapes Go.ChangeAt Go.RowKit Go.Deep
set_option linter.unusedVariables false
/-- A year of three rules, each a multiple of the one before it. -/
def r3N (a b d : Nat) (y : Nat) : Bool := decide (y % a = 0) && (!decide (y % b = 0) || decide (y % d = 0))
theorem r3_count : ((List.range 8).all fun a => (List.range 5).all fun k => (List.range 4).all fun m => decide (((List.range ((a + 1) * (k + 2) * (m + 2))).filter (r3N (a + 1) ((a + 1) * (k + 2)) ((a + 1) * (k + 2) * (m + 2)))).length = (k + 2) * (m + 2) - (m + 2) + 1)) = true := by decide +kernel
theorem r3_len {a k m : Nat} (ha : a < 8) (hk : k < 5) (hm : m < 4) : (pickL (r3N (a + 1) ((a + 1) * (k + 2)) ((a + 1) * (k + 2) * (m + 2))) ((a + 1) * (k + 2) * (m + 2))).length = (k + 2) * (m + 2) - (m + 2) + 1 := by
  have h := r3_count
  rw [List.all_eq_true] at h
  have h := h a (List.mem_range.2 ha)
  rw [List.all_eq_true] at h
  have h := h k (List.mem_range.2 hk)
  rw [List.all_eq_true] at h
  have h := h m (List.mem_range.2 hm)
  rw [decide_eq_true_eq] at h
  unfold pickL
  rw [List.length_map]; exact h
/-- An odd number of the three divide. -/
theorem rlP_three {a b d : Nat} (ha : 1 ≤ a) (hb : a ∣ b) (hd : b ∣ d) (y : Nat) : rlP [(a : Int), (b : Int), (d : Int)] y = r3N a b d y := by
  have e1 : (((y : Int) % (a : Int) = 0)) ↔ y % a = 0 := by rw [← Int.natCast_emod]; omega
  have e2 : (((y : Int) % (b : Int) = 0)) ↔ y % b = 0 := by rw [← Int.natCast_emod]; omega
  have e3 : (((y : Int) % (d : Int) = 0)) ↔ y % d = 0 := by rw [← Int.natCast_emod]; omega
  have i1 : y % b = 0 → y % a = 0 := fun h => Nat.mod_eq_zero_of_dvd (Nat.dvd_trans hb (Nat.dvd_of_mod_eq_zero h))
  have i2 : y % d = 0 → y % b = 0 := fun h => Nat.mod_eq_zero_of_dvd (Nat.dvd_trans hd (Nat.dvd_of_mod_eq_zero h))
  unfold rlP r3N cntR
  rw [List.take_length]
  simp only [List.countP_cons, List.countP_nil, decide_eq_true_eq, e1, e2, e3]
  by_cases c1 : y % a = 0 <;> by_cases c2 : y % b = 0 <;> by_cases c3 : y % d = 0 <;> simp_all
theorem pick_has {p : Nat → Bool} {n i : Nat} (hi : i < n) : hasB (pickL p n) (i : Int) = p i := by
  unfold hasB
  rw [Bool.eq_iff_iff, decide_eq_true_eq, pickL_mem]
  constructor
  · rintro ⟨j, e, _, hp⟩
    obtain rfl : j = i := by omega
    exact hp
  · intro hp; exact ⟨i, rfl, hi, hp⟩
theorem rulB_three {a b d : Int} (a1 : 1 ≤ a) (ab : a < b) (bd : b < d) (d2 : d ≤ 400) (hb : b % a = 0) (hd : d % b = 0) : rulB [a, b, d] = true := by
  have f0 : rulAt [a, b, d] 0 = true := by rw [rulAt_zero]; exact inB_iff.2 ⟨a1, by show a ≤ 400; omega⟩
  have f1 : rulAt [a, b, d] 1 = true := by
    rw [rulAt_pos (by omega)]
    show (inB b 1 400 && (decide (a < b) && decide (b % a = 0))) = true
    rw [inB_iff.2 (by omega), decide_eq_true ab, decide_eq_true hb]; rfl
  have f2 : rulAt [a, b, d] 2 = true := by
    rw [rulAt_pos (by omega)]
    show (inB d 1 400 && (decide (b < d) && decide (d % b = 0))) = true
    rw [inB_iff.2 (by omega), decide_eq_true bd, decide_eq_true hd]; rfl
  unfold rulB rulT
  show (decide (1 ≤ 3) && (decide (3 ≤ 5) && (rulAt [a, b, d] 0 && (rulAt [a, b, d] 1 && (rulAt [a, b, d] 2 && true))))) = true
  rw [f0, f1, f2]; rfl
end Go.Proofs.Ytomfhkpmdalknab
