/- Where a Christoffel word is cut: the model's walk. -/
import Derived.Test.YtmckbjhmkcbjgabDoorCu7
import Derived.Test.YtmckbjhmkcbjgabDoorStep
import Derived.Deep.DeepCutAuto
import Derived.Deep.RegionLaw
import Derived.Test.YtmckbjhmkcbjgabDoorHold
namespace Go.Proofs.YtmckbjhmkcbjgabDoor
open Go.ChangeShapes Go.WideShapes Go.ChangeAt Go.RowKit Go.Deep
set_option linter.unusedVariables false
def cuB (a b : Int) : Bool := chB a b && (decide (1 ≤ a) && decide (1 ≤ b))
theorem cuB_iff {a b : Int} : cuB a b = true ↔ (1 ≤ a ∧ a ≤ 60) ∧ (1 ≤ b ∧ b ≤ 60) ∧ Int.gcd a b = 1 := by
  unfold cuB; simp only [Bool.and_eq_true, chB_iff, decide_eq_true_eq]
  constructor
  · rintro ⟨⟨h1, h2, h3⟩, h4, h5⟩; exact ⟨by omega, by omega, h3⟩
  · rintro ⟨h1, h2, h3⟩; exact ⟨⟨by omega, by omega, h3⟩, by omega, by omega⟩
theorem cu_gcd {a b : Int} (h : Int.gcd a b = 1) : Int.gcd b (a + b) = 1 := by
  have h1 : (Int.gcd b (a + b) : Int) ∣ 1 := by
    have d1 : (Int.gcd b (a + b) : Int) ∣ b := Int.gcd_dvd_left ..
    have d2 : (Int.gcd b (a + b) : Int) ∣ (a + b) := Int.gcd_dvd_right ..
    have d3 : (Int.gcd b (a + b) : Int) ∣ a := by
      have := Int.dvd_sub d2 d1
      rwa [show a + b - b = a by omega] at this
    have d4 := Int.dvd_coe_gcd d3 d1
    rw [h] at d4; exact d4
  have := Int.le_of_dvd (by omega) h1
  by_cases c : Int.gcd b (a + b) = 0
  · have := Int.gcd_eq_zero_iff.1 c
    have ha : a = 0 := by omega
    have hb : b = 0 := by omega
    rw [ha, hb] at h; simp at h
  · omega
noncomputable def cuQ (b n : Int) : Int := by classical exact if h : ∃ x : Int × Int, b * x.2 - x.1 * n = 1 ∧ 1 ≤ x.2 ∧ x.2 < n then h.choose.2 else 0
theorem cuQ_eq {b n q p : Int} (hd : b * q - p * n = 1) (h1 : 1 ≤ q) (h2 : q < n) : cuQ b n = q := by
  unfold cuQ
  have hx : ∃ x : Int × Int, b * x.2 - x.1 * n = 1 ∧ 1 ≤ x.2 ∧ x.2 < n := ⟨(p, q), hd, h1, h2⟩
  rw [dif_pos hx]
  have hs := hx.choose_spec
  generalize hx.choose = x at *
  exact (cut_uni hs.2.1 hs.2.2 hs.1 h1 h2 hd).1
noncomputable def cuV (a b : Int) : Int := if cuB a b then cuQ b (a + b) else 0
theorem bytes_beq7 (a b : ByteArray) : (a.toList == b.toList) = decide (a = b) := by
  rw [Bool.eq_iff_iff, beq_iff_eq, decide_eq_true_eq, Lib.toList_data, Lib.toList_data]
  exact ⟨fun h => ByteArray.ext (Array.ext' h), fun h => by rw [h]⟩
/-- The bounds of the heights at a place. -/
theorem cut_bd {b n : Int} (h1 : 1 ≤ b) (h2 : b < n) {i : Nat} (hi : (i : Int) < n) (hi1 : 1 ≤ i) : 0 ≤ fl ((i : Int) * b) n ∧ fl ((i : Int) * b) n ≤ i ∧ fl ((i : Int) * b) n ≤ b ∧ b - fl ((i : Int) * b) n ≤ n - i := by
  have hm := fl_mul (a := (i : Int) * b) (b := n) (by omega)
  generalize fl ((i : Int) * b) n = e at *
  have e1 : (i : Int) * b ≤ (i : Int) * n := Int.mul_le_mul_of_nonneg_left (by omega) (by omega)
  have e2 : (i : Int) * b ≤ n * b := Int.mul_le_mul_of_nonneg_right (by omega) (by omega)
  have e0 : 0 ≤ (i : Int) * b := Int.mul_nonneg (by omega) (by omega)
  have x1 : 0 ≤ e := by
    by_cases c : e ≤ -1
    · have : n * e ≤ n * (-1) := Int.mul_le_mul_of_nonneg_left c (by omega)
      omega
    · omega
  have x2 : e ≤ i := by
    have : n * e ≤ n * i := by rw [Int.mul_comm n (i : Int)]; omega
    exact Int.le_of_mul_le_mul_left this (by omega)
  have x3 : e ≤ b := Int.le_of_mul_le_mul_left (show n * e ≤ n * b by omega) (by omega)
  refine ⟨x1, x2, x3, ?_⟩
  by_cases c : b - e ≤ n - i
  · exact c
  · exfalso
    -- i - e ≥ n - b + 1
    have c2 : n - b + 1 ≤ (i : Int) - e := by omega
    have c3 : n * (n - b + 1) ≤ n * ((i : Int) - e) := Int.mul_le_mul_of_nonneg_left c2 (by omega)
    have c4 : (i : Int) * (n - b) ≤ (n - 1) * (n - b) := Int.mul_le_mul_of_nonneg_right (by omega) (by omega)
    simp only [Int.mul_sub, Int.mul_add, Int.sub_mul, Int.mul_one, Int.one_mul] at c3 c4
    have := Int.mul_comm n b; have := Int.mul_comm n (i : Int)
    omega
local macro "tk" i:num d:num : tactic => `(tactic| (refine takeH (v := ?_) $i $d rfl rfl (by kernel_rfl) (by kernel_rfl) (by kernel_rfl) (fun _ _ _ h => h) (by first | kernel_rfl | rfl) trivial ?_ ?_; rotate_left 1; focus (intro W_ hSw; go_simp; try with_reducible rfl); try simp only [Act.put, List.setIfInBounds_toArray, List.set_cons_zero, List.set_cons_succ]))
local macro "sk" i:num d:num : tactic => `(tactic| (refine skipH $i $d rfl rfl (by kernel_rfl) (by kernel_rfl) (by kernel_rfl) (fun _ _ _ h => h) (by first | kernel_rfl | rfl) trivial ?_; try simp only [Act.put, List.setIfInBounds_toArray, List.set_cons_zero, List.set_cons_succ]))
local macro "tv" i:num d:num b:ident f:ident : tactic => `(tactic| (refine takeH (v := .bool $b) $i $d rfl rfl (by kernel_rfl) (by kernel_rfl) (by kernel_rfl) (fun _ _ _ h => h) (by first | kernel_rfl | rfl) trivial ?_ ?_; focus (intro W_ hSw; go_simp; first | (rw [$f:ident]; done) | (simp [$f:ident]; done) | skip); try simp only [Act.put, List.setIfInBounds_toArray, List.set_cons_zero, List.set_cons_succ]))
local macro "rg0" : tactic => `(tactic| (refine wp_region_held_drew (S := fun _ => True) (by kernel_rfl) trivial (fun hHeld => ?_)))
end Go.Proofs.YtmckbjhmkcbjgabDoor
