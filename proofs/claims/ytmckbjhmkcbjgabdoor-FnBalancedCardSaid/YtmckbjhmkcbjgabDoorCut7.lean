/- Where a Christoffel word is cut (pure). -/
import Derived.Test.YtmckbjhmkcbjgabDoorSlo7
namespace Go.Proofs.YtmckbjhmkcbjgabDoor
open Go.ChangeShapes Go.WideShapes Go.ChangeAt Go.RowKit Go.Deep
set_option linter.unusedVariables false
/-! ### Where a Christoffel word is cut -/
theorem cut_a1 {b n q p : Int} (hq : 1 ≤ q) (hqn : q < n) (hd : b * q - p * n = 1) (k : Int) (k0 : 0 ≤ k) (k1 : k ≤ q) : fl (k * b) n = fl (k * p) q := by
  obtain ⟨h1, h2⟩ := fl_mul (a := k * p) hq
  generalize fl (k * p) q = x at *
  have e0 : n * (k * p) = k * (b * q) - k := by
    calc n * (k * p) = k * (p * n) := by ac_rfl
      _ = k * (b * q - 1) := by rw [show p * n = b * q - 1 by omega]
      _ = k * (b * q) - k := by rw [Int.mul_sub, Int.mul_one]
  refine fl_eq (by omega) ?_ ?_
  · have e1 : n * (q * x) ≤ n * (k * p) := Int.mul_le_mul_of_nonneg_left h1 (by omega)
    have e2 : q * (n * x) ≤ q * (k * b) := by
      rw [show q * (n * x) = n * (q * x) by ac_rfl, show q * (k * b) = k * (b * q) by ac_rfl]; omega
    exact Int.le_of_mul_le_mul_left e2 (by omega)
  · have e1 : n * (k * p + 1) ≤ n * (q * x + q) := Int.mul_le_mul_of_nonneg_left (by omega) (by omega)
    rw [Int.mul_add, Int.mul_one] at e1
    have e2 : q * (k * b) < q * (n * x + n) := by
      rw [show q * (k * b) = k * (b * q) by ac_rfl, show q * (n * x + n) = n * (q * x + q) by rw [Int.mul_add, Int.mul_add]; congr 1 <;> ac_rfl]; omega
    exact Int.lt_of_mul_lt_mul_left e2 (by omega)
theorem cut_a2 {b n q p : Int} (hq : 1 ≤ q) (hqn : q < n) (hd : b * q - p * n = 1) (k : Int) (k0 : 0 ≤ k) (k1 : k ≤ n - q) : fl ((q + k) * b) n = p + fl (k * (b - p)) (n - q) := by
  obtain ⟨h1, h2⟩ := fl_mul (a := k * (b - p)) (b := n - q) (by omega)
  generalize fl (k * (b - p)) (n - q) = x at *
  have ec : n * (b - p) = b * (n - q) + 1 := by
    rw [Int.mul_sub, Int.mul_sub]
    have := Int.mul_comm n b; have := Int.mul_comm n p; omega
  have e0 : n * (k * (b - p)) = k * (b * (n - q)) + k := by
    calc n * (k * (b - p)) = k * (n * (b - p)) := by ac_rfl
      _ = k * (b * (n - q) + 1) := by rw [ec]
      _ = k * (b * (n - q)) + k := by rw [Int.mul_add, Int.mul_one]
  have eq0 : (q + k) * b = p * n + 1 + k * b := by
    rw [Int.add_mul]; have := Int.mul_comm q b; omega
  have e3 : n * (p + x) = p * n + n * x := by rw [Int.mul_add, Int.mul_comm n p]
  generalize hr : n - q = r at *
  refine fl_eq (by omega) ?_ ?_
  · have e1 : n * (r * x) ≤ n * (k * (b - p)) := Int.mul_le_mul_of_nonneg_left h1 (by omega)
    have e2 : r * (n * x) ≤ r * (k * b + 1) := by
      rw [Int.mul_add, show r * (n * x) = n * (r * x) by ac_rfl, show r * (k * b) = k * (b * r) by ac_rfl]; omega
    have := Int.le_of_mul_le_mul_left e2 (by omega)
    omega
  · have e1 : n * (k * (b - p) + 1) ≤ n * (r * x + r) := Int.mul_le_mul_of_nonneg_left (by omega) (by omega)
    rw [Int.mul_add, Int.mul_one] at e1
    have e2 : r * (k * b + 1) < r * (n * x + n) := by
      rw [Int.mul_add, show r * (k * b) = k * (b * r) by ac_rfl, show r * (n * x + n) = n * (r * x + r) by rw [Int.mul_add, Int.mul_add]; congr 1 <;> ac_rfl]; omega
    have := Int.lt_of_mul_lt_mul_left e2 (by omega)
    omega
theorem cut_b {b n q p i e : Int} (hq : 1 ≤ q) (hqn : q < n) (hd : b * q - p * n = 1) (hi : 1 ≤ i) (hiq : i < q) (he : e = fl (i * b) n)
    (hg : Int.gcd (b - e) (n - i) = 1) (hs : ∀ k, 0 ≤ k → k ≤ n - i → fl ((i + k) * b) n = e + fl (k * (b - e)) (n - i)) : False := by
  have hb := fl_mul (a := i * b) (b := n) (by omega)
  rw [← he] at hb
  have h1 := hs (q - i) (by omega) (by omega)
  rw [show i + (q - i) = q by omega, show fl (q * b) n = p from fl_eq (by omega) (by have := Int.mul_comm q b; have := Int.mul_comm n p; omega) (by have := Int.mul_comm q b; have := Int.mul_comm n p; omega)] at h1
  have h2 := (fl_mul (a := (q - i) * (b - e)) (b := n - i) (by omega)).1
  rw [show fl ((q - i) * (b - e)) (n - i) = p - e by omega] at h2
  -- s = i (b - p) - e (n - q)
  have hs1 : n * (i * (b - p) - e * (n - q)) = i + (i * b - n * e) * (n - q) := by
    have a1 : n * (i * (b - p) - e * (n - q)) = i * (b * n - p * n) - n * e * (n - q) := by
      rw [Int.mul_sub, show n * (i * (b - p)) = i * (n * (b - p)) by ac_rfl, Int.mul_sub, Int.mul_comm n b, Int.mul_comm n p, Int.mul_assoc]
    have a2 : (i * b - n * e) * (n - q) = i * (b * n - b * q) - n * e * (n - q) := by
      rw [Int.sub_mul, show i * b * (n - q) = i * (b * (n - q)) by ac_rfl, Int.mul_sub]
    rw [a1, a2, show b * n - p * n = (b * n - b * q) + 1 by omega, Int.mul_add, Int.mul_one]; omega
  have hs2 : 0 ≤ (i * b - n * e) * (n - q) := Int.mul_nonneg (by omega) (by omega)
  have hs3 : 1 ≤ i * (b - p) - e * (n - q) := by
    by_cases c : i * (b - p) - e * (n - q) ≤ 0
    · have : n * (i * (b - p) - e * (n - q)) ≤ n * 0 := Int.mul_le_mul_of_nonneg_left c (by omega)
      omega
    · omega
  have hX : (q - i) * (b - e) - (n - i) * (p - e) = 1 - (i * (b - p) - e * (n - q)) := by
    simp only [Int.sub_mul, Int.mul_sub]
    have := Int.mul_comm q b; have := Int.mul_comm n p; have := Int.mul_comm e n; have := Int.mul_comm e q
    omega
  have hz : (q - i) * (b - e) = (n - i) * (p - e) := by omega
  have hdv : (n - i) ∣ (q - i) := dvd_cop hg ⟨p - e, by rw [Int.mul_comm, hz]⟩
  have := Int.le_of_dvd (by omega) hdv
  omega
theorem cut_uni {b n q p q' p' : Int} (hq : 1 ≤ q) (hqn : q < n) (hd : b * q - p * n = 1) (hq' : 1 ≤ q') (hqn' : q' < n) (hd' : b * q' - p' * n = 1) : q = q' ∧ p = p' := by
  have hg : Int.gcd b n = 1 := by
    have h1 : (Int.gcd b n : Int) ∣ 1 := by
      rw [← hd]; exact Int.dvd_sub (Int.dvd_mul_of_dvd_left (Int.gcd_dvd_left ..)) (Int.dvd_mul_of_dvd_right (Int.gcd_dvd_right ..))
    have := Int.le_of_dvd (by omega) h1
    have : 0 < Int.gcd b n := Nat.gcd_pos_of_pos_right _ (by omega)
    omega
  have e : b * (q - q') = n * (p - p') := by
    rw [Int.mul_sub, Int.mul_sub, Int.mul_comm n p, Int.mul_comm n p']; omega
  have hdv : n ∣ (q - q') := dvd_cop hg ⟨p - p', e⟩
  have hqq : q = q' := by
    obtain ⟨c, hc⟩ := hdv
    by_cases c0 : c = 0
    · rw [c0] at hc; omega
    · exfalso
      by_cases c1 : 1 ≤ c
      · have : n * 1 ≤ n * c := Int.mul_le_mul_of_nonneg_left c1 (by omega)
        omega
      · have : n * c ≤ n * (-1) := Int.mul_le_mul_of_nonneg_left (by omega) (by omega)
        omega
  refine ⟨hqq, ?_⟩
  subst hqq
  rw [Int.sub_self, Int.mul_zero] at e
  have := Int.mul_eq_zero.1 e.symm
  omega
end Go.Proofs.YtmckbjhmkcbjgabDoor
