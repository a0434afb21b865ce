/- Where a Christoffel word is cut: the model's look. -/
import Derived.Test.YtmckbjhmkcbjgabDoorCut7
import Derived.Test.YtmckbjhmkcbjgabDoorLn7
import Derived.Test.YtmckbjhmkcbjgabDoorHgt7
import Derived.Deep.LoopGhost
namespace Go.Proofs.YtmckbjhmkcbjgabDoor
open Go.ChangeShapes Go.WideShapes Go.ChangeAt Go.RowKit Go.Deep
set_option linter.unusedVariables false
theorem lnB_ab7 (a den shift i : Int) : lnB a den shift i = 97 ∨ lnB a den shift i = 98 := by unfold lnB; split <;> simp
theorem lnN_ab7 (a den shift : Int) (n : Nat) : Ab7 (lnN a den shift n) := by
  intro z hz
  unfold lnN at hz
  obtain ⟨i, _, rfl⟩ := List.mem_map.1 hz
  exact lnB_ab7 _ _ _ _
theorem fl_grow7 {x a d : Int} (h1 : 1 ≤ d) (h2 : 0 ≤ a) (h3 : a ≤ d) : fl (x + a) d = fl x d ∨ fl (x + a) d = fl x d + 1 := by
  obtain ⟨e1, e2⟩ := fl_mul (a := x) h1
  by_cases q : x + a < d * fl x d + d
  · exact .inl (fl_eq h1 (by omega) q)
  · refine .inr (fl_eq h1 ?_ ?_) <;> (rw [Int.mul_add]; omega)
theorem lnN_get7 (a d s : Int) (n k : Nat) (h : k < (lnN a d s n).length) : (lnN a d s n)[k] = lnB a d s k := by simp [lnN]
/-- The heights of the word of a line with the shift 0. -/
theorem lnh0 {a d : Int} (hd : 1 ≤ d) (ha : 0 ≤ a) (hb : a ≤ d) (n : Nat) : ∀ k : Nat, k ≤ n → hgt (strOfNums (lnN a d 0 n)) k = fl ((k : Int) * a) d := by
  intro k
  induction k with
  | zero => intro _; rw [hgt_zero]; exact (fl_eq hd (by simp) (by simp; omega)).symm
  | succ k ih =>
    intro hk
    have hl : k < (lnN a d 0 n).length := by rw [lnN_len]; omega
    have hz : k < (strOfNums (lnN a d 0 n)).size := by rw [strOfNums_size]; exact hl
    have hby := byte7 (lnN a d 0 n) k hl (lnN_ab7 a d 0 n) hz
    rw [lnN_get7 a d 0 n k hl] at hby
    have e : ((k + 1 : Nat) : Int) * a = (k : Int) * a + a := by rw [Int.natCast_add, Int.add_mul]; simp
    have e2 : ((k : Int) + 1) * a + 0 = (k : Int) * a + a := by rw [Int.add_mul]; omega
    have hg := fl_grow7 (x := (k : Int) * a) hd ha hb
    rw [hgt_succ _ k hz, ih (by omega), e, hby]
    unfold lnB
    rw [e2, Int.add_zero]
    split <;> omega
/-- Two words of lines are one if their floors are, and only then. -/
theorem ln_eq {a d b e s t : Int} {n : Nat} (h : ∀ k : Nat, k < n → (fl ((k : Int) * a + s) d < fl (((k : Int) + 1) * a + s) d ↔ fl ((k : Int) * b + t) e < fl (((k : Int) + 1) * b + t) e)) : lnN a d s n = lnN b e t n := by
  unfold lnN
  refine List.map_congr_left fun k hk => ?_
  have := h k (List.mem_range.1 hk)
  unfold lnB
  by_cases q : fl ((k : Int) * a + s) d < fl (((k : Int) + 1) * a + s) d
  · rw [if_pos q, if_pos (this.1 q)]
  · rw [if_neg q, if_neg (fun r => q (this.2 r))]
theorem str_take (zs : List Int) (i : Nat) : (strOfNums zs).extract 0 i = strOfNums (zs.take i) := by
  apply ByteArray.ext
  simp [strOfNums, ByteArray.data_extract, List.map_take]
theorem str_drop (zs : List Int) (i : Nat) : (strOfNums zs).extract i (strOfNums zs).size = strOfNums (zs.drop i) := by
  apply ByteArray.ext
  simp [strOfNums, ByteArray.data_extract, List.map_drop, ByteArray.size]
  rw [List.take_of_length_le]
  simp
theorem ln_take (a d s : Int) {n i : Nat} (h : i ≤ n) : (lnN a d s n).take i = lnN a d s i := by
  unfold lnN; rw [← List.map_take, List.take_range, Nat.min_eq_left h]
/-- The rest of the word behind i letters is that of the line shifted. -/
theorem ln_drop (a d : Int) {n i : Nat} (h : i ≤ n) : (lnN a d 0 n).drop i = lnN a d ((i : Int) * a) (n - i) := by
  apply List.ext_getElem
  · simp [lnN_len]
  · intro k h1 h2
    rw [List.getElem_drop, lnN_get7, lnN_get7]
    unfold lnB
    have e1 : ((i + k : Nat) : Int) * a + 0 = (k : Int) * a + (i : Int) * a := by rw [Int.natCast_add, Int.add_mul]; omega
    have e2 : (((i + k : Nat) : Int) + 1) * a + 0 = ((k : Int) + 1) * a + (i : Int) * a := by rw [Int.natCast_add, Int.add_mul, Int.add_mul, Int.add_mul]; omega
    rw [e1, e2]
/-- The heights within the rest. -/
theorem ln_hgts {a d s b e : Int} (hd : 1 ≤ d) (ha : 0 ≤ a) (hb : a ≤ d) (he : 1 ≤ e) (hb0 : 0 ≤ b) (hbe : b ≤ e) {n : Nat} (h : lnN a d s n = lnN b e 0 n) : ∀ k : Nat, k ≤ n → fl ((k : Int) * a + s) d = fl s d + fl ((k : Int) * b) e := by
  intro k
  induction k with
  | zero => intro _; rw [show fl (((0 : Nat) : Int) * b) e = 0 from fl_eq he (by simp) (by simp; omega)]; simp
  | succ k ih =>
    intro hk
    have ih := ih (by omega)
    have h1 : lnB a d s k = lnB b e 0 k := by
      have q1 := lnN_get7 a d s n k (by rw [lnN_len]; omega)
      have q2 := lnN_get7 b e 0 n k (by rw [lnN_len]; omega)
      rw [← q1, ← q2]; congr 1
    have g1 := fl_grow7 (x := (k : Int) * a + s) hd ha hb
    have g2 := fl_grow7 (x := (k : Int) * b) he hb0 hbe
    unfold lnB at h1
    have e1 : ((k : Int) + 1) * a + s = ((k : Int) * a + s) + a := by rw [Int.add_mul]; omega
    have e2 : ((k : Int) + 1) * b + 0 = (k : Int) * b + b := by rw [Int.add_mul]; omega
    have e3 : ((k + 1 : Nat) : Int) * a + s = ((k : Int) * a + s) + a := by rw [Int.natCast_add, Int.add_mul]; simp; omega
    have e4 : ((k + 1 : Nat) : Int) * b = (k : Int) * b + b := by rw [Int.natCast_add, Int.add_mul]; simp
    rw [e1, e2, Int.add_zero] at h1
    rw [e3, e4]
    by_cases c1 : fl ((k : Int) * a + s) d < fl ((k : Int) * a + s + a) d
    · rw [if_pos c1] at h1
      by_cases c2 : fl ((k : Int) * b) e < fl ((k : Int) * b + b) e
      · omega
      · rw [if_neg c2] at h1; cases h1
    · rw [if_neg c1] at h1
      by_cases c2 : fl ((k : Int) * b) e < fl ((k : Int) * b + b) e
      · rw [if_pos c2] at h1; cases h1
      · omega
theorem str_inj {xs ys : List Int} (hx : Ab7 xs) (hy : Ab7 ys) (h : strOfNums xs = strOfNums ys) : xs = ys := by
  have hl : xs.length = ys.length := by rw [← strOfNums_size xs, h, strOfNums_size]
  apply List.ext_getElem hl
  intro k h1 h2
  have e1 := byte7 xs k h1 hx (by rw [strOfNums_size]; exact h1)
  have e2 := byte7 ys k h2 hy (by rw [strOfNums_size]; exact h2)
  rw [← e1, ← e2]
  congr 2
  congr 1
/-! ### the tree of Stern and Brocot -/
/-- Low and high are neighbours, and b / n lies between them. -/
structure Nb7 (b n p q r t : Int) : Prop where
  det : r * q - p * t = 1
  lo : p * n < b * q
  hi : b * t < r * n
  q1 : 1 ≤ q
  t1 : 1 ≤ t
  p0 : 0 ≤ p
  r0 : 0 ≤ r
theorem Nb7.sum {b n p q r t : Int} (h : Nb7 b n p q r t) : q + t ≤ n := by
  have e : n = q * (r * n - b * t) + t * (b * q - p * n) := by
    have e1 : n = n * (r * q - p * t) := by rw [h.det, Int.mul_one]
    have e2 : q * (r * n - b * t) + t * (b * q - p * n) = n * (r * q - p * t) := by
      rw [Int.mul_sub, Int.mul_sub, Int.mul_sub]
      have a1 : q * (r * n) = n * (r * q) := by ac_rfl
      have a2 : t * (p * n) = n * (p * t) := by ac_rfl
      have a3 : q * (b * t) = t * (b * q) := by ac_rfl
      omega
    rw [e2]; exact e1
  have h1 : q * 1 ≤ q * (r * n - b * t) := Int.mul_le_mul_of_nonneg_left (by have := h.hi; omega) (by have := h.q1; omega)
  have h2 : t * 1 ≤ t * (b * q - p * n) := Int.mul_le_mul_of_nonneg_left (by have := h.lo; omega) (by have := h.t1; omega)
  omega
theorem Nb7.left {b n p q r t : Int} (h : Nb7 b n p q r t) (hc : b * (q + t) < (p + r) * n) : Nb7 b n p q (p + r) (q + t) := by
  have hd := h.det
  have e1 : (p + r) * q = p * q + r * q := Int.add_mul ..
  have e2 : p * (q + t) = p * q + p * t := Int.mul_add ..
  exact ⟨by omega, h.lo, hc, h.q1, by have := h.q1; have := h.t1; omega, h.p0, by have := h.p0; have := h.r0; omega⟩
theorem Nb7.right {b n p q r t : Int} (h : Nb7 b n p q r t) (hc : (p + r) * n < b * (q + t)) : Nb7 b n (p + r) (q + t) r t := by
  have hd := h.det
  have e1 : r * (q + t) = r * q + r * t := Int.mul_add ..
  have e2 : (p + r) * t = p * t + r * t := Int.add_mul ..
  exact ⟨by omega, hc, h.hi, by have := h.q1; have := h.t1; omega, h.t1, by have := h.p0; have := h.r0; omega, h.r0⟩
theorem Nb7.meet {b n p q r t : Int} (h : Nb7 b n p q r t) (hc : b * (q + t) = (p + r) * n) (hg : Int.gcd b n = 1) : b = p + r ∧ n = q + t ∧ b * q - p * n = 1 := by
  have hs := h.sum
  have hq := h.q1; have ht := h.t1
  have hdv : n ∣ (q + t) := dvd_cop hg ⟨p + r, by rw [hc, Int.mul_comm]⟩
  have hle := Int.le_of_dvd (by omega) hdv
  have hn : n = q + t := by omega
  have hb : b = p + r := by
    rw [← hn] at hc
    exact Int.eq_of_mul_eq_mul_right (by omega) hc
  refine ⟨hb, hn, ?_⟩
  have hd := h.det
  have e1 : (p + r) * q = p * q + r * q := Int.add_mul ..
  have e2 : p * (q + t) = p * q + p * t := Int.mul_add ..
  rw [hb, hn]; omega
theorem Nb7.start {b n : Int} (h1 : 1 ≤ b) (h2 : b < n) : Nb7 b n 0 1 1 1 := ⟨by omega, by omega, by omega, by omega, by omega, by omega, by omega⟩
theorem nb_ex {b n : Int} (hg : Int.gcd b n = 1) : ∀ (f : Nat) (p q r t : Int), Nb7 b n p q r t → (n - (q + t)).toNat ≤ f → ∃ p' q', b * q' - p' * n = 1 ∧ 1 ≤ q' ∧ q' < n ∧ 0 ≤ p' := by
  intro f
  induction f with
  | zero =>
    intro p q r t h hf
    have hs := h.sum
    rcases Int.lt_trichotomy (b * (q + t)) ((p + r) * n) with c | c | c
    · have := (h.left c).sum; have := h.q1; omega
    · obtain ⟨_, e2, e3⟩ := h.meet c hg
      exact ⟨p, q, e3, h.q1, by have := h.t1; omega, h.p0⟩
    · have := (h.right c).sum; have := h.t1; omega
  | succ f ih =>
    intro p q r t h hf
    have hs := h.sum
    rcases Int.lt_trichotomy (b * (q + t)) ((p + r) * n) with c | c | c
    · have hl := h.left c
      exact ih _ _ _ _ hl (by have := hl.sum; have := h.q1; omega)
    · obtain ⟨_, e2, e3⟩ := h.meet c hg
      exact ⟨p, q, e3, h.q1, by have := h.t1; omega, h.p0⟩
    · have hr := h.right c
      exact ih _ _ _ _ hr (by have := hr.sum; have := h.t1; omega)
theorem cut_ex {b n : Int} (hg : Int.gcd b n = 1) (h1 : 1 ≤ b) (h2 : b < n) : ∃ p q, b * q - p * n = 1 ∧ 1 ≤ q ∧ q < n ∧ 0 ≤ p := nb_ex hg _ 0 1 1 1 (Nb7.start h1 h2) (Nat.le_refl _)
/-! ### what the model asks at a place -/
theorem cut_no {b n q p : Int} (hq : 1 ≤ q) (hqn : q < n) (hd : b * q - p * n = 1) (hb0 : 0 ≤ b) (hbn : b ≤ n) {i : Nat} (hi : 1 ≤ i) (hiq : (i : Int) < q) {e : Int} (he : e = fl ((i : Int) * b) n) (he0 : 0 ≤ b - e) (hen : b - e ≤ n - i)
    {m : Nat} (hm : (m : Int) = n) (hg : Int.gcd (n - b - ((i : Int) - e)) (b - e) = 1) : (strOfNums (lnN b n 0 m)).extract i (strOfNums (lnN b n 0 m)).size ≠ strOfNums (lnN (b - e) (n - i) 0 (m - i)) := by
  intro h
  rw [str_drop, ln_drop b n (by omega)] at h
  have hl := str_inj (lnN_ab7 _ _ _ _) (lnN_ab7 _ _ _ _) h
  have hh := ln_hgts (by omega) hb0 hbn (by omega) he0 hen hl
  have hg2 : Int.gcd (b - e) (n - i) = 1 := by
    have h1 : (Int.gcd (b - e) (n - i) : Int) ∣ 1 := by
      have d1 : (Int.gcd (b - e) (n - i) : Int) ∣ (b - e) := Int.gcd_dvd_left ..
      have d2 : (Int.gcd (b - e) (n - i) : Int) ∣ (n - i) := Int.gcd_dvd_right ..
      have d3 : (Int.gcd (b - e) (n - i) : Int) ∣ (n - b - ((i : Int) - e)) := by
        have := Int.dvd_sub d2 d1
        rwa [show n - (i : Int) - (b - e) = n - b - ((i : Int) - e) by omega] at this
      have d4 := Int.dvd_coe_gcd d3 d1
      rw [hg] at d4; exact d4
    have := Int.le_of_dvd (by omega) h1
    have : 0 < Int.gcd (b - e) (n - i) := Nat.gcd_pos_of_pos_right _ (by omega)
    omega
  refine cut_b hq hqn hd (show (1 : Int) ≤ i by omega) hiq he hg2 (fun k k0 k1 => ?_)
  obtain ⟨k', rfl⟩ : ∃ k' : Nat, k = k' := ⟨k.toNat, by omega⟩
  have := hh k' (by omega)
  rw [Int.add_mul, Int.add_comm ((i : Int) * b), this, ← he]
theorem gcd_one_of {x y u v : Int} (h : x * u - y * v = 1) (hv : 0 < v ∨ 0 < u) : Int.gcd v u = 1 := by
  have h1 : (Int.gcd v u : Int) ∣ 1 := by
    rw [← h]
    exact Int.dvd_sub (Int.dvd_mul_of_dvd_right (Int.gcd_dvd_right ..)) (Int.dvd_mul_of_dvd_right (Int.gcd_dvd_left ..))
  have := Int.le_of_dvd (by omega) h1
  have : 0 < Int.gcd v u := by
    rcases hv with h | h
    · exact Nat.gcd_pos_of_pos_left _ (by omega)
    · exact Nat.gcd_pos_of_pos_right _ (by omega)
  omega
theorem cut_yes {b n q p : Int} (hq : 1 ≤ q) (hqn : q < n) (hd : b * q - p * n = 1) (hb1 : 1 ≤ b) (hbn : b < n) (hp0 : 0 ≤ p) {i m : Nat} (hi : (i : Int) = q) (hm : (m : Int) = n) :
    fl ((i : Int) * b) n = p ∧ Int.gcd ((i : Int) - p) p = 1 ∧ Int.gcd (n - b - ((i : Int) - p)) (b - p) = 1 ∧
    (strOfNums (lnN b n 0 m)).extract 0 i = strOfNums (lnN p i 0 i) ∧ (strOfNums (lnN b n 0 m)).extract i (strOfNums (lnN b n 0 m)).size = strOfNums (lnN (b - p) (n - i) 0 (m - i)) := by
  have hpf : fl ((i : Int) * b) n = p := by
    rw [hi]; have := Int.mul_comm q b; have := Int.mul_comm n p
    exact fl_eq (by omega) (by omega) (by omega)
  have hg1 : Int.gcd ((i : Int) - p) p = 1 := by
    rw [Int.gcd_comm]
    -- b (q - p) - (n - b) p = 1
    have e : b * ((i : Int) - p) - (n - b) * p = 1 := by
      rw [hi, Int.mul_sub, Int.sub_mul]; have := Int.mul_comm n p; omega
    exact gcd_one_of e (by
      by_cases c : 0 < p
      · exact .inl c
      · exact .inr (by omega))
  have hg2 : Int.gcd (n - b - ((i : Int) - p)) (b - p) = 1 := by
    -- (n - b) (b - p) - b (n - b - (q - p)) = 1
    have e : (n - b) * (b - p) - b * (n - b - ((i : Int) - p)) = 1 := by
      rw [hi]
      simp only [Int.mul_sub, Int.sub_mul]
      have := Int.mul_comm n b; have := Int.mul_comm n p; omega
    refine gcd_one_of e ?_
    have hpb : p < b := by
      by_cases c : p < b
      · exact c
      · have h1 : b * q ≤ p * q := Int.mul_le_mul_of_nonneg_right (by omega) (by omega)
        have h2 : p * q ≤ p * n := Int.mul_le_mul_of_nonneg_left (by omega) hp0
        omega
    exact .inr (by omega)
  refine ⟨hpf, hg1, hg2, ?_, ?_⟩
  · rw [str_take, ln_take b n 0 (by omega)]
    congr 1
    refine ln_eq fun k hk => ?_
    have a1 := cut_a1 hq hqn hd (k : Int) (by omega) (by omega)
    have a2 := cut_a1 hq hqn hd ((k : Int) + 1) (by omega) (by omega)
    rw [Int.add_zero, Int.add_zero, Int.add_zero, Int.add_zero, hi, a1, a2]
  · rw [str_drop, ln_drop b n (by omega)]
    congr 1
    refine ln_eq fun k hk => ?_
    have a1 := cut_a2 hq hqn hd (k : Int) (by omega) (by omega)
    have a2 := cut_a2 hq hqn hd ((k : Int) + 1) (by omega) (by omega)
    have e1 : (k : Int) * b + (i : Int) * b = (q + (k : Int)) * b := by rw [Int.add_mul, hi]; omega
    have e2 : ((k : Int) + 1) * b + (i : Int) * b = (q + ((k : Int) + 1)) * b := by rw [Int.add_mul q, hi]; omega
    rw [e1, e2, Int.add_zero, Int.add_zero, hi, a1, a2]
    omega
end Go.Proofs.YtmckbjhmkcbjgabDoor
