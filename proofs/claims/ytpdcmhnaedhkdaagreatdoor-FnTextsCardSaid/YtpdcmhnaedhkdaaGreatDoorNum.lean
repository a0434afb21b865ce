/- Numbers and their texts, as plain lists of bytes. -/
import Derived.Test.YtpdcmhnaedhkdaaGreatDoorDec
import Derived.Lib.ParseIntB
import Derived.Lib.ParseIntBCases
namespace Go.Proofs.YtpdcmhnaedhkdaaGreatDoor
open Go.RowKit
set_option linter.unusedVariables false
/-- The number that digits tell. -/
def dval (l : List UInt8) : Int := l.foldl (fun n c => 10 * n + ((c.toNat : Int) - 48)) 0
theorem dval_snoc (l : List UInt8) (c : UInt8) : dval (l ++ [c]) = 10 * dval l + ((c.toNat : Int) - 48) := by simp [dval]
theorem dval_dec (u : Nat) : dval (Lib.decDigits u) = u := by
  induction u using Nat.strongRecOn with
  | _ u ih =>
    by_cases h : u < 10
    · rw [dec_small h]
      have := dch_nat u
      unfold dch at this
      rw [Nat.mod_eq_of_lt h] at this
      simp only [dval, List.foldl_cons, List.foldl_nil, this]; omega
    · rw [dec_big h, dval_snoc, ih (u / 10) (by omega)]
      have := dch_nat u
      unfold dch at this
      rw [this]; omega
/-- The number that a text tells, with its sign. -/
def numL (l : List UInt8) : Int := match l with | [] => 0 | c :: r => if c = 45 then -dval r else dval (c :: r)
theorem dec_head (u : Nat) : ∃ c r, Lib.decDigits u = c :: r ∧ 48 ≤ c.toNat ∧ c.toNat ≤ 57 := by
  induction u using Nat.strongRecOn with
  | _ u ih =>
    by_cases h : u < 10
    · have := dch_nat u
      unfold dch at this
      rw [Nat.mod_eq_of_lt h] at this
      exact ⟨_, [], dec_small h, by omega, by omega⟩
    · obtain ⟨c, r, h1, h2⟩ := ih (u / 10) (by omega)
      exact ⟨c, _, by rw [dec_big h, h1]; rfl, h2⟩
theorem numL_itoa (n : Int) : numL (Lib.itoa n) = n := by
  unfold Lib.itoa
  split
  · simp only [numL, if_true, dval_dec]; omega
  · obtain ⟨c, r, h1, h2, h3⟩ := dec_head n.toNat
    have h4 := dval_dec n.toNat
    rw [h1] at h4 ⊢
    simp only [numL]
    rw [if_neg (by intro h; subst h; simp at h2), h4]; omega
/-- A text that is the Decimal of a number from -MaxValue to MaxValue. -/
def rdOk (l : List UInt8) : Bool := inB (numL l) (-1000000000) 1000000000 && decide (Lib.itoa (numL l) = l)
def rdV (l : List UInt8) : Int := if rdOk l then numL l else 0
theorem rdOk_iff {l : List UInt8} : rdOk l = true ↔ ∃ n, -1000000000 ≤ n ∧ n ≤ 1000000000 ∧ Lib.itoa n = l := by
  unfold rdOk
  rw [Bool.and_eq_true, inB_iff, decide_eq_true_eq]
  constructor
  · rintro ⟨⟨h1, h2⟩, h3⟩; exact ⟨_, h1, h2, h3⟩
  · rintro ⟨n, h1, h2, rfl⟩; rw [numL_itoa]; exact ⟨⟨h1, h2⟩, rfl⟩
theorem rd_of {n : Int} {l : List UInt8} (h1 : -1000000000 ≤ n) (h2 : n ≤ 1000000000) (h3 : Lib.itoa n = l) : rdOk l = true ∧ rdV l = n := by
  have h := rdOk_iff.2 ⟨n, h1, h2, h3⟩
  exact ⟨h, by unfold rdV; rw [if_pos h, ← h3, numL_itoa]⟩
theorem rd_no {l : List UInt8} (h : ∀ n, -1000000000 ≤ n → n ≤ 1000000000 → Lib.itoa n ≠ l) : rdOk l = false ∧ rdV l = 0 := by
  have h2 : rdOk l = false := by
    cases h3 : rdOk l
    · rfl
    · obtain ⟨n, a, b, c⟩ := rdOk_iff.1 h3; exact absurd c (h n a b)
  exact ⟨h2, by unfold rdV; rw [h2]; rfl⟩
theorem parse_snoc (c : UInt8) (h1 : 48 ≤ c.toNat) (h2 : c.toNat ≤ 57) : ∀ (l : List UInt8) (acc m : Nat), Lib.parseUint10 acc l = .ok m → m < 1844674407370955162 → m * 10 + (c.toNat - 48) < 18446744073709551616 → Lib.parseUint10 acc (l ++ [c]) = .ok (m * 10 + (c.toNat - 48)) := by
  intro l
  induction l with
  | nil =>
    intro acc m h hm h3
    simp only [Lib.parseUint10] at h
    cases h
    simp only [List.nil_append, Lib.parseUint10]
    rw [if_pos ⟨h1, h2⟩, if_neg (by omega), if_neg (by omega)]
  | cons b r ih =>
    intro acc m h hm h3
    rw [List.cons_append]
    unfold Lib.parseUint10 at h ⊢
    split at h
    · rename_i q1
      rw [if_pos q1]
      split at h
      · cases h
      · rename_i q2
        rw [if_neg q2]
        split at h
        · cases h
        · rename_i q3
          rw [if_neg q3]
          exact ih _ _ h hm h3
    · cases h
theorem parse_dec (u : Nat) : u < 18446744073709551616 → Lib.parseUint10 0 (Lib.decDigits u) = .ok u := by
  induction u using Nat.strongRecOn with
  | _ u ih =>
    intro hu
    have hd := dch_nat u
    unfold dch at hd
    by_cases h : u < 10
    · rw [dec_small h]
      rw [Nat.mod_eq_of_lt h] at hd
      simp only [Lib.parseUint10]
      rw [if_pos (by omega), if_neg (by omega), if_neg (by omega), hd]
      congr 1; omega
    · rw [dec_big h, parse_snoc _ (by omega) (by omega) _ 0 (u / 10) (ih (u / 10) (by omega) (by omega)) (by omega) (by omega), hd]
      congr 1; omega
theorem parse_mag (u : Nat) (hu : u < 18446744073709551616) : Lib.parseUintB 64 (Lib.decDigits u) = .ok u := by
  rw [Lib.parseUintB_64, Lib.parseMag, if_neg ?_, parse_dec u hu]
  obtain ⟨c, r, h, _⟩ := dec_head u
  rw [h]; simp
theorem parse_itoa (n : Int) (h1 : -1000000000 ≤ n) (h2 : n ≤ 1000000000) : Lib.parseIntB 64 (Lib.itoa n) = .ok n := by
  unfold Lib.itoa
  split
  · rename_i h
    rw [Lib.parseIntB_minus, parse_mag _ (by omega)]
    unfold Lib.signedC; simp only []
    rw [if_neg (by have : (2 : Nat) ^ (64 - 1) = 9223372036854775808 := by decide
                   omega)]
    congr 1; omega
  · rename_i h
    obtain ⟨c, r, h3, h4, h5⟩ := dec_head n.toNat
    have h6 := parse_mag n.toNat (by omega)
    rw [h3] at h6 ⊢
    rw [Lib.parseIntB_plain _ _ _ (by omega) (by omega), h6]
    unfold Lib.signlessC; simp only []
    rw [if_neg (by have : (2 : Nat) ^ (64 - 1) = 9223372036854775808 := by decide
                   omega)]
    congr 1; omega
end Go.Proofs.YtpdcmhnaedhkdaaGreatDoor
