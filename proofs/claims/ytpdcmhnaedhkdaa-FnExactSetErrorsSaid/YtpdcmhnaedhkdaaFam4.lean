/- Sets of indices as bits: the program's functions on them. -/
import Derived.Test.YtpdcmhnaedhkdaaBits4
import Derived.Laws.BitsAllLaws
namespace Go.Proofs.Ytpdcmhnaedhkdaa
open Go.ChangeShapes Go.WideShapes Go.ChangeAt Go.RowKit
set_option linter.unusedVariables false
theorem shr_bit (m k : Nat) (hm : m < 18446744073709551616) : (bits .and .u64 ((m : Int) / 2 ^ k) 1 == 1) = m.testBit k := by
  have e : ((m : Int) / 2 ^ k) = ((m / 2 ^ k : Nat) : Int) := by
    rw [show ((2 : Int) ^ k) = ((2 ^ k : Nat) : Int) from by norm_cast]; exact (Int.natCast_ediv m (2 ^ k)).symm
  rw [e, show (1 : Int) = ((1 : Nat) : Int) from rfl, u64_and_nat _ _ (Nat.lt_of_le_of_lt (Nat.div_le_self _ _) hm) (by omega)]
  rw [Nat.testBit, Nat.shiftRight_eq_div_pow]
  rw [Nat.and_comm]
  have h := Nat.and_one_is_mod (m / 2 ^ k)
  rw [Nat.and_comm 1, h]
  rcases Nat.mod_two_eq_zero_or_one (m / 2 ^ k) with q | q <;> rw [q] <;> rfl
noncomputable def memB (n : Nat) (zs : List Int) : Bool := risesB zs 0 ((n : Int) - 1) && decide (zs.length ≠ 0)
noncomputable def memV (n : Nat) (zs : List Int) : Nat := if risesB zs 0 ((n : Int) - 1) then bitsOf zs else 0
theorem RisesTo.zero (zs : List Int) (lo hi : Int) : RisesTo zs lo hi 0 := fun j hj => by omega
def lastOf (zs : List Int) (k : Nat) : Int := if k = 0 then 0 else zs.getD (k - 1) 0 + 1
theorem lastOf_in {zs : List Int} {hi : Int} {k : Nat} (h : RisesTo zs 0 hi k) (hin : inB (zs.getD k 0) (lastOf zs k) hi = true) : RisesTo zs 0 hi (k + 1) := by
  have h1 := inB_iff.1 hin
  unfold lastOf at h1
  refine h.succ (inB_iff.2 ?_) (fun h0 => ?_)
  · split at h1
    · exact h1
    · have := inB_iff.1 (h (k - 1) (by omega)).1; omega
  · rw [if_neg (by omega)] at h1; omega
theorem lastOf_out {zs : List Int} {hi : Int} {k : Nat} (hk : k < zs.length) (hin : inB (zs.getD k 0) (lastOf zs k) hi = false) : risesB zs 0 hi = false := by
  have h1 := inB_not.1 hin
  unfold lastOf at h1
  cases hb : inB (zs.getD k 0) 0 hi
  · exact risesB_out hk hb
  · have h2 := inB_iff.1 hb
    by_cases h0 : k = 0
    · rw [if_pos h0] at h1; omega
    · rw [if_neg h0] at h1
      exact risesB_falls hk (by omega) (by omega)
theorem wrap_pow {x : Int} (h : x.toNat ≤ 40) : IntKind.u64.wrap (2 ^ x.toNat) = ((2 ^ x.toNat : Nat) : Int) := by
  have hp : 2 ^ x.toNat < 18446744073709551616 := Nat.lt_of_le_of_lt (Nat.pow_le_pow_right (by omega) h) (by decide)
  rw [IntKind.wrap_u64, show ((2 : Int) ^ x.toNat) = ((2 ^ x.toNat : Nat) : Int) from by norm_cast]
  exact Int.emod_eq_of_lt (Int.natCast_nonneg _) (show ((2 ^ x.toNat : Nat) : Int) < ((18446744073709551616 : Nat) : Int) from Int.ofNat_lt.2 hp)
theorem bits_ne0 {zs : List Int} (h : ∀ z ∈ zs, 0 ≤ z) : (((bitsOf zs : Nat) : Int) != 0) = decide (zs.length ≠ 0) := by
  have := bitsOf_zero zs h
  by_cases e : zs = []
  · subst e; rfl
  · have h1 : ¬ bitsOf zs = 0 := fun q => e (this.1 q)
    have h2 : ¬ zs.length = 0 := fun q => e (List.eq_nil_of_length_eq_zero q)
    have h3 : (((bitsOf zs : Nat) : Int) != 0) = true := by rw [bne_iff_ne]; exact fun q => h1 (Int.ofNat.inj q)
    rw [h3]; simp [h2]
set_option maxHeartbeats 800000 in
theorem sumOf_any (m : Nat) (hm : m < 18446744073709551616) (ad : Option Addr) (cap : Nat) (zs : List Int) (w : World) (hz : Ints w ad zs) (hl : zs.length ≤ 40) (hb : ∀ z ∈ zs, -1000000000 ≤ z ∧ z ≤ 1000000000) :
    Calls Try.prog 115 #[.int .u64 m, .slice ad zs.length cap] w fun e w' => e = .returned (.int .i64 (selS zs m zs.length)) ∧ w = w' := by
  have HB := Lib.hid hb; clear hb
  go_enter Try.func115, Try.ntmps115
  go_wp2
  go_loop [5, 6, 7, 10] (fun s _ _ i => ∃ k : Nat, k ≤ zs.length ∧ i = .int .i64 k ∧ s = .int .i64 (selS zs m k))
    (fun _ _ _ i => zs.length - (intOf i).toNat)
  case atStart => exact ⟨0, Nat.zero_le _, rfl, rfl⟩
  case round =>
    obtain ⟨k, hk, rfl, rfl⟩ := hrel
    by_cases hlt : k < zs.length
    · rcases hz.at_ with h | ⟨b, off, rfl, hb1, hc⟩
      · subst h; simp at hlt
      have hcx := hc k hlt
      have hx := HB.out _ (getD_mem zs k hlt)
      have hs := selS_bd 1000000000 (by omega) zs HB.out m k hk
      have HS : Hid (selS zs m (k + 1) = selS zs m k + (if m.testBit k then zs.getD k 0 else 0)) := Lib.hid rfl
      have hsh := shr_bit m k hm
      clear hc
      generalize zs.getD k 0 = x at hcx hx HS
      generalize selS zs m k = s at hs HS
      cases ht : m.testBit k
      · rw [ht] at hsh
        have HS2 : Hid (selS zs m (k + 1) = s) := Lib.hid (by rw [HS.out, ht]; simp)
        go_wp2
        go_round
        case rel => exact ⟨k + 1, by omega, by go_num, by rw [HS2.out]⟩
        case measure => simp [intOf]; omega
      · rw [ht] at hsh
        have HS2 : Hid (selS zs m (k + 1) = s + x) := Lib.hid (by rw [HS.out, ht]; simp)
        go_wp2
        go_round
        case rel => exact ⟨k + 1, by omega, by go_num, by rw [HS2.out]⟩
        case measure => simp [intOf]; omega
    · have HE := Lib.hid (show k = zs.length from by omega)
      go_wp2
      go_ret
      exact ⟨ret_i64 (by rw [HE.out]), rfl⟩
end Go.Proofs.Ytpdcmhnaedhkdaa
