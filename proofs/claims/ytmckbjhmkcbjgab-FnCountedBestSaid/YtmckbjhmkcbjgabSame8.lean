/- The laws' comparison of two lists, and the last bit of an int64. -/
import Derived.Test.YtmckbjhmkcbjgabDraw8
import Derived.Laws.Bits128
import Derived.BigQuiet
namespace Go.Proofs.Ytmckbjhmkcbjgab
open Go.ChangeShapes Go.WideShapes Go.ChangeAt Go.RowKit Go.Deep
set_option linter.unusedVariables false
theorem i64_and1 (n : Int) : bits .and .i64 n 1 = n % 2 := by
  have h1 : (BitVec.ofInt 64 1).toNat = 2 ^ 1 - 1 := by decide
  have key : (BitVec.ofInt 64 n &&& BitVec.ofInt 64 1).toNat = (n % ((2 ^ 64 : Nat) : Int)).toNat % 2 ^ 1 := by
    rw [BitVec.toNat_and, BitVec.toNat_ofInt, h1, Nat.and_two_pow_sub_one_eq_mod]
  show IntKind.i64.wrap ((BitVec.ofInt 64 n &&& BitVec.ofInt 64 1).toNat : Nat) = n % 2
  rw [key, IntKind.wrap_i64]
  omega
theorem i64_bit (x k : Nat) : bits .and .i64 ((x : Int) / 2 ^ k) 1 = if x.testBit k then 1 else 0 := by
  have e : ((x : Int) / 2 ^ k) = ((x / 2 ^ k : Nat) : Int) := by
    rw [show ((2 : Int) ^ k) = ((2 ^ k : Nat) : Int) from by norm_cast]; exact (Int.natCast_ediv x (2 ^ k)).symm
  rw [i64_and1, e, Nat.testBit_eq_decide_div_mod_eq]
  rcases Nat.mod_two_eq_zero_or_one (x / 2 ^ k) with q | q
  · rw [q]; simp; omega
  · rw [q]; simp; omega
theorem wrap_pow64 {n : Nat} (h : n ≤ 40) : IntKind.i64.wrap (2 ^ n) = ((2 ^ n : Nat) : Int) := by
  have hp : 2 ^ n < 9223372036854775808 := Nat.lt_of_le_of_lt (Nat.pow_le_pow_right (by omega) h) (by decide)
  rw [show ((2 : Int) ^ n) = ((2 ^ n : Nat) : Int) from by norm_cast]
  generalize 2 ^ n = m at *
  exact IntWalk.i64_in _ (by omega)
theorem r8Same_same (ad bd : Option Addr) (cap bcap : Nat) (zs : List Int) (n m : Nat) (hn : n = zs.length) (hm : m = zs.length) (w : World) (hz : Ints w ad zs) (hy : Ints w bd zs) :
    Calls Try.prog 18 #[.slice ad n cap, .slice bd m bcap] w fun e w' => e = .returned (.bool true) ∧ Keep w w' := by
  subst hn hm
  have hlen := hz.small
  go_enter Try.func18, Try.ntmps18
  go_wp2
  go_loopg [5] zs.length (fun kk i wr => ∃ j : Nat, j ≤ zs.length ∧ kk = zs.length - j ∧ i = .int .i64 j ∧ Keep w wr)
  case atStart => exact ⟨0, Nat.zero_le _, rfl, rfl, Below.refl _ _⟩
  case round =>
    obtain ⟨j, hj, rfl, rfl, hkw⟩ := hrel
    have HKW := Lib.hid hkw
    by_cases hjn : j < zs.length
    · rcases hz.at_ with h | ⟨b1, off1, rfl, hb1, hc1⟩
      · subst h; simp at hjn
      rcases hy.at_ with h | ⟨b2, off2, rfl, hb2, hc2⟩
      · subst h; simp at hjn
      have hcx := (hkw.cell (p := ⟨b1, off1 + j, none⟩) (by exact hb1)).trans (hc1 j hjn)
      have hcy := (hkw.cell (p := ⟨b2, off2 + j, none⟩) (by exact hb2)).trans (hc2 j hjn)
      clear hc1 hc2 hkw
      generalize zs.getD j 0 = x at hcx hcy
      go_wp2
      go_quiet (fail)
      go_wp2
      go_roundg (zs.length - (j + 1))
      case measure => omega
      case rel => exact ⟨j + 1, by omega, rfl, by go_num, below_drewN HKW.out _⟩
    · clear hkw
      go_wp2
      go_ret
      exact ⟨rfl, HKW.out⟩
end Go.Proofs.Ytmckbjhmkcbjgab
