/- What FnColoured asks of lists and sets: the greatest of a list, how many points a set has. -/
import Derived.Test.YtaockgegghmphabCnt10
import Derived.Test.YtaockgegghmphabGreat
import Derived.Deep.QuietTactic
import Derived.BigQuiet
namespace Go.Proofs.Ytaockgegghmphab
open Go.ChangeShapes Go.WideShapes Go.ChangeAt Go.RowKit Go.Deep
set_option linter.unusedVariables false
theorem i64_xorX (a b : Nat) (ha : a < 4611686018427387904) (hb : b < 4611686018427387904) : bits .xor .i64 (a : Int) (b : Int) = ((a ^^^ b : Nat) : Int) := by
  have e1 : (BitVec.ofInt 64 (a : Int)).toNat = a := ofInt_u64 a (by omega)
  have e2 : (BitVec.ofInt 64 (b : Int)).toNat = b := ofInt_u64 b (by omega)
  have key : (BitVec.ofInt 64 (a : Int) ^^^ BitVec.ofInt 64 (b : Int)).toNat = a ^^^ b := by rw [BitVec.toNat_xor, e1, e2]
  show IntKind.i64.wrap ((BitVec.ofInt 64 (a : Int) ^^^ BitVec.ofInt 64 (b : Int)).toNat : Nat) = _
  rw [key]
  have h : a ^^^ b < 2 ^ 62 := Nat.xor_lt_two_pow (by simpa using ha) (by simpa using hb)
  exact IntWalk.i64_in _ (by omega)
def abC (n : Int) : Int := if n < 0 then -n else n
theorem abC_is (n : Int) : abC n = ab n := by unfold abC ab; split <;> split <;> omega
theorem r8AbsC_any (n : Int) (w : World) (h : -1000 ≤ n ∧ n ≤ 1000) : Calls Try.prog 53 #[.int .i64 n] w fun e w' => e = .returned (.int .i64 (ab n)) ∧ w = w' := by
  rw [← abC_is]
  by_cases q : n < 0
  · have e : abC n = -n := by simp [abC, q]
    have HE := Lib.hid e; clear e
    go_enter Try.func53, Try.ntmps53
    go_wp2
    go_ret
    exact ⟨ret_i64 HE.out.symm, rfl⟩
  · have e : abC n = n := by simp [abC, q]
    have HE := Lib.hid e; clear e
    go_enter Try.func53, Try.ntmps53
    go_wp2
    go_ret
    exact ⟨ret_i64 HE.out.symm, rfl⟩
theorem r8Greatest_any (ad : Option Addr) (cap : Nat) (zs : List Int) (w : World) (hz : Ints w ad zs) (hb : ∀ z ∈ zs, -64 ≤ z ∧ z ≤ 64) :
    Calls Try.prog 15 #[.slice ad zs.length cap] w fun e w' => e = .returned (.int .i64 (gr zs)) ∧ w = w' := by
  have hl := hz.small
  have HB := Lib.hid hb; clear hb
  go_enter Try.func15, Try.ntmps15
  go_wp2
  go_loop [3, 4] (fun s i => ∃ k : Nat, k ≤ zs.length ∧ i = .int .i64 k ∧ s = .int .i64 (gr (zs.take k))) (fun _ i => zs.length - (intOf i).toNat)
  case atStart => exact ⟨0, Nat.zero_le _, rfl, by simp [gr]⟩
  case round =>
    obtain ⟨k, hk, rfl, rfl⟩ := hrel
    by_cases hlt : k < zs.length
    · rcases hz.at_ with h | ⟨b, off, rfl, hb1, hc⟩
      · subst h; simp at hlt
      have hcx := hc k hlt
      have hx := HB.out _ (getD_mem zs k hlt)
      have hs := gr_bd 64 (by omega) zs HB.out k hk
      have HS := Lib.hid (gr_step zs k hlt)
      clear hc
      generalize zs.getD k 0 = x at hcx hx HS
      generalize gr (zs.take k) = s at hs HS
      have ha := ab_bd (M := 64) hx
      have HA := Lib.hid (fun W => r8AbsC_any x W (by omega))
      generalize ab x = a at *
      by_cases hgt : s < a
      · go_wp2_with (go_at_call 53; refine (HA.out _).mono ?_; rintro e w' ⟨rfl, rfl⟩)
        go_round
        case rel => exact ⟨k + 1, by omega, by go_num, congrArg (Value.int IntKind.i64) (by rw [HS.out]; unfold mx; rw [if_neg (by omega)])⟩
        case measure => simp [intOf]; omega
      · go_wp2_with (go_at_call 53; refine (HA.out _).mono ?_; rintro e w' ⟨rfl, rfl⟩)
        go_round
        case rel => exact ⟨k + 1, by omega, by go_num, congrArg (Value.int IntKind.i64) (by rw [HS.out]; unfold mx; split <;> omega)⟩
        case measure => simp [intOf]; omega
    · have HE := Lib.hid (show k = zs.length from by omega)
      go_wp2
      go_ret
      exact ⟨ret_i64 (by rw [HE.out, List.take_length]), rfl⟩
set_option maxHeartbeats 400000 in
theorem r8Weight_any (x : Nat) (w : World) (hx : x < 4096) :
    Calls Try.prog 17 #[.int .i64 x] w fun e w' => e = .returned (.int .i64 (pc x : Nat)) ∧ w = w' := by
  go_enter Try.func17, Try.ntmps17
  go_wp2
  go_loop [0, 3] (fun s o => ∃ j : Nat, j ≤ 12 ∧ s = .int .i64 ((x / 2 ^ j : Nat) : Int) ∧ o = .int .i64 ((pcT x j : Nat) : Int)) (fun s _ => (intOf s).toNat)
  case atStart => exact ⟨0, Nat.zero_le _, by simp, rfl⟩
  case round =>
    obtain ⟨j, hj, rfl, rfl⟩ := hrel
    have HN := Lib.hid (half_step x j)
    have HP := Lib.hid (pcT_step x j)
    have HE := Lib.hid (fun h => pc_end (x := x) (j := j) h (by omega))
    have hle : x / 2 ^ j ≤ x := Nat.div_le_self _ _
    have hpc := pcT_le x j
    have hjj : 0 < x / 2 ^ j → j < 12 := fun h => by
      rcases Nat.lt_or_ge j 12 with q | q
      · exact q
      · have : j = 12 := by omega
        subst this
        rw [show x / 2 ^ 12 = 0 from Nat.div_eq_of_lt (by simpa using hx)] at h; omega
    have HJ := Lib.hid hjj; clear hjj
    generalize x / 2 ^ j = q at *
    generalize pcT x j = c at *
    by_cases h0 : 0 < q
    · have h1 : (0 : Int) < (q : Int) := by omega
      have w1 : bits .and .i64 (q : Int) 1 = (q : Int) % 2 := i64_oneX _
      have w2 : IntKind.i64.wrap ((c : Int) + (q : Int) % 2) = (c : Int) + (q : Int) % 2 := IntWalk.i64_in _ (by omega)
      go_wp2
      go_round
      case rel => exact ⟨j + 1, by have := HJ.out h0; omega, congrArg (Value.int IntKind.i64) (by rw [HN.out]; omega), congrArg (Value.int IntKind.i64) (by rw [HP.out]; omega)⟩
      case measure => simp [intOf]; omega
    · have h1 : ¬ (0 : Int) < (q : Int) := by omega
      have hq : q = 0 := by omega
      go_wp2
      go_ret
      exact ⟨ret_i64 (by rw [HE.out hq]), rfl⟩
end Go.Proofs.Ytaockgegghmphab
