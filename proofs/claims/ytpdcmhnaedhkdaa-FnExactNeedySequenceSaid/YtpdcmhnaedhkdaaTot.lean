/- The program's sum of a list. -/
import Derived.Test.YtpdcmhnaedhkdaaInts
namespace Go.Proofs.Ytpdcmhnaedhkdaa
open Go.ChangeShapes Go.WideShapes Go.ChangeAt Go.RowKit
set_option linter.unusedVariables false
set_option maxHeartbeats 400000 in
theorem total_any (ad : Option Addr) (cap : Nat) (zs : List Int) (w : World) (hz : Ints w ad zs) (hb : ∀ z ∈ zs, -1000000000 ≤ z ∧ z ≤ 1000000000) (hl : zs.length ≤ 1073741824) :
    Calls Try.prog 53 #[.slice ad zs.length cap] w fun e w' => e = .returned (.int .i64 zs.sum) ∧ w = w' := by
  have HB := Lib.hid hb; clear hb
  go_enter Try.func53, Try.ntmps53
  go_wp2
  go_loop [3, 5, 8] (fun s _ i => ∃ k : Nat, k ≤ zs.length ∧ i = .int .i64 k ∧ s = .int .i64 (zs.take k).sum)
    (fun _ _ i => zs.length - (intOf i).toNat)
  case atStart => exact ⟨0, Nat.zero_le _, rfl, by simp⟩
  case round =>
    obtain ⟨k, hk, rfl, rfl⟩ := hrel
    by_cases hlt : k < zs.length
    · rcases hz.at_ with h | ⟨b, off, rfl, hb1, hc⟩
      · subst h; simp at hlt
      have hcx := hc k hlt
      have hx := HB.out _ (getD_mem zs k hlt)
      have hs := sum_take_bd 1000000000 1073741824 (by omega) zs HB.out (by omega) k
      have HS := Lib.hid (sum_take_succ zs k hlt)
      clear hc
      generalize zs.getD k 0 = x at hcx hx HS
      generalize (zs.take k).sum = s at hs HS
      go_wp2
      go_round
      case rel => exact ⟨k + 1, by omega, by go_num, by rw [HS.out]⟩
      case measure => simp [intOf]; omega
    · have HE := Lib.hid (show k = zs.length from by omega)
      go_wp2
      go_ret
      exact ⟨ret_i64 (by rw [HE.out, List.take_length]), rfl⟩
end Go.Proofs.Ytpdcmhnaedhkdaa
