/- Sums of lists; errors; roundings; check numbers. -/
import Derived.Test.YtpdcmhnaedhkdaaVals
import Derived.Test.YtpdcmhnaedhkdaaTot
namespace Go.Proofs.Ytpdcmhnaedhkdaa
open Go.ChangeShapes Go.WideShapes Go.ChangeAt Go.RowKit
set_option linter.unusedVariables false
set_option maxHeartbeats 400000 in
theorem l01Sum_any (ad : Option Addr) (cap : Nat) (zs : List Int) (w : World) (hz : Ints w ad zs) (hb : ∀ z ∈ zs, -1000000000 ≤ z ∧ z ≤ 1000000000) (hl : zs.length ≤ 1073741824) :
    Calls Try.prog 51 #[.slice ad zs.length cap] w fun e w' => e = .returned (.int .i64 zs.sum) ∧ w = w' := by
  have HB := Lib.hid hb; clear hb
  go_enter Try.func51, Try.ntmps51
  go_wp2
  go_loop [3, 4] (fun s i => ∃ k : Nat, k ≤ zs.length ∧ i = .int .i64 k ∧ s = .int .i64 (zs.take k).sum)
    (fun _ i => zs.length - (intOf i).toNat)
  case atStart => exact ⟨0, Nat.zero_le _, rfl, by simp⟩
  case round =>
    obtain ⟨k, hk, rfl, rfl⟩ := hrel
    by_cases hlt : k < zs.length
    · rcases hz.at_ with h | ⟨b, off, rfl, hb1, hc⟩
      · subst h; simp at hlt
      have hcx := hc k hlt
      have hx := HB.out _ (getD_mem zs k hlt)
      have hs := sum_take_bd 1000000000 1073741824 (by omega) zs HB.out (by omega) k
      have HS := Lib.hid (sum_take_succ zs k hlt)
      clear hc
      generalize zs.getD k 0 = x at hcx hx HS
      generalize (zs.take k).sum = s at hs HS
      go_wp2
      go_round
      case rel => exact ⟨k + 1, by omega, by go_num, by rw [HS.out]⟩
      case measure => simp [intOf]; omega
    · have HE := Lib.hid (show k = zs.length from by omega)
      go_wp2
      go_ret
      exact ⟨ret_i64 (by rw [HE.out, List.take_length]), rfl⟩
def sumV (g : Int) (zs : List Int) : Int := if okV g zs then zs.sum else 0
/-- The check number behind the bytes l, begun with n. -/
def chk (n : Int) (l : List UInt8) : Int := l.foldl (fun c b => (263 * c + (b.toNat : Int) + 7) % 65521) n
theorem chk_snoc (n : Int) (l : List UInt8) (b : UInt8) : chk n (l ++ [b]) = (263 * chk n l + (b.toNat : Int) + 7) % 65521 := by simp [chk]
theorem chk_bd (n : Int) (l : List UInt8) (h : 0 ≤ n ∧ n < 65521) : 0 ≤ chk n l ∧ chk n l < 65521 := by
  induction l generalizing n with
  | nil => exact h
  | cons b l ih => exact ih _ (by have := b.toNat_lt; show 0 ≤ (263 * n + (b.toNat : Int) + 7) % 65521 ∧ (263 * n + (b.toNat : Int) + 7) % 65521 < 65521; omega)
theorem chk_step (n : Int) (s : ByteArray) (k : Nat) (h : k < s.size) : chk n (s.data.toList.take (k + 1)) = (263 * chk n (s.data.toList.take k) + ((s[k]'h).toNat : Int) + 7) % 65521 := by
  rw [List.take_succ_eq_append_getElem (by simpa using h), chk_snoc]; rfl
end Go.Proofs.Ytpdcmhnaedhkdaa
