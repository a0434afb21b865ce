/- The helpers of the laws that draw out of bytes. -/
import Derived.Test.YtpdcmhnaedhkdaaGreatDoorPlain
namespace Go.Proofs.YtpdcmhnaedhkdaaGreatDoor
open Go.ChangeShapes Go.WideShapes Go.ChangeAt Go.RowKit
set_option linter.unusedVariables false
theorem b10Long_any (ad bd : Option Addr) (ca cb n m : Nat) (w : World) (hn : n ≤ 9223372036854775807) (hm : m ≤ 9223372036854775807) :
    Calls Tryz.prog 6 #[.slice ad n ca, .slice bd m cb] w fun e w' => e = .returned (.bool (decide (1048576 < n) || decide (1048576 < m))) ∧ w = w' := by
  by_cases h1 : 1048576 < n
  · have h1i : (1048576 : Int) < (n : Int) := by omega
    go_enter Tryz.func6, Tryz.ntmps6
    go_wp2
    go_ret
    exact ⟨ret_bool (by first | rfl | (rw [decide_eq_true h1, Bool.true_or])), rfl⟩
  · have h1i : ¬ (1048576 : Int) < (n : Int) := by omega
    by_cases h2 : 1048576 < m
    · have h2i : (1048576 : Int) < (m : Int) := by omega
      go_enter Tryz.func6, Tryz.ntmps6
      go_wp2
      go_ret
      exact ⟨ret_bool (by first | rfl | (rw [decide_eq_true h2, Bool.or_true])), rfl⟩
    · have h2i : ¬ (1048576 : Int) < (m : Int) := by omega
      go_enter Tryz.func6, Tryz.ntmps6
      go_wp2
      go_ret
      exact ⟨ret_bool (by first | rfl | (rw [decide_eq_false h1, decide_eq_false h2]; rfl)), rfl⟩
/-- A number from 0 to n - 1 that the bytes choose. -/
def pickB (zs : List Int) (i n : Int) : Int := if n ≤ 1 then 0 else if i < zs.length then zs.getD i.toNat 0 % n else (i * 37 + 11) % n
theorem pickB_bd (zs : List Int) (i n : Int) : 0 ≤ pickB zs i n ∧ (1 ≤ n → pickB zs i n < n) := by
  unfold pickB
  split
  · exact ⟨by omega, fun h => by omega⟩
  · split
    · exact ⟨Int.emod_nonneg _ (by omega), fun _ => Int.emod_lt_of_pos _ (by omega)⟩
    · exact ⟨Int.emod_nonneg _ (by omega), fun _ => Int.emod_lt_of_pos _ (by omega)⟩
theorem b10At_any (ad : Option Addr) (cap : Nat) (zs : List Int) (i n : Int) (w : World) (hz : Bytes w ad zs) (hi : 0 ≤ i) (hi2 : i ≤ 1000000000000) (hn : -1000000000000 ≤ n) (hn2 : n ≤ 1000000000000) :
    Calls Tryz.prog 22 #[.slice ad zs.length cap, .int .i64 i, .int .i64 n] w fun e w' => e = .returned (.int .i64 (pickB zs i n)) ∧ w = w' := by
  have hlen := hz.small
  by_cases h1 : n ≤ 1
  · rw [show pickB zs i n = 0 from by simp [pickB, h1]]
    go_enter Tryz.func22, Tryz.ntmps22
    go_wp2
    go_ret
    exact ⟨rfl, rfl⟩
  · by_cases h2 : i < zs.length
    · obtain ⟨k, rfl⟩ := Int.eq_ofNat_of_zero_le hi
      have hk : k < zs.length := by omega
      rw [show pickB zs k n = zs.getD k 0 % n from by simp [pickB, h1, hk]]
      rcases hz.at_ with h | ⟨b, off, rfl, hb, hc⟩
      · subst h; simp at hk
      have hcx := hc k hk
      have hx := hz.wf _ (getD_mem zs k hk)
      clear hc
      generalize zs.getD k 0 = x at hcx hx
      have hr := Int.emod_nonneg x (show n ≠ 0 by omega)
      have hr2 := Int.emod_lt_of_pos x (show 0 < n by omega)
      go_enter Tryz.func22, Tryz.ntmps22
      go_wp2
      go_ret
      exact ⟨rfl, rfl⟩
    · rw [show pickB zs i n = (i * 37 + 11) % n from by simp only [pickB]; rw [if_neg h1, if_neg h2]]
      have hr := Int.emod_nonneg (i * 37 + 11) (show n ≠ 0 by omega)
      have hr2 := Int.emod_lt_of_pos (i * 37 + 11) (show 0 < n by omega)
      go_enter Tryz.func22, Tryz.ntmps22
      go_wp2
      go_ret
      exact ⟨rfl, rfl⟩
theorem b10Abs_neg (n : Int) (w : World) (h : n ≤ 0) (h2 : -9223372036854775807 ≤ n) :
    Calls Tryz.prog 18 #[.int .i64 n] w fun e w' => e = .returned (.int .i64 (-n)) ∧ w = w' := by
  by_cases h0 : n < 0
  · go_enter Tryz.func18, Tryz.ntmps18
    go_wp2
    go_ret
    exact ⟨rfl, rfl⟩
  · obtain rfl : n = 0 := by omega
    go_enter Tryz.func18, Tryz.ntmps18
    go_wp2
    go_ret
    exact ⟨rfl, rfl⟩
theorem b10Abs_pos (n : Int) (w : World) (h : 0 ≤ n) :
    Calls Tryz.prog 18 #[.int .i64 n] w fun e w' => e = .returned (.int .i64 n) ∧ w = w' := by
  have h0 : ¬ n < 0 := by omega
  go_enter Tryz.func18, Tryz.ntmps18
  go_wp2
  go_ret
  exact ⟨rfl, rfl⟩
end Go.Proofs.YtpdcmhnaedhkdaaGreatDoor
