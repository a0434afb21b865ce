/- The greatest absolute value of a list. -/
import Derived.Test.YtaockgegghmphabVals
import Derived.Test.YtaockgegghmphabMem
namespace Go.Proofs.Ytaockgegghmphab
open Go.ChangeShapes Go.WideShapes Go.ChangeAt Go.RowKit
set_option linter.unusedVariables false
def ab (n : Int) : Int := if -n < n then n else -n
def mx (a b : Int) : Int := if b < a then a else b
def gr (zs : List Int) : Int := zs.foldl (fun m x => mx m (ab x)) 0
def grV (zs : List Int) : Int := if listOk zs 1000000000 then gr zs else 0
theorem gr_step (zs : List Int) (k : Nat) (h : k < zs.length) : gr (zs.take (k + 1)) = mx (gr (zs.take k)) (ab (zs.getD k 0)) := by
  rw [take_succ_getD zs k h]; unfold gr; rw [List.foldl_append]; rfl
theorem ab_bd {M n : Int} (h : -M ≤ n ∧ n ≤ M) : 0 ≤ ab n ∧ ab n ≤ M := by unfold ab; split <;> omega
theorem mx_bd {M a b : Int} (h : 0 ≤ a ∧ a ≤ M) (h2 : 0 ≤ b ∧ b ≤ M) : 0 ≤ mx a b ∧ mx a b ≤ M := by unfold mx; split <;> omega
theorem gr_bd (M : Int) (hM : 0 ≤ M) (zs : List Int) (h : ∀ z ∈ zs, -M ≤ z ∧ z ≤ M) (k : Nat) (hk : k ≤ zs.length) : 0 ≤ gr (zs.take k) ∧ gr (zs.take k) ≤ M := by
  induction k with
  | zero => simp [gr, hM]
  | succ k ih =>
    rw [gr_step zs k (by omega)]
    exact mx_bd (ih (by omega)) (ab_bd (h _ (getD_mem zs k (by omega))))
theorem absolute_any (n : Int) (w : World) (h1 : -4611686018427387904 ≤ n) (h2 : n ≤ 4611686018427387904) :
    Calls Try.prog 109 #[.int .i64 n] w fun e w' => e = .returned (.int .i64 (ab n)) ∧ w = w' := by
  go_enter Try.func109, Try.ntmps109
  go_wp2
  all_goals go_ret
  all_goals exact ⟨ret_i64 (by unfold ab; split <;> omega), rfl⟩
theorem l00Max_any (a b : Int) (w : World) :
    Calls Try.prog 121 #[.int .i64 a, .int .i64 b] w fun e w' => e = .returned (.int .i64 (mx a b)) ∧ w = w' := by
  by_cases h : b < a
  · rw [show mx a b = a from by unfold mx; rw [if_pos h]]
    go_enter Try.func121, Try.ntmps121
    go_wp2
    go_ret
    exact ⟨rfl, rfl⟩
  · rw [show mx a b = b from by unfold mx; rw [if_neg h]]
    go_enter Try.func121, Try.ntmps121
    go_wp2
    go_ret
    exact ⟨rfl, rfl⟩
set_option maxHeartbeats 400000 in
theorem GreatestOf_any (ad : Option Addr) (cap : Nat) (zs : List Int) (w : World) (hz : Ints w ad zs) :
    Calls Try.prog 62 #[.slice ad zs.length cap] w fun e w' => e = .returned (.tuple #[.int .i64 (grV zs), .bool (listOk zs 1000000000)]) ∧ Keep w w' := by
  cases hok : listOk zs 1000000000
  · rw [show grV zs = 0 from by simp [grV, hok]]
    go_enter Try.func62, Try.ntmps62
    go_wp2_with (go_at_call 108; refine (allWithin_any _ _ _ _ _ hz (by omega) (by omega)).mono ?_; rw [hok]; rintro e w' ⟨rfl, rfl⟩)
    go_ret2
    exact ⟨rfl, Below.refl _ _⟩
  · have HB := Lib.hid (listOk_num hok)
    have hl := listOk_len hok
    rw [show grV zs = gr zs from by simp [grV, hok]]
    go_enter Try.func62, Try.ntmps62
    go_wp2_with (go_at_call 108; refine (allWithin_any _ _ _ _ _ hz (by omega) (by omega)).mono ?_; rw [hok]; rintro e w' ⟨rfl, rfl⟩)
    go_loop [4, 6, 12] (fun s _ i => ∃ k : Nat, k ≤ zs.length ∧ i = .int .i64 k ∧ s = .int .i64 (gr (zs.take k)))
      (fun _ _ i => zs.length - (intOf i).toNat)
    case atStart => exact ⟨0, Nat.zero_le _, rfl, by simp [gr]⟩
    case round =>
      obtain ⟨k, hk, rfl, rfl⟩ := hrel
      by_cases hlt : k < zs.length
      · rcases hz.at_ with h | ⟨b, off, rfl, hb1, hc⟩
        · subst h; simp at hlt
        have hcx := hc k hlt
        have hx := HB.out _ (getD_mem zs k hlt)
        have hs := gr_bd 1000000000 (by omega) zs HB.out k hk
        have HS := Lib.hid (gr_step zs k hlt)
        clear hc
        generalize zs.getD k 0 = x at hcx hx HS
        generalize gr (zs.take k) = s at hs HS
        have ha := ab_bd (M := 1000000000) hx
        go_wp2_with (go_at_call 109; refine (absolute_any _ _ (by omega) (by omega)).mono ?_; rintro e w' ⟨rfl, rfl⟩)
        all_goals go_round
        all_goals first
          | exact ⟨k + 1, by omega, by go_num, congrArg (Value.int IntKind.i64) (by rw [HS.out]; unfold mx; split <;> omega)⟩
          | (simp [intOf]; omega)
      · have HE := Lib.hid (show k = zs.length from by omega)
        go_wp2
        go_ret2
        exact ⟨by rw [HE.out, List.take_length]; rfl, Below.refl _ _⟩
end Go.Proofs.Ytaockgegghmphab
