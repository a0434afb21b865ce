/- The laws' greatest common divisor. -/
import Derived.Test.YtomfhkpmdalknabGcd6
namespace Go.Proofs.Ytomfhkpmdalknab
open Go.ChangeShapes Go.WideShapes Go.ChangeAt Go.RowKit Go.Deep
set_option linter.unusedVariables false
theorem b10Gcd_any (a b : Int) (w : World) (ha : 0 ≤ a) (ha2 : a ≤ 1000000000000000) (hb : 0 ≤ b) (hb2 : b ≤ 1000000000000000) :
    Calls Try.prog 14 #[.int .i64 a, .int .i64 b] w fun e w' => e = .returned (.int .i64 (Int.gcd a b : Int)) ∧ w = w' := by
  obtain ⟨G, hG⟩ : ∃ G, G = Int.gcd a b := ⟨_, rfl⟩
  rw [← hG]
  have HG : Hid (Int.gcd a b = G) := Lib.hid hG.symm
  clear hG
  go_enter Try.func14, Try.ntmps14
  go_wp2
  go_loop [0, 1, 5] (fun s t _ => ∃ x y : Int, s = .int .i64 x ∧ t = .int .i64 y ∧ 0 ≤ x ∧ x ≤ 1000000000000000 ∧ 0 ≤ y ∧ y ≤ 1000000000000000 ∧ Hid (Int.gcd x y = G)) (fun _ t _ => (intOf t).toNat)
  case atStart => exact ⟨a, b, rfl, rfl, ha, ha2, hb, hb2, HG⟩
  case round =>
    obtain ⟨x, y, rfl, rfl, h1, h2, h3, h4, HX⟩ := hrel
    by_cases hy : 0 < y
    · have hm0 : 0 ≤ x % y := Int.emod_nonneg _ (by omega)
      have hml := Int.emod_lt_of_pos x hy
      have HST : Hid (Int.gcd y (x % y) = Int.gcd x y) := Lib.hid (by
        have h := gcd_step x y
        rw [Int.tmod_eq_emod_of_nonneg h1] at h; exact h)
      go_wp2
      go_round
      case rel => exact ⟨y, x % y, rfl, by go_num, h3, h4, hm0, by omega, Lib.hid (by rw [HST.out]; exact HX.out)⟩
      case measure => simp [intOf]; omega
    · have HE : Hid (x = (G : Int)) := Lib.hid (by
        have h := HX.out
        rw [show y = 0 by omega] at h
        unfold Int.gcd at h
        simp at h
        omega)
      go_wp2
      go_ret
      exact ⟨ret_i64 HE.out, rfl⟩
end Go.Proofs.Ytomfhkpmdalknab
