/- The needy sequence: the program's comparison of two products. -/
import Derived.Test.YtpdcmhnaedhkdaaNm8
import Derived.BigQuiet
namespace Go.Proofs.Ytpdcmhnaedhkdaa
open Go.ChangeShapes Go.WideShapes Go.ChangeAt Go.RowKit Go.Deep
set_option linter.unusedVariables false
set_option maxHeartbeats 1600000 in
theorem neediest1_any (bx dc : Nat) (dd : Option Addr) (E : List Int) (x y : Nat) (w : World) (hb : w.cell? ⟨bx, 0, none⟩ = some (.slice dd E.length dc)) (hz : Ints w dd E) (hx : x < E.length) (hy : y < E.length) :
    Calls Try.prog 94 #[.int .i64 x, .int .i64 y, .pointer (some ⟨bx, 0, none⟩)] w fun e w' => (∃ c : Int, e = .returned (.int .i64 c) ∧ (c < 0 ↔ E.getD x 0 < E.getD y 0)) ∧ Keep w w' := by
  have hlen := hz.small
  rcases hz.at_ with h | ⟨b, off, rfl, hb1, hc⟩
  · subst h; simp at hx
  have hcx := hc x hx
  have hcy := hc y hy
  have hxi : (x : Int) < (E.length : Int) := by omega
  have hyi : (y : Int) < (E.length : Int) := by omega
  have HV : Hid (((if E.getD x 0 < E.getD y 0 then -1 else if E.getD y 0 < E.getD x 0 then 1 else 0 : Int) < 0) ↔ E.getD x 0 < E.getD y 0) := Lib.hid (by
    by_cases h1 : E.getD x 0 < E.getD y 0
    · rw [if_pos h1]; exact ⟨fun _ => h1, fun _ => by omega⟩
    · rw [if_neg h1]
      by_cases h2 : E.getD y 0 < E.getD x 0
      · rw [if_pos h2]; exact ⟨fun h => by omega, fun h => absurd h h1⟩
      · rw [if_neg h2]; exact ⟨fun h => by omega, fun h => absurd h h1⟩)
  clear hc
  generalize E.getD x 0 = u at *
  generalize E.getD y 0 = v at *
  have HC := Lib.hid (fun W => Compare64_any u v W)
  generalize (if u < v then -1 else if v < u then 1 else 0 : Int) = c at *
  go_enter Try.func94, Try.ntmps94
  go_wp2
  go_quiet ((go_at_call 95; exact Calls.quiet_of_same ((HC.out _).mono fun _ _ h => ⟨h.1, h.2.symm⟩)))
  go_wp2
  go_ret
  exact ⟨⟨c, rfl, HV.out⟩, below_drewN (Below.refl _ _) _⟩
end Go.Proofs.Ytpdcmhnaedhkdaa
