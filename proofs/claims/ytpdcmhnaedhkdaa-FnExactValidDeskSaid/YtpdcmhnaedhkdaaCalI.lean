/- Calendars: what is valid, leap years, days before a year: the program's look and the model's. -/
import Derived.Test.YtpdcmhnaedhkdaaCal11
import Derived.Test.YtpdcmhnaedhkdaaCalM
import Derived.Test.YtpdcmhnaedhkdaaInts
import Derived.Test.YtpdcmhnaedhkdaaIdx11
import Derived.Deep.LoopGhost
import Derived.Deep.RegionHeld3
namespace Go.Proofs.Ytpdcmhnaedhkdaa
open Go.ChangeShapes Go.WideShapes Go.ChangeAt Go.RowKit Go.Deep
set_option linter.unusedVariables false
theorem drw_keep {w wr : World} (h : ∃ n, wr = w.drewN n) : Keep w wr := by obtain ⟨n, rfl⟩ := h; exact below_drewN (Below.refl _ _) _
theorem drw_add {w wr : World} (h : ∃ n, wr = w.drewN n) (m : Nat) : ∃ n, wr.drewN m = w.drewN n := by obtain ⟨n, rfl⟩ := h; exact ⟨n + m, by rw [World.drewN_drewN]⟩
end Go.Proofs.Ytpdcmhnaedhkdaa
