/- Tables marked. -/
import Derived.Test.YtjoanfgchapbaabTabs
import Derived.Test.YtjoanfgchapbaabMarks
namespace Go.Proofs.Ytjoanfgchapbaab
open Go.ChangeShapes Go.WideShapes Go.ChangeAt Go.RowKit Go.Joins Go.Deep
set_option linter.unusedVariables false
theorem markTable_ex (lo hi B : Nat) (G : Nat → Nat) (g : Int) (zss : List (List Int)) (k : Int) (w : World) (h : MineSS w lo hi B G zss) (hk : -1099511627776 ≤ k) (hk2 : k ≤ 17592186044416) (hs : tot zss ≤ 1099511627776) :
    Calls Try.prog 38 #[valV g (some ⟨B, 0, none⟩) zss.length zss.length, .int .i64 k] w fun e w' =>
      e = .returned (.int .i64 (k + tot zss)) ∧ OwnSS w' B G (upsS k zss) ∧ Span w w' lo hi := by
  go_enter Try.func38, Try.ntmps38
  go_wp2_with fail
  refine (markInt64SS_ex lo hi B G zss k _ (h.keep (by go_grown)) hk hk2 hs).mono ?_
  rintro e w1 ⟨rfl, ho, hsp⟩
  go_wp2
  go_ret
  exact ⟨rfl, ho, (Span.of_keep (w := w) (by go_grown)).trans hsp⟩
end Go.Proofs.Ytjoanfgchapbaab
