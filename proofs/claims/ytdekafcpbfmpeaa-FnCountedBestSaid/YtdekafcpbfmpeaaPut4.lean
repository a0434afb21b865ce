/- The best rounding with a sum: the model's side. -/
import Derived.Test.YtdekafcpbfmpeaaFixed4
namespace Go.Proofs.Ytdekafcpbfmpeaa
open Go.ChangeShapes Go.WideShapes Go.ChangeAt Go.RowKit Go.Deep
set_option linter.unusedVariables false
set_option maxHeartbeats 800000 in
theorem l00Own_any (ad : Option Addr) (cap : Nat) (zs : List Int) (w : World) (hz : Ints w ad zs) (hl : zs.length ≤ 1048576) :
    Calls Try.prog 83 #[.slice ad zs.length cap] w fun e w' => ∃ rd rc, e = .returned (.slice rd zs.length rc) ∧ Own w' w.heap.size rd rc zs ∧ Keep w w' := by
  have HO := Lib.hid (Own.lit0 w)
  have HK := Lib.hid (show Keep w (w.alloc (.cells #[] 2)) by go_grown)
  have hsz : w.heap.size < (w.alloc (.cells #[] 2)).heap.size := by simp
  have HSZ := Lib.hid hsz; clear hsz
  have HZ := Lib.hid hz
  go_enter Try.func83, Try.ntmps83
  go_wp2_with (refine list_appI (by rfl) _ _ (by rfl) w.heap.size w.heap.size 0 0 [] (by rfl) HO.out rfl ⟨Nat.le_refl _, HSZ.out, Nat.le_refl _⟩ zs ad zs.length cap (by rfl) rfl w HZ.out HK.out hl (by simp) (Nat.le_of_lt HSZ.out) ?_; intro gb cap2 w2 hown2 hgr2 hBg hlt2)
  go_ret
  exact ⟨some ⟨gb, 0, none⟩, cap2, by simp, by simpa using hown2, HK.out.grown hgr2 (Nat.le_of_lt HSZ.out) (fun k h => by cases h; exact Nat.le_refl _)⟩
end Go.Proofs.Ytdekafcpbfmpeaa
