/- The laws' comparison of two lists, where they are equal. -/
import Derived.Test.YtpdcmhnaedhkdaaGreatDoorMem
import Derived.Deep.LoopGhost
namespace Go.Proofs.YtpdcmhnaedhkdaaGreatDoor
open Go.ChangeShapes Go.WideShapes Go.ChangeAt Go.RowKit
set_option linter.unusedVariables false
theorem b10Nums_same (ad : Option Addr) (ca : Nat) (bd : Option Addr) (cb : Nat) (zs : List Int) (w : World) (ha : Ints w ad zs) (hb : Ints w bd zs) :
    Calls Tryz.prog 17 #[.slice ad zs.length ca, .slice bd zs.length cb] w fun e w' => e = .returned (.bool true) ∧ Keep w w' := by
  have hlen := ha.small
  go_enter Tryz.func17, Tryz.ntmps17
  go_wp2
  go_loopg [5] zs.length (fun kk i wr => ∃ j : Nat, j ≤ zs.length ∧ kk = zs.length - j ∧ i = .int .i64 j ∧ Keep w wr)
  case atStart => exact ⟨0, Nat.zero_le _, rfl, rfl, Below.refl _ _⟩
  case round =>
    obtain ⟨j, hj, rfl, rfl, hkw⟩ := hrel
    have HKW := Lib.hid hkw
    by_cases hjn : j < zs.length
    · rcases ha.at_ with h | ⟨b1, off1, rfl, hb1, hc1⟩
      · subst h; simp at hjn
      rcases hb.at_ with h | ⟨b2, off2, rfl, hb2, hc2⟩
      · subst h; simp at hjn
      have hcx := (hkw.cell (p := ⟨b1, off1 + j, none⟩) (by exact hb1)).trans (hc1 j hjn)
      have hcy := (hkw.cell (p := ⟨b2, off2 + j, none⟩) (by exact hb2)).trans (hc2 j hjn)
      clear hc1 hc2 hkw
      generalize zs.getD j 0 = x at hcx hcy
      go_wp2
      go_quiet (fail)
      go_wp2
      go_roundg (zs.length - (j + 1))
      case measure => omega
      case rel => exact ⟨j + 1, by omega, rfl, by go_num, below_drewN HKW.out _⟩
    · clear hkw
      go_wp2
      go_ret
      exact ⟨rfl, HKW.out⟩
end Go.Proofs.YtpdcmhnaedhkdaaGreatDoor
