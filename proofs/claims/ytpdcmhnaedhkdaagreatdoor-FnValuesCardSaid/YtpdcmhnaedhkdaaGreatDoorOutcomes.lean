/- What a reader of a list hands out: the list, or nothing where its error is a *fault, on its own or in parts. -/
import Derived.Test.YtpdcmhnaedhkdaaGreatDoorRead
import Derived.Test.YtpdcmhnaedhkdaaGreatDoorAsPart
namespace Go.Proofs.YtpdcmhnaedhkdaaGreatDoor
open Go.ChangeShapes Go.WideShapes Go.ChangeAt Go.RowKit
set_option linter.unusedVariables false
set_option maxHeartbeats 1600000 in
theorem outcomeL_yes (ad : Option Addr) (n cap : Nat) (w : World) :
    Calls Tryz.prog 45 #[.slice ad n cap, .nilIface] w fun e w' => e = .returned (.tuple #[.slice ad n cap, .bool true]) ∧ Keep0 w w' := by
  go_enter Tryz.func45, Tryz.ntmps45
  go_wp2_with (go_at_call 58; refine (as_none _ _).mono ?_; rintro e w' ⟨rfl, rfl⟩)
  go_ret2
  exact ⟨rfl, by go_grown⟩
set_option maxHeartbeats 1600000 in
theorem outcomeL_no0 (v : Value) (N : Nat) (w : World) (hv : LibVars w) :
    Calls Tryz.prog 45 #[v, .iface 80 (.pointer (some ⟨N, 0, none⟩))] w fun e w' => e = .returned (.tuple #[.slice none 0 0, .bool false]) ∧ Keep0 w w' := by
  have hv1 := hv.keep (w' := w.alloc (.cells #[.pointer none] 80)) (by go_grown)
  go_enter Tryz.func45, Tryz.ntmps45
  go_wp2_with fail
  refine (as_fault ⟨N, 0, none⟩ ⟨w.heap.size, 0, none⟩ (.pointer none) _ hv1.et (by simp) (by simp)).mono ?_
  rintro e w1 ⟨rfl, k1⟩
  have g1 : Keep0 w w1 := Below.trans (by go_grown) k1
  go_wp2
  go_ret2
  exact ⟨rfl, g1⟩
set_option maxHeartbeats 1600000 in
theorem outcomeL_no1 (v : Value) (q N : Nat) (w : World) (hv : LibVars w) (hq : w.cell? ⟨q, 1, none⟩ = some (.iface 80 (.pointer (some ⟨N, 0, none⟩)))) :
    Calls Tryz.prog 45 #[v, .iface 85 (.pointer (some ⟨q, 0, none⟩))] w fun e w' => e = .returned (.tuple #[.slice none 0 0, .bool false]) ∧ Keep0 w w' := by
  have hv1 := hv.keep (w' := w.alloc (.cells #[.pointer none] 80)) (by go_grown)
  have hq1 : (w.alloc (.cells #[.pointer none] 80)).cell? ⟨q, 1, none⟩ = some (.iface 80 (.pointer (some ⟨N, 0, none⟩))) := by
    rw [World.cell?_alloc_lt _ _ _ (World.block_lt_of_cell? _ _ hq)]; exact hq
  go_enter Tryz.func45, Tryz.ntmps45
  go_wp2_with fail
  refine (as_part1 q ⟨N, 0, none⟩ ⟨w.heap.size, 0, none⟩ (.pointer none) _ hv1.et (by simp) (by simp) hq1).mono ?_
  rintro e w1 ⟨rfl, k1⟩
  have g1 : Keep0 w w1 := Below.trans (by go_grown) k1
  go_wp2
  go_ret2
  exact ⟨rfl, g1⟩
end Go.Proofs.YtpdcmhnaedhkdaaGreatDoor
