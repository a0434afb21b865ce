/- Lists of numbers read from their texts: the program's side. -/
import Derived.Test.YtpdcmhnaedhkdaaGreatDoorOutcomes
import Derived.Test.YtpdcmhnaedhkdaaGreatDoorParts
import Derived.Test.YtpdcmhnaedhkdaaGreatDoorJoin
namespace Go.Proofs.YtpdcmhnaedhkdaaGreatDoor
open Go.ChangeShapes Go.WideShapes Go.ChangeAt Go.RowKit
set_option linter.unusedVariables false
/-- What the reader of a list returns. -/
def ListRead (l : List UInt8) (w : World) (e : Ending) (w' : World) : Prop :=
  Keep0 w w' ∧ ((rdsOk l = true ∧ ∃ rd rc, e = .returned (.tuple #[.slice rd (rdsV l).length rc, .nilIface]) ∧ Own w' w.heap.size rd rc (rdsV l)) ∨
    (rdsOk l = false ∧ ((∃ N, e = .returned (.tuple #[.slice none 0 0, .iface 80 (.pointer (some ⟨N, 0, none⟩))])) ∨
      ∃ q N, e = .returned (.tuple #[.slice none 0 0, .iface 85 (.pointer (some ⟨q, 0, none⟩))]) ∧ w'.cell? ⟨q, 1, none⟩ = some (.iface 80 (.pointer (some ⟨N, 0, none⟩))))))
theorem dash_eq {s : ByteArray} (h : s.data.toList = [45]) : s = ⟨#[45]⟩ := by
  obtain ⟨⟨l⟩⟩ := s; simp at h; subst h; rfl
theorem dash_ne {s : ByteArray} (h : s.data.toList ≠ [45]) : (s.toList == [45]) = false := by
  rw [bytes_list]
  simpa using h
set_option maxHeartbeats 1600000 in
theorem readNumbers_dash (s : ByteArray) (w : World) (hd : s.data.toList = [45]) :
    Calls Tryz.prog 46 #[.string s] w (ListRead s.data.toList w) := by
  have hs := dash_eq hd
  subst hs
  go_enter Tryz.func46, Tryz.ntmps46
  go_wp2
  go_ret2
  exact ⟨Below.refl _ _, .inl ⟨by decide, none, 0, rfl, Own.nil _ _⟩⟩
set_option maxHeartbeats 1600000 in
theorem readNumbers_many (s : ByteArray) (w : World) (hd : s.data.toList ≠ [45]) (hbig : 40 ≤ s.data.toList.count 44) :
    Calls Tryz.prog 46 #[.string s] w (ListRead s.data.toList w) := by
  have hne := dash_ne hd
  have HC := Lib.hid (Tryz.strings_Count_one s 44 w)
  have HB := Lib.hid (show rdsOk s.data.toList = false from by
    have h1 : ¬ (parts s.data.toList).length ≤ 40 := by rw [parts_len]; omega
    simp only [rdsOk, decide_eq_false hd, decide_eq_false h1]; rfl)
  have hge : (40 : Int) ≤ ((Lib.countByte s.data.toList 44 : Nat) : Int) := by unfold Lib.countByte; omega
  generalize Lib.countByte s.data.toList 44 = cb at HC hge
  clear hbig hd
  go_enter Tryz.func46, Tryz.ntmps46
  go_wp2_with (go_at_call 62; refine HC.out.mono ?_; rintro e w' ⟨rfl, rfl⟩)
  go_ret2
  exact ⟨by go_grown, .inr ⟨HB.out, .inl ⟨_, rfl⟩⟩⟩
end Go.Proofs.YtpdcmhnaedhkdaaGreatDoor
