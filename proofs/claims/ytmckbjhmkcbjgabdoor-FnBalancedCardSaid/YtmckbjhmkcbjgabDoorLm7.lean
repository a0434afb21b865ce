/- The line of a word: the model's search. -/
import Derived.Test.YtmckbjhmkcbjgabDoorLf7
import Derived.Test.YtmckbjhmkcbjgabDoorLin7
import Derived.Deep.LoopGhost
namespace Go.Proofs.YtmckbjhmkcbjgabDoor
open Go.ChangeShapes Go.WideShapes Go.ChangeAt Go.RowKit Go.Deep
set_option linter.unusedVariables false
theorem CLo.bd2 {s : ByteArray} (hw : wdB s = true) {S : Nat → Nat → Prop} {x y : Int} (h : CLo s S x y) : -1 ≤ x ∧ x ≤ y - 1 := by
  rcases h with ⟨h1, h2⟩ | ⟨i, j, _, hij, hj, h1, h2⟩
  · omega
  · have := hgt_inc hw hij hj; omega
theorem CHi.bd2 {s : ByteArray} (hw : wdB s = true) {S : Nat → Nat → Prop} {x y : Int} (h : CHi s S x y) : 1 ≤ x ∧ x ≤ y + 1 := by
  rcases h with ⟨h1, h2⟩ | ⟨i, j, _, hij, hj, h1, h2⟩
  · omega
  · have := hgt_inc hw hij hj; omega
theorem med7 {l d u v : Int} (h : l * v < u * d) : l * (d + v) < (l + u) * d ∧ (l + u) * v < u * (d + v) := by
  simp only [Int.mul_add, Int.add_mul]
  constructor <;> omega
theorem poss7 {l d u v X Y : Int} (hd : 1 ≤ d) (hv : 1 ≤ v) (hY : 1 ≤ Y) (h1 : l * Y < X * d) (h2 : X * v < u * Y) : l * v < u * d := by
  have a1 : l * Y * v < X * d * v := Int.mul_lt_mul_of_pos_right h1 (by omega)
  have a2 : X * v * d < u * Y * d := Int.mul_lt_mul_of_pos_right h2 (by omega)
  have b1 : l * Y * v = l * v * Y := by ac_rfl
  have b2 : X * d * v = X * v * d := by ac_rfl
  have b3 : u * Y * d = u * d * Y := by ac_rfl
  exact Int.lt_of_mul_lt_mul_right (show l * v * Y < u * d * Y by omega) (by omega)
theorem ok7_small {s : ByteArray} (hw : wdB s = true) {X Y : Int} (hY : 1 ≤ Y) (hX : 0 ≤ X) (hXY : X ≤ Y) (h : Ok7 s X Y) : ∃ x y, 1 ≤ y ∧ y ≤ 240 ∧ 0 ≤ x ∧ x ≤ y ∧ Ok7 s x y := by
  obtain ⟨⟨l, d, hl⟩, ⟨u, v, hu⟩⟩ := ends_ex hw
  have bl := hl.1.bd hw; have bu := hu.1.bd hw
  have cl := hl.1.bd2 hw; have cu := hu.1.bd2 hw
  have hE := (ok7_ends hw hl hu hY hX hXY).1 h
  have hp := poss7 bl.2.1 bu.2.1 hY hE.1 hE.2
  have hm := med7 hp
  exact ⟨l + u, d + v, by omega, by omega, by omega, by omega, (ok7_ends hw hl hu (by omega) (by omega) (by omega)).2 hm⟩
theorem lfR_no {s : ByteArray} (h : wdB s = true → ∀ X Y, 1 ≤ Y → 0 ≤ X → X ≤ Y → ¬ Ok7 s X Y) : lfR s = .tuple #[.int .i64 0, .int .i64 0, .int .i64 0, .bool false] := by
  unfold lfR; rw [lfV_no h]
theorem lfR_yes {s : ByteArray} (hw : wdB s = true) {a e : Int} (h : SimpS s a e) : lfR s = .tuple #[.int .i64 a, .int .i64 e, .int .i64 (loN s a e (s.size + 1)), .bool true] := by
  unfold lfR; rw [lfV_yes hw h]
theorem mul_bdM {h e : Int} (h1 : 0 ≤ h ∧ h ≤ 121) (h2 : 0 ≤ e ∧ e ≤ 1000) : 0 ≤ h * e ∧ h * e ≤ 121000 := by
  have e1 : h * e ≤ 121 * 1000 := Int.mul_le_mul h1.2 h2.2 h2.1 (by omega)
  exact ⟨Int.mul_nonneg h1.1 h2.1, by omega⟩
end Go.Proofs.YtmckbjhmkcbjgabDoor
