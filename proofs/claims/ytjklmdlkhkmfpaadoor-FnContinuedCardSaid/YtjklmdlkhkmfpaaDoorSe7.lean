/- The ends of possible slopes: the model's look. -/
import Derived.Test.YtjklmdlkhkmfpaaDoorSlo7
namespace Go.Proofs.YtjklmdlkhkmfpaaDoor
open Go.ChangeShapes Go.WideShapes Go.ChangeAt Go.RowKit Go.Deep
set_option linter.unusedVariables false
theorem mul_sl {a d l n : Int} (ha : -1 ≤ a ∧ a ≤ 121) (hd : 1 ≤ d ∧ d ≤ 120) : -120 ≤ a * d ∧ a * d ≤ 14520 := by
  have e1 : a * d ≤ 121 * 120 := by
    by_cases h : 0 ≤ a
    · exact Int.mul_le_mul ha.2 hd.2 (by omega) (by omega)
    · have : a * d ≤ 0 := Int.mul_nonpos_of_nonpos_of_nonneg (by omega) (by omega)
      omega
  have e2 : (-1) * d ≤ a * d := Int.mul_le_mul_of_nonneg_right ha.1 (by omega)
  omega
def sMod (i j : Nat) (a b : Nat) : Prop := a < i ∨ (a = i ∧ b < j)
noncomputable def sl1 (s : ByteArray) : Int := if slB s then (loV s).1 else 0
noncomputable def sl2 (s : ByteArray) : Int := if slB s then (loV s).2 else 0
noncomputable def sl3 (s : ByteArray) : Int := if slB s then (hiV s).1 else 0
noncomputable def sl4 (s : ByteArray) : Int := if slB s then (hiV s).2 else 0
noncomputable def slR (s : ByteArray) : Value := .tuple #[.int .i64 (sl1 s), .int .i64 (sl2 s), .int .i64 (sl3 s), .int .i64 (sl4 s), .bool (slB s)]
theorem slR_no {s : ByteArray} (h : slB s = false) : slR s = .tuple #[.int .i64 0, .int .i64 0, .int .i64 0, .int .i64 0, .bool false] := by
  unfold slR sl1 sl2 sl3 sl4; rw [h]; rfl
theorem slR_yes {s : ByteArray} {l d u q : Int} (hw : wdB s = true) (h0 : s.size ≠ 0) (hl : ILo s allP l d) (hu : IHi s allP u q) (hp : l * q < u * d) :
    slR s = .tuple #[.int .i64 (rdN l d), .int .i64 (rdD l d), .int .i64 (rdN u q), .int .i64 (rdD u q), .bool true] := by
  have hb : slB s = true := by unfold slB; rw [hw, decide_eq_true h0, posB_eq hw hl hu, decide_eq_true hp]; rfl
  unfold slR sl1 sl2 sl3 sl4; rw [hb, if_pos rfl, if_pos rfl, if_pos rfl, if_pos rfl, loV_eq hw hl, hiV_eq hw hu]
theorem slR_imp {s : ByteArray} {l d u q : Int} (hw : wdB s = true) (hl : ILo s allP l d) (hu : IHi s allP u q) (hp : ¬ l * q < u * d) : slB s = false := by
  unfold slB; rw [hw, posB_eq hw hl hu, decide_eq_false hp]; simp
theorem slB_nw {s : ByteArray} (hw : wdB s = false) : slB s = false := by unfold slB; rw [hw]; rfl
theorem slB_empty {s : ByteArray} (h : s.size = 0) : slB s = false := by unfold slB; rw [h]; simp
theorem gcd_abs7 (l d : Int) : Int.gcd (mx l (-l)) d = Int.gcd l d := by
  have e : mx l (-l) = (l.natAbs : Int) := by unfold mx; split <;> omega
  rw [e]; unfold Int.gcd; simp
end Go.Proofs.YtjklmdlkhkmfpaaDoor
