/- Floors and rests of lists, for great numbers too: the model's side. -/
import Derived.Test.YtmckbjhmkcbjgabBnd4
namespace Go.Proofs.Ytmckbjhmkcbjgab
open Go.ChangeShapes Go.WideShapes Go.ChangeAt Go.RowKit
set_option linter.unusedVariables false
theorem l01FloorX_any (a b : Int) (w : World) (ha : -1000000000000000 ≤ a) (ha' : a ≤ 1000000000000000) (hb : 1 ≤ b) (hb' : b ≤ 1000000000000000) :
    Calls Try.prog 29 #[.int .i64 a, .int .i64 b] w fun e w' => e = .returned (.int .i64 (fl a b)) ∧ w = w' := by
  have hq := tdiv_bd hb ha ha' (by omega)
  have hm : -9223372036854775808 ≤ a.tdiv b * b ∧ a.tdiv b * b ≤ 9223372036854775807 := by
    have h1 := Int.mul_tdiv_add_tmod a b
    have h2 := Int.lt_tmod_of_pos a (show 0 < b by omega)
    have h3 := Int.tmod_lt_of_pos a (show 0 < b by omega)
    rw [Int.mul_comm]; omega
  obtain ⟨hm1, hm2⟩ := hm
  have hk : a.tdiv b * b = a - a.tmod b := by have h1 := Int.mul_tdiv_add_tmod a b; rw [Int.mul_comm]; omega
  have HK := Lib.hid hk; clear hk
  go_enter Try.func29, Try.ntmps29
  go_wp2
  all_goals go_ret
  · refine ⟨ret_i64 ?_, rfl⟩
    have h : a < a.tdiv b * b := by assumption
    rw [HK.out] at h
    exact fl_lo hb (by omega)
  · refine ⟨ret_i64 ?_, rfl⟩
    have h : a.tdiv b * b ≤ a := by assumption
    rw [HK.out] at h
    exact fl_hi hb (by omega)
def flL (g : Int) (zs : List Int) : List Int := zs.map fun z => fl z g
def reL (g : Int) (zs : List Int) : List Int := zs.map fun z => z - g * fl z g
theorem flL_len (g : Int) (zs : List Int) : (flL g zs).length = zs.length := by simp [flL]
theorem reL_len (g : Int) (zs : List Int) : (reL g zs).length = zs.length := by simp [reL]
theorem re_bd {g z : Int} (hg : 1 ≤ g) : 0 ≤ z - g * fl z g ∧ z - g * fl z g < g := by have := fl_mul (a := z) hg; omega
end Go.Proofs.Ytmckbjhmkcbjgab
