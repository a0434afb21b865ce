/- Places in increasing lists: the library's binary search, and its search for the least number. -/
import Derived.Test.YtomfhkpmdalknabCal11
import Derived.Deep.LoopGhost
namespace Go.Proofs.Ytomfhkpmdalknab
open Go.ChangeShapes Go.WideShapes Go.ChangeAt Go.RowKit Go.Deep
set_option linter.unusedVariables false
theorem isNaN_any (x : Int) (w : World) : Calls Try.prog 53 #[.int .i64 x] w fun e w' => e = .returned (.bool false) ∧ w = w' := by
  have hx : (x != x) = false := by simp
  go_enter Try.func53, Try.ntmps53
  go_wp2
  go_ret
  exact ⟨rfl, rfl⟩
theorem isNaN2_any (x : Int) (w : World) : Calls Try.prog 49 #[.int .i64 x] w fun e w' => e = .returned (.bool false) ∧ w = w' := by
  have hx : (x != x) = false := by simp
  go_enter Try.func49, Try.ntmps49
  go_wp2
  go_ret
  exact ⟨rfl, rfl⟩
theorem Less_any (x y : Int) (w : World) : Calls Try.prog 48 #[.int .i64 x, .int .i64 y] w fun e w' => e = .returned (.bool (decide (x < y))) ∧ w = w' := by
  go_enter Try.func48, Try.ntmps48
  go_wp2_with (go_at_call 53; refine (isNaN_any _ _).mono ?_; rintro e w' ⟨rfl, rfl⟩)
  go_ret
  exact ⟨rfl, rfl⟩
/-- Whether the place holds the number. -/
def fnd (zs : List Int) (r : Int) : Bool := decide (ltN zs r < zs.length) && decide (zs.getD (ltN zs r) 0 = r)
set_option maxHeartbeats 800000 in
theorem BinarySearch_any (ad : Option Addr) (cap : Nat) (zs : List Int) (r : Int) (w : World) (hz : Ints w ad zs) (hi : incB zs = true) (hl : zs.length ≤ 1000000) :
    Calls Try.prog 38 #[.slice ad zs.length cap, .int .i64 r] w fun e w' => e = .returned (.tuple #[.int .i64 (ltN zs r : Nat), .bool (fnd zs r)]) ∧ w = w' := by
  have HLO := Lib.hid (fun k hk hr => ltN_lo hi (r := r) (k := k) hk hr)
  have HHI := Lib.hid (fun k hk hr => ltN_hi hi (r := r) (k := k) hk hr)
  have hcl := ltN_le zs r
  have HFN : Hid (fnd zs r = (decide (ltN zs r < zs.length) && decide (zs.getD (ltN zs r) 0 = r))) := Lib.hid rfl
  generalize fnd zs r = F at *
  generalize ltN zs r = c at *
  go_enter Try.func38, Try.ntmps38
  go_wp2
  go_loop [7, 8, 9] (fun i j _ => ∃ a b : Nat, i = .int .i64 a ∧ j = .int .i64 b ∧ a ≤ c ∧ c ≤ b ∧ b ≤ zs.length) (fun i j _ => (intOf j).toNat - (intOf i).toNat)
  case atStart => exact ⟨0, zs.length, rfl, rfl, Nat.zero_le _, hcl, Nat.le_refl _⟩
  case round =>
    obtain ⟨a, b, rfl, rfl, h1, h2, h3⟩ := hrel
    by_cases hlt : a < b
    · have hlt2 : (a : Int) < (b : Int) := by omega
      rcases hz.at_ with h | ⟨q, off, rfl, hb, hc⟩
      · subst h; simp at h3; omega
      have hm1 : a ≤ (a + b) / 2 := by omega
      have hm2 : (a + b) / 2 < b := by omega
      have hcx := hc ((a + b) / 2) (by omega)
      have HLM := Lib.hid (fun h => HLO.out ((a + b) / 2) (by omega) h)
      have HHM := Lib.hid (fun h => HHI.out ((a + b) / 2) (by omega) h)
      clear hc
      generalize zs.getD ((a + b) / 2) 0 = x at *
      by_cases hx : x < r
      · have hxb : decide (x < r) = true := by simp [hx]
        have HX := Lib.hid (HLM.out hx); clear hx
        go_wp2_with (go_at_call 48; refine (Less_any _ _ _).mono ?_; rw [hxb]; rintro e w' ⟨rfl, rfl⟩)
        have hx2 := HX.out
        go_round
        case rel => exact ⟨(a + b) / 2 + 1, b, by go_num, rfl, by omega, h2, h3⟩
        case measure => simp [intOf]; omega
      · have hxb : decide (x < r) = false := by simp; omega
        have HX := Lib.hid (HHM.out (by omega)); clear hx
        go_wp2_with (go_at_call 48; refine (Less_any _ _ _).mono ?_; rw [hxb]; rintro e w' ⟨rfl, rfl⟩)
        have hx2 := HX.out
        go_round
        case rel => exact ⟨a, (a + b) / 2, rfl, by go_num, h1, by omega, by omega⟩
        case measure => simp [intOf]; omega
    · obtain rfl : a = c := by omega
      by_cases hal : a < zs.length
      · have hal2 : (a : Int) < (zs.length : Int) := by omega
        rcases hz.at_ with h | ⟨q, off, rfl, hb, hc⟩
        · subst h; simp at hal
        have hcx := hc a hal
        clear hc
        rw [decide_eq_true hal, Bool.true_and] at HFN
        generalize zs.getD a 0 = x at *
        by_cases hx : x = r
        · have hxb : (x == r) = true := by simp [hx]
          rw [decide_eq_true hx] at HFN
          clear hx
          go_wp2_with (go_at_call 49; refine (isNaN2_any _ _).mono ?_; rintro e w' ⟨rfl, rfl⟩)
          go_ret2
          exact ⟨by rw [HFN.out]; rfl, rfl⟩
        · have hxb : (x == r) = false := by simp [hx]
          rw [decide_eq_false hx] at HFN
          clear hx
          go_wp2_with (go_at_call 49; refine (isNaN2_any _ _).mono ?_; rintro e w' ⟨rfl, rfl⟩)
          go_ret2
          exact ⟨by rw [HFN.out]; rfl, rfl⟩
      · have hal2 : ¬ (a : Int) < (zs.length : Int) := by omega
        rw [decide_eq_false hal, Bool.false_and] at HFN
        go_wp2
        go_ret2
        exact ⟨by rw [HFN.out]; rfl, rfl⟩
end Go.Proofs.Ytomfhkpmdalknab
