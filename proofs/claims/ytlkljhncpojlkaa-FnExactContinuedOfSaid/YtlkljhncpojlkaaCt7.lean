/- Continued fractions, numbers of balanced words: the model's look. -/
import Derived.Test.YtlkljhncpojlkaaWd7
import Derived.Deep.LoopGhost
namespace Go.Proofs.Ytlkljhncpojlkaa
open Go.ChangeShapes Go.WideShapes Go.ChangeAt Go.RowKit Go.Deep
set_option linter.unusedVariables false
/-- The quotients of Euclid's way. -/
def contN (a b : Nat) : List Int := if h : b = 0 then [] else ((a / b : Nat) : Int) :: contN b (a % b)
termination_by b
decreasing_by exact Nat.mod_lt _ (Nat.pos_of_ne_zero h)
def contI (x y : Int) : List Int := contN x.toNat y.toNat
theorem contI_zero (x : Int) : contI x 0 = [] := by unfold contI; rw [contN]; simp
theorem contI_pos {x y : Int} (hx : 0 ≤ x) (hy : 0 < y) : contI x y = x / y :: contI y (x % y) := by
  unfold contI
  rw [contN, dif_neg (by omega)]
  have h1 : ((x.toNat / y.toNat : Nat) : Int) = x / y := by
    rw [Int.natCast_ediv, Int.toNat_of_nonneg hx, Int.toNat_of_nonneg (by omega)]
  have h2 : (x % y).toNat = x.toNat % y.toNat := by
    have : ((x.toNat % y.toNat : Nat) : Int) = x % y := by rw [Int.natCast_emod, Int.toNat_of_nonneg hx, Int.toNat_of_nonneg (by omega)]
    omega
  rw [h1, h2]
def ctB (a b : Int) : Bool := inB a 0 1000000000 && inB b 1 1000000000
def ctL (a b : Int) : List Int := if ctB a b then contI a b else []
set_option maxHeartbeats 1600000 in
theorem specContinuedOf_any (a b : Int) (w : World) (ua : In64 a) (ub : In64 b) :
    Calls Try.prog 13 #[.int .i64 a, .int .i64 b] w fun e w' => ∃ rd rc, e = .returned (.tuple #[.slice rd (ctL a b).length rc, .bool (ctB a b)]) ∧ Own w' w.heap.size rd rc (ctL a b) ∧ Keep w w' := by
  cases h1 : inB a 0 1000000000
  · have hb : ctB a b = false := by unfold ctB; rw [h1]; rfl
    rw [hb, show ctL a b = [] from by unfold ctL; rw [hb]; rfl]
    go_enter Try.func13, Try.ntmps13
    go_wp2_with (go_at_call 25; refine (l00In_any _ _ _ _).mono ?_; rw [h1]; rintro e w' ⟨rfl, rfl⟩)
    go_ret2
    exact ⟨none, 0, rfl, Own.nil _ _, Below.refl _ _⟩
  cases h2 : inB b 1 1000000000
  · have hb : ctB a b = false := by unfold ctB; rw [h2]; simp
    rw [hb, show ctL a b = [] from by unfold ctL; rw [hb]; rfl]
    go_enter Try.func13, Try.ntmps13
    go_wp2_with (go_at_call 25; refine (l00In_any _ _ _ _).mono ?_; rintro e w' ⟨rfl, rfl⟩)
    go_ret2
    exact ⟨none, 0, rfl, Own.nil _ _, Below.refl _ _⟩
  have hb : ctB a b = true := by unfold ctB; rw [h1, h2]; rfl
  have hab := inB_iff.1 h1; have hbb := inB_iff.1 h2
  rw [hb, show ctL a b = contI a b from by unfold ctL; rw [hb]; rfl]
  obtain ⟨F, hF⟩ : ∃ F, F = contI a b := ⟨_, rfl⟩
  rw [← hF]
  have HF := Lib.hid hF; clear hF hb
  have HO0 := Lib.hid (Own.lit0 w)
  have hK0 : Keep w (w.alloc (.cells #[] 2)) := by go_grown
  have HK0 := Lib.hid hK0; clear hK0
  go_enter Try.func13, Try.ntmps13
  go_wp2_with (go_at_call 25; refine (l00In_any _ _ _ _).mono ?_; rintro e w' ⟨rfl, rfl⟩)
  go_loopw [0, 1, 6, 7] (fun s t v _ wr => ∃ (x y : Int) (L : List Int) (rd : Option Addr) (rc : Nat), s = .int .i64 x ∧ t = .int .i64 y ∧ v = .slice rd L.length rc ∧ 0 ≤ x ∧ x ≤ 1000000000 ∧ 0 ≤ y ∧ y + L.length ≤ 1000000000 ∧ Hid (L ++ contI x y = F) ∧ Hid (Own wr w.heap.size rd rc L) ∧ Hid (Keep w wr)) (fun _ t _ _ _ => (intOf t).toNat)
  case atStart => exact ⟨a, b, [], _, 0, rfl, rfl, rfl, hab.1, hab.2, by omega, by simp; omega, Lib.hid (by rw [HF.out]; rfl), HO0, HK0⟩
  case round =>
    obtain ⟨x, y, L, rd, rc, rfl, rfl, rfl, x0, x1, y0, y1, HE, HO, HK⟩ := hrel
    by_cases hy : 0 < y
    · have HC := Lib.hid (contI_pos x0 hy)
      have hq0 : 0 ≤ x / y := Int.ediv_nonneg x0 (by omega)
      have hq1 : x / y ≤ x := Int.ediv_le_self _ x0
      have hm0 : 0 ≤ x % y := Int.emod_nonneg _ (by omega)
      have hm1 := Int.emod_lt_of_pos x hy
      have hsr := HK.out.size
      have hIN : In64 (x / y) := ⟨by omega, by omega⟩
      have HIN := Lib.hid hIN; clear hIN
      have hll : L.length < 1099511627776 := by omega
      go_wp2_with (refine list_app1 (by rfl) _ _ (by rfl) w.heap.size rd rc L.length L (x / y) (by rfl) (HO.out.keep (by go_grown)) rfl _ (by rfl) (by simp) HIN.out hll (by simp; omega) ?_; intro ad' cap' w2 hown2 hgr2; have HO2 := Lib.hid hown2; have HK2 := Lib.hid (below_own (HK.out.next (show Keep wr _ by go_grown)) (HO.out.keep (by go_grown)) hgr2 (by simp; omega) (Nat.le_refl _)); clear hown2 hgr2)
      go_roundw
      case rel => exact ⟨y, x % y, L ++ [x / y], ad', cap', rfl, by go_num, by simp, y0, by omega, hm0, by simp; omega, Lib.hid (by rw [← HE.out, HC.out]; simp), HO2, HK2⟩
      case measure => simp [intOf]; omega
    · have hLF : Hid (L = F) := Lib.hid (by rw [← HE.out, show y = 0 by omega, contI_zero]; simp)
      go_wp2
      go_ret2
      exact ⟨rd, rc, by rw [hLF.out]; rfl, by rw [← hLF.out]; exact HO.out, HK.out⟩
end Go.Proofs.Ytlkljhncpojlkaa
