/- Continued fractions: the program's look. -/
import Derived.Test.YtjklmdlkhkmfpaaDoorCt7
namespace Go.Proofs.YtjklmdlkhkmfpaaDoor
open Go.ChangeShapes Go.WideShapes Go.ChangeAt Go.RowKit Go.Deep
set_option linter.unusedVariables false
set_option maxHeartbeats 1600000 in
theorem ContinuedOf_any (a b : Int) (w : World) (ua : In64 a) (ub : In64 b) :
    Calls Tryd.prog 6 #[.int .i64 a, .int .i64 b] w fun e w' => ∃ rd rc, e = .returned (.tuple #[.slice rd (ctL a b).length rc, .bool (ctB a b)]) ∧ Own w' w.heap.size rd rc (ctL a b) ∧ Keep w w' := by
  cases h1 : inB a 0 1000000000
  · have hb : ctB a b = false := by unfold ctB; rw [h1]; rfl
    rw [hb, show ctL a b = [] from by unfold ctL; rw [hb]; rfl]
    go_enter Tryd.func6, Tryd.ntmps6
    go_wp2_with (go_at_call 12; refine (within_any _ _ _ _).mono ?_; rw [h1]; rintro e w' ⟨rfl, rfl⟩)
    go_ret2
    exact ⟨none, 0, rfl, Own.nil _ _, Below.refl _ _⟩
  cases h2 : inB b 1 1000000000
  · have hb : ctB a b = false := by unfold ctB; rw [h2]; simp
    rw [hb, show ctL a b = [] from by unfold ctL; rw [hb]; rfl]
    go_enter Tryd.func6, Tryd.ntmps6
    go_wp2_with (go_at_call 12; refine (within_any _ _ _ _).mono ?_; rintro e w' ⟨rfl, rfl⟩)
    go_ret2
    exact ⟨none, 0, rfl, Own.nil _ _, Below.refl _ _⟩
  have hb : ctB a b = true := by unfold ctB; rw [h1, h2]; rfl
  have hab := inB_iff.1 h1; have hbb := inB_iff.1 h2
  rw [hb, show ctL a b = contI a b from by unfold ctL; rw [hb]; rfl]
  obtain ⟨F, hF⟩ : ∃ F, F = contI a b := ⟨_, rfl⟩
  rw [← hF]
  have HF := Lib.hid hF; clear hF hb
  have HO0 := Lib.hid (Own.nil w w.heap.size)
  go_enter Tryd.func6, Tryd.ntmps6
  go_wp2_with (go_at_call 12; refine (within_any _ _ _ _).mono ?_; rintro e w' ⟨rfl, rfl⟩)
  go_loopw [0, 1, 6] (fun s t v wr => ∃ (x y : Int) (L : List Int) (rd : Option Addr) (rc : Nat), s = .int .i64 x ∧ t = .int .i64 y ∧ v = .slice rd L.length rc ∧ 0 ≤ x ∧ x ≤ 1000000000 ∧ 0 ≤ y ∧ y + L.length ≤ 1000000000 ∧ Hid (L ++ contI x y = F) ∧ Hid (Own wr w.heap.size rd rc L) ∧ Hid (Keep w wr)) (fun _ t _ _ => (intOf t).toNat)
  case atStart => exact ⟨a, b, [], none, 0, rfl, rfl, rfl, hab.1, hab.2, by omega, by simp; omega, Lib.hid (by rw [HF.out]; rfl), HO0, Lib.hid (Below.refl _ _)⟩
  case round =>
    obtain ⟨x, y, L, rd, rc, rfl, rfl, rfl, x0, x1, y0, y1, HE, HO, HK⟩ := hrel
    by_cases hy : y = 0
    · have hy1 : (y != 0) = false := by simp [hy]
      have hLF : Hid (L = F) := Lib.hid (by rw [← HE.out, hy, contI_zero]; simp)
      clear hy
      go_wp2
      go_ret2
      exact ⟨rd, rc, by rw [hLF.out]; rfl, by rw [← hLF.out]; exact HO.out, HK.out⟩
    · have hy1 : (y != 0) = true := by simp [hy]
      have hy2 : 0 < y := by omega
      have HC := Lib.hid (contI_pos x0 hy2)
      have hq0 : 0 ≤ x / y := Int.ediv_nonneg x0 (by omega)
      have hq1 : x / y ≤ x := Int.ediv_le_self _ x0
      have hm0 : 0 ≤ x % y := Int.emod_nonneg _ (by omega)
      have hm1 := Int.emod_lt_of_pos x hy2
      have htm : x.tmod y = x % y := Int.tmod_eq_emod_of_nonneg x0
      have hsr := HK.out.size
      have hIN : In64 (x / y) := ⟨by omega, by omega⟩
      have HIN := Lib.hid hIN; clear hIN
      have hll : L.length < 1099511627776 := by omega
      go_wp2_with (refine list_app1 (by rfl) _ _ (by rfl) w.heap.size rd rc L.length L (x / y) (by rfl) (HO.out.keep (by go_grown)) rfl _ (by rfl) (by simp) HIN.out hll (by simp; omega) ?_; intro ad' cap' w2 hown2 hgr2; have HO2 := Lib.hid hown2; have HK2 := Lib.hid (below_own (HK.out.next (show Keep wr _ by go_grown)) (HO.out.keep (by go_grown)) hgr2 (by simp; omega) (Nat.le_refl _)); clear hown2 hgr2)
      go_region
      go_wp2
      go_roundw
      case rel => exact ⟨y, x % y, L ++ [x / y], ad', cap', rfl, by first | go_num | (rw [htm]), by simp, y0, by omega, hm0, by simp; omega, Lib.hid (by rw [← HE.out, HC.out]; simp), Lib.hid (HO2.out.keep (by go_grown)), Lib.hid ((show Keep w w2 from HK2.out).next (by go_grown))⟩
      case measure => simp [intOf]; omega
end Go.Proofs.YtjklmdlkhkmfpaaDoor
