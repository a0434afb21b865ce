/- The line of a word: the program's. -/
import Derived.Test.YtmckbjhmkcbjgabDoorPl7
import Derived.Test.YtmckbjhmkcbjgabDoorLm7
import Derived.Test.YtmckbjhmkcbjgabDoorSl7
import Derived.Deep.RegionHeld3
namespace Go.Proofs.YtmckbjhmkcbjgabDoor
open Go.ChangeShapes Go.WideShapes Go.ChangeAt Go.RowKit Go.Deep
set_option linter.unusedVariables false
theorem code_wp_gen7 {P : Program} {c : Code} {Q : Exit → Act → World → Prop} {a : Act} {W : World} (h : ∀ W2, W2 = W → Code.wp P c Q a W2) : Code.wp P c Q a W := h W rfl
theorem keepQ {w0 w1 : World} (k1 : Keep w0 w1) (a : Addr) (h : a.block < w0.heap.size) : w1.cell? a = w0.cell? a ∧ w1.frozen? a = w0.frozen? a := ⟨k1.cell h, k1.frozen h⟩
set_option maxHeartbeats 1600000 in
theorem simplest_any (l d u v : Int) (bl : -1 ≤ l ∧ l ≤ 200) (bd : 1 ≤ d ∧ d ≤ 200) (bu : -1 ≤ u ∧ u ≤ 200) (bv : 1 ≤ v ∧ v ≤ 200) (x y : Int) (hy1 : 1 ≤ y) (hy : y ≤ 300) (hx : 0 ≤ x) (hxy : x ≤ y) (hI : InE l d u v x y) (w : World) :
    Calls Tryd.prog 31 #[enP l d u v] w fun e w' => ∃ a b, e = .returned (frP a b) ∧ Simp7 l d u v a b ∧ Keep w w' := by
  have HS1 := Lib.hid (fun W => endsSide_any l d u v 0 1 W (by omega) (by omega) (by omega) (by omega))
  have HS2 := Lib.hid (fun W => endsSide_any l d u v 1 1 W (by omega) (by omega) (by omega) (by omega))
  by_cases c0 : InE l d u v 0 1
  · rw [sdE_in.2 c0] at HS1
    have HR := Lib.hid (simp_low c0)
    clear c0 hI
    go_enter Tryd.func31, Tryd.ntmps31
    go_wp2_with fail
    refine (HS1.out _).mono ?_
    rintro e w1 ⟨rfl, k1⟩
    have p0 : w1.cell? ⟨w.heap.size, 0, none⟩ = some (.int .i64 l) := (keepQ k1 ⟨w.heap.size, 0, none⟩ (by simp <;> omega)).1.trans (by simp [go_sem])
    have p1 : w1.cell? ⟨w.heap.size, 1, none⟩ = some (.int .i64 d) := (keepQ k1 ⟨w.heap.size, 1, none⟩ (by simp <;> omega)).1.trans (by simp [go_sem])
    have p2 : w1.cell? ⟨w.heap.size, 2, none⟩ = some (.int .i64 u) := (keepQ k1 ⟨w.heap.size, 2, none⟩ (by simp <;> omega)).1.trans (by simp [go_sem])
    have p3 : w1.cell? ⟨w.heap.size, 3, none⟩ = some (.int .i64 v) := (keepQ k1 ⟨w.heap.size, 3, none⟩ (by simp <;> omega)).1.trans (by simp [go_sem])
    have p4 : w1.cell? ⟨w.heap.size + 1, 0, none⟩ = some (.int .i64 0) := (keepQ k1 ⟨w.heap.size + 1, 0, none⟩ (by simp <;> omega)).1.trans (by simp [go_sem])
    have p5 : w1.cell? ⟨w.heap.size + 1, 1, none⟩ = some (.int .i64 0) := (keepQ k1 ⟨w.heap.size + 1, 1, none⟩ (by simp <;> omega)).1.trans (by simp [go_sem])
    have p6 : w1.frozen? ⟨w.heap.size + 1, 0, none⟩ = false := (keepQ k1 ⟨w.heap.size + 1, 0, none⟩ (by simp <;> omega)).2.trans (by simp [go_sem])
    have p7 : w1.frozen? ⟨w.heap.size + 1, 1, none⟩ = false := (keepQ k1 ⟨w.heap.size + 1, 1, none⟩ (by simp <;> omega)).2.trans (by simp [go_sem])
    have p8 : w1.cell? ⟨w.heap.size + 1 + 1, 0, none⟩ = some (.int .i64 0) := (keepQ k1 ⟨w.heap.size + 1 + 1, 0, none⟩ (by simp <;> omega)).1.trans (by simp [go_sem])
    have p9 : w1.cell? ⟨w.heap.size + 1 + 1, 1, none⟩ = some (.int .i64 1) := (keepQ k1 ⟨w.heap.size + 1 + 1, 1, none⟩ (by simp <;> omega)).1.trans (by simp [go_sem])
    have pa : w1.cell? ⟨w.heap.size + 1 + 1 + 1, 0, none⟩ = some (.int .i64 1) := (keepQ k1 ⟨w.heap.size + 1 + 1 + 1, 0, none⟩ (by simp <;> omega)).1.trans (by simp [go_sem])
    have pb : w1.cell? ⟨w.heap.size + 1 + 1 + 1, 1, none⟩ = some (.int .i64 1) := (keepQ k1 ⟨w.heap.size + 1 + 1 + 1, 1, none⟩ (by simp <;> omega)).1.trans (by simp [go_sem])
    have K1 : Hid (Keep w w1) := Lib.hid (Keep.next (by go_grown) k1)
    clear k1
    go_wp2
    refine bodyPost_ret (v := frP 0 1) (by simp [results, Tryd.results31, go_sem, p4, p5]) rfl ?_
    refine ⟨_, _, rfl, HR.out, ?_⟩
    refine Below.setCell (Below.setCell ?_ (by simp <;> omega) _) (by simp <;> omega) _
    exact K1.out
  have hn0 : sdE l d u v 0 1 ≠ 0 := fun h => c0 (sdE_in.1 h)
  by_cases c1 : InE l d u v 1 1
  · obtain ⟨z, hz⟩ : ∃ z, z = sdE l d u v 0 1 := ⟨_, rfl⟩
    rw [← hz] at HS1 hn0
    have hzb : (z == 0) = false := by rw [beq_eq_false_iff_ne]; exact hn0
    rw [sdE_in.2 c1] at HS2
    have HR := Lib.hid (simp_high c0 c1)
    clear c0 c1 hI hz
    go_enter Tryd.func31, Tryd.ntmps31
    go_wp2_with fail
    refine (HS1.out _).mono ?_
    rintro e w1 ⟨rfl, k1⟩
    have p0 : w1.cell? ⟨w.heap.size, 0, none⟩ = some (.int .i64 l) := (keepQ k1 ⟨w.heap.size, 0, none⟩ (by simp <;> omega)).1.trans (by simp [go_sem])
    have p1 : w1.cell? ⟨w.heap.size, 1, none⟩ = some (.int .i64 d) := (keepQ k1 ⟨w.heap.size, 1, none⟩ (by simp <;> omega)).1.trans (by simp [go_sem])
    have p2 : w1.cell? ⟨w.heap.size, 2, none⟩ = some (.int .i64 u) := (keepQ k1 ⟨w.heap.size, 2, none⟩ (by simp <;> omega)).1.trans (by simp [go_sem])
    have p3 : w1.cell? ⟨w.heap.size, 3, none⟩ = some (.int .i64 v) := (keepQ k1 ⟨w.heap.size, 3, none⟩ (by simp <;> omega)).1.trans (by simp [go_sem])
    have p4 : w1.cell? ⟨w.heap.size + 1, 0, none⟩ = some (.int .i64 0) := (keepQ k1 ⟨w.heap.size + 1, 0, none⟩ (by simp <;> omega)).1.trans (by simp [go_sem])
    have p5 : w1.cell? ⟨w.heap.size + 1, 1, none⟩ = some (.int .i64 0) := (keepQ k1 ⟨w.heap.size + 1, 1, none⟩ (by simp <;> omega)).1.trans (by simp [go_sem])
    have p6 : w1.frozen? ⟨w.heap.size + 1, 0, none⟩ = false := (keepQ k1 ⟨w.heap.size + 1, 0, none⟩ (by simp <;> omega)).2.trans (by simp [go_sem])
    have p7 : w1.frozen? ⟨w.heap.size + 1, 1, none⟩ = false := (keepQ k1 ⟨w.heap.size + 1, 1, none⟩ (by simp <;> omega)).2.trans (by simp [go_sem])
    have p8 : w1.cell? ⟨w.heap.size + 1 + 1, 0, none⟩ = some (.int .i64 0) := (keepQ k1 ⟨w.heap.size + 1 + 1, 0, none⟩ (by simp <;> omega)).1.trans (by simp [go_sem])
    have p9 : w1.cell? ⟨w.heap.size + 1 + 1, 1, none⟩ = some (.int .i64 1) := (keepQ k1 ⟨w.heap.size + 1 + 1, 1, none⟩ (by simp <;> omega)).1.trans (by simp [go_sem])
    have pa : w1.cell? ⟨w.heap.size + 1 + 1 + 1, 0, none⟩ = some (.int .i64 1) := (keepQ k1 ⟨w.heap.size + 1 + 1 + 1, 0, none⟩ (by simp <;> omega)).1.trans (by simp [go_sem])
    have pb : w1.cell? ⟨w.heap.size + 1 + 1 + 1, 1, none⟩ = some (.int .i64 1) := (keepQ k1 ⟨w.heap.size + 1 + 1 + 1, 1, none⟩ (by simp <;> omega)).1.trans (by simp [go_sem])
    have K1 : Hid (Keep w w1) := Lib.hid (Keep.next (by go_grown) k1)
    have hlt : w.heap.size + 4 ≤ w1.heap.size := by have := k1.size; simp at this; omega
    clear k1
    go_wp2_with fail
    refine (HS2.out _).mono ?_
    rintro e w2 ⟨rfl, k2⟩
    have p0_ := p0
    have p1_ := p1
    have p2_ := p2
    have p3_ := p3
    have p4_ := p4
    have p5_ := p5
    have p6_ := p6
    have p7_ := p7
    have p8_ := p8
    have p9_ := p9
    have pa_ := pa
    have pb_ := pb
    clear p0 p1 p2 p3 p4 p5 p6 p7 p8 p9 pa pb
    have p0 : w2.cell? ⟨w.heap.size, 0, none⟩ = some (.int .i64 l) := (keepQ k2 ⟨w.heap.size, 0, none⟩ (by first | (show w.heap.size < _; omega) | (show w.heap.size + 1 < _; omega) | (show w.heap.size + 1 + 1 < _; omega) | (show w.heap.size + 1 + 1 + 1 < _; omega))).1.trans p0_
    have p1 : w2.cell? ⟨w.heap.size, 1, none⟩ = some (.int .i64 d) := (keepQ k2 ⟨w.heap.size, 1, none⟩ (by first | (show w.heap.size < _; omega) | (show w.heap.size + 1 < _; omega) | (show w.heap.size + 1 + 1 < _; omega) | (show w.heap.size + 1 + 1 + 1 < _; omega))).1.trans p1_
    have p2 : w2.cell? ⟨w.heap.size, 2, none⟩ = some (.int .i64 u) := (keepQ k2 ⟨w.heap.size, 2, none⟩ (by first | (show w.heap.size < _; omega) | (show w.heap.size + 1 < _; omega) | (show w.heap.size + 1 + 1 < _; omega) | (show w.heap.size + 1 + 1 + 1 < _; omega))).1.trans p2_
    have p3 : w2.cell? ⟨w.heap.size, 3, none⟩ = some (.int .i64 v) := (keepQ k2 ⟨w.heap.size, 3, none⟩ (by first | (show w.heap.size < _; omega) | (show w.heap.size + 1 < _; omega) | (show w.heap.size + 1 + 1 < _; omega) | (show w.heap.size + 1 + 1 + 1 < _; omega))).1.trans p3_
    have p4 : w2.cell? ⟨w.heap.size + 1, 0, none⟩ = some (.int .i64 0) := (keepQ k2 ⟨w.heap.size + 1, 0, none⟩ (by first | (show w.heap.size < _; omega) | (show w.heap.size + 1 < _; omega) | (show w.heap.size + 1 + 1 < _; omega) | (show w.heap.size + 1 + 1 + 1 < _; omega))).1.trans p4_
    have p5 : w2.cell? ⟨w.heap.size + 1, 1, none⟩ = some (.int .i64 0) := (keepQ k2 ⟨w.heap.size + 1, 1, none⟩ (by first | (show w.heap.size < _; omega) | (show w.heap.size + 1 < _; omega) | (show w.heap.size + 1 + 1 < _; omega) | (show w.heap.size + 1 + 1 + 1 < _; omega))).1.trans p5_
    have p6 : w2.frozen? ⟨w.heap.size + 1, 0, none⟩ = false := (keepQ k2 ⟨w.heap.size + 1, 0, none⟩ (by first | (show w.heap.size < _; omega) | (show w.heap.size + 1 < _; omega) | (show w.heap.size + 1 + 1 < _; omega) | (show w.heap.size + 1 + 1 + 1 < _; omega))).2.trans p6_
    have p7 : w2.frozen? ⟨w.heap.size + 1, 1, none⟩ = false := (keepQ k2 ⟨w.heap.size + 1, 1, none⟩ (by first | (show w.heap.size < _; omega) | (show w.heap.size + 1 < _; omega) | (show w.heap.size + 1 + 1 < _; omega) | (show w.heap.size + 1 + 1 + 1 < _; omega))).2.trans p7_
    have p8 : w2.cell? ⟨w.heap.size + 1 + 1, 0, none⟩ = some (.int .i64 0) := (keepQ k2 ⟨w.heap.size + 1 + 1, 0, none⟩ (by first | (show w.heap.size < _; omega) | (show w.heap.size + 1 < _; omega) | (show w.heap.size + 1 + 1 < _; omega) | (show w.heap.size + 1 + 1 + 1 < _; omega))).1.trans p8_
    have p9 : w2.cell? ⟨w.heap.size + 1 + 1, 1, none⟩ = some (.int .i64 1) := (keepQ k2 ⟨w.heap.size + 1 + 1, 1, none⟩ (by first | (show w.heap.size < _; omega) | (show w.heap.size + 1 < _; omega) | (show w.heap.size + 1 + 1 < _; omega) | (show w.heap.size + 1 + 1 + 1 < _; omega))).1.trans p9_
    have pa : w2.cell? ⟨w.heap.size + 1 + 1 + 1, 0, none⟩ = some (.int .i64 1) := (keepQ k2 ⟨w.heap.size + 1 + 1 + 1, 0, none⟩ (by first | (show w.heap.size < _; omega) | (show w.heap.size + 1 < _; omega) | (show w.heap.size + 1 + 1 < _; omega) | (show w.heap.size + 1 + 1 + 1 < _; omega))).1.trans pa_
    have pb : w2.cell? ⟨w.heap.size + 1 + 1 + 1, 1, none⟩ = some (.int .i64 1) := (keepQ k2 ⟨w.heap.size + 1 + 1 + 1, 1, none⟩ (by first | (show w.heap.size < _; omega) | (show w.heap.size + 1 < _; omega) | (show w.heap.size + 1 + 1 < _; omega) | (show w.heap.size + 1 + 1 + 1 < _; omega))).1.trans pb_
    clear p0_ p1_ p2_ p3_ p4_ p5_ p6_ p7_ p8_ p9_ pa_ pb_
    have K2 : Hid (Keep w w2) := Lib.hid (K1.out.next k2)
    clear k2
    go_wp2
    refine bodyPost_ret (v := frP 1 1) (by simp [results, Tryd.results31, go_sem, p4, p5]) rfl ?_
    refine ⟨_, _, rfl, HR.out, ?_⟩
    refine Below.setCell (Below.setCell ?_ (by simp <;> omega) _) (by simp <;> omega) _
    exact K2.out
  have hn1 : sdE l d u v 1 1 ≠ 0 := fun h => c1 (sdE_in.1 h)
  obtain ⟨z, hz⟩ : ∃ z, z = sdE l d u v 0 1 := ⟨_, rfl⟩
  rw [← hz] at HS1 hn0
  have hzb : (z == 0) = false := by rw [beq_eq_false_iff_ne]; exact hn0
  obtain ⟨z2, hz2⟩ : ∃ z2, z2 = sdE l d u v 1 1 := ⟨_, rfl⟩
  rw [← hz2] at HS2 hn1
  have hzb2 : (z2 == 0) = false := by rw [beq_eq_false_iff_ne]; exact hn1
  have hun := ine_unit bd.1 bv.1 hy1 hx hxy hI c0 c1
  have hxx := hun x y hy1 hI
  have HPA := Lib.hid (fun W => parentsE_any l d u v bl bd bu bv x y ⟨by omega, hxx.2⟩ hy1 hy hI _ 0 1 1 1 W (fun X Y hY hI => Nb7.start (by have := hun X Y hY hI; omega) (by have := hun X Y hY hI; omega)) (Nat.le_refl _))
  have HUN := Lib.hid hun
  have HBW := Lib.hid (fun p q r t W => between_any p q r t W)
  have HSM : Hid (∀ p q r t, InE l d u v (p + r) (q + t) → (∀ X Y, 1 ≤ Y → InE l d u v X Y → Nb7 X Y p q r t) → Simp7 l d u v (p + r) (q + t) ∧ (0 ≤ p ∧ p ≤ 1000) ∧ (0 ≤ q ∧ q ≤ 1000) ∧ (0 ≤ r ∧ r ≤ 1000) ∧ (0 ≤ t ∧ t ≤ 1000)) := Lib.hid (fun p q r t h1 h2 => by
    have hn := h2 x y hy1 hI
    have hs := hn.sum; have hq := hn.q1; have ht := hn.t1; have hp := hn.p0; have hr := hn.r0
    have hm := hn.small (by omega) hxx.2
    exact ⟨simp_mid h1 h2 hun (by omega), by omega, by omega, by omega, by omega⟩)
  clear hun hI c0 c1 hz hz2 hxx
  go_enter Tryd.func31, Tryd.ntmps31
  go_wp2_with fail
  refine (HS1.out _).mono ?_
  rintro e w1 ⟨rfl, k1⟩
  have p0 : w1.cell? ⟨w.heap.size, 0, none⟩ = some (.int .i64 l) := (keepQ k1 ⟨w.heap.size, 0, none⟩ (by simp <;> omega)).1.trans (by simp [go_sem])
  have p1 : w1.cell? ⟨w.heap.size, 1, none⟩ = some (.int .i64 d) := (keepQ k1 ⟨w.heap.size, 1, none⟩ (by simp <;> omega)).1.trans (by simp [go_sem])
  have p2 : w1.cell? ⟨w.heap.size, 2, none⟩ = some (.int .i64 u) := (keepQ k1 ⟨w.heap.size, 2, none⟩ (by simp <;> omega)).1.trans (by simp [go_sem])
  have p3 : w1.cell? ⟨w.heap.size, 3, none⟩ = some (.int .i64 v) := (keepQ k1 ⟨w.heap.size, 3, none⟩ (by simp <;> omega)).1.trans (by simp [go_sem])
  have p4 : w1.cell? ⟨w.heap.size + 1, 0, none⟩ = some (.int .i64 0) := (keepQ k1 ⟨w.heap.size + 1, 0, none⟩ (by simp <;> omega)).1.trans (by simp [go_sem])
  have p5 : w1.cell? ⟨w.heap.size + 1, 1, none⟩ = some (.int .i64 0) := (keepQ k1 ⟨w.heap.size + 1, 1, none⟩ (by simp <;> omega)).1.trans (by simp [go_sem])
  have p6 : w1.frozen? ⟨w.heap.size + 1, 0, none⟩ = false := (keepQ k1 ⟨w.heap.size + 1, 0, none⟩ (by simp <;> omega)).2.trans (by simp [go_sem])
  have p7 : w1.frozen? ⟨w.heap.size + 1, 1, none⟩ = false := (keepQ k1 ⟨w.heap.size + 1, 1, none⟩ (by simp <;> omega)).2.trans (by simp [go_sem])
  have p8 : w1.cell? ⟨w.heap.size + 1 + 1, 0, none⟩ = some (.int .i64 0) := (keepQ k1 ⟨w.heap.size + 1 + 1, 0, none⟩ (by simp <;> omega)).1.trans (by simp [go_sem])
  have p9 : w1.cell? ⟨w.heap.size + 1 + 1, 1, none⟩ = some (.int .i64 1) := (keepQ k1 ⟨w.heap.size + 1 + 1, 1, none⟩ (by simp <;> omega)).1.trans (by simp [go_sem])
  have pa : w1.cell? ⟨w.heap.size + 1 + 1 + 1, 0, none⟩ = some (.int .i64 1) := (keepQ k1 ⟨w.heap.size + 1 + 1 + 1, 0, none⟩ (by simp <;> omega)).1.trans (by simp [go_sem])
  have pb : w1.cell? ⟨w.heap.size + 1 + 1 + 1, 1, none⟩ = some (.int .i64 1) := (keepQ k1 ⟨w.heap.size + 1 + 1 + 1, 1, none⟩ (by simp <;> omega)).1.trans (by simp [go_sem])
  have K1 : Hid (Keep w w1) := Lib.hid (Keep.next (by go_grown) k1)
  have hlt : w.heap.size + 4 ≤ w1.heap.size := by have := k1.size; simp at this; omega
  clear k1
  go_wp2_with fail
  refine (HS2.out _).mono ?_
  rintro e w2 ⟨rfl, k2⟩
  have p0_ := p0
  have p1_ := p1
  have p2_ := p2
  have p3_ := p3
  have p4_ := p4
  have p5_ := p5
  have p6_ := p6
  have p7_ := p7
  have p8_ := p8
  have p9_ := p9
  have pa_ := pa
  have pb_ := pb
  clear p0 p1 p2 p3 p4 p5 p6 p7 p8 p9 pa pb
  have p0 : w2.cell? ⟨w.heap.size, 0, none⟩ = some (.int .i64 l) := (keepQ k2 ⟨w.heap.size, 0, none⟩ (by first | (show w.heap.size < _; omega) | (show w.heap.size + 1 < _; omega) | (show w.heap.size + 1 + 1 < _; omega) | (show w.heap.size + 1 + 1 + 1 < _; omega))).1.trans p0_
  have p1 : w2.cell? ⟨w.heap.size, 1, none⟩ = some (.int .i64 d) := (keepQ k2 ⟨w.heap.size, 1, none⟩ (by first | (show w.heap.size < _; omega) | (show w.heap.size + 1 < _; omega) | (show w.heap.size + 1 + 1 < _; omega) | (show w.heap.size + 1 + 1 + 1 < _; omega))).1.trans p1_
  have p2 : w2.cell? ⟨w.heap.size, 2, none⟩ = some (.int .i64 u) := (keepQ k2 ⟨w.heap.size, 2, none⟩ (by first | (show w.heap.size < _; omega) | (show w.heap.size + 1 < _; omega) | (show w.heap.size + 1 + 1 < _; omega) | (show w.heap.size + 1 + 1 + 1 < _; omega))).1.trans p2_
  have p3 : w2.cell? ⟨w.heap.size, 3, none⟩ = some (.int .i64 v) := (keepQ k2 ⟨w.heap.size, 3, none⟩ (by first | (show w.heap.size < _; omega) | (show w.heap.size + 1 < _; omega) | (show w.heap.size + 1 + 1 < _; omega) | (show w.heap.size + 1 + 1 + 1 < _; omega))).1.trans p3_
  have p4 : w2.cell? ⟨w.heap.size + 1, 0, none⟩ = some (.int .i64 0) := (keepQ k2 ⟨w.heap.size + 1, 0, none⟩ (by first | (show w.heap.size < _; omega) | (show w.heap.size + 1 < _; omega) | (show w.heap.size + 1 + 1 < _; omega) | (show w.heap.size + 1 + 1 + 1 < _; omega))).1.trans p4_
  have p5 : w2.cell? ⟨w.heap.size + 1, 1, none⟩ = some (.int .i64 0) := (keepQ k2 ⟨w.heap.size + 1, 1, none⟩ (by first | (show w.heap.size < _; omega) | (show w.heap.size + 1 < _; omega) | (show w.heap.size + 1 + 1 < _; omega) | (show w.heap.size + 1 + 1 + 1 < _; omega))).1.trans p5_
  have p6 : w2.frozen? ⟨w.heap.size + 1, 0, none⟩ = false := (keepQ k2 ⟨w.heap.size + 1, 0, none⟩ (by first | (show w.heap.size < _; omega) | (show w.heap.size + 1 < _; omega) | (show w.heap.size + 1 + 1 < _; omega) | (show w.heap.size + 1 + 1 + 1 < _; omega))).2.trans p6_
  have p7 : w2.frozen? ⟨w.heap.size + 1, 1, none⟩ = false := (keepQ k2 ⟨w.heap.size + 1, 1, none⟩ (by first | (show w.heap.size < _; omega) | (show w.heap.size + 1 < _; omega) | (show w.heap.size + 1 + 1 < _; omega) | (show w.heap.size + 1 + 1 + 1 < _; omega))).2.trans p7_
  have p8 : w2.cell? ⟨w.heap.size + 1 + 1, 0, none⟩ = some (.int .i64 0) := (keepQ k2 ⟨w.heap.size + 1 + 1, 0, none⟩ (by first | (show w.heap.size < _; omega) | (show w.heap.size + 1 < _; omega) | (show w.heap.size + 1 + 1 < _; omega) | (show w.heap.size + 1 + 1 + 1 < _; omega))).1.trans p8_
  have p9 : w2.cell? ⟨w.heap.size + 1 + 1, 1, none⟩ = some (.int .i64 1) := (keepQ k2 ⟨w.heap.size + 1 + 1, 1, none⟩ (by first | (show w.heap.size < _; omega) | (show w.heap.size + 1 < _; omega) | (show w.heap.size + 1 + 1 < _; omega) | (show w.heap.size + 1 + 1 + 1 < _; omega))).1.trans p9_
  have pa : w2.cell? ⟨w.heap.size + 1 + 1 + 1, 0, none⟩ = some (.int .i64 1) := (keepQ k2 ⟨w.heap.size + 1 + 1 + 1, 0, none⟩ (by first | (show w.heap.size < _; omega) | (show w.heap.size + 1 < _; omega) | (show w.heap.size + 1 + 1 < _; omega) | (show w.heap.size + 1 + 1 + 1 < _; omega))).1.trans pa_
  have pb : w2.cell? ⟨w.heap.size + 1 + 1 + 1, 1, none⟩ = some (.int .i64 1) := (keepQ k2 ⟨w.heap.size + 1 + 1 + 1, 1, none⟩ (by first | (show w.heap.size < _; omega) | (show w.heap.size + 1 < _; omega) | (show w.heap.size + 1 + 1 < _; omega) | (show w.heap.size + 1 + 1 + 1 < _; omega))).1.trans pb_
  clear p0_ p1_ p2_ p3_ p4_ p5_ p6_ p7_ p8_ p9_ pa_ pb_
  have K2 : Hid (Keep w w2) := Lib.hid (K1.out.next k2)
  have hlt2 : w.heap.size + 4 ≤ w2.heap.size := by have := k2.size; omega
  clear k2 hlt
  go_wp2_with fail
  refine (HPA.out _).mono ?_
  rintro e w3 ⟨V, rfl, ⟨p, q, r, t, rfl, hx1, hx2⟩, k3⟩
  have hsm := HSM.out p q r t hx1 hx2
  have HB := Lib.hid (fun W => HBW.out p q r t W hsm.2.1 hsm.2.2.1 hsm.2.2.2.1 hsm.2.2.2.2)
  have HR := Lib.hid hsm.1
  clear hx1 hx2 hsm
  have p0_ := p0
  have p1_ := p1
  have p2_ := p2
  have p3_ := p3
  have p4_ := p4
  have p5_ := p5
  have p6_ := p6
  have p7_ := p7
  have p8_ := p8
  have p9_ := p9
  have pa_ := pa
  have pb_ := pb
  clear p0 p1 p2 p3 p4 p5 p6 p7 p8 p9 pa pb
  have p0 : w3.cell? ⟨w.heap.size, 0, none⟩ = some (.int .i64 l) := (keepQ k3 ⟨w.heap.size, 0, none⟩ (by first | (show w.heap.size < _; omega) | (show w.heap.size + 1 < _; omega) | (show w.heap.size + 1 + 1 < _; omega) | (show w.heap.size + 1 + 1 + 1 < _; omega))).1.trans p0_
  have p1 : w3.cell? ⟨w.heap.size, 1, none⟩ = some (.int .i64 d) := (keepQ k3 ⟨w.heap.size, 1, none⟩ (by first | (show w.heap.size < _; omega) | (show w.heap.size + 1 < _; omega) | (show w.heap.size + 1 + 1 < _; omega) | (show w.heap.size + 1 + 1 + 1 < _; omega))).1.trans p1_
  have p2 : w3.cell? ⟨w.heap.size, 2, none⟩ = some (.int .i64 u) := (keepQ k3 ⟨w.heap.size, 2, none⟩ (by first | (show w.heap.size < _; omega) | (show w.heap.size + 1 < _; omega) | (show w.heap.size + 1 + 1 < _; omega) | (show w.heap.size + 1 + 1 + 1 < _; omega))).1.trans p2_
  have p3 : w3.cell? ⟨w.heap.size, 3, none⟩ = some (.int .i64 v) := (keepQ k3 ⟨w.heap.size, 3, none⟩ (by first | (show w.heap.size < _; omega) | (show w.heap.size + 1 < _; omega) | (show w.heap.size + 1 + 1 < _; omega) | (show w.heap.size + 1 + 1 + 1 < _; omega))).1.trans p3_
  have p4 : w3.cell? ⟨w.heap.size + 1, 0, none⟩ = some (.int .i64 0) := (keepQ k3 ⟨w.heap.size + 1, 0, none⟩ (by first | (show w.heap.size < _; omega) | (show w.heap.size + 1 < _; omega) | (show w.heap.size + 1 + 1 < _; omega) | (show w.heap.size + 1 + 1 + 1 < _; omega))).1.trans p4_
  have p5 : w3.cell? ⟨w.heap.size + 1, 1, none⟩ = some (.int .i64 0) := (keepQ k3 ⟨w.heap.size + 1, 1, none⟩ (by first | (show w.heap.size < _; omega) | (show w.heap.size + 1 < _; omega) | (show w.heap.size + 1 + 1 < _; omega) | (show w.heap.size + 1 + 1 + 1 < _; omega))).1.trans p5_
  have p6 : w3.frozen? ⟨w.heap.size + 1, 0, none⟩ = false := (keepQ k3 ⟨w.heap.size + 1, 0, none⟩ (by first | (show w.heap.size < _; omega) | (show w.heap.size + 1 < _; omega) | (show w.heap.size + 1 + 1 < _; omega) | (show w.heap.size + 1 + 1 + 1 < _; omega))).2.trans p6_
  have p7 : w3.frozen? ⟨w.heap.size + 1, 1, none⟩ = false := (keepQ k3 ⟨w.heap.size + 1, 1, none⟩ (by first | (show w.heap.size < _; omega) | (show w.heap.size + 1 < _; omega) | (show w.heap.size + 1 + 1 < _; omega) | (show w.heap.size + 1 + 1 + 1 < _; omega))).2.trans p7_
  have p8 : w3.cell? ⟨w.heap.size + 1 + 1, 0, none⟩ = some (.int .i64 0) := (keepQ k3 ⟨w.heap.size + 1 + 1, 0, none⟩ (by first | (show w.heap.size < _; omega) | (show w.heap.size + 1 < _; omega) | (show w.heap.size + 1 + 1 < _; omega) | (show w.heap.size + 1 + 1 + 1 < _; omega))).1.trans p8_
  have p9 : w3.cell? ⟨w.heap.size + 1 + 1, 1, none⟩ = some (.int .i64 1) := (keepQ k3 ⟨w.heap.size + 1 + 1, 1, none⟩ (by first | (show w.heap.size < _; omega) | (show w.heap.size + 1 < _; omega) | (show w.heap.size + 1 + 1 < _; omega) | (show w.heap.size + 1 + 1 + 1 < _; omega))).1.trans p9_
  have pa : w3.cell? ⟨w.heap.size + 1 + 1 + 1, 0, none⟩ = some (.int .i64 1) := (keepQ k3 ⟨w.heap.size + 1 + 1 + 1, 0, none⟩ (by first | (show w.heap.size < _; omega) | (show w.heap.size + 1 < _; omega) | (show w.heap.size + 1 + 1 < _; omega) | (show w.heap.size + 1 + 1 + 1 < _; omega))).1.trans pa_
  have pb : w3.cell? ⟨w.heap.size + 1 + 1 + 1, 1, none⟩ = some (.int .i64 1) := (keepQ k3 ⟨w.heap.size + 1 + 1 + 1, 1, none⟩ (by first | (show w.heap.size < _; omega) | (show w.heap.size + 1 < _; omega) | (show w.heap.size + 1 + 1 < _; omega) | (show w.heap.size + 1 + 1 + 1 < _; omega))).1.trans pb_
  clear p0_ p1_ p2_ p3_ p4_ p5_ p6_ p7_ p8_ p9_ pa_ pb_
  have K3 : Hid (Keep w w3) := Lib.hid (K2.out.next k3)
  have hlt3 : w.heap.size + 4 ≤ w3.heap.size := by have := k3.size; omega
  clear k3 hlt2
  go_wp2_with fail
  refine (HB.out _).mono ?_
  rintro e w4 ⟨rfl, k4⟩
  have p0_ := p0
  have p1_ := p1
  have p2_ := p2
  have p3_ := p3
  have p4_ := p4
  have p5_ := p5
  have p6_ := p6
  have p7_ := p7
  have p8_ := p8
  have p9_ := p9
  have pa_ := pa
  have pb_ := pb
  clear p0 p1 p2 p3 p4 p5 p6 p7 p8 p9 pa pb
  have p0 : w4.cell? ⟨w.heap.size, 0, none⟩ = some (.int .i64 l) := (keepQ k4 ⟨w.heap.size, 0, none⟩ (by first | (show w.heap.size < _; omega) | (show w.heap.size + 1 < _; omega) | (show w.heap.size + 1 + 1 < _; omega) | (show w.heap.size + 1 + 1 + 1 < _; omega))).1.trans p0_
  have p1 : w4.cell? ⟨w.heap.size, 1, none⟩ = some (.int .i64 d) := (keepQ k4 ⟨w.heap.size, 1, none⟩ (by first | (show w.heap.size < _; omega) | (show w.heap.size + 1 < _; omega) | (show w.heap.size + 1 + 1 < _; omega) | (show w.heap.size + 1 + 1 + 1 < _; omega))).1.trans p1_
  have p2 : w4.cell? ⟨w.heap.size, 2, none⟩ = some (.int .i64 u) := (keepQ k4 ⟨w.heap.size, 2, none⟩ (by first | (show w.heap.size < _; omega) | (show w.heap.size + 1 < _; omega) | (show w.heap.size + 1 + 1 < _; omega) | (show w.heap.size + 1 + 1 + 1 < _; omega))).1.trans p2_
  have p3 : w4.cell? ⟨w.heap.size, 3, none⟩ = some (.int .i64 v) := (keepQ k4 ⟨w.heap.size, 3, none⟩ (by first | (show w.heap.size < _; omega) | (show w.heap.size + 1 < _; omega) | (show w.heap.size + 1 + 1 < _; omega) | (show w.heap.size + 1 + 1 + 1 < _; omega))).1.trans p3_
  have p4 : w4.cell? ⟨w.heap.size + 1, 0, none⟩ = some (.int .i64 0) := (keepQ k4 ⟨w.heap.size + 1, 0, none⟩ (by first | (show w.heap.size < _; omega) | (show w.heap.size + 1 < _; omega) | (show w.heap.size + 1 + 1 < _; omega) | (show w.heap.size + 1 + 1 + 1 < _; omega))).1.trans p4_
  have p5 : w4.cell? ⟨w.heap.size + 1, 1, none⟩ = some (.int .i64 0) := (keepQ k4 ⟨w.heap.size + 1, 1, none⟩ (by first | (show w.heap.size < _; omega) | (show w.heap.size + 1 < _; omega) | (show w.heap.size + 1 + 1 < _; omega) | (show w.heap.size + 1 + 1 + 1 < _; omega))).1.trans p5_
  have p6 : w4.frozen? ⟨w.heap.size + 1, 0, none⟩ = false := (keepQ k4 ⟨w.heap.size + 1, 0, none⟩ (by first | (show w.heap.size < _; omega) | (show w.heap.size + 1 < _; omega) | (show w.heap.size + 1 + 1 < _; omega) | (show w.heap.size + 1 + 1 + 1 < _; omega))).2.trans p6_
  have p7 : w4.frozen? ⟨w.heap.size + 1, 1, none⟩ = false := (keepQ k4 ⟨w.heap.size + 1, 1, none⟩ (by first | (show w.heap.size < _; omega) | (show w.heap.size + 1 < _; omega) | (show w.heap.size + 1 + 1 < _; omega) | (show w.heap.size + 1 + 1 + 1 < _; omega))).2.trans p7_
  have p8 : w4.cell? ⟨w.heap.size + 1 + 1, 0, none⟩ = some (.int .i64 0) := (keepQ k4 ⟨w.heap.size + 1 + 1, 0, none⟩ (by first | (show w.heap.size < _; omega) | (show w.heap.size + 1 < _; omega) | (show w.heap.size + 1 + 1 < _; omega) | (show w.heap.size + 1 + 1 + 1 < _; omega))).1.trans p8_
  have p9 : w4.cell? ⟨w.heap.size + 1 + 1, 1, none⟩ = some (.int .i64 1) := (keepQ k4 ⟨w.heap.size + 1 + 1, 1, none⟩ (by first | (show w.heap.size < _; omega) | (show w.heap.size + 1 < _; omega) | (show w.heap.size + 1 + 1 < _; omega) | (show w.heap.size + 1 + 1 + 1 < _; omega))).1.trans p9_
  have pa : w4.cell? ⟨w.heap.size + 1 + 1 + 1, 0, none⟩ = some (.int .i64 1) := (keepQ k4 ⟨w.heap.size + 1 + 1 + 1, 0, none⟩ (by first | (show w.heap.size < _; omega) | (show w.heap.size + 1 < _; omega) | (show w.heap.size + 1 + 1 < _; omega) | (show w.heap.size + 1 + 1 + 1 < _; omega))).1.trans pa_
  have pb : w4.cell? ⟨w.heap.size + 1 + 1 + 1, 1, none⟩ = some (.int .i64 1) := (keepQ k4 ⟨w.heap.size + 1 + 1 + 1, 1, none⟩ (by first | (show w.heap.size < _; omega) | (show w.heap.size + 1 < _; omega) | (show w.heap.size + 1 + 1 < _; omega) | (show w.heap.size + 1 + 1 + 1 < _; omega))).1.trans pb_
  clear p0_ p1_ p2_ p3_ p4_ p5_ p6_ p7_ p8_ p9_ pa_ pb_
  have K4 : Hid (Keep w w4) := Lib.hid (K3.out.next k4)
  clear k4
  go_wp2
  refine bodyPost_ret (v := frP (p + r) (q + t)) (by simp [results, Tryd.results31, go_sem, p4, p5]) rfl ?_
  refine ⟨_, _, rfl, HR.out, ?_⟩
  refine Below.setCell (Below.setCell ?_ (by simp <;> omega) _) (by simp <;> omega) _
  exact K4.out
set_option maxHeartbeats 1600000 in
theorem shiftFor_any (a b : Int) (s : ByteArray) (hb off n cap : Nat) (w : World) (hw : wdB s = true) (ha : 0 ≤ a ∧ a ≤ 300) (hbb : 1 ≤ b ∧ b ≤ 300) (hn : n = s.size + 1) (hlt : hb < w.heap.size) (hc : ∀ j, j ≤ s.size → w.cell? ⟨hb, off + j, none⟩ = some (.int .i64 (hgt s j))) :
    Calls Tryd.prog 32 #[frP a b, .slice (some ⟨hb, off, none⟩) n cap] w fun e w' => e = .returned (.int .i64 (loN s a b (s.size + 1))) ∧ Keep w w' := by
  have h120 := (wdB_iff.1 hw).1
  have HHB := Lib.hid (fun j (h : j ≤ s.size) => hgt_bd hw j h)
  have HC := Lib.hid hc
  have HL := Lib.hid hn
  have hn121 : n ≤ 121 := by omega
  clear hc hn
  go_enter Tryd.func32, Tryd.ntmps32
  go_wp2
  go_loopg [5, 6, 7, 10] n (fun kk sh _ _ ii wr => ∃ (k : Nat) (x : Int), k ≤ n ∧ kk = n - k ∧ sh = .int .i64 x ∧ ii = .int .i64 k ∧ Hid (x = loN s a b k) ∧ (0 ≤ x ∧ x ≤ 200000) ∧ w.alloc (.cells #[.int .i64 a, .int .i64 b] 54) = wr)
  case atStart => exact ⟨0, 0, by omega, rfl, rfl, rfl, Lib.hid rfl, by omega, rfl⟩
  case round =>
    obtain ⟨k, x, hk, rfl, rfl, rfl, HX, bx, rfl⟩ := hrel
    by_cases hkl : k < n
    · have hki : (k : Int) < (n : Int) := by omega
      have hcx : (w.alloc (.cells #[.int .i64 a, .int .i64 b] 54)).cell? ⟨hb, off + k, none⟩ = some (.int .i64 (hgt s k)) := by
        exact ((show Keep w (w.alloc (.cells #[.int .i64 a, .int .i64 b] 54)) by go_grown).cell (p := ⟨hb, off + k, none⟩) (by exact hlt)).trans (HC.out k (by have := HL.out; omega))
      have hbd := HHB.out k (by have := HL.out; omega)
      obtain ⟨h, hh⟩ : ∃ h, h = hgt s k := ⟨_, rfl⟩
      rw [← hh] at hcx hbd
      have HE := Lib.hid hh
      clear hh
      have m1 := mul_bdM (h := h) (e := b) (by omega) (by omega)
      have m2 := mul_bdM (h := k) (e := a) (by omega) (by omega)
      have V1 : IntKind.i64.wrap (h * b) = h * b := IntWalk.i64_in _ (by omega)
      have V2 : IntKind.i64.wrap ((k : Int) * a) = (k : Int) * a := IntWalk.i64_in _ (by omega)
      have V3 : IntKind.i64.wrap (h * b - (k : Int) * a) = h * b - (k : Int) * a := IntWalk.i64_in _ (by omega)
      have HB1 : Hid (0 ≤ max x (h * b - (k : Int) * a) ∧ max x (h * b - (k : Int) * a) ≤ 200000) := Lib.hid (by omega)
      clear m1 m2
      go_wp2
      go_roundg (n - (k + 1))
      case measure => omega
      case rel => exact ⟨k + 1, max x (h * b - (k : Int) * a), by omega, rfl, by first | rfl | (congr 1; omega), by go_num, Lib.hid (by rw [HX.out, HE.out]; rfl), HB1.out, rfl⟩
    · have hki : ¬ (k : Int) < (n : Int) := by omega
      have HXX := Lib.hid (show x = loN s a b (s.size + 1) by rw [HX.out]; congr 1; have := HL.out; omega)
      go_wp2
      go_ret
      exact ⟨by rw [← HXX.out]; rfl, by go_grown⟩
theorem simp_eq {s : ByteArray} (hw : wdB s = true) {l d u v a b : Int} (hl : ILo s allP l d) (hu : IHi s allP u v) (h : Simp7 l d u v a b) : SimpS s a b := by
  obtain ⟨h1, h2, h3, h4, h5⟩ := h
  exact ⟨(ok7_ends hw hl hu h2 h3 h4).2 h1, h2, h3, h4, fun X Y y1 x0 xy hk => h5 X Y y1 x0 xy ((ok7_ends hw hl hu y1 x0 xy).1 hk)⟩
theorem mul_bdP {a b : Int} (ha : -1 ≤ a ∧ a ≤ 300) (hb : 0 ≤ b ∧ b ≤ 300) : -90000 ≤ a * b ∧ a * b ≤ 90000 := mul_bdE ha hb
set_option maxHeartbeats 1600000 in
set_option maxRecDepth 100000 in
theorem LineFor_any (s : ByteArray) (w : World) (hs : s.size ≤ 1048576) :
    Calls Tryd.prog 8 #[.string s] w fun e w' => e = .returned (lfR s) ∧ Keep w w' := by
  cases hw : wdB s
  · rw [lfR_no (s := s) (fun h => by rw [hw] at h; cases h)]
    go_enter Tryd.func8, Tryd.ntmps8
    go_wp2_with (go_at_call 26; refine (IsWord_any s _ hs).mono ?_; rw [hw]; rintro e w1 ⟨rfl, k1⟩)
    refine bodyPost_ret (v := .tuple #[.int .i64 0, .int .i64 0, .int .i64 0, .bool false]) (by simp [results, Tryd.results8, go_sem]) rfl ?_
    exact ⟨rfl, k1⟩
  have h120 := (wdB_iff.1 hw).1
  have HH := Lib.hid (fun W => heightsOf_any s W hw)
  have HGT := Lib.hid (fun j (h : j ≤ s.size) => hgtL_get s s.size j h)
  have HLEN := Lib.hid (hgtL_len s s.size)
  have HE := Lib.hid (fun ad cap W h => endsOf_any s ad cap W hw h)
  have HB := Lib.hid (fun l d u v (hl : ILo s allP l d) (hu : IHi s allP u v) => And.intro (And.intro (hl.1.bd hw) (hu.1.bd hw)) (And.intro (hl.1.bd2 hw) (hu.1.bd2 hw)))
  have HNO := Lib.hid (fun l d u v (hl : ILo s allP l d) (hu : IHi s allP u v) (hp : ¬ l * v < u * d) => lfR_no (s := s) (fun _ X Y h1 h2 h3 h4 => hp (by
    have hE := (ok7_ends hw hl hu h1 h2 h3).1 h4
    exact poss7 (hl.1.bd hw).2.1 (hu.1.bd hw).2.1 h1 hE.1 hE.2)))
  have HYES := Lib.hid (fun l d u v a b (hl : ILo s allP l d) (hu : IHi s allP u v) (h : Simp7 l d u v a b) => lfR_yes hw (simp_eq hw hl hu h))
  have HSF := Lib.hid (fun a b hb off n cap W => shiftFor_any a b s hb off n cap W hw)
  generalize hgtL s s.size = L at *
  generalize lfR s = V at *
  go_enter Tryd.func8, Tryd.ntmps8
  go_wp2_with (go_at_call 26; refine (IsWord_any s _ hs).mono ?_; rw [hw]; rintro e w1 ⟨rfl, k1⟩)
  refine (HH.out _).mono ?_
  rintro e w2 ⟨rd, rc, rfl, o2, k2⟩
  have I2 := Lib.hid o2.ints
  have K2 : Hid (Keep w w2) := Lib.hid (k1.next k2)
  clear o2 k1 k2
  go_wp2_with fail
  refine (HE.out _ _ _ I2.out).mono ?_
  rintro e w3 ⟨l, d, u, v, rfl, hl, hu, k3⟩
  have hb := HB.out l d u v hl hu
  have HL := Lib.hid hl
  have HU := Lib.hid hu
  have K3 : Hid (Keep w2 w3) := Lib.hid k3
  clear hl hu k3
  obtain ⟨⟨⟨b1, b2, b3⟩, b4, b5, b6⟩, ⟨b7, b8⟩, b9, b10⟩ := hb
  have m1 := mul_bdP (a := l) (b := v) (by omega) (by omega)
  have m2 := mul_bdP (a := u) (b := d) (by omega) (by omega)
  have HP := Lib.hid (fun W => isPossible_any l d u v W (by omega) (by omega))
  clear m1 m2
  by_cases hp : l * v < u * d
  · rw [decide_eq_true hp] at HP
    have HSI := Lib.hid (fun W => simplest_any l d u v (by omega) (by omega) (by omega) (by omega) (l + u) (d + v) (by omega) (by omega) (by omega) (by omega) (med7 hp) W)
    have HYV := Lib.hid (fun a b h => HYES.out l d u v a b HL.out HU.out h)
    have HSB : Hid (∀ a b, Simp7 l d u v a b → (0 ≤ a ∧ a ≤ 300) ∧ 1 ≤ b ∧ b ≤ 300) := Lib.hid (fun a b h => by
      obtain ⟨h1, h2, h3, h4, h5⟩ := h
      have := (h5 (l + u) (d + v) (by omega) (by omega) (by omega) (med7 hp)).1
      omega)
    clear hp
    rcases I2.out.at_ with h | ⟨hb, off, rfl, hlt, hc⟩
    · have := HLEN.out; rw [h] at this; simp at this
    have HC : Hid (∀ W, Keep w2 W → hb < W.heap.size ∧ ∀ j, j ≤ s.size → W.cell? ⟨hb, off + j, none⟩ = some (.int .i64 (hgt s j))) := Lib.hid (fun W k => ⟨Nat.lt_of_lt_of_le hlt k.size, fun j hj => by
      rw [(k.cell (p := ⟨hb, off + j, none⟩) (by exact hlt)).trans (hc j (by have := HLEN.out; omega)), HGT.out j hj]⟩)
    clear hc
    go_wp2_with fail
    refine (HP.out _).mono ?_
    rintro e w4 ⟨rfl, k4⟩
    have q0 : w4.cell? ⟨w3.heap.size, 0, none⟩ = some (.int .i64 l) := (k4.cell (by simp)).trans (by simp)
    have q1 : w4.cell? ⟨w3.heap.size, 1, none⟩ = some (.int .i64 d) := (k4.cell (by simp)).trans (by simp)
    have q2 : w4.cell? ⟨w3.heap.size, 2, none⟩ = some (.int .i64 u) := (k4.cell (by simp)).trans (by simp)
    have q3 : w4.cell? ⟨w3.heap.size, 3, none⟩ = some (.int .i64 v) := (k4.cell (by simp)).trans (by simp)
    have K4 : Hid (Keep w3 w4) := Lib.hid (Keep.next (by go_grown) k4)
    clear k4
    go_wp2_with fail
    refine (HSI.out _).mono ?_
    rintro e w5 ⟨a, b, rfl, hsi, k5⟩
    have HYW := Lib.hid (HYV.out a b hsi)
    have hab := HSB.out a b hsi
    have K5 : Hid (Keep w2 w5) := Lib.hid ((K3.out.next K4.out).next k5)
    clear hsi k5 q0 q1 q2 q3
    go_upto_region 8 with fail
    refine code_wp_gen7 (fun W6 hW6 => ?_)
    have q0 : W6.cell? ⟨w5.heap.size, 0, none⟩ = some (.int .i64 a) := by rw [hW6]; simp [go_sem]
    have q1 : W6.cell? ⟨w5.heap.size, 1, none⟩ = some (.int .i64 b) := by rw [hW6]; simp [go_sem]
    have hs6 : W6.heap.size = w5.heap.size + 1 := by rw [hW6]; simp
    have K6 : Hid (Keep w2 W6) := Lib.hid (K5.out.next (by rw [hW6]; go_grown))
    clear hW6
    have HS : Hid (∀ W, Keep W6 W → (W.cell? ⟨w5.heap.size, 0, none⟩ = some (.int .i64 a) ∧ W.cell? ⟨w5.heap.size, 1, none⟩ = some (.int .i64 b)) ∧ Keep W6 W) := Lib.hid (fun W k =>
      ⟨⟨(k.cell (by show w5.heap.size < _; omega)).trans q0, (k.cell (by show w5.heap.size < _; omega)).trans q1⟩, k⟩)
    have HSG : Hid (∀ W, Keep W6 W → Calls Tryd.prog 32 #[frP a b, .slice (some ⟨hb, off, none⟩) L.length rc] W fun e w' => e = .returned (.int .i64 (loN s a b (s.size + 1))) ∧ Keep W w') := Lib.hid (fun W k => by
      have hcc := HC.out W (K6.out.next k)
      exact HSF.out a b hb off L.length rc W hab.1 hab.2 HLEN.out hcc.1 hcc.2)
    generalize loN s a b (s.size + 1) = R at *
    have KR : Keep W6 W6 := Below.refl _ _
    go_region_held3 (fun W => (W.cell? ⟨w5.heap.size, 0, none⟩ = some (.int .i64 a) ∧ W.cell? ⟨w5.heap.size, 1, none⟩ = some (.int .i64 b)) ∧ Keep W6 W)
      (first | exact HS.out _ (by assumption) | exact HS.out _ (Keep.next (by go_grown) k7) | exact HS.out _ (by go_grown))
      (first | (go_at_call 32; refine (HSG.out _ (by first | assumption | go_grown)).mono ?_; rintro e w7 ⟨rfl, k7⟩))
    go_wp2
    refine bodyPost_ret (v := .tuple #[.int .i64 a, .int .i64 b, .int .i64 R, .bool true]) (by simp [results, Tryd.results8, go_sem]) rfl ?_
    exact ⟨by rw [HYW.out], K2.out.next (K6.out.next (Keep.next (by go_grown) k7))⟩
  · have HV := Lib.hid (HNO.out l d u v HL.out HU.out (by first | exact hp | exact Int.not_lt.1 hp))
    rw [decide_eq_false hp] at HP
    go_wp2_with fail
    refine (HP.out _).mono ?_
    rintro e w4 ⟨rfl, k4⟩
    have K4 : Hid (Keep w3 w4) := Lib.hid (Keep.next (by go_grown) k4)
    go_wp2
    refine bodyPost_ret (v := .tuple #[.int .i64 0, .int .i64 0, .int .i64 0, .bool false]) (by simp [results, Tryd.results8, go_sem]) rfl ?_
    exact ⟨by rw [HV.out], K2.out.next (K3.out.next K4.out)⟩
end Go.Proofs.YtmckbjhmkcbjgabDoor
