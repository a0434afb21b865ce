/- The least and the greatest sum: the program's side. -/
import Derived.Test.YtmckbjhmkcbjgabDivs
import Derived.Test.YtmckbjhmkcbjgabTot
import Derived.Test.YtmckbjhmkcbjgabBnd4
namespace Go.Proofs.Ytmckbjhmkcbjgab
open Go.ChangeShapes Go.WideShapes Go.ChangeAt Go.RowKit
set_option linter.unusedVariables false
theorem roundsV_bd {g : Int} {zs : List Int} : (∀ z ∈ roundsV fl g zs, -1000000 ≤ z ∧ z ≤ 1000000) ∧ (∀ z ∈ roundsV ce g zs, -1000000 ≤ z ∧ z ≤ 1000000) := by
  cases h : okV g zs
  · simp [roundsV, imgs, h]
  · have hg := okV_den h
    constructor
    · intro z hz
      simp only [roundsV, imgs, h, if_true] at hz
      obtain ⟨y, hy, rfl⟩ := List.mem_map.1 hz
      have n := okV_num h y hy
      exact fl_bd hg.1 n.1 n.2 (by omega)
    · intro z hz
      simp only [roundsV, imgs, h, if_true] at hz
      obtain ⟨y, hy, rfl⟩ := List.mem_map.1 hz
      have n := okV_num h y hy
      exact ce_bd hg.1 n.1 n.2 (by omega)
theorem roundsV_len (φ : Int → Int → Int) {g : Int} {zs : List Int} : (roundsV φ g zs).length ≤ 40 := by
  cases h : okV g zs
  · simp [roundsV, imgs, h]
  · have := okV_len h
    simp [roundsV, imgs, h]; omega
theorem roundsV_sum (φ : Int → Int → Int) (g : Int) (zs : List Int) : (roundsV φ g zs).sum = sbV φ g zs := by
  cases h : okV g zs <;> simp [roundsV, imgs, h, sbV, sumR]
set_option maxHeartbeats 1600000 in
theorem SumBounds_any (g : Int) (ad : Option Addr) (cap : Nat) (zs : List Int) (w : World) (hz : Ints w ad zs) :
    Calls Try.prog 11 #[valV g ad zs.length cap] w fun e w' => e = .returned (.tuple #[.int .i64 (sbV fl g zs), .int .i64 (sbV ce g zs), .bool (okV g zs)]) ∧ Keep w w' := by
  have B0 : Box (w.alloc (.cells #[.int .i64 g, .slice ad zs.length cap] 26)) w.heap.size g ad zs.length cap := ⟨by simp, by simp, by simp⟩
  have HB := Lib.hid (@roundsV_bd g zs)
  have HL1 := Lib.hid (@roundsV_len fl g zs)
  have HL2 := Lib.hid (@roundsV_len ce g zs)
  have HS1 := Lib.hid (roundsV_sum fl g zs)
  have HS2 := Lib.hid (roundsV_sum ce g zs)
  go_enter Try.func11, Try.ntmps11
  go_wp2_with fail
  refine (FloorsOf_any g ad cap zs _ (hz.keep (B := _) (by go_grown) (Nat.le_refl _))).mono ?_
  rintro e w1 ⟨rd, rc, rfl, o1, k1⟩
  have g1 : Keep w w1 := Keep.next (by go_grown) k1
  obtain ⟨q0, q1, q2⟩ := B0.keep k1
  generalize roundsV fl g zs = F at *
  go_wp2_with fail
  refine (CeilingsOf_any g ad cap zs _ (hz.keep (B := _) g1 (Nat.le_refl _))).mono ?_
  rintro e w2 ⟨sd, sc, rfl, o2, k2⟩
  have g2 : Keep w w2 := Keep.next g1 k2
  have o1' := o1.keep k2
  generalize roundsV ce g zs = C at *
  have HF := Lib.hid (fun z hz => by have := HB.out.1 z hz; omega : ∀ z ∈ F, -1000000000 ≤ z ∧ z ≤ 1000000000)
  have HC := Lib.hid (fun z hz => by have := HB.out.2 z hz; omega : ∀ z ∈ C, -1000000000 ≤ z ∧ z ≤ 1000000000)
  go_wp2_with fail
  refine (total_any rd rc F _ (o1'.ints.keep (B := _) (by go_grown) (Nat.le_refl _)) HF.out (by have := HL1.out; omega)).mono ?_
  rintro e w3 ⟨rfl, rfl⟩
  go_wp2_with fail
  refine (total_any sd sc C _ (o2.ints.keep (B := _) (by go_grown) (Nat.le_refl _)) HC.out (by have := HL2.out; omega)).mono ?_
  rintro e w4 ⟨rfl, rfl⟩
  go_wp2
  rw [HS1.out, HS2.out]
  refine bodyPost_ret (v := .tuple #[.int .i64 (sbV fl g zs), .int .i64 (sbV ce g zs), .bool (okV g zs)]) (by simp [results, Try.results11, go_sem]) rfl ?_
  exact ⟨rfl, Keep.next g2 (by go_grown)⟩
end Go.Proofs.Ytmckbjhmkcbjgab
