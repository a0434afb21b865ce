/- The text of values is read as those values. -/
import Derived.Test.YtpdcmhnaedhkdaaGreatDoorBack
import Derived.Test.YtpdcmhnaedhkdaaGreatDoorReadV
namespace Go.Proofs.YtpdcmhnaedhkdaaGreatDoor
set_option linter.unusedVariables false
theorem rv_txt (g : Int) (zs : List Int) (h : okV g zs = true) : rvOk (Lib.itoa g ++ (58 :: txt zs)) = true ∧ rvDen (Lib.itoa g ++ (58 :: txt zs)) = g ∧ rvNums (Lib.itoa g ++ (58 :: txt zs)) = zs := by
  have hd := okV_den h
  have hl := okV_len h
  have hn := okV_num h
  obtain ⟨d1, d2⟩ := rd_of (n := g) (by omega) (by omega) rfl
  obtain ⟨r1, r2⟩ := rds_txt zs hl (fun z hz => by have := hn z hz; omega)
  have hno : (58 : UInt8) ∉ Lib.itoa g := itoa_sign g 58 (by decide)
  have hc : Lib.cut (Lib.itoa g ++ (58 :: txt zs)) [58] = (Lib.itoa g, txt zs, true) := by
    have hk : (Lib.itoa g ++ (58 :: txt zs))[(Lib.itoa g).length]? = some 58 := by simp
    have hnc : NoC (Lib.itoa g ++ (58 :: txt zs)) (Lib.itoa g).length := by
      intro j hj e
      rw [List.getElem?_append_left hj] at e
      exact hno (List.mem_of_getElem? e)
    rw [cut_hit hk hnc]
    simp
  have hok : rvOk (Lib.itoa g ++ (58 :: txt zs)) = true := by
    unfold rvOk; rw [hc]; simp only [d1, d2, r1, r2, h, Bool.and_self]
  refine ⟨hok, ?_, ?_⟩
  · unfold rvDen; rw [if_pos hok, hc]; exact d2
  · unfold rvNums; rw [if_pos hok, hc]; exact r2
end Go.Proofs.YtpdcmhnaedhkdaaGreatDoor
