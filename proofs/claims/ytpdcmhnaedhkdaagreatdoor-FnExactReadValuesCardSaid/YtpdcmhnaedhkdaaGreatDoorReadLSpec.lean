/- Lists of numbers read from their texts: the model's side. -/
import Derived.Test.YtpdcmhnaedhkdaaGreatDoorPartsInv
import Derived.Test.YtpdcmhnaedhkdaaGreatDoorReadSpec
import Derived.Test.YtpdcmhnaedhkdaaGreatDoorReadL2
namespace Go.Proofs.YtpdcmhnaedhkdaaGreatDoor
open Go.ChangeShapes Go.WideShapes Go.ChangeAt Go.RowKit
set_option linter.unusedVariables false
theorem piece_data (s : ByteArray) (j k : Nat) (h : j ≤ k) : (s.extract j k).data.toList = (s.data.toList.drop j).take (k - j) := by
  rw [ByteArray.data_extract, Array.toList_extract]
set_option maxHeartbeats 1600000 in
set_option maxRecDepth 100000 in
theorem l01Numbers_any (s : ByteArray) (w : World) (hs : s.size ≤ 1048576) (hd : s.data.toList ≠ [45]) :
    Calls Tryz.prog 67 #[.string s] w fun e w' => ∃ rd rc, e = .returned (.tuple #[.slice rd (rdsV s.data.toList).length rc, .bool (rdsOk s.data.toList)]) ∧ Own w' w.heap.size rd rc (rdsV s.data.toList) ∧ Keep w w' := by
  have hne := dash_ne hd
  have HD := Lib.hid hd; clear hd
  have hown0 : Own (w.alloc (.cells #[] 2)) w.heap.size (some ⟨w.heap.size, 0, none⟩) 0 [] := by
    have := World.ownsRow_lit (base := w.heap.size) (e := 2) (size := 1) w #[] 0 (by simp) (by simp) rfl
    exact ⟨by simpa using this, by simp, by simp⟩
  have hbl : Keep w (w.alloc (.cells #[] 2)) := by go_grown
  go_enter Tryz.func67, Tryz.ntmps67
  go_wp2
  go_loopw [4, 5, 6] (fun o f i wr => ∃ (j k : Nat) (rd : Option Addr) (rc : Nat) (done : List (List UInt8)), f = .int .i64 j ∧ i = .int .i64 k ∧ o = .slice rd done.length rc ∧ k ≤ s.size + 1 ∧ Hid (Inv s.data.toList j k done) ∧ Own wr w.heap.size rd rc (done.map rdV) ∧ Keep w wr)
    (fun _ _ i _ => s.size + 1 - (intOf i).toNat)
  case atStart => exact ⟨0, 0, _, _, [], rfl, rfl, rfl, by omega, Lib.hid (Inv.start _), by simpa using hown0, hbl⟩
  case round =>
    obtain ⟨j, k, rd, rc, done, rfl, rfl, rfl, hk, HI, hown, hbel⟩ := hrel
    have hjk : j ≤ k := HI.out.1
    have hd40 : done.length ≤ 40 := HI.out.2.2.1
    have hsl : s.data.toList.length = s.size := Array.length_toList
    have HSL := Lib.hid hsl; clear hsl
    have HO := Lib.hid hown; clear hown
    have HL := Lib.hid hbel; clear hbel
    by_cases hend : k = s.size + 1
    · have hk1 : ¬ ((k : Int) ≤ (s.size : Int)) := by omega
      have HF := Lib.hid (Inv.done (l := s.data.toList) (j := j) (done := done) (by have := HI.out; rw [hend] at this; rw [HSL.out]; exact this) HD.out)
      go_wp2
      go_ret2
      exact ⟨rd, rc, by rw [HF.out.1, HF.out.2, List.length_map]; rfl, by rw [HF.out.2]; exact HO.out, HL.out⟩
    · have hk1 : (k : Int) ≤ (s.size : Int) := by omega
      by_cases hpass : k < s.size ∧ s.data.toList[k]? ≠ some 44
      · obtain ⟨hlt, hb⟩ := hpass
        have HI2 := Lib.hid (HI.out.pass (by rw [HSL.out]; exact hlt) hb)
        have hbx : ((s[k]'hlt).toNat : Int) ≠ 44 := by
          intro h
          apply hb
          have h2 : s[k]'hlt = 44 := UInt8.toNat_inj.1 (by show (s[k]'hlt).toNat = 44; omega)
          rw [← h2, List.getElem?_eq_getElem (by rw [HSL.out]; exact hlt)]; rfl
        have hbt : (((s[k]'hlt).toNat : Int) != 44) = true := by simpa using hbx
        clear hb hbx
        go_wp2
        go_roundw
        case rel => exact ⟨j, k + 1, rd, rc, done, rfl, by go_num, rfl, by omega, HI2, HO.out, HL.out⟩
        case measure => simp [intOf]; omega
      · have hb : k = s.data.toList.length ∨ s.data.toList[k]? = some 44 := by
          rw [HSL.out]
          by_cases h : k < s.size
          · exact .inr (Classical.byContradiction fun h2 => hpass ⟨h, h2⟩)
          · exact .inl (by omega)
        have HB := Lib.hid hb; clear hb hpass
        have hps := l01Value_any (s.extract j k) wr (by rw [ByteArray.size_extract]; omega)
        rw [piece_data s j k hjk] at hps
        have HP := Lib.hid hps; clear hps
        have HBAD := Lib.hid (fun h => Inv.bad HI.out HD.out (by rw [HSL.out]; omega) HB.out h)
        have HNX := Lib.hid (fun h1 h2 => Inv.next HI.out (by rw [HSL.out]; omega) HB.out h1 h2)
        have hkz : (0 : Int) ≤ (k : Int) := by omega
        generalize (s.data.toList.drop j).take (k - j) = p at HP HBAD HNX
        have HYI := Lib.hid (rdV_in64 p)
        obtain ⟨y, hy⟩ : ∃ y, y = rdV p := ⟨_, rfl⟩
        rw [← hy] at HP HYI
        have HY := Lib.hid hy; clear hy
        by_cases hlt : k < s.size
        · have hbt : (((s[k]'hlt).toNat : Int) != 44) = false := by
            have h1 := HB.out.resolve_left (by rw [HSL.out]; omega)
            rw [List.getElem?_eq_getElem (by rw [HSL.out]; exact hlt)] at h1
            have h2 : s[k]'hlt = 44 := Option.some.inj h1
            rw [h2]; rfl
          go_wp2_with fail
          refine HP.out.mono ?_
          rintro e w1 ⟨rfl, k1⟩
          have HL1 := Lib.hid (Keep.next HL.out k1)
          cases hok : rdOk p
          · have HF := Lib.hid (HBAD.out (.inl hok)); clear hok
            go_wp2
            go_ret2
            exact ⟨none, 0, by rw [HF.out, rdsV_no HF.out]; rfl, by rw [rdsV_no HF.out]; exact Own.nil _ _, HL1.out⟩
          · have HOK := Lib.hid hok
            by_cases h40 : done.length = 40
            · have HF := Lib.hid (HBAD.out (.inr h40))
              have h40i : ((done.length : Int) == 40) = true := by simp; omega
              go_wp2
              go_ret2
              exact ⟨none, 0, by rw [HF.out, rdsV_no HF.out]; rfl, by rw [rdsV_no HF.out]; exact Own.nil _ _, HL1.out⟩
            · have h40i : ((done.length : Int) == 40) = false := by simp; omega
              have HI2 := Lib.hid (HNX.out hok h40)
              have HO1 := Lib.hid (HO.out.keep k1)
              have hwl : w.heap.size ≤ w1.heap.size := HL1.out.size
              have HYM := Lib.hid (show (done ++ [p]).map rdV = done.map rdV ++ [y] from by rw [List.map_append, HY.out]; rfl)
              go_wp2_with (refine list_app1 (by rfl) _ _ (by rfl) w.heap.size rd rc done.length _ y (by rfl) (HO1.out.keep (by go_grown)) (by simp) w1.heap.size (by rfl) (by simp) HYI.out (by simp; omega) (by simp; omega) ?_; intro ad' cap' w2 hown2 hgr2; have hbel2 : Below w.heap.size w1 w2 := below_own (by go_grown) (HO1.out.keep (by go_grown)) hgr2 (by simp; omega) (Nat.le_refl _))
              go_roundw
              case rel => exact ⟨k + 1, k + 1, ad', cap', done ++ [p], by go_num, by go_num, by simp, by omega, HI2, by rw [HYM.out]; exact hown2, HL1.out.trans hbel2⟩
              case measure => simp [intOf]; omega
        · have hlti : ¬ ((k : Int) < (s.size : Int)) := by omega
          go_wp2_with fail
          refine HP.out.mono ?_
          rintro e w1 ⟨rfl, k1⟩
          have HL1 := Lib.hid (Keep.next HL.out k1)
          cases hok : rdOk p
          · have HF := Lib.hid (HBAD.out (.inl hok)); clear hok
            go_wp2
            go_ret2
            exact ⟨none, 0, by rw [HF.out, rdsV_no HF.out]; rfl, by rw [rdsV_no HF.out]; exact Own.nil _ _, HL1.out⟩
          · have HOK := Lib.hid hok
            by_cases h40 : done.length = 40
            · have HF := Lib.hid (HBAD.out (.inr h40))
              have h40i : ((done.length : Int) == 40) = true := by simp; omega
              go_wp2
              go_ret2
              exact ⟨none, 0, by rw [HF.out, rdsV_no HF.out]; rfl, by rw [rdsV_no HF.out]; exact Own.nil _ _, HL1.out⟩
            · have h40i : ((done.length : Int) == 40) = false := by simp; omega
              have HI2 := Lib.hid (HNX.out hok h40)
              have HO1 := Lib.hid (HO.out.keep k1)
              have hwl : w.heap.size ≤ w1.heap.size := HL1.out.size
              have HYM := Lib.hid (show (done ++ [p]).map rdV = done.map rdV ++ [y] from by rw [List.map_append, HY.out]; rfl)
              go_wp2_with (refine list_app1 (by rfl) _ _ (by rfl) w.heap.size rd rc done.length _ y (by rfl) (HO1.out.keep (by go_grown)) (by simp) w1.heap.size (by rfl) (by simp) HYI.out (by simp; omega) (by simp; omega) ?_; intro ad' cap' w2 hown2 hgr2; have hbel2 : Below w.heap.size w1 w2 := below_own (by go_grown) (HO1.out.keep (by go_grown)) hgr2 (by simp; omega) (Nat.le_refl _))
              go_roundw
              case rel => exact ⟨k + 1, k + 1, ad', cap', done ++ [p], by go_num, by go_num, by simp, by omega, HI2, by rw [HYM.out]; exact hown2, HL1.out.trans hbel2⟩
              case measure => simp [intOf]; omega
set_option maxHeartbeats 1600000 in
theorem l01Numbers_dash (s : ByteArray) (w : World) (hd : s.data.toList = [45]) :
    Calls Tryz.prog 67 #[.string s] w fun e w' => ∃ rd rc, e = .returned (.tuple #[.slice rd (rdsV s.data.toList).length rc, .bool (rdsOk s.data.toList)]) ∧ Own w' w.heap.size rd rc (rdsV s.data.toList) ∧ Keep w w' := by
  have hs := dash_eq hd
  subst hs
  have hown0 : Own (w.alloc (.cells #[] 2)) w.heap.size (some ⟨w.heap.size, 0, none⟩) 0 [] := by
    have := World.ownsRow_lit (base := w.heap.size) (e := 2) (size := 1) w #[] 0 (by simp) (by simp) rfl
    exact ⟨by simpa using this, by simp, by simp⟩
  go_enter Tryz.func67, Tryz.ntmps67
  go_wp2
  go_ret2
  exact ⟨_, _, rfl, hown0, by go_grown⟩
end Go.Proofs.YtpdcmhnaedhkdaaGreatDoor
