/- Heights of a word: the program's look. -/
import Derived.Test.YtjklmdlkhkmfpaaDoorWi7
import Derived.Test.YtjklmdlkhkmfpaaDoorRuns
import Derived.Deep.RegionHeld3
namespace Go.Proofs.YtjklmdlkhkmfpaaDoor
open Go.ChangeShapes Go.WideShapes Go.ChangeAt Go.RowKit Go.Deep
set_option linter.unusedVariables false
theorem idx_ab (c : UInt8) (h : c.toNat = 97 ∨ c.toNat = 98) : Lib.indexByte [97, 98] c = (c.toNat : Int) - 97 := by
  rcases h with h | h
  · have : c = 97 := UInt8.toNat_inj.1 (by rw [h]; rfl)
    rw [this]; rfl
  · have : c = 98 := UInt8.toNat_inj.1 (by rw [h]; rfl)
    rw [this]; rfl
theorem idx_ab2 (c : UInt8) (h : c.toNat = 97 ∨ c.toNat = 98) : Lib.indexByte (⟨#[97, 98]⟩ : ByteArray).data.toList ((c.toNat : Int).toNat.toUInt8) = (c.toNat : Int) - 97 := by
  have e : ((c.toNat : Int).toNat.toUInt8) = c := by simp
  rw [e]; exact idx_ab c h
theorem hgtL_in {s : ByteArray} (hw : wdB s = true) : ∀ z ∈ hgtL s s.size, In64 z := by
  intro z hz
  unfold hgtL at hz
  obtain ⟨k, hk, rfl⟩ := List.mem_map.1 hz
  have := hgt_bd hw k (by have := List.mem_range.1 hk; omega)
  have := (wdB_iff.1 hw).1
  exact ⟨by omega, by have := List.mem_range.1 hk; omega⟩
set_option maxHeartbeats 1600000 in
theorem heightsOf_any (s : ByteArray) (w : World) (hw : wdB s = true) :
    Calls Tryd.prog 20 #[.string s] w fun e w' => ∃ rd rc, e = .returned (.slice rd (hgtL s s.size).length rc) ∧ Own w' w.heap.size rd rc (hgtL s s.size) ∧ Keep w w' := by
  have hwd := wdB_iff.1 hw
  have HAB := Lib.hid hwd.2
  have h120 := hwd.1
  have HHB := Lib.hid (hgt_bd hw)
  have HLEN := Lib.hid (hgtL_len s s.size)
  have HGT := Lib.hid (fun j (h : j ≤ s.size) => hgtL_get s s.size j h)
  have HIN := Lib.hid (hgtL_in hw)
  have H0 := Lib.hid (hgt_zero s)
  clear hwd hw
  generalize hgtL s s.size = F at *
  obtain ⟨i0, hi, hz0, hz1', hz2⟩ := info_parts Tryd.infoI
  have hb8 : i0.bytes * (s.size + 1) ≤ 281474976710656 := by rw [hz2]; omega
  have hml : s.size + 1 ≤ maxLen := by unfold maxLen; omega
  go_enter Tryd.func20, Tryd.ntmps20
  go_wp2_with (at_make; refine wpList_make_full w rfl _ _ 25 rfl w.heap.size 2 i0 (.int .i64 0) 1 Tryd.underlying25 hi hz0 hz1' .i64 .i64 _ _ (s.size + 1) rfl rfl rfl rfl hb8 hml (Nat.le_refl _) ?_)
  intro w0 hown0 hgrow0
  have hown0 : w0.ownsRow w.heap.size 2 1 (.slice (some ⟨w.heap.size, 0, none⟩) (s.size + 1) (s.size + 1)) (s.size + 1) (List.replicate (s.size + 1) (.int .i64 0)) := by simpa [Value.cells, toList_madeCells_one] using hown0
  have hk0 : Keep w w0 := (Below.refl _ _).grown hgrow0 (Nat.le_refl _) (fun k h => by cases h)
  clear hgrow0
  obtain ⟨B, hB⟩ : ∃ B, B = w.heap.size := ⟨_, rfl⟩
  rw [← hB] at hown0 ⊢
  have HB := Lib.hid hB
  have HK0 : Hid (Below B w w0) := Lib.hid (by rw [hB]; exact hk0)
  have HO0 : Hid (w0.ownsRow B 2 1 (.slice (some ⟨B, 0, none⟩) (s.size + 1) (s.size + 1)) (s.size + 1) (vals (F.take 1) ++ List.replicate (s.size + 1 - 1) (.int .i64 0))) := Lib.hid (by
    have e : F.take 1 = [0] := by
      have h1 := HGT.out 0 (Nat.zero_le _)
      rw [H0.out] at h1
      have hl := HLEN.out
      cases hF : F with
      | nil => rw [hF] at hl; simp at hl
      | cons a r => rw [hF] at h1; simp at h1; simp [h1]
    rw [e]
    simpa [List.replicate_succ] using hown0)
  clear hB hk0 hown0
  go_wp2
  go_loopw [4, 11] (fun _ i wr => ∃ k : Nat, k ≤ s.size ∧ i = .int .i64 k ∧ Hid (wr.ownsRow B 2 1 (.slice (some ⟨B, 0, none⟩) (s.size + 1) (s.size + 1)) (s.size + 1) (vals (F.take (k + 1)) ++ List.replicate (s.size + 1 - (k + 1)) (.int .i64 0))) ∧ Hid (Below B w wr))
    (fun _ i _ => s.size - (intOf i).toNat)
  case atStart => exact ⟨0, Nat.zero_le _, rfl, HO0, HK0⟩
  case round =>
    obtain ⟨k, hk, rfl, HO, HK⟩ := hrel
    by_cases hlt : k < s.size
    · have hb := (s[k]'hlt).toNat_lt
      have hab := HAB.out k hlt
      have hhb := HHB.out k hk
      have HIX := Lib.hid (idx_ab2 (s[k]'hlt) hab)
      have HS := Lib.hid (hgt_succ s k hlt)
      have hcx : wr.cell? ⟨B, k, none⟩ = some (.int .i64 (hgt s k)) := by
        rw [HO.out.cellAt k (by omega), List.getElem?_append_left (by simp; have := HLEN.out; omega)]
        have e := HGT.out k hk
        have hl : k < F.length := by have := HLEN.out; omega
        rw [getD_get _ k hl] at e
        simp [hl, e]
      have hcy : wr.cell? ⟨B, k + 1, none⟩ = some (.int .i64 0) := by
        rw [HO.out.cellAt (k + 1) (by omega), fill_get_of F (s.size + 1) (k + 1) HLEN.out (by omega)]
      have hfy := HO.out.frozenAt (k + 1)
      have HST := Lib.hid (HO.out.stored (k + 1) (.int .i64 (hgt s k + (((s[k]'hlt).toNat : Int) - 97)))).1
      have HF := Lib.hid (fill_set_of F (s.size + 1) (k + 1) HLEN.out (by omega) (.int .i64 0))
      rw [HGT.out (k + 1) (by omega), HS.out] at HF
      have HC1 : Hid (wr.drew.cell? ⟨B, k, none⟩ = some (.int .i64 (hgt s k))) := Lib.hid (by simpa using hcx)
      have HC2 : Hid ((wr.setCell ⟨B, k + 1, none⟩ (.int .i64 (hgt s k + (((s[k]'hlt).toNat : Int) - 97)))).drew.cell? ⟨B, k, none⟩ = some (.int .i64 (hgt s k))) := Lib.hid (by
        have e : (wr.setCell ⟨B, k + 1, none⟩ (.int .i64 (hgt s k + (((s[k]'hlt).toNat : Int) - 97)))).cell? ⟨B, k, none⟩ = wr.cell? ⟨B, k, none⟩ := by rw [World.cell?_setCell_other]; intro h; injection h with _ h2; omega
        simpa using e.trans hcx)
      have hk1 : (k : Int) < (s.size : Int) + 1 := by omega
      have hk0 : (0 : Int) ≤ (k : Int) := by omega
      have hk2 : (k : Int) < (s.size : Int) := by omega
      have hk3 : (0 : Int) ≤ (k : Int) + 1 := by omega
      have hkt : ((k : Int) + 1).toNat = k + 1 := by omega
      have hW1 : IntKind.i64.wrap ((k : Int) + 1) = (k : Int) + 1 := IntWalk.i64_in _ (by omega)
      have hsub : ((s[k]'hlt).toNat : Int) - 97 = 0 ∨ ((s[k]'hlt).toNat : Int) - 97 = 1 := by omega
      have W1 : IntKind.i64.wrap (hgt s k + (((s[k]'hlt).toNat : Int) - 97)) = hgt s k + (((s[k]'hlt).toNat : Int) - 97) := IntWalk.i64_in _ (by omega)
      have hsz : B ≤ wr.heap.size := by have h := HK.out.size; have := HB.out; omega
      have hki : (k : Int) + 1 < (s.size : Int) + 1 := by omega
      have HIC := Lib.hid (fun (W : World) => Tryd.strings_IndexByte ⟨#[97, 98]⟩ ((s[k]'hlt).toNat : Int) W)
      rw [HIX.out] at HIC
      clear hab hsub HIX
      generalize hgt s k = H at *
      go_wp2
      go_region_held3 (fun W => W.cell? ⟨B, k, none⟩ = some (.int .i64 H))
        (first | exact hcx | exact HC1.out | exact HC2.out)
        (first | (go_at_call 29; refine (HIC.out _).mono ?_; rintro e w' ⟨rfl, rfl⟩))
      go_wp2
      go_roundw
      case rel => exact ⟨k + 1, by omega, by go_num, Lib.hid (by rw [← HF.out]; first | exact HST.out | simpa using HST.out), Lib.hid (by first | exact (HK.out.drew).setCell (Nat.le_refl _) _ | exact HK.out.setCell (Nat.le_refl _) _)⟩
      case measure => simp [intOf]; omega
    · have HE := Lib.hid (show k = s.size by omega)
      go_wp2
      go_ret
      refine ⟨some ⟨B, 0, none⟩, s.size + 1, by rw [HLEN.out]; first | rfl | simp, ⟨?_, by have := HLEN.out; omega, HIN.out⟩, ?_⟩
      · have h := HO.out
        rw [HE.out, show s.size + 1 - (s.size + 1) = 0 by omega, List.take_of_length_le (by have := HLEN.out; omega)] at h
        rw [HLEN.out]
        rw [List.replicate_zero, List.append_nil] at h
        exact ownsRow_mono h (by rw [HB.out]; exact Nat.le_refl _)
      · have h := HK.out
        rw [HB.out] at h; exact h
end Go.Proofs.YtjklmdlkhkmfpaaDoor
