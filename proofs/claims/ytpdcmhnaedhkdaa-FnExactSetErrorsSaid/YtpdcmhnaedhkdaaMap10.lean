/- Lists mapped by a function that lays nothing: each function of chapter 10. -/
import Derived.Test.YtpdcmhnaedhkdaaDivs
import Derived.Deep.QuietTactic
namespace Go.Proofs.Ytpdcmhnaedhkdaa
open Go.ChangeShapes Go.WideShapes Go.ChangeAt Go.RowKit
set_option linter.unusedVariables false
set_option maxHeartbeats 1600000 in
theorem mappedEro_any (φ : Int → Int) (p1 p2 : Value) (ad : Option Addr) (cap : Nat) (zs : List Int) (w : World) (hz : Ints w ad zs) (hs : zs.length ≤ 1099511627776) (hin : ∀ z ∈ zs, In64 (φ z))
    (hf : ∀ x ∈ zs, ∀ W, Keep w W → Calls Try.prog 114 (#[.int .i64 x] ++ #[p1]) W fun e w' => e = .returned (.int .i64 (φ x)) ∧ W = w') :
    Calls Try.prog 113 #[.slice ad zs.length cap, .func (.func 114) #[] #[p1]] w fun e w' =>
      ∃ rd rc, e = .returned (.slice rd (zs.map φ).length rc) ∧ Own w' w.heap.size rd rc (zs.map φ) ∧ Keep w w' := by
  obtain ⟨i0, hi, hz0, hz1, hz2⟩ := info_parts Try.infoI
  have hb8 : i0.bytes * zs.length ≤ 281474976710656 := by rw [hz2]; omega
  have hml : zs.length ≤ maxLen := by unfold maxLen; omega
  have HF := Lib.hid hf; clear hf
  go_enter Try.func113, Try.ntmps113
  go_wp2_with (at_make; refine wpList_make_full w rfl _ _ 22 rfl w.heap.size 2 i0 (.int .i64 0) 1 Try.underlying22 hi hz0 hz1 .i64 .i64 _ _ zs.length rfl rfl rfl rfl hb8 hml (Nat.le_refl _) ?_)
  intro w0 hown0 hgrow0
  have hown0 : w0.ownsRow w.heap.size 2 1 (.slice (some ⟨w.heap.size, 0, none⟩) zs.length zs.length) zs.length (List.replicate zs.length (.int .i64 0)) := by simpa [Value.cells, toList_madeCells_one] using hown0
  have hk0 : Keep w w0 := (Below.refl _ _).grown hgrow0 (Nat.le_refl _) (fun k h => by cases h)
  clear hgrow0
  obtain ⟨B, hB⟩ : ∃ B, B = w.heap.size := ⟨_, rfl⟩
  rw [← hB] at hown0 ⊢
  have HB := Lib.hid hB; clear hB
  have hlen := hz.small
  go_wp2
  go_loopw [6, 7, 13] (fun _ _ i wr => ∃ k : Nat, k ≤ zs.length ∧ i = .int .i64 k ∧ wr.ownsRow B 2 1 (.slice (some ⟨B, 0, none⟩) zs.length zs.length) zs.length (vals ((zs.take k).map φ) ++ List.replicate (zs.length - k) (.int .i64 0)) ∧ Below B w wr)
    (fun _ _ i _ => zs.length - (intOf i).toNat)
  case atStart => exact ⟨0, Nat.zero_le _, rfl, by simpa using hown0, by rw [HB.out]; exact hk0⟩
  case round =>
    obtain ⟨k, hk, rfl, hown, hbel⟩ := hrel
    by_cases hlt : k < zs.length
    · rcases hz.at_ with h | ⟨b, off, rfl, hb, hc⟩
      · subst h; simp at hlt
      have hcx : wr.cell? ⟨b, off + k, none⟩ = some (.int .i64 (zs.getD k 0)) := (hbel.cell (by show b < B; rw [HB.out]; exact hb)).trans (hc k hlt)
      have hcy : wr.cell? ⟨B, k, none⟩ = some (.int .i64 0) := by rw [hown.cellAt k (by omega), fill_get_map φ zs k hlt]
      have hmem : zs.getD k 0 ∈ zs := by rw [List.getD_eq_getElem?_getD, List.getElem?_eq_getElem hlt]; exact List.getElem_mem hlt
      have hfy := hown.frozenAt k
      have HST := Lib.hid (hown.stored k (.int .i64 (φ (zs.getD k 0))))
      have HE := Lib.hid (fill_set_map φ zs k hlt (.int .i64 0))
      have HFX := Lib.hid (HF.out (zs.getD k 0) hmem wr (by have h := hbel; rw [HB.out] at h; exact h))
      clear hc hmem
      generalize zs.getD k 0 = x at hcx HST HE HFX
      go_wp2_with (go_at_call 114; refine HFX.out.mono ?_; rintro e w' ⟨rfl, rfl⟩)
      go_roundw
      case rel =>
        obtain ⟨s1, s2⟩ := HST.out
        rw [HE.out] at s1
        refine ⟨k + 1, by omega, by go_num, s1, ?_⟩
        exact hbel.setCell (Nat.le_refl _) _
      case measure => simp [intOf]; omega
    · go_wp2
      go_ret
      have he : k = zs.length := by omega
      subst he
      have e := HB.out
      subst e
      refine ⟨some ⟨w.heap.size, 0, none⟩, zs.length, by simp, ⟨by simpa using hown, by simpa using hs, ?_⟩, hbel⟩
      intro z hz; obtain ⟨y, hy, rfl⟩ := List.mem_map.1 hz; exact hin y hy
end Go.Proofs.Ytpdcmhnaedhkdaa
