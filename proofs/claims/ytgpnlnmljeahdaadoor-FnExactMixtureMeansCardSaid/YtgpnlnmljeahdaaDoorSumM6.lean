/- The weighted sums of a mixture: the model's side. -/
import Derived.Test.YtgpnlnmljeahdaaDoorMix6
import Derived.Test.YtgpnlnmljeahdaaDoorSum5
namespace Go.Proofs.YtgpnlnmljeahdaaDoor
open Go.ChangeShapes Go.WideShapes Go.ChangeAt Go.RowKit Go.Deep
set_option linter.unusedVariables false
/-- Column t of the first i lists, each times its weight. -/
def colW (us : List Int) (zss : List (List Int)) (i t : Nat) : Int := ((List.range i).map fun r => us.getD r 0 * (zss.getD r []).getD t 0).sum
theorem colW_succ (us : List Int) (zss : List (List Int)) (i t : Nat) : colW us zss (i + 1) t = colW us zss i t + us.getD i 0 * (zss.getD i []).getD t 0 := by
  unfold colW; rw [List.range_succ, List.map_append, List.sum_append]; simp
def wsumT (m : Nat) (us : List Int) (zss : List (List Int)) (i : Nat) : List Int := (List.range m).map (colW us zss i)
def wsumL (us : List Int) (zss : List (List Int)) : List Int := wsumT (zss.getD 0 []).length us zss zss.length
def mixW (m : Nat) (us : List Int) (zss : List (List Int)) (i k : Nat) : List Int := (List.range m).map fun t => if t < k then colW us zss (i + 1) t else colW us zss i t
theorem wsumT_len (m : Nat) (us : List Int) (zss : List (List Int)) (i : Nat) : (wsumT m us zss i).length = m := by simp [wsumT]
theorem mixW_len (m : Nat) (us : List Int) (zss : List (List Int)) (i k : Nat) : (mixW m us zss i k).length = m := by simp [mixW]
theorem mixW_zero (m : Nat) (us : List Int) (zss : List (List Int)) (i : Nat) : mixW m us zss i 0 = wsumT m us zss i := by simp [mixW, wsumT]
theorem mixW_all (m : Nat) (us : List Int) (zss : List (List Int)) (i : Nat) : mixW m us zss i m = wsumT m us zss (i + 1) := by
  unfold mixW wsumT
  refine List.map_congr_left fun t ht => ?_
  rw [if_pos (List.mem_range.1 ht)]
theorem mixW_get (m : Nat) (us : List Int) (zss : List (List Int)) (i k : Nat) (h : k < m) : (mixW m us zss i k).getD k 0 = colW us zss i k := by
  simp [mixW, List.getD_eq_getElem?_getD, h]
theorem mixW_set (m : Nat) (us : List Int) (zss : List (List Int)) (i k : Nat) (h : k < m) : (mixW m us zss i k).set k (colW us zss i k + us.getD i 0 * (zss.getD i []).getD k 0) = mixW m us zss i (k + 1) := by
  unfold mixW
  refine List.ext_getElem (by simp) fun t h1 h2 => ?_
  rw [List.getElem_set]
  simp only [List.getElem_map, List.getElem_range]
  by_cases hk : k = t
  · subst hk; rw [if_pos rfl, if_pos (by omega), colW_succ]
  · rw [if_neg hk]
    by_cases h3 : t < k
    · rw [if_pos h3, if_pos (by omega)]
    · rw [if_neg h3, if_neg (by omega)]
theorem prod_bd6 {u x : Int} (h1 : 1 ≤ u) (h2 : u ≤ 1000000) (h3 : -1000000 ≤ x) (h4 : x ≤ 1000000) : -(1000000 * u) ≤ u * x ∧ u * x ≤ 1000000 * u := by
  have e1 : u * x ≤ u * 1000000 := Int.mul_le_mul_of_nonneg_left h4 (by omega)
  have e2 : u * (-1000000) ≤ u * x := Int.mul_le_mul_of_nonneg_left h3 (by omega)
  omega
theorem colW_bd {us : List Int} {zss : List (List Int)} (h : mixB us zss = true) (t : Nat) : ∀ i, i ≤ zss.length → -(1000000 * (us.take i).sum) ≤ colW us zss i t ∧ colW us zss i t ≤ 1000000 * (us.take i).sum := by
  intro i
  induction i with
  | zero => intro _; simp [colW]
  | succ i ih =>
    intro hi
    have h1 := ih (by omega)
    have hr := mix_row h (k := i) (by omega)
    have hl := (mix_size h).2.1
    have hx : -1000000 ≤ (zss.getD i []).getD t 0 ∧ (zss.getD i []).getD t 0 ≤ 1000000 := by
      by_cases q : t < (zss.getD i []).length
      · exact hr.2.2 _ (getD_mem _ t q)
      · rw [List.getD_eq_getElem?_getD, List.getElem?_eq_none (by omega)]; simp
    have hp := prod_bd6 hr.1.1 hr.1.2 hx.1 hx.2
    rw [colW_succ, sum_take_succ us i (by omega)]
    omega
theorem colW_in {us : List Int} {zss : List (List Int)} (h : mixB us zss = true) (t i : Nat) (hi : i ≤ zss.length) : -64000000000000 ≤ colW us zss i t ∧ colW us zss i t ≤ 64000000000000 := by
  have h1 := colW_bd h t i hi
  have h2 := take_sum_bd us zss.length (fun j hj => (mix_row h hj).1) i hi (by have := (mix_size h).2.1; omega)
  have h3 := (mix_size h).1
  omega
set_option maxHeartbeats 3200000 in
set_option maxRecDepth 100000 in
theorem l06Sums_any (MB : Nat) (ad : Option Addr) (cap : Nat) (us : List Int) (bd : Option Addr) (bcap : Nat) (zss : List (List Int)) (w : World) (hz : Ints w ad us) (hzz : Intss w bd zss) (hm : mixB us zss = true)
    (c0 : w.cell? ⟨MB, 0, none⟩ = some (.slice ad us.length cap)) (c1 : w.cell? ⟨MB, 1, none⟩ = some (.slice bd zss.length bcap)) :
    Calls Tryd.prog 85 #[.pointer (some ⟨MB, 0, none⟩)] w fun e w' => ∃ rd rc, e = .returned (.slice rd (wsumL us zss).length rc) ∧ Own w' w.heap.size rd rc (wsumL us zss) ∧ Keep w w' := by
  have hs := mix_size hm
  have HR := Lib.hid (fun k hk => mix_row hm (k := k) hk)
  have HCB := Lib.hid (fun t i hi => colW_in hm t i hi)
  have HL := Lib.hid hs.2.1
  have h64 : zss.length ≤ 64 := hs.1.2
  have h11 : 1 ≤ zss.length := hs.1.1
  have h40 := hs.2.2.1
  clear hs hm
  have hMs : MB < w.heap.size := World.block_lt_of_cell? _ _ c0
  obtain ⟨i0, hi, hz0, hz1, hz2⟩ := info_parts Tryd.infoI
  rcases hzz.at_ with h | ⟨b, off, rfl, hb, hc⟩
  · subst h; simp at h11
  obtain ⟨p0, d0, hc0, hd0, _⟩ := hc 0 (by omega)
  rw [Nat.add_zero] at hc0
  unfold wsumL
  obtain ⟨m, hmm⟩ : ∃ m, m = (zss.getD 0 []).length := ⟨_, rfl⟩
  rw [← hmm] at hc0 hd0 h40 ⊢
  have HRL : Hid (∀ k, k < zss.length → (zss.getD k []).length = m) := Lib.hid (fun k hk => by rw [hmm]; exact (HR.out k hk).2.1)
  clear hmm
  have hb8 : i0.bytes * m ≤ 281474976710656 := by rw [hz2]; omega
  have hml : m ≤ maxLen := by unfold maxLen; omega
  have HC := Lib.hid hc; clear hc
  have hlen := hzz.small
  have hlenu := hz.small
  go_enter Tryd.func85, Tryd.ntmps85
  go_wp2_with (at_make; refine wpList_make_full w rfl _ _ 24 rfl w.heap.size 2 i0 (.int .i64 0) 1 Tryd.underlying24 hi hz0 hz1 .i64 .i64 _ _ m rfl rfl rfl rfl hb8 hml (Nat.le_refl _) ?_)
  intro w0 hown0 hgrow0
  have hown0 : w0.ownsRow w.heap.size 2 1 (.slice (some ⟨w.heap.size, 0, none⟩) m m) m (List.replicate m (.int .i64 0)) := by simpa [Value.cells, toList_madeCells_one] using hown0
  have hk0 : Keep w w0 := (Below.refl _ _).grown hgrow0 (Nat.le_refl _) (fun k h => by cases h)
  clear hgrow0
  obtain ⟨B, hB⟩ : ∃ B, B = w.heap.size := ⟨_, rfl⟩
  rw [← hB] at hown0 ⊢
  have HBe := Lib.hid hB; clear hB
  have HO0 : Hid (Own w0 B (some ⟨B, 0, none⟩) m (wsumT m us zss 0)) := Lib.hid ⟨by
      rw [wsumT_len]
      have : vals (wsumT m us zss 0) = List.replicate m (.int .i64 0) := by
        unfold vals wsumT
        rw [List.map_map, List.eq_replicate_iff]
        refine ⟨by simp, fun v hv => ?_⟩
        obtain ⟨t, _, rfl⟩ := List.mem_map.1 hv
        simp [colW]
      rw [this]; exact hown0, by rw [wsumT_len]; omega, fun z hz => by
      unfold wsumT at hz
      obtain ⟨t, _, rfl⟩ := List.mem_map.1 hz
      simp [colW, In64]⟩
  have HK0 : Hid (Below B w w0) := Lib.hid (by rw [HBe.out]; exact hk0)
  clear hown0 hk0
  have hMB : MB < B := by rw [HBe.out]; exact hMs
  have hbB : b < B := by rw [HBe.out]; exact hb
  have e00 := (HK0.out.cell (p := ⟨MB, 1, none⟩) (by exact hMB)).trans c1
  go_wp2
  go_loopg [4, 5] zss.length (fun kk i _ wr => ∃ k : Nat, k ≤ zss.length ∧ kk = zss.length - k ∧ i = .int .i64 k ∧ Hid (Own wr B (some ⟨B, 0, none⟩) m (wsumT m us zss k)) ∧ Hid (Below B w wr))
  case atStart => exact ⟨0, Nat.zero_le _, rfl, rfl, HO0, HK0⟩
  case round =>
    obtain ⟨k, hk, rfl, rfl, HO, HK⟩ := hrel
    obtain ⟨wo, rfl⟩ : ∃ x, x = wr := ⟨wr, rfl⟩
    have e1 := (HK.out.cell (p := ⟨MB, 1, none⟩) (by exact hMB)).trans c1
    by_cases hlt : k < zss.length
    · have hku : k < us.length := by rw [HL.out]; exact hlt
      obtain ⟨p, d, hcx, hd, hin⟩ := HC.out k hlt
      have hrow := HRL.out k hlt
      rw [hrow] at hcx
      have HX := Lib.hid hcx
      have HI := Lib.hid hin
      have HRW := Lib.hid hrow
      clear hcx hin hd hrow
      go_wp2
      go_loopg [5] m (fun kk j wi => ∃ t : Nat, t ≤ m ∧ kk = m - t ∧ j = .int .i64 t ∧ Hid (Own wi B (some ⟨B, 0, none⟩) m (mixW m us zss k t)) ∧ Hid (Below B w wi))
      case atStart => exact ⟨0, Nat.zero_le _, rfl, rfl, Lib.hid (by rw [mixW_zero]; exact HO.out), HK⟩
      case round =>
        obtain ⟨t, ht, rfl, rfl, HO2, HK2⟩ := hrel
        by_cases htm : t < m
        · have htz : t < (zss.getD k []).length := by rw [HRW.out]; exact htm
          rcases HI.out.at_ with h | ⟨b2, off2, rfl, hb2, hc2⟩
          · rw [h] at htz; simp at htz
          rcases hz.at_ with h | ⟨b3, off3, rfl, hb3, hc3⟩
          · rw [h] at hku; simp at hku
          have hb2' : b2 < B := by rw [HBe.out]; exact hb2
          have hb3' : b3 < B := by rw [HBe.out]; exact hb3
          have q0 := (HK2.out.cell (p := ⟨MB, 0, none⟩) (by exact hMB)).trans c0
          have q1 := (HK2.out.cell (p := ⟨MB, 1, none⟩) (by exact hMB)).trans c1
          have q2 := (HK2.out.cell (p := ⟨b, off + k, none⟩) (by exact hbB)).trans HX.out
          have q3 := (HK2.out.cell (p := ⟨b2, off2 + t, none⟩) (by exact hb2')).trans (hc2 t htz)
          have q4 := (HK2.out.cell (p := ⟨b3, off3 + k, none⟩) (by exact hb3')).trans (hc3 k hku)
          have hcb := HCB.out t k (by omega)
          have hub := (HR.out k hlt).1
          have hxb := (HR.out k hlt).2.2 _ (getD_mem (zss.getD k []) t htz)
          have HSE := Lib.hid (mixW_set m us zss k t htm)
          have q5 : wr.cell? ⟨B, t, none⟩ = some (.int .i64 (colW us zss k t)) := by
            have e := mixW_get m us zss k t htm
            have hm2 : t < (mixW m us zss k t).length := by rw [mixW_len]; exact htm
            rw [getD_get _ t hm2] at e
            rw [HO2.out.1.cellAt t (by rw [mixW_len]; omega)]
            simp only [vals, List.getElem?_map, List.getElem?_eq_getElem hm2, Option.map_some, e]
          have q6 : wr.frozen? ⟨B, t, none⟩ = false := HO2.out.1.frozenAt t
          clear hc2 hc3
          generalize (zss.getD k []).getD t 0 = x at *
          generalize colW us zss k t = c at *
          generalize us.getD k 0 = u at *
          have hp := prod_bd6 hub.1 hub.2 hxb.1 hxb.2
          have W1 : IntKind.i64.wrap (u * x) = u * x := IntWalk.i64_in _ (by omega)
          have W2 : IntKind.i64.wrap (c + u * x) = c + u * x := IntWalk.i64_in _ (by omega)
          have hneb : b ≠ B ∧ b2 ≠ B ∧ b3 ≠ B ∧ MB ≠ B := ⟨by omega, by omega, by omega, by omega⟩
          have hin : In64 (c + u * x) := ⟨by omega, by omega⟩
          have HIN := Lib.hid hin; clear hin hp
          go_wp2
          go_region
          go_wp2
          go_roundg (m - (t + 1))
          case measure => omega
          case rel =>
            refine ⟨t + 1, by omega, by omega, by go_num, Lib.hid ?_, Lib.hid ?_⟩
            · obtain ⟨s1, s2⟩ := HO2.out.1.stored t (.int .i64 (c + u * x))
              rw [← HSE.out]
              refine ⟨World.ownsRow.drew ?_, by simpa using HO2.out.2.1, fun y hy => ?_⟩
              · rw [List.length_set]; unfold vals; rw [List.map_set]; exact s1
              · rcases List.mem_or_eq_of_mem_set hy with hy | rfl
                · exact HO2.out.2.2 y hy
                · exact HIN.out
            · exact below_drewN (HK2.out.setCell (Nat.le_refl _) _) 1
        · have HE := Lib.hid (show t = m by omega)
          go_wp2
          go_roundg (zss.length - (k + 1))
          case measure => omega
          case rel => exact ⟨k + 1, by omega, rfl, by go_num, Lib.hid (by have h := HO2.out; rw [HE.out, mixW_all] at h; exact h), HK2⟩
    · have HE := Lib.hid (show k = zss.length by omega)
      go_wp2
      go_ret
      have h := HO.out
      rw [HE.out] at h
      exact ⟨some ⟨B, 0, none⟩, m, by rw [wsumT_len]; rfl, by rw [← HBe.out]; exact h, by have := HK.out; rw [HBe.out] at this; exact this⟩
end Go.Proofs.YtgpnlnmljeahdaaDoor
