/- The weighted sums of a mixture: the program's side. -/
import Derived.Test.YtgpnlnmljeahdaaDoorSumM6
import Derived.Test.YtgpnlnmljeahdaaDoorIsMx6
import Derived.Test.YtgpnlnmljeahdaaDoorTot
import Derived.Test.YtgpnlnmljeahdaaDoorDraw6
import Derived.Test.YtgpnlnmljeahdaaDoorReg
namespace Go.Proofs.YtgpnlnmljeahdaaDoor
open Go.ChangeShapes Go.WideShapes Go.ChangeAt Go.RowKit Go.Deep
set_option linter.unusedVariables false
theorem mix_sum {us : List Int} {zss : List (List Int)} (hm : mixB us zss = true) : 1 ≤ us.sum ∧ us.sum ≤ 1000000 := by
  have hs := mix_size hm
  have hr := fun k hk => (mix_row hm (k := k) hk).1
  have h0 := hr 0 (by omega)
  have h3 := take_sum_bd us zss.length hr 1 (by omega) (by rw [hs.2.1]; exact Nat.le_refl _)
  have h4 := sum_mono (us := us) (fun j hj => hr j (by rw [← hs.2.1]; exact hj)) (us.length - 1) 1 (by omega)
  have e1 := sum_take_succ us 0 (by omega)
  rw [show 1 + (us.length - 1) = us.length by omega, List.take_length] at h4
  simp at e1
  have e2 : (us.take 1).sum = us.getD 0 0 := by rw [show (1 : Nat) = 0 + 1 from rfl, sum_take_succ us 0 (by omega)]; simp
  omega
theorem mix_we {us : List Int} {zss : List (List Int)} (hm : mixB us zss = true) : ∀ z ∈ us, -1000000000 ≤ z ∧ z ≤ 1000000000 := by
  have hs := mix_size hm
  intro z hz
  obtain ⟨j, hj, rfl⟩ := List.getElem_of_mem hz
  have := (mix_row hm (k := j) (by omega)).1
  rw [getD_get us j hj] at this
  omega
set_option maxHeartbeats 3200000 in
set_option maxRecDepth 100000 in
theorem meansOf_any (ad : Option Addr) (cap : Nat) (us : List Int) (bd : Option Addr) (bcap : Nat) (zss : List (List Int)) (w : World) (hz : Ints w ad us) (hzz : Intss w bd zss) (hm : mixB us zss = true) :
    Calls Tryd.prog 75 #[mixV ad us.length cap bd zss.length bcap] w fun e w' => ∃ rd rc, e = .returned (valV us.sum rd (wsumL us zss).length rc) ∧ Own w' w.heap.size rd rc (wsumL us zss) ∧ Keep w w' := by
  have hs := mix_size hm
  have HR := Lib.hid (fun k hk => mix_row hm (k := k) hk)
  have HCB := Lib.hid (fun t i hi => colW_in hm t i hi)
  have HWE := Lib.hid (mix_we hm)
  have HL := Lib.hid hs.2.1
  have h64 : zss.length ≤ 64 := hs.1.2
  have h11 : 1 ≤ zss.length := hs.1.1
  have h40 := hs.2.2.1
  clear hs hm
  obtain ⟨i0, hi, hz0, hz1, hz2⟩ := info_parts Tryd.infoI
  rcases hzz.at_ with h | ⟨b, off, rfl, hb, hc⟩
  · subst h; simp at h11
  obtain ⟨p0, d0, hc0, hd0, _⟩ := hc 0 (by omega)
  rw [Nat.add_zero] at hc0
  unfold wsumL
  obtain ⟨m, hmm⟩ : ∃ m, m = (zss.getD 0 []).length := ⟨_, rfl⟩
  rw [← hmm] at hc0 hd0 h40 ⊢
  have HRL : Hid (∀ k, k < zss.length → (zss.getD k []).length = m) := Lib.hid (fun k hk => by rw [hmm]; exact (HR.out k hk).2.1)
  clear hmm
  have hb8 : i0.bytes * m ≤ 281474976710656 := by rw [hz2]; omega
  have hml : m ≤ maxLen := by unfold maxLen; omega
  have HC := Lib.hid hc; clear hc
  have hlen := hzz.small
  have hlenu := hz.small
  have KX : Keep w ((w.alloc (.cells #[.slice ad us.length cap, .slice (some ⟨b, off, none⟩) zss.length bcap] 31)).alloc (.cells #[.int .i64 0, .slice none 0 0] 26)) := by go_grown
  have BX : BoxM ((w.alloc (.cells #[.slice ad us.length cap, .slice (some ⟨b, off, none⟩) zss.length bcap] 31)).alloc (.cells #[.int .i64 0, .slice none 0 0] 26)) w.heap.size ad us.length cap (some ⟨b, off, none⟩) zss.length bcap := ⟨by simp, by simp, by simp; omega⟩
  have RX : Duo ((w.alloc (.cells #[.slice ad us.length cap, .slice (some ⟨b, off, none⟩) zss.length bcap] 31)).alloc (.cells #[.int .i64 0, .slice none 0 0] 26)) (w.heap.size + 1) (.int .i64 0) (.slice none 0 0) := ⟨by simp, by simp, by simp, by simp⟩
  have SX : ((w.alloc (.cells #[.slice ad us.length cap, .slice (some ⟨b, off, none⟩) zss.length bcap] 31)).alloc (.cells #[.int .i64 0, .slice none 0 0] 26)).heap.size = w.heap.size + 2 := by simp
  have e00 := (KX.cell (p := ⟨b, off, none⟩) (by exact hb)).trans hc0
  have HX := Lib.hid (And.intro KX (And.intro BX (And.intro RX SX)))
  clear KX BX RX SX
  go_enter Tryd.func75, Tryd.ntmps75
  go_wp2_with (at_make; generalize ((w.alloc (.cells #[.slice ad us.length cap, .slice (some ⟨b, off, none⟩) zss.length bcap] 31)).alloc (.cells #[.int .i64 0, .slice none 0 0] 26)) = W0 at *; refine wpList_make_full W0 rfl _ _ 24 rfl W0.heap.size 2 i0 (.int .i64 0) 1 Tryd.underlying24 hi hz0 hz1 .i64 .i64 _ _ m rfl rfl rfl rfl hb8 hml (Nat.le_refl _) ?_)
  intro w0 hown0 hgrow0
  have hown0 : w0.ownsRow W0.heap.size 2 1 (.slice (some ⟨W0.heap.size, 0, none⟩) m m) m (List.replicate m (.int .i64 0)) := by simpa [Value.cells, toList_madeCells_one] using hown0
  have hk0 : Keep W0 w0 := (Below.refl _ _).grown hgrow0 (Nat.le_refl _) (fun k h => by cases h)
  clear hgrow0
  obtain ⟨KX, BX, RX, SX⟩ := HX.out
  obtain ⟨B, hB⟩ : ∃ B, B = W0.heap.size := ⟨_, rfl⟩
  have hBw : B = w.heap.size + 2 := by rw [hB]; exact SX
  rw [← hB] at hown0 ⊢
  have HBe := Lib.hid hB; clear hB
  have HBw := Lib.hid hBw; clear hBw
  have hbB : b < B := by rw [HBw.out]; omega
  have HO0 : Hid (Own w0 B (some ⟨B, 0, none⟩) m (wsumT m us zss 0)) := Lib.hid ⟨by
      rw [wsumT_len]
      have : vals (wsumT m us zss 0) = List.replicate m (.int .i64 0) := by
        unfold vals wsumT
        rw [List.map_map, List.eq_replicate_iff]
        refine ⟨by simp, fun v hv => ?_⟩
        obtain ⟨t, _, rfl⟩ := List.mem_map.1 hv
        simp [colW]
      rw [this]; exact hown0, by rw [wsumT_len]; omega, fun z hz => by
      unfold wsumT at hz
      obtain ⟨t, _, rfl⟩ := List.mem_map.1 hz
      simp [colW, In64]⟩
  have HK0 : Hid (Below B W0 w0) := Lib.hid (by rw [HBe.out]; exact hk0)
  have HBX := Lib.hid BX; have HRX := Lib.hid RX; have HKX := Lib.hid KX
  have hss : w.heap.size + 1 < B := by rw [HBw.out]; omega
  clear hown0 hk0 KX BX RX SX HX e00
  have HZW := Lib.hid (hz.keep HKX.out (Nat.le_refl _))
  have hbm := HBX.out.keep (show Keep W0 w0 from by have := HK0.out; rw [HBe.out] at this; exact this)
  obtain ⟨x0, x1, _⟩ := hbm
  have HHC : Hid (∀ k, k < zss.length → ∃ p d, W0.cell? ⟨b, off + k, none⟩ = some (.slice p (zss.getD k []).length d) ∧ Ints W0 p (zss.getD k [])) := Lib.hid (fun k hk => by
    obtain ⟨p, d, h1, h2, h3⟩ := HC.out k hk
    exact ⟨p, d, (HKX.out.cell (p := ⟨b, off + k, none⟩) (by exact hb)).trans h1, h3.keep HKX.out (Nat.le_refl _)⟩)
  go_wp2
  go_loopg [4, 5, 6, 7, 17] zss.length (fun kk _ _ _ _ i wr => ∃ k : Nat, k ≤ zss.length ∧ kk = zss.length - k ∧ i = .int .i64 k ∧ Hid (Own wr B (some ⟨B, 0, none⟩) m (wsumT m us zss k)) ∧ Hid (Below B W0 wr))
  case atStart => exact ⟨0, Nat.zero_le _, rfl, rfl, HO0, HK0⟩
  case round =>
    obtain ⟨k, hk, rfl, rfl, HO, HK⟩ := hrel
    obtain ⟨wo, rfl⟩ : ∃ x, x = wr := ⟨wr, rfl⟩
    by_cases hlt : k < zss.length
    · have hku : k < us.length := by rw [HL.out]; exact hlt
      obtain ⟨p, d, hcx0, hin⟩ := HHC.out k hlt
      have hcx := (HK.out.cell (p := ⟨b, off + k, none⟩) (by exact hbB)).trans hcx0
      have hrow := HRL.out k hlt
      rw [hrow] at hcx
      have HI := Lib.hid hin
      have HRW := Lib.hid hrow
      clear hcx0 hin hrow
      go_wp2
      go_loopg [6, 7, 24] m (fun kk _ _ j wi => ∃ t : Nat, t ≤ m ∧ kk = m - t ∧ j = .int .i64 t ∧ Hid (Own wi B (some ⟨B, 0, none⟩) m (mixW m us zss k t)) ∧ Hid (Below B W0 wi))
      case atStart => exact ⟨0, Nat.zero_le _, rfl, rfl, Lib.hid (by rw [mixW_zero]; exact HO.out), HK⟩
      case round =>
        obtain ⟨t, ht, rfl, rfl, HO2, HK2⟩ := hrel
        by_cases htm : t < m
        · have htz : t < (zss.getD k []).length := by rw [HRW.out]; exact htm
          rcases HI.out.at_ with h | ⟨b2, off2, rfl, hb2, hc2⟩
          · rw [h] at htz; simp at htz
          rcases HZW.out.at_ with h | ⟨b3, off3, rfl, hb3, hc3⟩
          · rw [h] at hku; simp at hku
          have hb2' : b2 < B := by rw [HBe.out]; exact hb2
          have hb3' : b3 < B := by rw [HBe.out]; exact hb3
          have q0 := (HK2.out.cell (p := ⟨w.heap.size, 0, none⟩) (by show w.heap.size < B; omega)).trans HBX.out.c0
          have q3 := (HK2.out.cell (p := ⟨b2, off2 + t, none⟩) (by exact hb2')).trans (hc2 t htz)
          have q4 := (HK2.out.cell (p := ⟨b3, off3 + k, none⟩) (by exact hb3')).trans (hc3 k hku)
          have hcb := HCB.out t k (by omega)
          have hub := (HR.out k hlt).1
          have hxb := (HR.out k hlt).2.2 _ (getD_mem (zss.getD k []) t htz)
          have HSE := Lib.hid (mixW_set m us zss k t htm)
          have q5 : wr.cell? ⟨B, t, none⟩ = some (.int .i64 (colW us zss k t)) := by
            have e := mixW_get m us zss k t htm
            have hm2 : t < (mixW m us zss k t).length := by rw [mixW_len]; exact htm
            rw [getD_get _ t hm2] at e
            rw [HO2.out.1.cellAt t (by rw [mixW_len]; omega)]
            simp only [vals, List.getElem?_map, List.getElem?_eq_getElem hm2, Option.map_some, e]
          have q6 : wr.frozen? ⟨B, t, none⟩ = false := HO2.out.1.frozenAt t
          clear hc2 hc3
          generalize (zss.getD k []).getD t 0 = x at *
          generalize colW us zss k t = c at *
          generalize us.getD k 0 = u at *
          have hp := prod_bd6 hub.1 hub.2 hxb.1 hxb.2
          have W1 : IntKind.i64.wrap (u * x) = u * x := IntWalk.i64_in _ (by omega)
          have W2 : IntKind.i64.wrap (c + u * x) = c + u * x := IntWalk.i64_in _ (by omega)
          have hneb : b ≠ B ∧ b2 ≠ B ∧ b3 ≠ B ∧ w.heap.size ≠ B := ⟨by omega, by omega, by omega, by omega⟩
          have hin : In64 (c + u * x) := ⟨by omega, by omega⟩
          have HIN := Lib.hid hin; clear hin hp
          go_wp2
          go_region
          go_wp2
          go_roundg (m - (t + 1))
          case measure => omega
          case rel =>
            refine ⟨t + 1, by omega, by omega, by go_num, Lib.hid ?_, Lib.hid ?_⟩
            · obtain ⟨s1, s2⟩ := HO2.out.1.stored t (.int .i64 (c + u * x))
              rw [← HSE.out]
              refine ⟨World.ownsRow.drew ?_, by simpa using HO2.out.2.1, fun y hy => ?_⟩
              · rw [List.length_set]; unfold vals; rw [List.map_set]; exact s1
              · rcases List.mem_or_eq_of_mem_set hy with hy | rfl
                · exact HO2.out.2.2 y hy
                · exact HIN.out
            · exact below_drewN (HK2.out.setCell (Nat.le_refl _) _) 1
        · have HE := Lib.hid (show t = m by omega)
          go_wp2
          go_roundg (zss.length - (k + 1))
          case measure => omega
          case rel => exact ⟨k + 1, by omega, rfl, by go_num, Lib.hid (by have h := HO2.out; rw [HE.out, mixW_all] at h; exact h), HK2⟩
    · have HE := Lib.hid (show k = zss.length by omega)
      have KW : Keep W0 wo := by have := HK.out; rw [HBe.out] at this; exact this
      have y0 := (HBX.out.keep KW).c0
      have HTO := Lib.hid (total_any ad cap us wo (HZW.out.keep KW (Nat.le_refl _)) HWE.out (by rw [HL.out]; omega))
      obtain ⟨r0, r1, f0, f1⟩ := HRX.out.keep HK.out hss
      have HRS := Lib.hid ((HRX.out.keep HK.out hss).set (.int .i64 us.sum) (.slice (some ⟨B, 0, none⟩) m m))
      generalize hTT : us.sum = tt at *
      have HT2 := Lib.hid hTT; clear hTT
      go_wp2_with (go_at_call 64; refine HTO.out.mono ?_; rintro e w' ⟨rfl, rfl⟩)
      refine bodyPost_ret (v := valV tt (some ⟨B, 0, none⟩) m m) (by simp [results, Tryd.results75, go_sem, HRS.out.c0, HRS.out.c1]) rfl ?_
      have h := HO.out
      rw [HE.out] at h
      have hne : ∀ (W : World) (o : Nat) (v : Value), Own W B (some ⟨B, 0, none⟩) m (wsumT m us zss zss.length) → Own (W.setCell ⟨w.heap.size + 1, o, none⟩ v) B (some ⟨B, 0, none⟩) m (wsumT m us zss zss.length) := fun W o v h => h.set (by show w.heap.size + 1 ≠ _; omega) v
      refine ⟨some ⟨B, 0, none⟩, m, by rw [HT2.out, wsumT_len], (hne _ _ _ (hne _ _ _ h)).mono (by have := HBw.out; omega), ?_⟩
      exact ((HKX.out.next KW).setCell (by show w.heap.size ≤ w.heap.size + 1; omega) _).setCell (by show w.heap.size ≤ w.heap.size + 1; omega) _
end Go.Proofs.YtgpnlnmljeahdaaDoor
