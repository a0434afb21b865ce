/- Tables: the sums of rows and of columns; the model's side. -/
import Derived.Test.YtjoanfgchapbaabTab5
import Derived.Test.YtjoanfgchapbaabSums
import Derived.BigRegion
namespace Go.Proofs.Ytjoanfgchapbaab
open Go.ChangeShapes Go.WideShapes Go.ChangeAt Go.RowKit Go.Deep
set_option linter.unusedVariables false
def sumsL (zss : List (List Int)) : List Int := zss.map List.sum
theorem sumsL_len (zss : List (List Int)) : (sumsL zss).length = zss.length := by simp [sumsL]
theorem sum_bd5 (zs : List Int) (h : ∀ z ∈ zs, -1000000 ≤ z ∧ z ≤ 1000000) : -(1000000 * (zs.length : Int)) ≤ zs.sum ∧ zs.sum ≤ 1000000 * (zs.length : Int) := by
  induction zs with
  | nil => simp
  | cons a t ih =>
    have h1 := ih (fun z hz => h z (List.mem_cons_of_mem _ hz))
    have h2 := h a (List.mem_cons_self ..)
    rw [List.sum_cons, List.length_cons]
    omega
/-- The sum of a column of the first i rows. -/
def colS (zss : List (List Int)) (i t : Nat) : Int := ((zss.take i).map fun z => z.getD t 0).sum
def downT (m : Nat) (zss : List (List Int)) (i : Nat) : List Int := (List.range m).map (colS zss i)
def downL (m : Nat) (zss : List (List Int)) : List Int := downT m zss zss.length
theorem downT_len (m : Nat) (zss : List (List Int)) (i : Nat) : (downT m zss i).length = m := by simp [downT]
theorem colS_succ (zss : List (List Int)) (i t : Nat) (h : i < zss.length) : colS zss (i + 1) t = colS zss i t + (zss.getD i []).getD t 0 := by
  unfold colS
  rw [List.take_succ_eq_append_getElem h, List.map_append, List.sum_append, getDD_get zss i h]
  simp
/-- The sums while a row is added. -/
def mixD (m : Nat) (zss : List (List Int)) (i k : Nat) : List Int := (List.range m).map fun t => if t < k then colS zss (i + 1) t else colS zss i t
theorem mixD_len (m : Nat) (zss : List (List Int)) (i k : Nat) : (mixD m zss i k).length = m := by simp [mixD]
theorem mixD_zero (m : Nat) (zss : List (List Int)) (i : Nat) : mixD m zss i 0 = downT m zss i := by
  unfold mixD downT
  refine List.map_congr_left fun t _ => by rw [if_neg (by omega)]
theorem mixD_all (m : Nat) (zss : List (List Int)) (i : Nat) : mixD m zss i m = downT m zss (i + 1) := by
  unfold mixD downT
  refine List.map_congr_left fun t ht => by rw [if_pos (List.mem_range.1 ht)]
theorem mixD_get (m : Nat) (zss : List (List Int)) (i k : Nat) (h : k < m) : (mixD m zss i k).getD k 0 = colS zss i k := by
  unfold mixD
  rw [List.getD_eq_getElem?_getD, List.getElem?_map, List.getElem?_range h]
  simp
theorem mixD_set (m : Nat) (zss : List (List Int)) (i k : Nat) (h : k < m) (hi : i < zss.length) : (mixD m zss i k).set k (colS zss i k + (zss.getD i []).getD k 0) = mixD m zss i (k + 1) := by
  apply List.ext_getElem
  · simp [mixD]
  · intro t t1 t2
    rw [List.getElem_set]
    have hm : t < m := by simpa [mixD] using t2
    by_cases e : k = t
    · subst e
      rw [if_pos rfl]
      simp only [mixD, List.getElem_map, List.getElem_range]
      rw [if_pos (by omega), colS_succ zss i k hi]
    · rw [if_neg e]
      simp only [mixD, List.getElem_map, List.getElem_range]
      by_cases q : t < k
      · rw [if_pos q, if_pos (by omega)]
      · rw [if_neg q, if_neg (by omega)]
theorem colS_bd (zss : List (List Int)) (m : Nat) (hm : ∀ k, k < zss.length → (zss.getD k []).length = m ∧ ∀ x ∈ zss.getD k [], -1000000 ≤ x ∧ x ≤ 1000000) (i t : Nat) (hi : i ≤ zss.length) : -(1000000 * (i : Int)) ≤ colS zss i t ∧ colS zss i t ≤ 1000000 * (i : Int) := by
  induction i with
  | zero => simp [colS]
  | succ i ih =>
    have h1 := ih (by omega)
    rw [colS_succ zss i t (by omega)]
    have h2 : -1000000 ≤ (zss.getD i []).getD t 0 ∧ (zss.getD i []).getD t 0 ≤ 1000000 := by
      by_cases q : t < (zss.getD i []).length
      · exact (hm i (by omega)).2 _ (getD_mem _ t q)
      · rw [List.getD_eq_getElem?_getD, List.getElem?_eq_none (by omega)]; simp
    omega
set_option maxHeartbeats 1600000 in
theorem l05Across_any (ad : Option Addr) (cap : Nat) (zss : List (List Int)) (w : World) (hz : Intss w ad zss) (hl : zss.length ≤ 1000) (hb : ∀ k, k < zss.length → (zss.getD k []).length ≤ 1000 ∧ ∀ x ∈ zss.getD k [], -1000000 ≤ x ∧ x ≤ 1000000) :
    Calls Try.prog 80 #[.slice ad zss.length cap] w fun e w' => ∃ rd rc, e = .returned (.slice rd (sumsL zss).length rc) ∧ Own w' w.heap.size rd rc (sumsL zss) ∧ Keep w w' := by
  have HB := Lib.hid hb; clear hb
  have hown0 : Own (w.alloc (.cells #[] 2)) w.heap.size (some ⟨w.heap.size, 0, none⟩) 0 [] := by
    have := World.ownsRow_lit (base := w.heap.size) (e := 2) (size := 1) w #[] 0 (by simp) (by simp) rfl
    exact ⟨by simpa using this, by simp, by simp⟩
  have hbl1 : Keep w (w.alloc (.cells #[] 2)) := by go_grown
  have HFL := Lib.hid (sumsL_len zss)
  go_enter Try.func80, Try.ntmps80
  go_wp2
  go_loopw [3, 4] (fun v i wr => ∃ (k : Nat) (rd : Option Addr) (rc : Nat), k ≤ zss.length ∧ i = .int .i64 k ∧ v = .slice rd k rc ∧ Own wr w.heap.size rd rc ((zss.take k).map List.sum) ∧ Keep w wr)
    (fun _ i _ => zss.length - (intOf i).toNat)
  case atStart => exact ⟨0, _, _, Nat.zero_le _, rfl, rfl, by simpa using hown0, hbl1⟩
  case round =>
    obtain ⟨k, rd, rc, hk, rfl, rfl, hown, hbel⟩ := hrel
    by_cases hlt : k < zss.length
    · rcases (hz.keep hbel (Nat.le_refl _)).at_ with h | ⟨b, off, rfl, hb, hc⟩
      · subst h; simp at hlt
      obtain ⟨p, d, hcx, hd, hi⟩ := hc k hlt
      have hx := HB.out k hlt
      have HT : Hid ((zss.take (k + 1)).map List.sum = (zss.take k).map List.sum ++ [(zss.getD k []).sum]) := Lib.hid (by
        rw [List.take_succ_eq_append_getElem hlt, List.map_append, getDD_get zss k hlt]; rfl)
      clear hc
      generalize zss.getD k [] = zk at hcx hd hi hx HT
      have hsb := sum_bd5 zk hx.2
      have hzl := hx.1
      have HX := Lib.hid (fun z hz => by have := hx.2 z hz; omega : ∀ z ∈ zk, -1000000000 ≤ z ∧ z ≤ 1000000000)
      have HI := Lib.hid hi
      have HKL := Lib.hid (show ((zss.take k).map List.sum).length = k by simp; omega)
      have HO := Lib.hid hown; clear hown hx hi
      have hsr := hbel.size
      go_wp2_with (first | (go_at_call 94; refine (l01Sum_any p d zk _ HI.out HX.out (by omega)).mono ?_; rintro e w' ⟨rfl, rfl⟩) | (refine list_app1 (by rfl) _ _ (by rfl) w.heap.size rd rc k _ zk.sum (by rfl) (HO.out.keep (by go_grown)) HKL.out.symm wr.heap.size (by rfl) (by simp) ⟨by omega, by omega⟩ (by rw [HKL.out]; omega) (by simp; omega) ?_; intro ad' cap' w2 hown2 hgr2; have hbel2 : Below w.heap.size wr w2 := below_own (by go_grown) (HO.out.keep (by go_grown)) hgr2 (by simp; omega) (Nat.le_refl _)))
      go_roundw
      case rel => exact ⟨k + 1, ad', cap', by omega, by go_num, rfl, by rw [HT.out]; exact hown2, hbel.trans hbel2⟩
      case measure => simp [intOf]; omega
    · have HK := Lib.hid (show k = zss.length from by omega)
      go_wp2
      go_ret
      refine ⟨rd, rc, by rw [HFL.out, HK.out]; rfl, ?_, hbel⟩
      rw [HK.out, List.take_length] at hown
      exact hown
set_option maxHeartbeats 1600000 in
theorem l05Down_any (ad : Option Addr) (cap : Nat) (zss : List (List Int)) (m : Nat) (w : World) (hz : Intss w ad zss) (h1 : 1 ≤ zss.length) (hl : zss.length ≤ 1000) (hl2 : m ≤ 1000) (hb : ∀ k, k < zss.length → (zss.getD k []).length = m ∧ ∀ x ∈ zss.getD k [], -1000000 ≤ x ∧ x ≤ 1000000) :
    Calls Try.prog 82 #[.slice ad zss.length cap] w fun e w' => ∃ rd rc, e = .returned (.slice rd (downL m zss).length rc) ∧ Own w' w.heap.size rd rc (downL m zss) ∧ Keep w w' := by
  have HB := Lib.hid hb; clear hb
  have HCB := Lib.hid (colS_bd zss m HB.out)
  obtain ⟨i0, hi, hz0, hz1, hz2⟩ := info_parts Try.infoI
  have hb8 : i0.bytes * m ≤ 281474976710656 := by rw [hz2]; omega
  have hml : m ≤ maxLen := by unfold maxLen; omega
  rcases hz.at_ with h | ⟨b, off, rfl, hb, hc⟩
  · subst h; simp at h1
  obtain ⟨p0, d0, hc0, hd0, _⟩ := hc 0 (by omega)
  rw [(HB.out 0 (by omega)).1, Nat.add_zero] at hc0
  have HC := Lib.hid hc; clear hc
  go_enter Try.func82, Try.ntmps82
  go_wp2_with (at_make; refine wpList_make_full w rfl _ _ 32 rfl w.heap.size 2 i0 (.int .i64 0) 1 Try.underlying32 hi hz0 hz1 .i64 .i64 _ _ m rfl rfl rfl rfl hb8 hml (Nat.le_refl _) ?_)
  intro w0 hown0 hgrow0
  have hown0 : w0.ownsRow w.heap.size 2 1 (.slice (some ⟨w.heap.size, 0, none⟩) m m) m (List.replicate m (.int .i64 0)) := by simpa [Value.cells, toList_madeCells_one] using hown0
  have hk0 : Keep w w0 := (Below.refl _ _).grown hgrow0 (Nat.le_refl _) (fun k h => by cases h)
  clear hgrow0
  obtain ⟨B, hB⟩ : ∃ B, B = w.heap.size := ⟨_, rfl⟩
  rw [← hB] at hown0 ⊢
  have HBe := Lib.hid hB; clear hB
  have hlen := hz.small
  have HO0 : Hid (Own w0 B (some ⟨B, 0, none⟩) m (downT m zss 0)) := Lib.hid ⟨by
      rw [downT_len]
      have : vals (downT m zss 0) = List.replicate m (.int .i64 0) := by
        unfold vals downT
        rw [List.map_map, List.eq_replicate_iff]
        refine ⟨by simp, fun v hv => ?_⟩
        obtain ⟨t, _, rfl⟩ := List.mem_map.1 hv
        simp [colS]
      rw [this]; exact hown0, by rw [downT_len]; omega, fun z hz => by
      unfold downT at hz
      obtain ⟨t, _, rfl⟩ := List.mem_map.1 hz
      simp [colS, In64]⟩
  have HK0 : Hid (Below B w w0) := Lib.hid (by rw [HBe.out]; exact hk0)
  clear hown0 hk0
  go_wp2
  go_loopg [4, 5] zss.length (fun kk i _j wr => ∃ k : Nat, k ≤ zss.length ∧ kk = zss.length - k ∧ i = .int .i64 k ∧ Hid (Own wr B (some ⟨B, 0, none⟩) m (downT m zss k)) ∧ Hid (Below B w wr))
  case atStart => exact ⟨0, Nat.zero_le _, rfl, rfl, HO0, HK0⟩
  case round =>
    obtain ⟨k, hk, rfl, rfl, HO, HK⟩ := hrel
    obtain ⟨wo, rfl⟩ : ∃ x, x = wr := ⟨wr, rfl⟩
    by_cases hlt : k < zss.length
    · obtain ⟨p, d, hcx, hd, hi⟩ := HC.out k hlt
      have hrow := (HB.out k hlt).1
      rw [hrow] at hcx
      have HX := Lib.hid hcx
      have HI := Lib.hid hi
      have HRW := Lib.hid hrow
      clear hcx hi hd hrow
      have hb' : b < B := by rw [HBe.out]; exact hb
      go_wp2
      go_loopg [5] m (fun kk j wi => ∃ t : Nat, t ≤ m ∧ kk = m - t ∧ j = .int .i64 t ∧ Hid (Own wi B (some ⟨B, 0, none⟩) m (mixD m zss k t)) ∧ Hid (Below B w wi))
      case atStart => exact ⟨0, Nat.zero_le _, rfl, rfl, Lib.hid (by rw [mixD_zero]; exact HO.out), HK⟩
      case round =>
        obtain ⟨t, ht, rfl, rfl, HO2, HK2⟩ := hrel
        have q1 := (HK2.out.cell (p := ⟨b, off + k, none⟩) (by exact hb')).trans HX.out
        by_cases htm : t < m
        · rcases HI.out.at_ with h | ⟨b2, off2, rfl, hb2, hc2⟩
          · have := HRW.out; rw [h] at this; simp at this; omega
          have hb2' : b2 < B := by rw [HBe.out]; exact hb2
          have q2 := (HK2.out.cell (p := ⟨b2, off2 + t, none⟩) (by exact hb2')).trans (hc2 t (by rw [HRW.out]; exact htm))
          have hx := (HB.out k hlt).2 _ (getD_mem (zss.getD k []) t (by rw [HRW.out]; exact htm))
          have hcb := HCB.out k t (by omega)
          have HSE := Lib.hid (mixD_set m zss k t htm hlt)
          have q3 : wr.cell? ⟨B, t, none⟩ = some (.int .i64 (colS zss k t)) := by
            have e := mixD_get m zss k t htm
            have hm2 : t < (mixD m zss k t).length := by rw [mixD_len]; exact htm
            rw [getD_get _ t hm2] at e
            rw [HO2.out.1.cellAt t (by rw [mixD_len]; omega)]
            simp only [vals, List.getElem?_map, List.getElem?_eq_getElem hm2, Option.map_some, e]
          have q4 : wr.frozen? ⟨B, t, none⟩ = false := HO2.out.1.frozenAt t
          clear hc2
          generalize (zss.getD k []).getD t 0 = x at *
          generalize colS zss k t = c at *
          have hsm : -1002000000 ≤ c + x ∧ c + x ≤ 1002000000 := by omega
          have hne : b ≠ B ∧ b2 ≠ B := ⟨by omega, by omega⟩
          go_wp2
          go_region
          go_wp2
          go_roundg (m - (t + 1))
          case measure => omega
          case rel =>
            refine ⟨t + 1, by omega, by omega, by go_num, Lib.hid ?_, Lib.hid ?_⟩
            · obtain ⟨s1, s2⟩ := HO2.out.1.stored t (.int .i64 (c + x))
              rw [← HSE.out]
              refine ⟨World.ownsRow.drew ?_, by simpa using HO2.out.2.1, fun y hy => ?_⟩
              · rw [List.length_set]; unfold vals; rw [List.map_set]; exact s1
              · rcases List.mem_or_eq_of_mem_set hy with hy | rfl
                · exact HO2.out.2.2 y hy
                · exact ⟨by omega, by omega⟩
            · exact below_drewN (HK2.out.setCell (Nat.le_refl _) _) 1
        · have HE := Lib.hid (show t = m by omega)
          go_wp2
          go_roundg (zss.length - (k + 1))
          case measure => omega
          case rel => exact ⟨k + 1, by omega, rfl, by go_num, Lib.hid (by have h := HO2.out; rw [HE.out, mixD_all] at h; exact h), HK2⟩
    · have HE := Lib.hid (show k = zss.length by omega)
      go_wp2
      go_ret
      have h := HO.out
      rw [HE.out] at h
      exact ⟨some ⟨B, 0, none⟩, m, (by unfold downL; rw [downT_len]; rfl), (by rw [← HBe.out]; exact h), by have := HK.out; rw [HBe.out] at this; exact this⟩
theorem tab_rows {g : Int} {zss : List (List Int)} (h : tabB g zss = true) : ∀ k, k < zss.length → (zss.getD k []).length = (zss.getD 0 []).length ∧ ∀ x ∈ zss.getD k [], -1000000 ≤ x ∧ x ≤ 1000000 := fun k hk => by
  have := tab_row h hk
  exact ⟨this.1, fun x hx => by have := this.2 x hx; omega⟩
def rowSV (g : Int) (zss : List (List Int)) : List Int := if tabB g zss then sumsL zss else []
def colSV (g : Int) (zss : List (List Int)) : List Int := if tabB g zss then downL (zss.getD 0 []).length zss else []
set_option maxHeartbeats 800000 in
theorem specRowSums_any (g : Int) (ad : Option Addr) (cap : Nat) (zss : List (List Int)) (w : World) (hz : Intss w ad zss) :
    Calls Try.prog 35 #[valV g ad zss.length cap] w fun e w' => ∃ rd rc, e = .returned (.tuple #[.slice rd (rowSV g zss).length rc, .bool (tabB g zss)]) ∧ Own w' w.heap.size rd rc (rowSV g zss) ∧ Keep w w' := by
  have B0 : Box (w.alloc (.cells #[.int .i64 g, .slice ad zss.length cap] 49)) w.heap.size g ad zss.length cap := ⟨by simp, by simp, by simp⟩
  cases h1 : tabB g zss
  · rw [show rowSV g zss = [] from by simp [rowSV, h1]]
    go_enter Try.func35, Try.ntmps35
    go_wp2_with fail
    refine (l05Is_any w.heap.size g ad cap zss _ (hz.keep (B := _) (by go_grown) (Nat.le_refl _)) B0.c0 B0.c1).mono ?_
    rw [h1]
    rintro e w1 ⟨rfl, k1⟩
    have g1 : Keep w w1 := Keep.next (by go_grown) k1
    go_wp2
    refine bodyPost_ret (v := .tuple #[.slice none 0 0, .bool false]) (by simp [results, Try.results35, go_sem]) rfl ?_
    exact ⟨none, 0, rfl, Own.nil _ _, g1⟩
  · rw [show rowSV g zss = sumsL zss from by simp [rowSV, h1]]
    have hs := tab_size h1
    have hr := tab_rows h1
    go_enter Try.func35, Try.ntmps35
    go_wp2_with fail
    refine (l05Is_any w.heap.size g ad cap zss _ (hz.keep (B := _) (by go_grown) (Nat.le_refl _)) B0.c0 B0.c1).mono ?_
    rw [h1]
    rintro e w1 ⟨rfl, k1⟩
    have g1 : Keep w w1 := Keep.next (by go_grown) k1
    obtain ⟨q0, q1, q2⟩ := B0.keep k1
    go_wp2_with fail
    refine (l05Across_any ad cap zss _ (hz.keep (B := _) g1 (Nat.le_refl _)) (by omega) (fun k hk => ⟨by have := (hr k hk).1; omega, (hr k hk).2⟩)).mono ?_
    rintro e w2 ⟨rd, rc, rfl, o2, k2⟩
    have g2 : Keep w w2 := Keep.next g1 k2
    have o2' := o2.mono (B' := w.heap.size) g1.size
    go_wp2
    refine bodyPost_ret (v := .tuple #[.slice rd (sumsL zss).length rc, .bool true]) (by simp [results, Try.results35, go_sem]) rfl ?_
    exact ⟨rd, rc, rfl, o2', g2⟩
set_option maxHeartbeats 800000 in
theorem specColumnSums_any (g : Int) (ad : Option Addr) (cap : Nat) (zss : List (List Int)) (w : World) (hz : Intss w ad zss) :
    Calls Try.prog 41 #[valV g ad zss.length cap] w fun e w' => ∃ rd rc, e = .returned (.tuple #[.slice rd (colSV g zss).length rc, .bool (tabB g zss)]) ∧ Own w' w.heap.size rd rc (colSV g zss) ∧ Keep w w' := by
  have B0 : Box (w.alloc (.cells #[.int .i64 g, .slice ad zss.length cap] 49)) w.heap.size g ad zss.length cap := ⟨by simp, by simp, by simp⟩
  cases h1 : tabB g zss
  · rw [show colSV g zss = [] from by simp [colSV, h1]]
    go_enter Try.func41, Try.ntmps41
    go_wp2_with fail
    refine (l05Is_any w.heap.size g ad cap zss _ (hz.keep (B := _) (by go_grown) (Nat.le_refl _)) B0.c0 B0.c1).mono ?_
    rw [h1]
    rintro e w1 ⟨rfl, k1⟩
    have g1 : Keep w w1 := Keep.next (by go_grown) k1
    go_wp2
    refine bodyPost_ret (v := .tuple #[.slice none 0 0, .bool false]) (by simp [results, Try.results41, go_sem]) rfl ?_
    exact ⟨none, 0, rfl, Own.nil _ _, g1⟩
  · rw [show colSV g zss = downL (zss.getD 0 []).length zss from by simp [colSV, h1]]
    have hs := tab_size h1
    have hr := tab_rows h1
    go_enter Try.func41, Try.ntmps41
    go_wp2_with fail
    refine (l05Is_any w.heap.size g ad cap zss _ (hz.keep (B := _) (by go_grown) (Nat.le_refl _)) B0.c0 B0.c1).mono ?_
    rw [h1]
    rintro e w1 ⟨rfl, k1⟩
    have g1 : Keep w w1 := Keep.next (by go_grown) k1
    obtain ⟨q0, q1, q2⟩ := B0.keep k1
    go_wp2_with fail
    refine (l05Down_any ad cap zss _ _ (hz.keep (B := _) g1 (Nat.le_refl _)) hs.2.1.1 (by omega) (by omega) hr).mono ?_
    rintro e w2 ⟨rd, rc, rfl, o2, k2⟩
    have g2 : Keep w w2 := Keep.next g1 k2
    have o2' := o2.mono (B' := w.heap.size) g1.size
    go_wp2
    refine bodyPost_ret (v := .tuple #[.slice rd (downL (zss.getD 0 []).length zss).length rc, .bool true]) (by simp [results, Try.results41, go_sem]) rfl ?_
    exact ⟨rd, rc, rfl, o2', g2⟩
end Go.Proofs.Ytjoanfgchapbaab
