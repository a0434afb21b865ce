/- Values read from their text: the model's side. -/
import Derived.Test.YtpdcmhnaedhkdaaGreatDoorReadV
import Derived.Test.YtpdcmhnaedhkdaaGreatDoorReadLSpec
namespace Go.Proofs.YtpdcmhnaedhkdaaGreatDoor
open Go.ChangeShapes Go.WideShapes Go.ChangeAt Go.RowKit
set_option linter.unusedVariables false
theorem specNumbers_any (s : ByteArray) (w : World) (hs : s.size ≤ 1048576) :
    Calls Tryz.prog 67 #[.string s] w fun e w' => ∃ rd rc, e = .returned (.tuple #[.slice rd (rdsV s.data.toList).length rc, .bool (rdsOk s.data.toList)]) ∧ Own w' w.heap.size rd rc (rdsV s.data.toList) ∧ Keep w w' := by
  by_cases hd : s.data.toList = [45]
  · exact l01Numbers_dash s w hd
  · exact l01Numbers_any s w hs hd
theorem NoC.succ {l : List UInt8} {k : Nat} (h : NoC l k) (hk : l[k]? ≠ some 58) : NoC l (k + 1) := by
  intro j hj
  rcases Nat.lt_or_eq_of_le (Nat.le_of_lt_succ hj) with h1 | h1
  · exact h j h1
  · subst h1; exact hk
set_option maxHeartbeats 3200000 in
theorem l01VRead_any (s : ByteArray) (w : World) (hs : s.size ≤ 1048576) :
    Calls Tryz.prog 51 #[.string s] w fun e w' => ∃ rd rc, e = .returned (.tuple #[valV (rvDen s.data.toList) rd (rvNums s.data.toList).length rc, .bool (rvOk s.data.toList)]) ∧ Own w' w.heap.size rd rc (rvNums s.data.toList) ∧ Keep w w' := by
  have hsl : s.data.toList.length = s.size := by simp
  have HSL := Lib.hid hsl; clear hsl
  have k0 : Below w.heap.size w (w.alloc (.cells #[.int .i64 0, .slice none 0 0] 26)) := by go_grown
  have T0 : Two (w.alloc (.cells #[.int .i64 0, .slice none 0 0] 26)) w.heap.size (.int .i64 0) (.slice none 0 0) := ⟨by simp, by simp, by simp, by simp⟩
  go_enter Tryz.func51, Tryz.ntmps51
  go_wp2
  generalize w.alloc (.cells #[.int .i64 0, .slice none 0 0] 26) = w0 at *
  have l0 := T0.lt
  have HT0 := Lib.hid T0; clear T0
  go_loop [4] (fun i => ∃ k : Nat, k ≤ s.size ∧ i = .int .i64 k ∧ NoC s.data.toList k)
    (fun i => s.size - (intOf i).toNat)
  case atStart => exact ⟨0, Nat.zero_le _, rfl, fun j hj => by omega⟩
  case round =>
    obtain ⟨k, hk, rfl, hno⟩ := hrel
    have HN := Lib.hid hno; clear hno
    by_cases hlt : k < s.size
    · have hg : s.data.toList[k]? = some (s[k]'hlt) := by rw [List.getElem?_eq_getElem (by simpa using hlt)]; rfl
      by_cases hc : (s[k]'hlt) = 58
      · -- the colon
        have hcb : (((s[k]'hlt).toNat : Int) != 58) = false := by rw [hc]; rfl
        rw [hc] at hg
        have HCUT := Lib.hid (cut_hit hg HN.out)
        have HOK : Hid (rvOk s.data.toList = (rdOk (s.data.toList.take k) && rdsOk (s.data.toList.drop (k + 1)) && okV (rdV (s.data.toList.take k)) (rdsV (s.data.toList.drop (k + 1))))) := Lib.hid (by unfold rvOk; rw [HCUT.out]; rfl)
        have HDN : Hid (rvOk s.data.toList = true → rvDen s.data.toList = rdV (s.data.toList.take k) ∧ rvNums s.data.toList = rdsV (s.data.toList.drop (k + 1))) := Lib.hid (fun h => by unfold rvDen rvNums; rw [h, HCUT.out]; exact ⟨rfl, rfl⟩)
        have H1 := Lib.hid (l01Value_any (s.extract 0 k) w0 (by rw [ByteArray.size_extract]; omega))
        rw [piece_data s 0 k (Nat.zero_le _)] at H1
        have H2 := Lib.hid (fun W => specNumbers_any (s.extract (k + 1) s.size) W (by rw [ByteArray.size_extract]; omega))
        rw [piece_data s (k + 1) s.size (by omega)] at H2
        have hp2 : (s.data.toList.drop (k + 1)).take (s.size - (k + 1)) = s.data.toList.drop (k + 1) := List.take_of_length_le (by rw [List.length_drop, HSL.out]; omega)
        have hp1 : (s.data.toList.drop 0).take (k - 0) = s.data.toList.take k := rfl
        rw [hp2] at H2; rw [hp1] at H1
        have hk1 : ((k : Int) == (s.size : Int)) = false := by simp; omega
        have hn1 := rdV_in64 (s.data.toList.take k)
        clear hp1 hp2 hg hc
        generalize s.data.toList.take k = p at HOK HDN H1 hn1
        generalize s.data.toList.drop (k + 1) = r at HOK HDN H2
        go_wp2_with fail
        refine H1.out.mono ?_
        rintro e w1 ⟨rfl, k1⟩
        have g1 : Keep w w1 := Below.trans k0 (k1.mono k0.size)
        have T1 := HT0.out.keep k1 l0
        have l1 := T1.lt
        go_wp2_with fail
        refine (H2.out w1).mono ?_
        rintro e w2 ⟨rd, rc, rfl, o2, k2⟩
        have g2 : Keep w w2 := Keep.next g1 k2
        obtain ⟨c0, c1, f0, f1⟩ := T1.keep k2 l1
        have i2 := o2.ints
        have HO2 := Lib.hid o2; clear o2 T1
        generalize rdV p = den at HOK HDN hn1
        have lw := World.block_lt_of_cell? _ _ c0
        cases ho : rdOk p
        · have HNO : Hid (rvOk s.data.toList = false) := Lib.hid (by rw [HOK.out, ho]; rfl)
          have q := Two.set (Two.mk c0 c1 f0 f1) (.int .i64 0) (.slice none 0 0)
          have HQ0 := Lib.hid (fun X => cell_alloc q.1 X); have HQ1 := Lib.hid (fun X => cell_alloc q.2 X)
          have gs : Keep w ((w2.setCell ⟨w.heap.size, 0, none⟩ (.int .i64 0)).setCell ⟨w.heap.size, 1, none⟩ (.slice none 0 0)) := (g2.setCell (Nat.le_refl _) _).setCell (Nat.le_refl _) _
          have H2 := Lib.hid (rv_no HNO.out)
          obtain ⟨d0, d1, e0, e1⟩ := (Two.mk c0 c1 f0 f1).alloc (.cells #[.int .i64 den, .slice rd (rdsV r).length rc] 26)
          clear q
          go_wp2
          refine bodyPost_ret (v := .tuple #[zeroV, .bool false]) (by simp [results, Tryz.results51, go_sem, HQ0.out, HQ1.out]) rfl ?_
          exact ⟨none, 0, by rw [HNO.out, H2.out.1, H2.out.2]; rfl, by rw [H2.out.2]; exact Own.nil _ _, Below.trans gs (Below.mono (B := ((w2.setCell ⟨w.heap.size, 0, none⟩ (.int .i64 0)).setCell ⟨w.heap.size, 1, none⟩ (.slice none 0 0)).heap.size) (by go_grown) gs.size)⟩
        cases ht : rdsOk r
        · have HNO : Hid (rvOk s.data.toList = false) := Lib.hid (by rw [HOK.out, ht]; simp)
          have q := Two.set (Two.mk c0 c1 f0 f1) (.int .i64 0) (.slice none 0 0)
          have HQ0 := Lib.hid (fun X => cell_alloc q.1 X); have HQ1 := Lib.hid (fun X => cell_alloc q.2 X)
          have gs : Keep w ((w2.setCell ⟨w.heap.size, 0, none⟩ (.int .i64 0)).setCell ⟨w.heap.size, 1, none⟩ (.slice none 0 0)) := (g2.setCell (Nat.le_refl _) _).setCell (Nat.le_refl _) _
          have H2 := Lib.hid (rv_no HNO.out)
          obtain ⟨d0, d1, e0, e1⟩ := (Two.mk c0 c1 f0 f1).alloc (.cells #[.int .i64 den, .slice rd (rdsV r).length rc] 26)
          clear q
          go_wp2
          refine bodyPost_ret (v := .tuple #[zeroV, .bool false]) (by simp [results, Tryz.results51, go_sem, HQ0.out, HQ1.out]) rfl ?_
          exact ⟨none, 0, by rw [HNO.out, H2.out.1, H2.out.2]; rfl, by rw [H2.out.2]; exact Own.nil _ _, Below.trans gs (Below.mono (B := ((w2.setCell ⟨w.heap.size, 0, none⟩ (.int .i64 0)).setCell ⟨w.heap.size, 1, none⟩ (.slice none 0 0)).heap.size) (by go_grown) gs.size)⟩
        have k3a : Below w2.heap.size w2 (w2.alloc (.cells #[.int .i64 den, .slice rd (rdsV r).length rc] 26)) := by go_grown
        have B3 : Two (w2.alloc (.cells #[.int .i64 den, .slice rd (rdsV r).length rc] 26)) w2.heap.size (.int .i64 den) (.slice rd (rdsV r).length rc) := ⟨by simp, by simp, by simp, by simp⟩
        obtain ⟨d0, d1, e0, e1⟩ := (Two.mk c0 c1 f0 f1).alloc (.cells #[.int .i64 den, .slice rd (rdsV r).length rc] 26)
        have g3 : Keep w (w2.alloc (.cells #[.int .i64 den, .slice rd (rdsV r).length rc] 26)) := Below.trans g2 (k3a.mono g2.size)
        have i3 := i2.keep k3a (Nat.le_refl _)
        have HO3 := Lib.hid (HO2.out.keep k3a)
        obtain ⟨b0, b1, _, _⟩ := B3
        have g1s := g1.size
        clear HO2 c0 c1 f0 f1 k3a i2
        go_wp2_with fail
        generalize w2.alloc (.cells #[.int .i64 den, .slice rd (rdsV r).length rc] 26) = w3 at *
        refine (l01Is_any w2.heap.size den rd rc (rdsV r) w3 i3 b0 b1).mono ?_
        rintro e w4 ⟨rfl, rfl⟩
        cases hok : okV den (rdsV r)
        · have HNO : Hid (rvOk s.data.toList = false) := Lib.hid (by rw [HOK.out, hok]; simp)
          have q := Two.set (Two.mk d0 d1 e0 e1) (.int .i64 0) (.slice none 0 0)
          have HQ0 := Lib.hid q.1; have HQ1 := Lib.hid q.2
          have gs : Keep w ((w3.setCell ⟨w.heap.size, 0, none⟩ (.int .i64 0)).setCell ⟨w.heap.size, 1, none⟩ (.slice none 0 0)) := (g3.setCell (Nat.le_refl _) _).setCell (Nat.le_refl _) _
          have H2 := Lib.hid (rv_no HNO.out)
          clear q hok
          go_wp2
          refine bodyPost_ret (v := .tuple #[zeroV, .bool false]) (by simp [results, Tryz.results51, go_sem, HQ0.out, HQ1.out]) rfl ?_
          exact ⟨none, 0, by rw [HNO.out, H2.out.1, H2.out.2]; rfl, by rw [H2.out.2]; exact Own.nil _ _, gs⟩
        · have HYES : Hid (rvOk s.data.toList = true) := Lib.hid (by rw [HOK.out, hok, ho, ht]; rfl)
          have Y := Lib.hid (HDN.out HYES.out)
          have q := Two.set (Two.mk d0 d1 e0 e1) (.int .i64 den) (.slice rd (rdsV r).length rc)
          have HQ0 := Lib.hid q.1; have HQ1 := Lib.hid q.2
          have gs : Keep w ((w3.setCell ⟨w.heap.size, 0, none⟩ (.int .i64 den)).setCell ⟨w.heap.size, 1, none⟩ (.slice rd (rdsV r).length rc)) := (g3.setCell (Nat.le_refl _) _).setCell (Nat.le_refl _) _
          have HO6 : Hid (Own ((w3.setCell ⟨w.heap.size, 0, none⟩ (.int .i64 den)).setCell ⟨w.heap.size, 1, none⟩ (.slice rd (rdsV r).length rc)) w.heap.size rd rc (rdsV r)) := Lib.hid (by
            have h := HO3.out
            rcases own_block h.1 with ⟨rfl, e0, rfl⟩ | ⟨k, rfl, hk, _⟩
            · have e := List.eq_nil_of_length_eq_zero e0
              rw [e]; exact Own.nil _ _
            · exact ((h.set (by show w.heap.size ≠ k; omega) _).set (by show w.heap.size ≠ k; omega) _).mono (by omega))
          clear q hok
          go_wp2
          refine bodyPost_ret (v := .tuple #[valV den rd (rdsV r).length rc, .bool true]) (by simp [results, Tryz.results51, go_sem, HQ0.out, HQ1.out]) rfl ?_
          refine ⟨rd, rc, ?_, ?_, gs⟩
          · rw [Y.out.1, Y.out.2, HYES.out]
          · rw [Y.out.2]; exact HO6.out
      · have hcb : (((s[k]'hlt).toNat : Int) != 58) = true := by
          simp only [bne_iff_ne, ne_eq]
          intro h; exact hc (UInt8.toNat.inj (by show (s[k]'hlt).toNat = 58; omega))
        have HS := Lib.hid (HN.out.succ (by rw [hg]; exact fun h => hc (Option.some.inj h)))
        clear hg hc
        go_wp2
        go_round
        case rel => exact ⟨k + 1, by omega, by go_num, HS.out⟩
        case measure => simp [intOf]; omega
    · have hke : k = s.size := by omega
      have hk1 : ((k : Int) == (s.size : Int)) = true := by simp [hke]
      have hno : rvOk s.data.toList = false := by
        unfold rvOk; rw [cut_miss (by have := HN.out; rw [hke, ← HSL.out] at this; exact this)]; rfl
      have HNO := Lib.hid hno
      have H2 := Lib.hid (rv_no hno)
      clear hno hke
      obtain ⟨c0, c1, f0, f1⟩ := HT0.out
      have q := Two.set HT0.out (.int .i64 0) (.slice none 0 0)
      have HQ0 := Lib.hid q.1; have HQ1 := Lib.hid q.2
      have g3 : Keep w ((w0.setCell ⟨w.heap.size, 0, none⟩ (.int .i64 0)).setCell ⟨w.heap.size, 1, none⟩ (.slice none 0 0)) := (Below.setCell k0 (Nat.le_refl _) _).setCell (Nat.le_refl _) _
      clear q
      go_wp2
      refine bodyPost_ret (v := .tuple #[zeroV, .bool false]) (by simp [results, Tryz.results51, go_sem, HQ0.out, HQ1.out]) rfl ?_
      exact ⟨none, 0, by rw [HNO.out, H2.out.1, H2.out.2]; rfl, by rw [H2.out.2]; exact Own.nil _ _, g3⟩
theorem specReadValues_any (s : ByteArray) (w : World) (hs : s.size ≤ 1048576) :
    Calls Tryz.prog 26 #[.string s] w fun e w' => ∃ rd rc, e = .returned (.tuple #[valV (rvDen s.data.toList) rd (rvNums s.data.toList).length rc, .bool (rvOk s.data.toList)]) ∧ Own w' w.heap.size rd rc (rvNums s.data.toList) ∧ Keep w w' := by
  have k0 : Below w.heap.size w (w.alloc (.cells #[.int .i64 0, .slice none 0 0] 26)) := by go_grown
  have T0 : Two (w.alloc (.cells #[.int .i64 0, .slice none 0 0] 26)) w.heap.size (.int .i64 0) (.slice none 0 0) := ⟨by simp, by simp, by simp, by simp⟩
  have hz0 : (w.alloc (.cells #[.int .i64 0, .slice none 0 0] 26)).heap.size = w.heap.size + 1 := by simp
  have H := Lib.hid (fun W => l01VRead_any s W hs)
  generalize rvDen s.data.toList = den at H ⊢
  generalize rvNums s.data.toList = nums at H ⊢
  go_enter Tryz.func26, Tryz.ntmps26
  go_wp2_with fail
  generalize w.alloc (.cells #[.int .i64 0, .slice none 0 0] 26) = w0 at *
  have l0 := T0.lt
  refine (H.out w0).mono ?_
  rintro e w1 ⟨rd, rc, rfl, o1, k1⟩
  have g1 : Keep w w1 := Below.trans k0 (k1.mono k0.size)
  obtain ⟨c0, c1, f0, f1⟩ := T0.keep k1 l0
  have q := Two.set (Two.mk c0 c1 f0 f1) (.int .i64 den) (.slice rd nums.length rc)
  have HQ0 := Lib.hid q.1; have HQ1 := Lib.hid q.2
  have gs : Keep w ((w1.setCell ⟨w.heap.size, 0, none⟩ (.int .i64 den)).setCell ⟨w.heap.size, 1, none⟩ (.slice rd nums.length rc)) := (g1.setCell (Nat.le_refl _) _).setCell (Nat.le_refl _) _
  have HO6 : Hid (Own ((w1.setCell ⟨w.heap.size, 0, none⟩ (.int .i64 den)).setCell ⟨w.heap.size, 1, none⟩ (.slice rd nums.length rc)) w.heap.size rd rc nums) := Lib.hid (by
    have h := o1
    rcases own_block h.1 with ⟨rfl, e0, rfl⟩ | ⟨k, rfl, hk, _⟩
    · have e := List.eq_nil_of_length_eq_zero e0
      rw [e]; exact Own.nil _ _
    · exact ((h.set (by show w.heap.size ≠ k; omega) _).set (by show w.heap.size ≠ k; omega) _).mono (by omega))
  clear q o1 k1
  go_wp2
  refine bodyPost_ret (v := .tuple #[valV den rd nums.length rc, .bool (rvOk s.data.toList)]) (by simp [results, Tryz.results26, go_sem, HQ0.out, HQ1.out]) rfl ?_
  exact ⟨rd, rc, rfl, HO6.out, gs⟩
end Go.Proofs.YtpdcmhnaedhkdaaGreatDoor
