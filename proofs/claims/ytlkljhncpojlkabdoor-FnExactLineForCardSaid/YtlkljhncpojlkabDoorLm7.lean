/- The line of a word: the model's search. -/
import Derived.Test.YtlkljhncpojlkabDoorLf7
import Derived.Test.YtlkljhncpojlkabDoorLin7
import Derived.Deep.LoopGhost
namespace Go.Proofs.YtlkljhncpojlkabDoor
open Go.ChangeShapes Go.WideShapes Go.ChangeAt Go.RowKit Go.Deep
set_option linter.unusedVariables false
theorem CLo.bd2 {s : ByteArray} (hw : wdB s = true) {S : Nat → Nat → Prop} {x y : Int} (h : CLo s S x y) : -1 ≤ x ∧ x ≤ y - 1 := by
  rcases h with ⟨h1, h2⟩ | ⟨i, j, _, hij, hj, h1, h2⟩
  · omega
  · have := hgt_inc hw hij hj; omega
theorem CHi.bd2 {s : ByteArray} (hw : wdB s = true) {S : Nat → Nat → Prop} {x y : Int} (h : CHi s S x y) : 1 ≤ x ∧ x ≤ y + 1 := by
  rcases h with ⟨h1, h2⟩ | ⟨i, j, _, hij, hj, h1, h2⟩
  · omega
  · have := hgt_inc hw hij hj; omega
theorem med7 {l d u v : Int} (h : l * v < u * d) : l * (d + v) < (l + u) * d ∧ (l + u) * v < u * (d + v) := by
  simp only [Int.mul_add, Int.add_mul]
  constructor <;> omega
theorem poss7 {l d u v X Y : Int} (hd : 1 ≤ d) (hv : 1 ≤ v) (hY : 1 ≤ Y) (h1 : l * Y < X * d) (h2 : X * v < u * Y) : l * v < u * d := by
  have a1 : l * Y * v < X * d * v := Int.mul_lt_mul_of_pos_right h1 (by omega)
  have a2 : X * v * d < u * Y * d := Int.mul_lt_mul_of_pos_right h2 (by omega)
  have b1 : l * Y * v = l * v * Y := by ac_rfl
  have b2 : X * d * v = X * v * d := by ac_rfl
  have b3 : u * Y * d = u * d * Y := by ac_rfl
  exact Int.lt_of_mul_lt_mul_right (show l * v * Y < u * d * Y by omega) (by omega)
theorem ok7_small {s : ByteArray} (hw : wdB s = true) {X Y : Int} (hY : 1 ≤ Y) (hX : 0 ≤ X) (hXY : X ≤ Y) (h : Ok7 s X Y) : ∃ x y, 1 ≤ y ∧ y ≤ 240 ∧ 0 ≤ x ∧ x ≤ y ∧ Ok7 s x y := by
  obtain ⟨⟨l, d, hl⟩, ⟨u, v, hu⟩⟩ := ends_ex hw
  have bl := hl.1.bd hw; have bu := hu.1.bd hw
  have cl := hl.1.bd2 hw; have cu := hu.1.bd2 hw
  have hE := (ok7_ends hw hl hu hY hX hXY).1 h
  have hp := poss7 bl.2.1 bu.2.1 hY hE.1 hE.2
  have hm := med7 hp
  exact ⟨l + u, d + v, by omega, by omega, by omega, by omega, (ok7_ends hw hl hu (by omega) (by omega) (by omega)).2 hm⟩
theorem l00MaxQ_any (a b : Int) (w : World) :
    Calls Tryd.prog 32 #[.int .i64 a, .int .i64 b] w fun e w' => e = .returned (.int .i64 (max a b)) ∧ w = w' := by
  by_cases h : b < a
  · rw [show max a b = a by omega]
    go_enter Tryd.func32, Tryd.ntmps32
    go_wp2
    go_ret
    exact ⟨rfl, rfl⟩
  · rw [show max a b = b by omega]
    go_enter Tryd.func32, Tryd.ntmps32
    go_wp2
    go_ret
    exact ⟨rfl, rfl⟩
theorem l00MinQ_any (a b : Int) (w : World) :
    Calls Tryd.prog 33 #[.int .i64 a, .int .i64 b] w fun e w' => e = .returned (.int .i64 (min a b)) ∧ w = w' := by
  by_cases h : a < b
  · rw [show min a b = a by omega]
    go_enter Tryd.func33, Tryd.ntmps33
    go_wp2
    go_ret
    exact ⟨rfl, rfl⟩
  · rw [show min a b = b by omega]
    go_enter Tryd.func33, Tryd.ntmps33
    go_wp2
    go_ret
    exact ⟨rfl, rfl⟩
theorem lfR_no {s : ByteArray} (h : wdB s = true → ∀ X Y, 1 ≤ Y → 0 ≤ X → X ≤ Y → ¬ Ok7 s X Y) : lfR s = .tuple #[.int .i64 0, .int .i64 0, .int .i64 0, .bool false] := by
  unfold lfR; rw [lfV_no h]
theorem lfR_yes {s : ByteArray} (hw : wdB s = true) {a e : Int} (h : SimpS s a e) : lfR s = .tuple #[.int .i64 a, .int .i64 e, .int .i64 (loN s a e (s.size + 1)), .bool true] := by
  unfold lfR; rw [lfV_yes hw h]
theorem mul_bdM {h e : Int} (h1 : 0 ≤ h ∧ h ≤ 121) (h2 : 0 ≤ e ∧ e ≤ 1000) : 0 ≤ h * e ∧ h * e ≤ 121000 := by
  have e1 : h * e ≤ 121 * 1000 := Int.mul_le_mul h1.2 h2.2 h2.1 (by omega)
  exact ⟨Int.mul_nonneg h1.1 h2.1, by omega⟩
set_option maxHeartbeats 1600000 in
set_option maxRecDepth 100000 in
theorem specLineFor_any (s : ByteArray) (w : World) (hs : s.size ≤ 1048576) :
    Calls Tryd.prog 9 #[.string s] w fun e w' => e = .returned (lfR s) ∧ Keep w w' := by
  cases hw : wdB s
  · rw [lfR_no (s := s) (fun h => by rw [hw] at h; cases h)]
    go_enter Tryd.func9, Tryd.ntmps9
    go_wp2_with (go_at_call 30; refine (l07Is_any s _ hs).mono ?_; rw [hw]; rintro e w' ⟨rfl, rfl⟩)
    refine bodyPost_ret (v := .tuple #[.int .i64 0, .int .i64 0, .int .i64 0, .bool false]) (by simp [results, Tryd.results9, go_sem]) rfl ?_
    exact ⟨rfl, Below.refl _ _⟩
  have h120 := (wdB_iff.1 hw).1
  have HH := Lib.hid (fun W => l07Heights_any s W hw)
  have HGT := Lib.hid (fun j (h : j ≤ s.size) => hgtL_get s s.size j h)
  have HLEN := Lib.hid (hgtL_len s s.size)
  have HHB := Lib.hid (fun j (h : j ≤ s.size) => hgt_bd hw j h)
  have HY := Lib.hid (fun a e (h : SimpS s a e) => lfR_yes hw h)
  have HN : Hid ((∀ X Y : Int, 1 ≤ Y → Y ≤ 1000 → 0 ≤ X → X ≤ Y → ¬ Ok7 s X Y) → lfR s = .tuple #[.int .i64 0, .int .i64 0, .int .i64 0, .bool false]) := Lib.hid (fun h => lfR_no (fun _ X Y h1 h2 h3 h4 => by
    obtain ⟨x, y, y1, y2, x1, x2, hk⟩ := ok7_small hw h1 h2 h3 h4
    exact h x y y1 (by omega) x1 x2 hk))
  have HOK := Lib.hid (fun a e (he : 1 ≤ e) => ok7_iff s a e he)
  have HMO := Lib.hid (fun a e (k : Nat) (hk : k ≤ s.size + 1) => lohi_mono s a e hk)
  generalize lfR s = V at *
  generalize hgtL s s.size = L at *
  go_enter Tryd.func9, Tryd.ntmps9
  go_wp2_with (go_at_call 30; refine (l07Is_any s _ hs).mono ?_; rw [hw]; rintro e w' ⟨rfl, rfl⟩)
  refine (HH.out _).mono ?_
  rintro e w2 ⟨rd, rc, rfl, o2, k2⟩
  have I2 := Lib.hid o2.ints
  have K2 : Hid (Keep w w2) := Lib.hid k2
  clear o2 k2
  rcases I2.out.at_ with h | ⟨hb, off, rfl, hlt, hc⟩
  · have := HLEN.out; rw [h] at this; simp at this
  have HC : Hid (∀ j, j ≤ s.size → w2.cell? ⟨hb, off + j, none⟩ = some (.int .i64 (hgt s j))) := Lib.hid (fun j hj => by
    rw [hc j (by have := HLEN.out; omega), HGT.out j hj])
  have hls : L.length = s.size + 1 := HLEN.out
  have hl121 : L.length ≤ 121 := by omega
  clear hc
  have HLS := Lib.hid hls
  clear hls
  go_wp2
  go_loopg [7, 8, 9, 10, 11] 1000 (fun kk dn _ _ _ _ wr => ∃ den : Nat, 1 ≤ den ∧ den ≤ 1001 ∧ kk = 1001 - den ∧ dn = .int .i64 den ∧ Hid (∀ X Y : Int, 1 ≤ Y → Y < den → 0 ≤ X → X ≤ Y → ¬ Ok7 s X Y) ∧ w2 = wr)
  case atStart => exact ⟨1, by omega, by omega, rfl, rfl, Lib.hid (fun X Y h1 h2 => by omega), rfl⟩
  case round =>
    obtain ⟨den, hd1, hd2, rfl, rfl, HD, rfl⟩ := hrel
    by_cases hden : den ≤ 1000
    · have hdi : (den : Int) ≤ 1000 := by omega
      have V0 : IntKind.i64.wrap ((den : Int) - 1) = (den : Int) - 1 := IntWalk.i64_in _ (by omega)
      go_wp2
      go_loopg [8, 9, 10, 11] (den + 1) (fun kk nm _ _ _ wq => ∃ num : Nat, num ≤ den + 1 ∧ kk = den + 1 - num ∧ nm = .int .i64 num ∧ Hid (∀ X : Int, 0 ≤ X → X < num → ¬ Ok7 s X den) ∧ w2 = wq)
      case atStart => exact ⟨0, by omega, rfl, rfl, Lib.hid (fun X h1 h2 => by omega), rfl⟩
      case round =>
        obtain ⟨num, hn1, rfl, rfl, HM, rfl⟩ := hrel
        by_cases hnum : num ≤ den
        · have hni : (num : Int) ≤ (den : Int) := by omega
          go_wp2
          go_loopg [9, 10, 11] (s.size + 1) (fun kk lo hi ii wz => ∃ (k : Nat) (x y : Int), k ≤ s.size + 1 ∧ kk = s.size + 1 - k ∧ lo = .int .i64 x ∧ hi = .int .i64 y ∧ ii = .int .i64 k ∧ Hid (x = loN s num den k) ∧ Hid (y = hiN s num den k) ∧ (0 ≤ x ∧ x ≤ 200000) ∧ (-200000 ≤ y ∧ y ≤ 200000) ∧ w2 = wz)
          case atStart => exact ⟨0, 0, (den : Int) - 1, by omega, rfl, rfl, rfl, rfl, Lib.hid rfl, Lib.hid rfl, by omega, by omega, rfl⟩
          case round =>
            obtain ⟨k, x, y, hk, rfl, rfl, rfl, rfl, HX, HYY, bx, by_, rfl⟩ := hrel
            by_cases hkl : k < s.size + 1
            · have hki : (k : Int) < (L.length : Int) := by have := HLS.out; omega
              by_cases hxy : x ≤ y
              · have hcx := HC.out k (by omega)
                have hb := HHB.out k (by omega)
                obtain ⟨h, hh⟩ : ∃ h, h = hgt s k := ⟨_, rfl⟩
                rw [← hh] at hcx hb
                have HE := Lib.hid hh
                clear hh
                have m1 := mul_bdM (h := h) (e := den) (by omega) (by omega)
                have m2 := mul_bdM (h := k) (e := num) (by omega) (by omega)
                have m3 := mul_bdM (h := h + 1) (e := den) (by omega) (by omega)
                have V1 : IntKind.i64.wrap (h * den) = h * den := IntWalk.i64_in _ (by omega)
                have V2 : IntKind.i64.wrap ((k : Int) * num) = (k : Int) * num := IntWalk.i64_in _ (by omega)
                have V3 : IntKind.i64.wrap (h * den - (k : Int) * num) = h * den - (k : Int) * num := IntWalk.i64_in _ (by omega)
                have V4 : IntKind.i64.wrap (h + 1) = h + 1 := IntWalk.i64_in _ (by omega)
                have V5 : IntKind.i64.wrap ((h + 1) * den) = (h + 1) * den := IntWalk.i64_in _ (by omega)
                have V6 : IntKind.i64.wrap ((h + 1) * den - (k : Int) * num) = (h + 1) * den - (k : Int) * num := IntWalk.i64_in _ (by omega)
                have V7 : IntKind.i64.wrap ((h + 1) * den - (k : Int) * num - 1) = (h + 1) * den - (k : Int) * num - 1 := IntWalk.i64_in _ (by omega)
                have HB1 : Hid (0 ≤ max x (h * den - (k : Int) * num) ∧ max x (h * den - (k : Int) * num) ≤ 200000) := Lib.hid (by omega)
                have HB2 : Hid (-200000 ≤ min y ((h + 1) * den - (k : Int) * num - 1) ∧ min y ((h + 1) * den - (k : Int) * num - 1) ≤ 200000) := Lib.hid (by omega)
                clear m1 m2 m3
                go_wp2_with (first | (go_at_call 32; refine (l00MaxQ_any _ _ _).mono ?_; rintro e w' ⟨rfl, rfl⟩) | (go_at_call 33; refine (l00MinQ_any _ _ _).mono ?_; rintro e w' ⟨rfl, rfl⟩))
                go_roundg (s.size + 1 - (k + 1))
                case measure => omega
                case rel => exact ⟨k + 1, max x (h * den - (k : Int) * num), min y ((h + 1) * den - (k : Int) * num - 1), by omega, rfl, rfl, rfl, by go_num, Lib.hid (by rw [HX.out, HE.out]; rfl), Lib.hid (by rw [HYY.out, HE.out]; rfl), HB1.out, HB2.out, rfl⟩
              · have hxy2 : y < x := by omega
                have hno : ¬ Ok7 s num den := fun hok => by
                  have h1 := (HOK.out num den (by omega)).1 hok
                  have h2 := HMO.out num den k hk h1
                  rw [← HX.out, ← HYY.out] at h2; omega
                have HNO := Lib.hid hno
                clear hno
                go_wp2
                go_roundg (den + 1 - (num + 1))
                case measure => omega
                case rel => exact ⟨num + 1, by omega, rfl, by go_num, Lib.hid (fun X h1 h2 => by
                  by_cases c : X = (num : Int)
                  · rw [c]; exact HNO.out
                  · exact HM.out X h1 (by omega)), rfl⟩
            · have hki : ¬ (k : Int) < (L.length : Int) := by have := HLS.out; omega
              have hke : k = s.size + 1 := by omega
              by_cases hxy : x ≤ y
              · have hok : Ok7 s num den := (HOK.out num den (by omega)).2 (by rw [← hke, ← HX.out, ← HYY.out]; exact hxy)
                have HVV := Lib.hid (HY.out num den ⟨hok, by omega, by omega, by omega, fun X Y h1 h2 h3 h4 => by
                  by_cases c : Y < (den : Int)
                  · exact absurd h4 (HD.out X Y h1 c h2 h3)
                  · refine ⟨by omega, fun hy => ?_⟩
                    subst hy
                    by_cases c2 : X < (num : Int)
                    · exact absurd h4 (HM.out X h2 c2)
                    · omega⟩)
                have HXX := Lib.hid (show loN s num den (s.size + 1) = x by rw [← hke]; exact HX.out.symm)
                clear hok
                go_wp2
                refine bodyPost_ret (v := .tuple #[.int .i64 num, .int .i64 den, .int .i64 x, .bool true]) (by simp [results, Tryd.results9, go_sem]) rfl ?_
                exact ⟨by rw [HVV.out, HXX.out], K2.out⟩
              · have hxy2 : y < x := by omega
                have hno : ¬ Ok7 s num den := fun hok => by
                  have h1 := (HOK.out num den (by omega)).1 hok
                  rw [← hke, ← HX.out, ← HYY.out] at h1; omega
                have HNO := Lib.hid hno
                clear hno
                go_wp2
                go_roundg (den + 1 - (num + 1))
                case measure => omega
                case rel => exact ⟨num + 1, by omega, rfl, by go_num, Lib.hid (fun X h1 h2 => by
                  by_cases c : X = (num : Int)
                  · rw [c]; exact HNO.out
                  · exact HM.out X h1 (by omega)), rfl⟩
        · have hni : ¬ (num : Int) ≤ (den : Int) := by omega
          go_wp2
          go_roundg (1001 - (den + 1))
          case measure => omega
          case rel => exact ⟨den + 1, by omega, by omega, rfl, by go_num, Lib.hid (fun X Y h1 h2 h3 h4 => by
            by_cases c : Y = (den : Int)
            · subst c; exact HM.out X h3 (by omega)
            · exact HD.out X Y h1 (by omega) h3 h4), rfl⟩
    · have hdi : ¬ (den : Int) ≤ 1000 := by omega
      have HVV := Lib.hid (HN.out (fun X Y h1 h2 h3 h4 => HD.out X Y h1 (by omega) h3 h4))
      go_wp2
      refine bodyPost_ret (v := .tuple #[.int .i64 0, .int .i64 0, .int .i64 0, .bool false]) (by simp [results, Tryd.results9, go_sem]) rfl ?_
      exact ⟨by rw [HVV.out], K2.out⟩
end Go.Proofs.YtlkljhncpojlkabDoor
