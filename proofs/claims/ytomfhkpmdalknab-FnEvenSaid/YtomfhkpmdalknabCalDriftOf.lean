/- Calendars: the drift: the program's look and the model's. -/
import Derived.Test.YtomfhkpmdalknabCalD11
namespace Go.Proofs.Ytomfhkpmdalknab
open Go.ChangeShapes Go.WideShapes Go.ChangeAt Go.RowKit Go.Deep
set_option linter.unusedVariables false
set_option maxHeartbeats 1600000 in
theorem DriftOf_any (g gh : Int) (ad : Option Addr) (cap : Nat) (zs : List Int) (num den : Int) (w : World) (hz : Ints w ad zs) (un : In64 num) (ud : In64 den) :
    Calls Try.prog 18 #[calV g gh ad zs.length cap, .int .i64 num, .int .i64 den] w fun e w' => e = .returned (.tuple #[.int .i64 (drV g gh zs num den), .bool (drB g gh zs num den)]) ∧ Keep w w' := by
  have hbl : Below w.heap.size w (w.alloc (.cells #[.int .i64 g, .int .i64 gh, .slice ad zs.length cap] 27)) := by go_grown
  have B0 : BoxC (w.alloc (.cells #[.int .i64 g, .int .i64 gh, .slice ad zs.length cap] 27)) w.heap.size g gh ad zs.length cap := ⟨by simp, by simp, by simp, by simp⟩
  have HV := Lib.hid (fun W (k : Keep w W) => ValidCalendar_any g gh ad cap zs W (hz.keep k (Nat.le_refl _)))
  have HBL := Lib.hid hbl
  have HNO : Hid (drB g gh zs num den = false → drV g gh zs num den = 0) := Lib.hid (fun h => by simp [drV, h])
  have HDD : Hid (drB g gh zs num den = (okC g gh zs && (inB den 1 1000 && inB num 0 1000000))) := Lib.hid rfl
  cases h1 : okC g gh zs
  · rw [h1, Bool.false_and] at HDD
    rw [HNO.out HDD.out, HDD.out]
    rw [h1] at HV
    clear HNO HDD
    go_enter Try.func18, Try.ntmps18
    go_wp2_with (go_at_call 9; refine (HV.out _ (by go_grown)).mono ?_; rintro e w1 ⟨rfl, k1⟩)
    go_ret2
    exact ⟨rfl, Keep.next (by go_grown) k1⟩
  rw [h1] at HV
  cases h2 : inB den 1 1000
  · rw [h1, h2] at HDD
    rw [HNO.out HDD.out, show drB g gh zs num den = false from HDD.out]
    clear HNO HDD
    go_enter Try.func18, Try.ntmps18
    go_wp2_with (first | (go_at_call 9; refine (HV.out _ (by go_grown)).mono ?_; rintro e w1 ⟨rfl, k1⟩) | (go_at_call 22; refine (within_any _ _ _ _).mono ?_; rw [h2]; rintro e w' ⟨rfl, rfl⟩))
    go_ret2
    exact ⟨rfl, Keep.next (by go_grown) k1⟩
  cases h3 : inB num 0 1000000
  · rw [h1, h2, h3] at HDD
    rw [HNO.out HDD.out, show drB g gh zs num den = false from HDD.out]
    clear HNO HDD
    go_enter Try.func18, Try.ntmps18
    go_wp2_with (first | (go_at_call 9; refine (HV.out _ (by go_grown)).mono ?_; rintro e w1 ⟨rfl, k1⟩) | (go_at_call 22; refine (within_any _ _ _ _).mono ?_; (first | rw [h2] | rw [h3]); rintro e w' ⟨rfl, rfl⟩))
    go_ret2
    exact ⟨rfl, Keep.next (by go_grown) k1⟩
  have hg := okC_g h1
  have hd := inB_iff.1 h2; have hn := inB_iff.1 h3
  have HYV : Hid (drV g gh zs num den = drT g gh zs num den (g.toNat + 1) ∧ drB g gh zs num den = true) := Lib.hid (by
    have h : drB g gh zs num den = true := by rw [HDD.out, h1, h2, h3]; rfl
    exact ⟨by simp [drV, h], h⟩)
  rw [HYV.out.1, HYV.out.2]
  have HD := Lib.hid (fun W (k : Keep w W) (i : Int) h0 h9 => daysBefore_any g gh ad cap zs i W (hz.keep k (Nat.le_refl _)) h1 h0 h9)
  have HIN := Lib.hid (fun k hk => dr_in h1 hn hd k hk)
  have HTB := Lib.hid (fun k hk => drT_bd h1 hn hd k hk)
  have HTS : Hid (∀ k : Nat, drT g gh zs num den (k + 1) = mx (drT g gh zs num den k) (ab (den * bef g gh zs (k : Int) - (k : Int) * num))) := Lib.hid (fun k => rfl)
  have HTZ : Hid (drT g gh zs num den 0 = 0) := Lib.hid rfl
  have HB0 := Lib.hid B0
  clear hbl B0 HNO HDD HYV
  generalize drT g gh zs num den = T at *
  obtain ⟨n, rfl⟩ : ∃ n : Nat, g = n := ⟨g.toNat, by omega⟩
  rw [Int.toNat_natCast]
  go_enter Try.func18, Try.ntmps18
  go_wp2_with (first | (go_at_call 9; refine (HV.out _ (by go_grown)).mono ?_; rintro e w1 ⟨rfl, k1⟩; obtain ⟨b0, b1, b2, b3⟩ := HB0.out.keep k1; have HK1 := Lib.hid (show Keep w w1 from Keep.next (by go_grown) k1); clear k1 HB0) | (go_at_call 22; refine (within_any _ _ _ _).mono ?_; (first | rw [h2] | rw [h3]); rintro e w' ⟨rfl, rfl⟩))
  have HB1 : Hid (BoxC w1 w.heap.size (n : Int) gh ad zs.length cap) := Lib.hid ⟨b0, b1, b2, b3⟩
  clear b0 b1 b2 b3
  go_loopw [8, 9, 26] (fun m _ i wr => ∃ k : Nat, k ≤ n + 1 ∧ i = .int .i64 k ∧ m = .int .i64 (T k) ∧ Hid (Keep w1 wr)) (fun _ _ i _ => n + 1 - (intOf i).toNat)
  case atStart => exact ⟨0, Nat.zero_le _, rfl, by rw [HTZ.out], Lib.hid (Below.refl _ _)⟩
  case round =>
    obtain ⟨k, hk, rfl, rfl, HK⟩ := hrel
    obtain ⟨b0, b1, b2, b3⟩ := HB1.out.keep HK.out
    have htb := HTB.out k (by omega)
    by_cases hlt : k < n + 1
    · have hle : (k : Int) < (n : Int) + 1 := by omega
      have HDK := Lib.hid (HD.out wr (Keep.next HK1.out HK.out) (k : Int) (by omega) (by omega))
      obtain ⟨⟨p1, p2⟩, p3, p4⟩ := HIN.out k (by omega)
      have HSK := Lib.hid (HTS.out k)
      generalize bef (n : Int) gh zs (k : Int) = R at *
      have W1 : IntKind.i64.wrap (den * R) = den * R := IntWalk.i64_in _ (by omega)
      have W2 : IntKind.i64.wrap ((k : Int) * num) = (k : Int) * num := IntWalk.i64_in _ (by omega)
      have HAA := Lib.hid (fun x => absolute_any (den * R - (k : Int) * num) x (by omega) (by omega))
      have hab := ab_bd (M := 1000000000) (n := den * R - (k : Int) * num) (by omega)
      generalize ab (den * R - (k : Int) * num) = D at *
      go_wp2_with (first | (go_at_call 25; refine HDK.out.mono ?_; rintro e w2 ⟨rfl, k2⟩) | (go_at_call 35; refine (HAA.out _).mono ?_; rintro e w' ⟨rfl, rfl⟩))
      all_goals
        go_roundw
        case rel => exact ⟨k + 1, by omega, by go_num, by rw [HSK.out]; unfold mx; (first | rw [if_pos (by omega)] | rw [if_neg (by omega)] | (split <;> (first | rfl | (congr 1; omega)))), Lib.hid (Keep.next HK.out k2)⟩
        case measure => simp [intOf]; omega
    · have HE := Lib.hid (show k = n + 1 by omega)
      have hle : ¬ (k : Int) < (n : Int) + 1 := by omega
      go_wp2
      go_ret2
      exact ⟨by rw [← HE.out]; rfl, Keep.next HK1.out HK.out⟩
end Go.Proofs.Ytomfhkpmdalknab
