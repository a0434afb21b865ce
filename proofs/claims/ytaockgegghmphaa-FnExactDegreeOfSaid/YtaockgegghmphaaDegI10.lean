/- Degrees, and the sum of squares over all colourings: the program's side, and the model's. -/
import Derived.Test.YtaockgegghmphaaSysI
import Derived.Test.YtaockgegghmphaaCnt10
import Derived.Test.YtaockgegghmphaaAvg10
import Derived.Test.YtaockgegghmphaaMap10
import Derived.Test.YtaockgegghmphaaTot
import Derived.Lib.MinMax
namespace Go.Proofs.Ytaockgegghmphaa
open Go.ChangeShapes Go.WideShapes Go.ChangeAt Go.RowKit Go.Deep
set_option linter.unusedVariables false
theorem bit_of {z : Int} (t : Nat) (h0 : 0 ≤ z) : bits .and .i64 (z / 2 ^ t) 1 = bitI z t := by
  have h := i64_bitX z.toNat t
  rw [show ((z.toNat : Nat) : Int) = z from by omega] at h
  exact h
theorem degC_any (z : Int) (t vb : Nat) (w : World) (hz : 0 ≤ z) (ht : t < 12) (c0 : w.cell? ⟨vb, 0, none⟩ = some (.int .i64 (t : Nat))) :
    Calls Try.prog 71 #[.int .i64 z, .pointer (some ⟨vb, 0, none⟩)] w fun e w' => e = .returned (.int .i64 (bitI z t)) ∧ w = w' := by
  have hb := bit_of t hz
  go_enter Try.func71, Try.ntmps71
  go_wp2
  go_ret
  exact ⟨rfl, rfl⟩
def degV (g : Int) (zs : List Int) : Int := if okS g zs then degT zs g.toNat else 0
theorem degL_len (zs : List Int) (t : Nat) : (degL zs t).length = zs.length := by simp [degL]
theorem degL_in (zs : List Int) (t : Nat) : ∀ z ∈ degL zs t, -1000000000 ≤ z ∧ z ≤ 1000000000 := by
  intro z hz; obtain ⟨y, _, rfl⟩ := List.mem_map.1 hz; have := bitI_bd y t; omega
theorem mx_maxD (a b : Int) : max a b = mx a b := by unfold mx; split <;> omega
set_option maxHeartbeats 1600000 in
theorem DegreeOf_any (g : Int) (ad : Option Addr) (cap : Nat) (zs : List Int) (w : World) (hz : Ints w ad zs) :
    Calls Try.prog 32 #[valV g ad zs.length cap] w fun e w' => e = .returned (.tuple #[.int .i64 (degV g zs), .bool (okS g zs)]) ∧ Keep w w' := by
  have hlen := hz.small
  have B0 : Box (w.alloc (.cells #[.int .i64 g, .slice ad zs.length cap] 27)) w.heap.size g ad zs.length cap := ⟨by simp, by simp, by simp⟩
  cases h1 : okS g zs
  · rw [show degV g zs = 0 from by simp [degV, h1]]
    go_enter Try.func32, Try.ntmps32
    go_wp2_with fail
    refine (ValidSystem_any g ad cap zs _ (hz.keep (B := _) (by go_grown) (Nat.le_refl _))).mono ?_
    rw [h1]
    rintro e w1 ⟨rfl, k1⟩
    have g1 : Keep w w1 := Keep.next (by go_grown) k1
    go_wp2
    go_ret2
    exact ⟨rfl, g1⟩
  obtain ⟨q0, q1, q2, q3⟩ := okS_parts h1
  have hs := okS_sets h1
  obtain ⟨n, rfl⟩ : ∃ n : Nat, g = n := ⟨g.toNat, by omega⟩
  have hn : n ≤ 12 := by omega
  rw [show degV n zs = degT zs n from by simp [degV, h1]]
  have HMP := Lib.hid (fun (t b : Nat) (ht : t < 12) W (k : Keep w W) (hbW : W.cell? ⟨b, 0, none⟩ = some (.int .i64 (t : Nat))) =>
    mappedDeg_any (fun z => bitI z t) (.pointer (some ⟨b, 0, none⟩)) (.pointer none) ad cap zs W (hz.keep k (Nat.le_refl _)) (by omega) (fun z _ => by have := bitI_bd z t; exact ⟨by omega, by omega⟩)
      (fun x hx W' kW' => degC_any x t b W' (hs x hx).1 ht ((kW'.cell (p := ⟨b, 0, none⟩) (World.block_lt_of_cell? _ _ hbW)).trans hbW)))
  have HTOT := Lib.hid (fun (t : Nat) ad2 cap2 W (h : Ints W ad2 (degL zs t)) => total_any ad2 cap2 (degL zs t) W h (degL_in zs t) (by rw [degL_len]; omega))
  have HLD := Lib.hid (degL_len zs)
  have HDD : Hid (∀ t : Nat, degL zs t = zs.map (fun z => bitI z t)) := Lib.hid (fun t => rfl)
  have HBD := Lib.hid (degL_bd zs)
  have HB := Lib.hid (degT_bd zs)
  have HS : Hid (∀ t, degT zs (t + 1) = mx (degT zs t) (degL zs t).sum) := Lib.hid (fun t => rfl)
  have H0 : Hid (degT zs 0 = 0) := Lib.hid rfl
  clear q3 hs
  go_enter Try.func32, Try.ntmps32
  go_wp2_with fail
  refine (ValidSystem_any n ad cap zs _ (hz.keep (B := _) (by go_grown) (Nat.le_refl _))).mono ?_
  rw [h1]
  rintro e w1 ⟨rfl, k1⟩
  have g1 : Keep w w1 := Keep.next (by go_grown) k1
  have B1 := Lib.hid (B0.keep k1)
  have G1 := Lib.hid g1
  obtain ⟨b0, b1, b2⟩ := B1.out
  clear B0 k1 g1
  go_wp2
  go_loopw [4, 5, 11] (fun s _ i wr => ∃ t : Nat, t ≤ n ∧ i = .int .i64 t ∧ s = .int .i64 (degT zs t) ∧ Hid (Keep w1 wr)) (fun _ _ i _ => n - (intOf i).toNat)
  case atStart => exact ⟨0, by omega, rfl, by rw [H0.out], Lib.hid (by go_grown)⟩
  case round =>
    obtain ⟨t, ht, rfl, rfl, HK⟩ := hrel
    obtain ⟨d0, d1, d2⟩ := B1.out.keep HK.out
    clear b0 b1 b2
    by_cases hlt : t < n
    · have hle : (t : Int) < (n : Int) := by omega
      have HS2 := Lib.hid (HS.out t)
      have hb1 := HBD.out t
      have hb2 := HB.out t
      have HT2 := Lib.hid (HTOT.out t)
      have HM2 := Lib.hid (HMP.out t wr.heap.size (by omega) (wr.alloc (.cells #[.int .i64 (t : Nat)] 2)) (G1.out.next (HK.out.next (by go_grown))) (by simp))
      rw [← HDD.out t] at HM2
      generalize degT zs t = s0 at *
      generalize (degL zs t).sum = s1 at *
      generalize degL zs t = L at *
      go_wp2_with fail
      refine HM2.out.mono ?_
      rintro e w2 ⟨rd, rc, rfl, o2, k2⟩
      have HK2 := Lib.hid (show Keep w1 w2 from Keep.next (HK.out.next (by go_grown)) k2)
      go_wp2_with fail
      refine (HT2.out rd rc w2 o2.ints).mono ?_
      rintro e w3 ⟨rfl, rfl⟩
      go_wp2
      go_roundw
      case rel => exact ⟨t + 1, by omega, by go_num, by rw [HS2.out, ← mx_maxD], HK2⟩
      case measure => simp [intOf]; omega
    · have HE := Lib.hid (show t = n by omega)
      have hle : ¬ (t : Int) < (n : Int) := by omega
      go_wp2
      go_ret2
      exact ⟨by rw [← HE.out]; rfl, G1.out.next HK.out⟩
set_option maxHeartbeats 1600000 in
theorem specDegreeOf_any (g : Int) (ad : Option Addr) (cap : Nat) (zs : List Int) (w : World) (hz : Ints w ad zs) :
    Calls Try.prog 31 #[valV g ad zs.length cap] w fun e w' => e = .returned (.tuple #[.int .i64 (degV g zs), .bool (okS g zs)]) ∧ Keep w w' := by
  have hlen := hz.small
  have B0 : Box (w.alloc (.cells #[.int .i64 g, .slice ad zs.length cap] 27)) w.heap.size g ad zs.length cap := ⟨by simp, by simp, by simp⟩
  have HIS := Lib.hid (l10Is_any w.heap.size g ad cap zs _ (hz.keep (B := _) (by go_grown) (Nat.le_refl _)) B0.c0 B0.c1)
  cases h1 : okS g zs
  · rw [show degV g zs = 0 from by simp [degV, h1]]
    rw [h1] at HIS
    go_enter Try.func31, Try.ntmps31
    go_wp2_with fail
    refine HIS.out.mono ?_
    rintro e w1 ⟨rfl, k1⟩
    have g1 : Keep w w1 := Keep.next (by go_grown) k1
    go_wp2
    go_ret2
    exact ⟨rfl, g1⟩
  rw [h1] at HIS
  obtain ⟨q0, q1, q2, q3⟩ := okS_parts h1
  have hs := okS_sets h1
  obtain ⟨n, rfl⟩ : ∃ n : Nat, g = n := ⟨g.toNat, by omega⟩
  have hn : n ≤ 12 := by omega
  rw [show degV n zs = degT zs n from by simp [degV, h1]]
  have HBD := Lib.hid (fun k t => degL_bd (zs.take k) t)
  have HB := Lib.hid (degT_bd zs)
  have HS : Hid (∀ t, degT zs (t + 1) = mx (degT zs t) (degL (zs.take zs.length) t).sum) := Lib.hid (fun t => by rw [List.take_length]; rfl)
  have H0 : Hid (degT zs 0 = 0) := Lib.hid rfl
  have HTK := Lib.hid (fun t k h => degL_take zs t k h)
  have HBT := Lib.hid (fun k (h : k < zs.length) t => bit_of t (hs _ (getD_mem zs k h)).1)
  have HBI := Lib.hid bitI_bd
  clear q3 hs
  go_enter Try.func31, Try.ntmps31
  go_wp2_with fail
  refine HIS.out.mono ?_
  rintro e w1 ⟨rfl, k1⟩
  have g1 : Keep w w1 := Keep.next (by go_grown) k1
  have B1 := Lib.hid (B0.keep k1)
  have G1 := Lib.hid g1
  have HZ1 := Lib.hid (hz.keep g1 (Nat.le_refl _))
  obtain ⟨b0, b1, b2⟩ := B1.out
  clear B0 k1 g1 hz
  go_wp2
  go_loopg [4, 5, 6, 7] (n + 1) (fun kk s i _ _ wr => ∃ t : Nat, t ≤ n ∧ kk = n + 1 - t ∧ i = .int .i64 t ∧ s = .int .i64 (degT zs t) ∧ wr = w1)
  case atStart => exact ⟨0, by omega, rfl, rfl, by rw [H0.out], rfl⟩
  case round =>
    obtain ⟨t, ht, rfl, rfl, rfl, rfl⟩ := hrel
    by_cases hlt : t < n
    · have hle : (t : Int) < (n : Int) := by omega
      have HS2 := Lib.hid (HS.out t)
      have hb2 := HB.out t
      generalize degT zs t = s0 at *
      obtain ⟨wo, hwo⟩ : ∃ x, x = wr := ⟨_, rfl⟩
      have hdeg0 : Hid ((degL (zs.take 0) t).sum = 0) := Lib.hid (by simp [degL])
      go_wp2
      go_loop [6, 7] (fun s i => ∃ k : Nat, k ≤ zs.length ∧ i = .int .i64 k ∧ s = .int .i64 (degL (zs.take k) t).sum) (fun _ i => zs.length - (intOf i).toNat)
      case atStart => exact ⟨0, Nat.zero_le _, rfl, by rw [hdeg0.out]⟩
      case round =>
        obtain ⟨k, hk, rfl, rfl⟩ := hrel
        by_cases hkl : k < zs.length
        · rcases HZ1.out.at_ with h | ⟨b, off, rfl, hb, hc⟩
          · subst h; simp at hkl
          have hcx := hc k hkl
          have hbt := HBT.out k hkl t
          have hbb := HBI.out (zs.getD k 0) t
          have hsb := HBD.out k t
          have HTT := Lib.hid (HTK.out t k hkl)
          have hlk : (zs.take k).length ≤ 12 := by rw [List.length_take]; omega
          clear hc
          generalize (degL (zs.take k) t).sum = u at *
          generalize bitI (zs.getD k 0) t = y at *
          generalize zs.getD k 0 = x at *
          have hu : 0 ≤ u ∧ u ≤ 12 := by omega
          clear hlk hsb
          go_wp2
          go_round
          case rel => exact ⟨k + 1, by omega, by go_num, by rw [HTT.out]⟩
          case measure => simp [intOf]; omega
        · have HE := Lib.hid (show k = zs.length by omega)
          have hsb := HBD.out k t
          have HS3 : Hid (degT zs (t + 1) = mx s0 (degL (zs.take k) t).sum) := Lib.hid (by rw [HS2.out, HE.out])
          generalize (degL (zs.take k) t).sum = u at *
          go_wp2_with (go_at_call 68; refine (l00Max_any _ _ _).mono ?_; rintro e w' ⟨rfl, rfl⟩)
          go_roundg (n + 1 - (t + 1))
          case measure => omega
          case rel => exact ⟨t + 1, by omega, rfl, by go_num, by rw [HS3.out], rfl⟩
    · have HE := Lib.hid (show t = n by omega)
      have hle : ¬ (t : Int) < (n : Int) := by omega
      go_wp2
      go_ret2
      exact ⟨by rw [← HE.out]; rfl, G1.out⟩
end Go.Proofs.Ytaockgegghmphaa
