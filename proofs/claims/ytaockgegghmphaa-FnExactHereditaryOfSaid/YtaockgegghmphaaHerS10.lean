/- Hereditary discrepancies: the model's side. -/
import Derived.Test.YtaockgegghmphaaDisS10
namespace Go.Proofs.Ytaockgegghmphaa
open Go.ChangeShapes Go.WideShapes Go.ChangeAt Go.RowKit Go.Deep
set_option linter.unusedVariables false
set_option maxHeartbeats 800000 in
theorem l10Hereditary_any (n : Nat) (hn : n ≤ 12) (B : Nat) (ad : Option Addr) (cap : Nat) (zs : List Int) (w : World) (hz : Ints w ad zs) (hs : ∀ z ∈ zs, 0 ≤ z ∧ z < 4096)
    (c0 : w.cell? ⟨B, 0, none⟩ = some (.int .i64 (n : Nat))) (c1 : w.cell? ⟨B, 1, none⟩ = some (.slice ad zs.length cap)) :
    Calls Try.prog 66 #[.pointer (some ⟨B, 0, none⟩)] w fun e w' => e = .returned (.int .i64 (herT zs (2 ^ n))) ∧ Keep w w' := by
  have hlen := hz.small
  have hB := block_lt_of_cell c0
  obtain ⟨p1, p2, p3, p4⟩ := shl12 hn
  have HD := Lib.hid (fun p (hp : p < 4096) W (k : Keep w W) => l10Discrepancy_any ad cap zs p W (hz.keep k (Nat.le_refl _)) hs hp)
  have HA := Lib.hid (fun W c => l10All_any n B W hn c)
  have HM := Lib.hid (herT_bd zs)
  have HS := Lib.hid (fun t => show herT zs (t + 1) = mx (herT zs t) (disV zs t).1 from rfl)
  have H0 : Hid (herT zs 0 = 0) := Lib.hid rfl
  obtain ⟨m, hm⟩ : ∃ m, 2 ^ n = m + 1 := ⟨2 ^ n - 1, by omega⟩
  have hm1 : 2 ^ n - 1 = m := by omega
  rw [hm1] at HA
  rw [hm]
  have hm2 : m < 4096 := by omega
  clear p1 p2 p3 p4 hm hm1
  go_enter Try.func66, Try.ntmps66
  go_wp2
  go_loopw [3, 4, 5, 6] (fun s i _ _ wr => ∃ t : Nat, t ≤ m + 1 ∧ i = .int .i64 t ∧ s = .int .i64 (herT zs t) ∧ Hid (Keep w wr)) (fun _ i _ _ _ => m + 1 - (intOf i).toNat)
  case atStart => exact ⟨0, by omega, rfl, by rw [H0.out], Lib.hid (Below.refl _ _)⟩
  case round =>
    obtain ⟨t, ht, rfl, rfl, HK⟩ := hrel
    have d0 := (HK.out.cell (p := ⟨B, 0, none⟩) hB).trans c0
    have d1 := (HK.out.cell (p := ⟨B, 1, none⟩) hB).trans c1
    clear c0 c1
    have HA2 := Lib.hid (HA.out wr d0)
    by_cases hlt : t ≤ m
    · have hle : (t : Int) ≤ (m : Int) := by omega
      have HQ := Lib.hid (HD.out t (by omega) wr HK.out)
      have HS2 := Lib.hid (HS.out t)
      generalize disV zs t = D at *
      generalize herT zs t = h0 at *
      go_wp2_with (first | (go_at_call 64; refine HA2.out.mono ?_; rintro e w' ⟨rfl, rfl⟩) | (go_at_call 63; refine HQ.out.mono ?_; rintro e w2 ⟨rfl, k2⟩) | (go_at_call 68; refine (l00Max_any _ _ _).mono ?_; rintro e w' ⟨rfl, rfl⟩))
      go_roundw
      case rel => exact ⟨t + 1, by omega, by go_num, by rw [HS2.out], Lib.hid (Keep.next HK.out k2)⟩
      case measure => simp [intOf]; omega
    · have hle : ¬ (t : Int) ≤ (m : Int) := by omega
      have HE := Lib.hid (show t = m + 1 by omega)
      go_wp2_with (go_at_call 64; refine HA2.out.mono ?_; rintro e w' ⟨rfl, rfl⟩)
      go_ret
      exact ⟨ret_i64 (by rw [← HE.out]), HK.out⟩
def herOk2 (g : Int) (zs : List Int) : Bool := okS g zs && decide (g ≤ 8)
def herV2 (g : Int) (zs : List Int) : Int := if herOk2 g zs then herT zs (2 ^ g.toNat) else 0
def uniB2 (g : Int) (zs : List Int) : Bool := herOk2 g zs && decide (herV2 g zs ≤ 1)
set_option maxHeartbeats 800000 in
theorem specHereditaryOf_any (g : Int) (ad : Option Addr) (cap : Nat) (zs : List Int) (w : World) (hz : Ints w ad zs) :
    Calls Try.prog 27 #[valV g ad zs.length cap] w fun e w' => e = .returned (.tuple #[.int .i64 (herV2 g zs), .bool (herOk2 g zs)]) ∧ Keep w w' := by
  have hlen := hz.small
  have B0 : Box (w.alloc (.cells #[.int .i64 g, .slice ad zs.length cap] 27)) w.heap.size g ad zs.length cap := ⟨by simp, by simp, by simp⟩
  have HIS := Lib.hid (l10Is_any w.heap.size g ad cap zs _ (hz.keep (B := _) (by go_grown) (Nat.le_refl _)) B0.c0 B0.c1)
  cases h1 : okS g zs
  · rw [show herOk2 g zs = false from by simp [herOk2, h1], show herV2 g zs = 0 from by simp [herV2, herOk2, h1]]
    rw [h1] at HIS
    go_enter Try.func27, Try.ntmps27
    go_wp2_with fail
    refine HIS.out.mono ?_
    rintro e w1 ⟨rfl, k1⟩
    have g1 : Keep w w1 := Keep.next (by go_grown) k1
    go_wp2
    go_ret2
    exact ⟨rfl, g1⟩
  obtain ⟨q0, q1, q2, q3⟩ := okS_parts h1
  have hs := okS_sets h1
  rw [h1] at HIS
  by_cases h8 : g ≤ 8
  · obtain ⟨n, rfl⟩ : ∃ n : Nat, g = n := ⟨g.toNat, by omega⟩
    rw [show herOk2 n zs = true from by simp [herOk2, h1, h8], show herV2 n zs = herT zs (2 ^ n) from by simp [herV2, herOk2, h1, h8]]
    have h9 : ¬ (8 : Int) < n := by omega
    go_enter Try.func27, Try.ntmps27
    go_wp2_with fail
    refine HIS.out.mono ?_
    rintro e w1 ⟨rfl, k1⟩
    have g1 : Keep w w1 := Keep.next (by go_grown) k1
    obtain ⟨b0, b1, b2⟩ := B0.keep k1
    go_wp2_with fail
    refine (l10Hereditary_any n (by omega) w.heap.size ad cap zs w1 (hz.keep g1 (Nat.le_refl _)) hs b0 b1).mono ?_
    rintro e w2 ⟨rfl, k2⟩
    have g2 : Keep w w2 := Keep.next g1 k2
    go_wp2
    go_ret2
    exact ⟨rfl, g2⟩
  · have h9 : (8 : Int) < g := by omega
    rw [show herOk2 g zs = false from by simp [herOk2, h8], show herV2 g zs = 0 from by simp [herV2, herOk2, h8]]
    go_enter Try.func27, Try.ntmps27
    go_wp2_with fail
    refine HIS.out.mono ?_
    rintro e w1 ⟨rfl, k1⟩
    have g1 : Keep w w1 := Keep.next (by go_grown) k1
    obtain ⟨b0, b1, b2⟩ := B0.keep k1
    go_wp2
    go_ret2
    exact ⟨rfl, g1⟩
set_option maxHeartbeats 800000 in
theorem specIsUnimodular_any (g : Int) (ad : Option Addr) (cap : Nat) (zs : List Int) (w : World) (hz : Ints w ad zs) :
    Calls Try.prog 29 #[valV g ad zs.length cap] w fun e w' => e = .returned (.bool (uniB2 g zs)) ∧ Keep w w' := by
  have hlen := hz.small
  have B0 : Box (w.alloc (.cells #[.int .i64 g, .slice ad zs.length cap] 27)) w.heap.size g ad zs.length cap := ⟨by simp, by simp, by simp⟩
  have HIS := Lib.hid (l10Is_any w.heap.size g ad cap zs _ (hz.keep (B := _) (by go_grown) (Nat.le_refl _)) B0.c0 B0.c1)
  cases h1 : okS g zs
  · rw [show uniB2 g zs = false from by simp [uniB2, herOk2, h1]]
    rw [h1] at HIS
    go_enter Try.func29, Try.ntmps29
    go_wp2_with fail
    refine HIS.out.mono ?_
    rintro e w1 ⟨rfl, k1⟩
    have g1 : Keep w w1 := Keep.next (by go_grown) k1
    go_wp2
    go_ret
    exact ⟨rfl, g1⟩
  obtain ⟨q0, q1, q2, q3⟩ := okS_parts h1
  have hs := okS_sets h1
  rw [h1] at HIS
  by_cases h8 : g ≤ 8
  · obtain ⟨n, rfl⟩ : ∃ n : Nat, g = n := ⟨g.toNat, by omega⟩
    rw [show uniB2 n zs = decide (herT zs (2 ^ n) ≤ 1) from by simp [uniB2, herV2, herOk2, h1, h8]]
    have HH := Lib.hid (fun W hz c0 c1 => l10Hereditary_any n (by omega) w.heap.size ad cap zs W hz hs c0 c1)
    generalize herT zs (2 ^ n) = v at *
    go_enter Try.func29, Try.ntmps29
    go_wp2_with fail
    refine HIS.out.mono ?_
    rintro e w1 ⟨rfl, k1⟩
    have g1 : Keep w w1 := Keep.next (by go_grown) k1
    obtain ⟨b0, b1, b2⟩ := B0.keep k1
    go_wp2_with fail
    refine (HH.out w1 (hz.keep g1 (Nat.le_refl _)) b0 b1).mono ?_
    rintro e w2 ⟨rfl, k2⟩
    have g2 : Keep w w2 := Keep.next g1 k2
    go_wp2
    go_ret
    exact ⟨rfl, g2⟩
  · have h9 : ¬ g ≤ 8 := h8
    rw [show uniB2 g zs = false from by simp [uniB2, herOk2, h8]]
    go_enter Try.func29, Try.ntmps29
    go_wp2_with fail
    refine HIS.out.mono ?_
    rintro e w1 ⟨rfl, k1⟩
    have g1 : Keep w w1 := Keep.next (by go_grown) k1
    obtain ⟨b0, b1, b2⟩ := B0.keep k1
    go_wp2
    go_ret
    exact ⟨rfl, g1⟩
end Go.Proofs.Ytaockgegghmphaa
