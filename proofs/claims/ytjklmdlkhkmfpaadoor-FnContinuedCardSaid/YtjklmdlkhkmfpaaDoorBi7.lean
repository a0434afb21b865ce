/- Balanced words: the program's look. -/
import Derived.Test.YtjklmdlkhkmfpaaDoorHi7
namespace Go.Proofs.YtjklmdlkhkmfpaaDoor
open Go.ChangeShapes Go.WideShapes Go.ChangeAt Go.RowKit Go.Deep
set_option linter.unusedVariables false
theorem balN_zero (s : ByteArray) : balN s 0 = true := by
  rw [balN_iff]; intro i j _ _
  simp [dif7]
theorem balT_iff (s : ByteArray) : balT s = (List.range (s.size + 1)).all (balN s) := by
  unfold balT
  rw [List.range_succ_eq_map, List.all_cons, balN_zero, Bool.true_and, List.all_map]; rfl
set_option maxHeartbeats 3200000 in
theorem isEven_any (s : ByteArray) (ad : Option Addr) (cap n : Nat) (w : World) (hw : wdB s = true) (hz : Ints w ad (hgtL s s.size)) (hn : n ≤ s.size) :
    Calls Tryd.prog 21 #[.slice ad (hgtL s s.size).length cap, .int .i64 n] w fun e w' => e = .returned (.bool (balN s n)) ∧ Keep w w' := by
  have h120 := (wdB_iff.1 hw).1
  have HD := Lib.hid (fun n i h => hgt_step hw n i h)
  have HGT := Lib.hid (fun j (h : j ≤ s.size) => hgtL_get s s.size j h)
  have HLEN := Lib.hid (hgtL_len s s.size)
  have H0 := Lib.hid (hgt_zero s)
  have HBI : Hid (balN s n = true ↔ ∀ i j, i < s.size + 1 - n → j < s.size + 1 - n → dif7 s n i ≤ dif7 s n j + 1) := Lib.hid balN_iff
  generalize balN s n = V at *
  generalize hgtL s s.size = L at *
  clear hw
  rcases hz.at_ with h | ⟨b, off, rfl, hb, hc⟩
  · have := HLEN.out; rw [h] at this; simp at this
  have HC : Hid (∀ W, Keep w W → ∀ j, j ≤ s.size → W.cell? ⟨b, off + j, none⟩ = some (.int .i64 (hgt s j))) := Lib.hid (fun W k j hj => by
    rw [(k.cell (p := ⟨b, off + j, none⟩) (by exact hb)).trans (hc j (by have := HLEN.out; omega)), HGT.out j hj])
  have hls : L.length = s.size + 1 := HLEN.out
  have hn1 : (n : Int) < (L.length : Int) := by omega
  have hl121 : L.length ≤ 121 := by omega
  have HLB := Lib.hid hls
  clear hc hls
  have e0 := HC.out w (Below.refl _ _) n hn
  have HD0 : Hid (dif7 s n 0 = hgt s n) := Lib.hid (by unfold dif7; rw [H0.out, Nat.zero_add]; omega)
  have hb0 := HD.out n 0 (by omega)
  rw [HD0.out] at hb0
  generalize hgt s n = H1 at *
  go_enter Tryd.func21, Tryd.ntmps21
  go_wp2
  go_region
  go_wp2
  go_loopg [5, 6, 7, 8, 21] (s.size + 1 - n) (fun kk lo hi _ _ i wr => ∃ (k : Nat) (l u : Int), k ≤ s.size + 1 - n ∧ kk = s.size + 1 - n - k ∧ i = .int .i64 k ∧ lo = .int .i64 l ∧ hi = .int .i64 u ∧ 0 ≤ l ∧ l ≤ 121 ∧ 0 ≤ u ∧ u ≤ 121 ∧ Hid (∃ i0, i0 < s.size + 1 - n ∧ dif7 s n i0 = l) ∧ Hid (∃ i0, i0 < s.size + 1 - n ∧ dif7 s n i0 = u) ∧ Hid (∀ i, i < k → l ≤ dif7 s n i ∧ dif7 s n i ≤ u) ∧ Hid (Keep w wr))
  case atStart => exact ⟨0, H1, H1, Nat.zero_le _, rfl, rfl, rfl, rfl, by omega, by omega, by omega, by omega, Lib.hid ⟨0, by omega, HD0.out⟩, Lib.hid ⟨0, by omega, HD0.out⟩, Lib.hid (fun i h => by omega), Lib.hid (by go_grown)⟩
  case round =>
    obtain ⟨k, l, u, hk, rfl, rfl, rfl, rfl, l0, l1, u0, u1, HL, HU, HAL, HK⟩ := hrel
    by_cases hkl : k < s.size + 1 - n
    · have hcq : (k : Int) < (L.length : Int) - (n : Int) := by have := HLB.out; omega
      have hck : (k : Int) < (L.length : Int) := by omega
      have hcs : (k : Int) + (n : Int) < (L.length : Int) := by omega
      have qa := HC.out wr HK.out (k + n) (by omega)
      have qc := HC.out wr HK.out k (by omega)
      have hdb := HD.out n k (by omega)
      have HDE : Hid (dif7 s n k = hgt s (k + n) - hgt s k) := Lib.hid rfl
      rw [HDE.out] at hdb
      have hix : ((k : Int) + (n : Int)).toNat = k + n := by omega
      have hA := HD.out (k + n) 0 (by omega)
      have hC := HD.out k 0 (by omega)
      have hA2 : dif7 s (k + n) 0 = hgt s (k + n) := by unfold dif7; rw [H0.out, Nat.zero_add]; omega
      have hC2 : dif7 s k 0 = hgt s k := by unfold dif7; rw [H0.out, Nat.zero_add]; omega
      rw [hA2] at hA; rw [hC2] at hC
      clear hA2 hC2
      generalize hgt s (k + n) = A1 at *
      generalize hgt s k = C1 at *
      have W1 : IntKind.i64.wrap (A1 - C1) = A1 - C1 := IntWalk.i64_in _ (by omega)
      have W2 : IntKind.i64.wrap ((k : Int) + (n : Int)) = (k : Int) + (n : Int) := IntWalk.i64_in _ (by omega)
      have HK3 := Lib.hid (HK.out.next (show Keep wr wr.drew by go_grown))
      go_wp2
      go_region
      go_wp2
      go_roundg (s.size + 1 - n - (k + 1))
      case measure => omega
      case rel =>
        refine ⟨k + 1, _, _, by omega, by omega, by go_num, rfl, rfl, by omega, by omega, by omega, by omega, Lib.hid ?_, Lib.hid ?_, Lib.hid (fun i hi => ?_), Lib.hid (by first | exact HK3.out | exact HK.out)⟩
        · by_cases q : l ≤ A1 - C1
          · rw [Int.min_eq_left q]; exact HL.out
          · rw [Int.min_eq_right (by omega)]; exact ⟨k, hkl, HDE.out⟩
        · by_cases q : A1 - C1 ≤ u
          · rw [Int.max_eq_left q]; exact HU.out
          · rw [Int.max_eq_right (by omega)]; exact ⟨k, hkl, HDE.out⟩
        · by_cases e : i = k
          · subst e
            rw [HDE.out]; omega
          · have := HAL.out i (by omega)
            omega
    · have hcq : ¬ (k : Int) < (L.length : Int) - (n : Int) := by have := HLB.out; omega
      have HV : Hid (V = decide (u - l ≤ 1)) := Lib.hid (by
        rw [Bool.eq_iff_iff, HBI.out, decide_eq_true_eq]
        obtain ⟨i0, hi0, el⟩ := HL.out
        obtain ⟨j0, hj0, eu⟩ := HU.out
        constructor
        · intro h; have := h j0 i0 hj0 hi0; omega
        · intro h i j hi hj
          have h1 := HAL.out i (by omega); have h2 := HAL.out j (by omega); omega)
      have W1 : IntKind.i64.wrap (u - l) = u - l := IntWalk.i64_in _ (by omega)
      go_wp2
      go_ret
      exact ⟨ret_bool HV.out.symm, HK.out⟩
theorem IsBalanced_any (s : ByteArray) (w : World) (hs : s.size ≤ 1048576) :
    Calls Tryd.prog 11 #[.string s] w fun e w' => e = .returned (.bool (balB s)) ∧ Keep w w' := by
  cases hw : wdB s
  · rw [show balB s = false from by unfold balB; rw [hw]; rfl]
    go_enter Tryd.func11, Tryd.ntmps11
    go_wp2_with (go_at_call 19; refine (IsWord_any s _ hs).mono ?_; rw [hw]; rintro e w' ⟨rfl, k1⟩)
    go_ret
    exact ⟨rfl, k1⟩
  have HE : Hid (balB s = (List.range (s.size + 1)).all (balN s)) := Lib.hid (by unfold balB; rw [hw, Bool.true_and, balT_iff])
  rw [HE.out]
  have h120 := (wdB_iff.1 hw).1
  obtain ⟨V, hV⟩ : ∃ V, V = (List.range (s.size + 1)).all (balN s) := ⟨_, rfl⟩
  rw [← hV]
  have HV := Lib.hid hV
  clear hV HE
  have HH := Lib.hid (fun W => heightsOf_any s W hw)
  have HEV := Lib.hid (fun ad cap n W hz hn => isEven_any s ad cap n W hw hz hn)
  have HLEN := Lib.hid (hgtL_len s s.size)
  have HS := Lib.hid (rangeW_succ (balN s))
  have HNO := Lib.hid (fun k (h : k < s.size + 1) hf => rangeW_no (p := balN s) h hf)
  generalize hgtL s s.size = L at *
  go_enter Tryd.func11, Tryd.ntmps11
  go_wp2_with fail
  refine (IsWord_any s _ hs).mono ?_
  rw [hw]
  rintro e w1 ⟨rfl, k1⟩
  go_wp2_with fail
  refine (HH.out _).mono ?_
  rintro e w2 ⟨rd, rc, rfl, o1, k2⟩
  have I1 := Lib.hid o1.ints
  have K2 := Lib.hid (k1.next k2)
  have HLB : Hid (L.length = s.size + 1) := HLEN
  have hl121 : L.length ≤ 121 := by have := HLEN.out; omega
  clear hw o1 k1 k2
  go_wp2
  go_loopg [4, 12] (s.size + 1) (fun kk _ i wr => ∃ k : Nat, k ≤ s.size + 1 ∧ kk = s.size + 1 - k ∧ i = .int .i64 k ∧ Hid ((List.range k).all (balN s) = true) ∧ Hid (Keep w2 wr))
  case atStart => exact ⟨0, Nat.zero_le _, rfl, rfl, Lib.hid (by simp), Lib.hid (Below.refl _ _)⟩
  case round =>
    obtain ⟨k, hk, rfl, rfl, HA, HK⟩ := hrel
    by_cases hlt : k < s.size + 1
    · have hki : (k : Int) < (L.length : Int) := by have := HLB.out; omega
      have HI : Hid (Ints wr rd L) := Lib.hid (I1.out.keep HK.out (Nat.le_refl _))
      have HEk := Lib.hid (HEV.out rd rc k wr HI.out (by omega))
      have HSk := Lib.hid (HS.out k)
      have HNk := Lib.hid (HNO.out k hlt)
      cases hb : balN s k
      · rw [hb] at HEk
        go_wp2_with (go_at_call 21; refine HEk.out.mono ?_; rintro e w3 ⟨rfl, k3⟩)
        go_ret
        exact ⟨ret_bool (by rw [HV.out, HNk.out hb]), (K2.out.next HK.out).next k3⟩
      · rw [hb] at HEk
        go_wp2_with (go_at_call 21; refine HEk.out.mono ?_; rintro e w3 ⟨rfl, k3⟩)
        go_roundg (s.size + 1 - (k + 1))
        case measure => omega
        case rel => exact ⟨k + 1, by omega, rfl, by go_num, Lib.hid (by rw [HSk.out, HA.out, hb]; rfl), Lib.hid (HK.out.next k3)⟩
    · have hki : ¬ (k : Int) < (L.length : Int) := by have := HLB.out; omega
      have HE := Lib.hid (show k = s.size + 1 by omega)
      go_wp2
      go_ret
      exact ⟨ret_bool (by rw [HV.out, ← HE.out, HA.out]), K2.out.next HK.out⟩
end Go.Proofs.YtjklmdlkhkmfpaaDoor
