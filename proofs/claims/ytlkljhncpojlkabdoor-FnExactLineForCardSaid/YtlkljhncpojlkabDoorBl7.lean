/- Balanced words: the model's look. -/
import Derived.Test.YtlkljhncpojlkabDoorWd7
import Derived.Test.YtlkljhncpojlkabDoorGreat
import Derived.Deep.QuietTactic
import Derived.Deep.LoopGhost
namespace Go.Proofs.YtlkljhncpojlkabDoor
open Go.ChangeShapes Go.WideShapes Go.ChangeAt Go.RowKit Go.Deep
set_option linter.unusedVariables false
def mnW (a b : Int) : Int := if a < b then a else b
def dif7 (s : ByteArray) (n i : Nat) : Int := hgt s (i + n) - hgt s i
def balN (s : ByteArray) (n : Nat) : Bool := (List.range (s.size + 1 - n)).all fun i => (List.range (s.size + 1 - n)).all fun j => decide (dif7 s n i ≤ dif7 s n j + 1)
def balT (s : ByteArray) : Bool := (List.range s.size).all fun t => balN s (t + 1)
def balB (s : ByteArray) : Bool := wdB s && balT s
theorem balN_iff {s : ByteArray} {n : Nat} : balN s n = true ↔ ∀ i j, i < s.size + 1 - n → j < s.size + 1 - n → dif7 s n i ≤ dif7 s n j + 1 := by
  unfold balN
  simp only [List.all_eq_true, List.mem_range, decide_eq_true_eq]
  exact ⟨fun h i j hi hj => h i hi j hj, fun h i hi j hj => h i j hi hj⟩
theorem rangeW_succ (p : Nat → Bool) (k : Nat) : (List.range (k + 1)).all p = ((List.range k).all p && p k) := by rw [List.range_succ, List.all_append]; simp
theorem rangeW_no {p : Nat → Bool} {n k : Nat} (h : k < n) (hf : p k = false) : (List.range n).all p = false := by
  rw [List.all_eq_false]; exact ⟨k, List.mem_range.2 h, by simp [hf]⟩
theorem hgt_step {s : ByteArray} (hw : wdB s = true) : ∀ n i, i + n ≤ s.size → 0 ≤ dif7 s n i ∧ dif7 s n i ≤ n := by
  intro n
  induction n with
  | zero => intro i hi; unfold dif7; simp
  | succ n ih =>
    intro i hi
    have h1 := ih i (by omega)
    have h2 := (wdB_iff.1 hw).2 (i + n) (by omega)
    unfold dif7 at h1 ⊢
    rw [show i + (n + 1) = (i + n) + 1 from by omega, hgt_succ s (i + n) (by omega)]
    omega
theorem l00MinW_any (a b : Int) (w : World) :
    Calls Tryd.prog 33 #[.int .i64 a, .int .i64 b] w fun e w' => e = .returned (.int .i64 (mnW a b)) ∧ w = w' := by
  by_cases h : a < b
  · rw [show mnW a b = a from by unfold mnW; rw [if_pos h]]
    go_enter Tryd.func33, Tryd.ntmps33
    go_wp2
    go_ret
    exact ⟨rfl, rfl⟩
  · rw [show mnW a b = b from by unfold mnW; rw [if_neg h]]
    go_enter Tryd.func33, Tryd.ntmps33
    go_wp2
    go_ret
    exact ⟨rfl, rfl⟩
set_option maxHeartbeats 3200000 in
set_option maxRecDepth 100000 in
theorem l07Balanced_any (s : ByteArray) (w : World) (hw : wdB s = true) :
    Calls Tryd.prog 59 #[.string s] w fun e w' => e = .returned (.bool (balT s)) ∧ Keep w w' := by
  have hwd := wdB_iff.1 hw
  have h120 := hwd.1
  have HH := Lib.hid (l07Heights_any s w hw)
  have HD := Lib.hid (fun n i h => hgt_step hw n i h)
  have HGT := Lib.hid (fun j (h : j ≤ s.size) => hgtL_get s s.size j h)
  have HLEN := Lib.hid (hgtL_len s s.size)
  have H0 := Lib.hid (hgt_zero s)
  obtain ⟨V, hV⟩ : ∃ V, V = balT s := ⟨_, rfl⟩
  rw [← hV]
  have HV : Hid (V = (List.range s.size).all fun t => balN s (t + 1)) := Lib.hid hV
  clear hV hwd hw
  generalize hgtL s s.size = L at *
  go_enter Tryd.func59, Tryd.ntmps59
  go_wp2_with fail
  refine HH.out.mono ?_
  rintro e w1 ⟨rd, rc, rfl, o1, k1⟩
  have I1 := Lib.hid o1.ints
  have K1 := Lib.hid k1
  clear o1 k1
  have hLb : L.length = s.size + 1 := HLEN.out
  have hL1 : 0 < L.length := by omega
  have HLB := Lib.hid hLb
  rcases I1.out.at_ with h | ⟨b, off, rfl, hb, hc⟩
  · rw [h] at hL1; simp at hL1
  have HC : Hid (∀ W, Keep w1 W → ∀ j, j ≤ s.size → W.cell? ⟨b, off + j, none⟩ = some (.int .i64 (hgt s j))) := Lib.hid (fun W k j hj => by
    rw [(k.cell (p := ⟨b, off + j, none⟩) (by exact hb)).trans (hc j (by have := HLB.out; omega)), HGT.out j hj])
  have hls : L.length ≤ 121 := by omega
  clear hc hLb
  go_wp2
  go_loopg [4, 5, 6, 7] s.size (fun kk n _ _ _ wr => ∃ t : Nat, t ≤ s.size ∧ kk = s.size - t ∧ n = .int .i64 ((t : Int) + 1) ∧ Hid ((List.range t).all (fun t => balN s (t + 1)) = true) ∧ Hid (Keep w1 wr))
  case atStart => exact ⟨0, Nat.zero_le _, rfl, rfl, Lib.hid (by simp), Lib.hid (Below.refl _ _)⟩
  case round =>
    obtain ⟨t, ht, rfl, rfl, HA, HK⟩ := hrel
    obtain ⟨wo, rfl⟩ : ∃ x, x = wr := ⟨wr, rfl⟩
    by_cases hlt : t < s.size
    · have hcn : ((t : Int) + 1) < (L.length : Int) := by have := HLB.out; omega
      have htn : ((t : Int) + 1).toNat = t + 1 := by omega
      have e0 := HC.out wo HK.out (t + 1) (by omega)
      have HD0 : Hid (dif7 s (t + 1) 0 = hgt s (t + 1)) := Lib.hid (by unfold dif7; rw [H0.out, Nat.zero_add]; omega)
      have hb0 := HD.out (t + 1) 0 (by omega)
      rw [HD0.out] at hb0
      have HS := Lib.hid (rangeW_succ (fun t => balN s (t + 1)) t)
      have HF := Lib.hid (fun h => rangeW_no (p := fun t => balN s (t + 1)) hlt h)
      have e1 : wo.cell? ⟨b, off + ((t : Int) + 1).toNat, none⟩ = some (.int .i64 (hgt s (t + 1))) := by rw [htn]; exact e0
      generalize hgt s (t + 1) = H1 at *
      have hidx0 : (0 : Int) ≤ (t : Int) + 1 := by omega
      have HBI : Hid (balN s (t + 1) = true ↔ ∀ i j, i < s.size - t → j < s.size - t → dif7 s (t + 1) i ≤ dif7 s (t + 1) j + 1) := Lib.hid (by
        rw [balN_iff, show s.size + 1 - (t + 1) = s.size - t by omega])
      go_wp2
      go_loopg [5, 6, 7] (s.size - t) (fun kk lo hi i wq => ∃ (k : Nat) (l u : Int), k ≤ s.size - t ∧ kk = s.size - t - k ∧ i = .int .i64 k ∧ lo = .int .i64 l ∧ hi = .int .i64 u ∧ 0 ≤ l ∧ l ≤ 121 ∧ 0 ≤ u ∧ u ≤ 121 ∧ Hid (∃ i0, i0 < s.size - t ∧ dif7 s (t + 1) i0 = l) ∧ Hid (∃ i0, i0 < s.size - t ∧ dif7 s (t + 1) i0 = u) ∧ Hid (∀ i, i < k → l ≤ dif7 s (t + 1) i ∧ dif7 s (t + 1) i ≤ u) ∧ Hid (Keep w1 wq))
      case atStart => exact ⟨0, H1, H1, Nat.zero_le _, rfl, rfl, rfl, rfl, by omega, by omega, by omega, by omega, Lib.hid ⟨0, by omega, HD0.out⟩, Lib.hid ⟨0, by omega, HD0.out⟩, Lib.hid (fun i h => by omega), HK⟩
      case round =>
        obtain ⟨k, l, u, hk, rfl, rfl, rfl, rfl, l0, l1, u0, u1, HL, HU, HAL, HK2⟩ := hrel
        by_cases hkl : k < s.size - t
        · have hcq : ((k : Int) + ((t : Int) + 1)) < (L.length : Int) := by have := HLB.out; omega
          have hck : (k : Int) < (L.length : Int) := by omega
          have qa := HC.out wr HK2.out (k + (t + 1)) (by omega)
          have qc := HC.out wr HK2.out k (by omega)
          have hdb := HD.out (t + 1) k (by omega)
          have HDE : Hid (dif7 s (t + 1) k = hgt s (k + (t + 1)) - hgt s k) := Lib.hid rfl
          rw [HDE.out] at hdb
          have hix : ((k : Int) + ((t : Int) + 1)).toNat = k + (t + 1) := by omega
          have hA := HD.out (k + (t + 1)) 0 (by omega)
          have hC := HD.out k 0 (by omega)
          have hA2 : dif7 s (k + (t + 1)) 0 = hgt s (k + (t + 1)) := by unfold dif7; rw [H0.out, Nat.zero_add]; omega
          have hC2 : dif7 s k 0 = hgt s k := by unfold dif7; rw [H0.out, Nat.zero_add]; omega
          rw [hA2] at hA; rw [hC2] at hC
          clear hA2 hC2
          generalize hgt s (k + (t + 1)) = A1 at *
          generalize hgt s k = C1 at *
          have W1 : IntKind.i64.wrap (A1 - C1) = A1 - C1 := IntWalk.i64_in _ (by omega)
          go_wp2
          go_quiet ((go_at_call 33; exact Calls.quiet_of_same ((l00MinW_any _ _ _).mono fun _ _ h => ⟨h.1, h.2.symm⟩)))
          have HK3 := Lib.hid (below_drewN HK2.out nq)
          have qa2 : (wr.drewN nq).cell? ⟨b, off + (k + (t + 1)), none⟩ = some (.int .i64 A1) := by rw [World.cell?_drewN]; exact qa
          have qc2 : (wr.drewN nq).cell? ⟨b, off + k, none⟩ = some (.int .i64 C1) := by rw [World.cell?_drewN]; exact qc
          clear qa qc HK2
          generalize wr.drewN nq = wq at *
          go_wp2
          go_quiet ((go_at_call 32; exact Calls.quiet_of_same ((l00Max_any _ _ _).mono fun _ _ h => ⟨h.1, h.2.symm⟩)))
          go_wp2
          go_roundg (s.size - t - (k + 1))
          case measure => omega
          case rel =>
            refine ⟨k + 1, mnW l (A1 - C1), mx u (A1 - C1), by omega, by omega, by go_num, rfl, rfl, by unfold mnW; split <;> omega, by unfold mnW; split <;> omega, by unfold mx; split <;> omega, by unfold mx; split <;> omega, Lib.hid ?_, Lib.hid ?_, Lib.hid (fun i hi => ?_), Lib.hid (below_drewN HK3.out _)⟩
            · unfold mnW; split
              · exact HL.out
              · exact ⟨k, hkl, HDE.out⟩
            · unfold mx; split
              · first | exact HU.out | exact ⟨k, hkl, HDE.out⟩
              · first | exact HU.out | exact ⟨k, hkl, HDE.out⟩
            · by_cases e : i = k
              · subst e
                rw [HDE.out]
                unfold mnW mx; constructor <;> split <;> omega
              · have := HAL.out i (by omega)
                unfold mnW mx; constructor <;> split <;> omega
        · have hcq : ¬ ((k : Int) + ((t : Int) + 1)) < (L.length : Int) := by have := HLB.out; omega
          have hke : k = s.size - t := by omega
          have HNB : Hid (balN s (t + 1) = decide (u ≤ l + 1)) := Lib.hid (by
            rw [Bool.eq_iff_iff, HBI.out, decide_eq_true_eq]
            obtain ⟨i0, hi0, el⟩ := HL.out
            obtain ⟨j0, hj0, eu⟩ := HU.out
            constructor
            · intro h; have := h j0 i0 hj0 hi0; omega
            · intro h i j hi hj
              have h1 := HAL.out i (by omega); have h2 := HAL.out j (by omega); omega)
          by_cases hq : u ≤ l + 1
          · have hq1 : ¬ l + 1 < u := by omega
            have HY := Lib.hid (HNB.out.trans (decide_eq_true hq))
            go_wp2
            go_roundg (s.size - (t + 1))
            case measure => omega
            case rel => exact ⟨t + 1, by omega, rfl, by go_num, Lib.hid (by rw [HS.out, HA.out, HY.out]; rfl), HK2⟩
          · have hq1 : l + 1 < u := by omega
            have HN := Lib.hid (HF.out (HNB.out.trans (decide_eq_false hq)))
            have HVN : Hid (V = false) := Lib.hid (by rw [HV.out, HN.out])
            go_wp2
            go_ret
            exact ⟨ret_bool HVN.out.symm, K1.out.next HK2.out⟩
    · have hcn : ¬ ((t : Int) + 1) < (L.length : Int) := by have := HLB.out; omega
      have HVY : Hid (V = true) := Lib.hid (by have h := HA.out; rw [show t = s.size by omega] at h; rw [HV.out]; exact h)
      go_wp2
      go_ret
      exact ⟨ret_bool HVY.out.symm, K1.out.next HK.out⟩
theorem specIsBalanced_any (s : ByteArray) (w : World) (hs : s.size ≤ 1048576) :
    Calls Tryd.prog 29 #[.string s] w fun e w' => e = .returned (.bool (balB s)) ∧ Keep w w' := by
  cases hw : wdB s
  · rw [show balB s = false from by unfold balB; rw [hw]; rfl]
    go_enter Tryd.func29, Tryd.ntmps29
    go_wp2_with (go_at_call 30; refine (l07Is_any s _ hs).mono ?_; rw [hw]; rintro e w' ⟨rfl, rfl⟩)
    go_ret
    exact ⟨rfl, Below.refl _ _⟩
  · have HBl := Lib.hid (l07Balanced_any s w hw)
    have HE : Hid (balB s = balT s) := Lib.hid (by unfold balB; rw [hw, Bool.true_and])
    rw [HE.out]
    generalize balT s = V at *
    go_enter Tryd.func29, Tryd.ntmps29
    go_wp2_with (first | (go_at_call 30; refine (l07Is_any s _ hs).mono ?_; rw [hw]; rintro e w' ⟨rfl, rfl⟩) | (go_at_call 59; refine HBl.out.mono ?_; rintro e w' ⟨rfl, k1⟩))
    go_ret
    exact ⟨rfl, k1⟩
end Go.Proofs.YtlkljhncpojlkabDoor
