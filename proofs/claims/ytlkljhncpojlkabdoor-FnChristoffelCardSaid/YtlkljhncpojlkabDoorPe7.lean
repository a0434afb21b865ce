/- Periods of words. -/
import Derived.Test.YtlkljhncpojlkabDoorWi7
namespace Go.Proofs.YtlkljhncpojlkabDoor
open Go.ChangeShapes Go.WideShapes Go.ChangeAt Go.RowKit Go.Deep
set_option linter.unusedVariables false
/-- Each letter from p on is the one p places before it. -/
def perC (s : ByteArray) (p : Nat) : Bool := decide (s.extract p s.size = s.extract 0 (s.size - p))
def perF (s : ByteArray) : Nat → Nat → Nat
  | 0, p => p
  | f + 1, p => if perC s p then p else perF s f (p + 1)
def perV (s : ByteArray) : Int := if wdB s then ((perF s (s.size - 1) 1 : Nat) : Int) else 0
theorem perF_no {s : ByteArray} {p : Nat} (h : p < s.size) (hc : perC s p = false) : perF s (s.size - p) p = perF s (s.size - (p + 1)) (p + 1) := by
  rw [show s.size - p = (s.size - (p + 1)) + 1 by omega, perF, if_neg (by rw [hc]; decide)]
theorem perF_yes {s : ByteArray} {p : Nat} (h : p < s.size) (hc : perC s p = true) : perF s (s.size - p) p = p := by
  rw [show s.size - p = (s.size - (p + 1)) + 1 by omega, perF, if_pos hc]
theorem perF_end {s : ByteArray} {p : Nat} (h : s.size ≤ p) : perF s (s.size - p) p = p := by
  rw [show s.size - p = 0 by omega, perF]
theorem bytes_beq (a b : ByteArray) : (a.toList == b.toList) = decide (a = b) := by
  rw [Bool.eq_iff_iff, beq_iff_eq, decide_eq_true_eq, Lib.toList_data, Lib.toList_data]
  exact ⟨fun h => ByteArray.ext (Array.ext' h), fun h => by rw [h]⟩
theorem per_eq (s : ByteArray) (p : Nat) : ((s.extract p s.size).toList == (s.extract 0 (s.size - p)).toList) = perC s p := bytes_beq _ _
theorem per_pre (s : ByteArray) (p : Nat) (h : p ≤ s.size) : Lib.hasPrefix s.data.toList (s.extract p s.size).data.toList = perC s p := by
  unfold Lib.hasPrefix perC
  have e1 : (s.extract p s.size).data.toList = s.data.toList.drop p := by
    rw [ByteArray.data_extract, Array.toList_extract]
    simp [List.extract]
    rw [List.take_of_length_le]
    have hl : s.data.toList.length = s.size := Array.length_toList.trans rfl
    rw [List.length_drop, hl]; exact Nat.le_refl _
  have e2 : (s.extract 0 (s.size - p)).data.toList = s.data.toList.take (s.size - p) := by
    rw [ByteArray.data_extract, Array.toList_extract]; simp [List.extract]
  have hl : s.data.toList.length = s.size := Array.length_toList.trans rfl
  rw [Bool.eq_iff_iff, List.isPrefixOf_iff_prefix, decide_eq_true_eq, e1, List.prefix_iff_eq_take, List.length_drop, hl, ← e1, ← e2]
  constructor
  · intro q
    exact ByteArray.ext (Array.ext' q)
  · intro q; rw [q]
theorem l00MaxP_any (a b : Int) (w : World) :
    Calls Tryd.prog 32 #[.int .i64 a, .int .i64 b] w fun e w' => e = .returned (.int .i64 (mx a b)) ∧ w = w' := l00Max_any a b w
theorem PeriodOf_any (s : ByteArray) (w : World) (hs : s.size ≤ 1048576) :
    Calls Tryd.prog 23 #[.string s] w fun e w' => e = .returned (.tuple #[.int .i64 (perV s), .bool (wdB s)]) ∧ Keep w w' := by
  cases hw : wdB s
  · rw [show perV s = 0 from by unfold perV; rw [hw]; rfl]
    go_enter Tryd.func23, Tryd.ntmps23
    go_wp2_with (go_at_call 34; refine (IsWord_any s _ hs).mono ?_; rw [hw]; rintro e w' ⟨rfl, k1⟩)
    go_ret2
    exact ⟨rfl, k1⟩
  · rw [show perV s = ((perF s (s.size - 1) 1 : Nat) : Int) from by unfold perV; rw [hw]; rfl]
    have h120 := (wdB_iff.1 hw).1
    obtain ⟨V, hV⟩ : ∃ V, V = perF s (s.size - 1) 1 := ⟨_, rfl⟩
    rw [← hV]
    have HV : Hid (perF s (s.size - 1) 1 = V) := Lib.hid hV.symm
    clear hV
    have HN := Lib.hid (fun p h hc => perF_no (s := s) (p := p) h hc)
    have HY := Lib.hid (fun p h hc => perF_yes (s := s) (p := p) h hc)
    have HE := Lib.hid (fun p h => perF_end (s := s) (p := p) h)
    have HP0 := Lib.hid (fun p h => per_pre s p h)
    go_enter Tryd.func23, Tryd.ntmps23
    go_wp2_with fail
    refine (IsWord_any s _ hs).mono ?_
    rw [hw]
    rintro e w1 ⟨rfl, k1⟩
    have K1 := Lib.hid k1
    clear hw k1
    go_wp2
    go_loopg [4] s.size (fun kk i wr => ∃ k : Nat, 1 ≤ k ∧ (k ≤ s.size ∨ k = 1) ∧ kk = s.size + 1 - k ∧ i = .int .i64 k ∧ Hid (perF s (s.size - k) k = V) ∧ Hid (Keep w1 wr))
    case atStart => exact ⟨1, Nat.le_refl _, .inr rfl, by omega, rfl, HV, Lib.hid (Below.refl _ _)⟩
    case round =>
      obtain ⟨k, hk1, hk2, rfl, rfl, HP, HK⟩ := hrel
      by_cases hlt : k < s.size
      · have hki : (k : Int) < (s.size : Int) := by omega
        have hkj : (k : Int) ≤ (s.size : Int) := by omega
        have hk0 : (0 : Int) ≤ (k : Int) := by omega
        have HPK := Lib.hid (HP0.out k (by omega))
        have HC := Lib.hid (Tryd.strings_HasPrefix s (s.extract k s.size) wr)
        rw [HPK.out] at HC
        cases hc : perC s k
        · have HNk := Lib.hid (HN.out k hlt hc)
          rw [hc] at HC
          go_wp2_with (go_at_call 52; refine HC.out.mono ?_; rintro e w' ⟨rfl, rfl⟩)
          go_roundg (s.size + 1 - (k + 1))
          case measure => omega
          case rel => exact ⟨k + 1, by omega, by omega, rfl, by go_num, Lib.hid (by rw [← HNk.out]; exact HP.out), HK⟩
        · have HYk := Lib.hid (HY.out k hlt hc)
          rw [hc] at HC
          go_wp2_with (go_at_call 52; refine HC.out.mono ?_; rintro e w' ⟨rfl, rfl⟩)
          go_ret2
          exact ⟨by rw [← HP.out, HYk.out]; rfl, K1.out.next HK.out⟩
      · have hki : ¬ (k : Int) < (s.size : Int) := by omega
        have HEk := Lib.hid (HE.out k (by omega))
        go_wp2
        go_ret2
        exact ⟨by rw [← HP.out, HEk.out]; rfl, K1.out.next HK.out⟩
end Go.Proofs.YtlkljhncpojlkabDoor
