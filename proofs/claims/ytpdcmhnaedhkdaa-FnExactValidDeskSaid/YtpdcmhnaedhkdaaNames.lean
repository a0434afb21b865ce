/- Names: letters a to z. -/
import Derived.Test.YtpdcmhnaedhkdaaPlain
import Derived.Laws.RangeAny
namespace Go.Proofs.Ytpdcmhnaedhkdaa
open Go.ChangeShapes Go.WideShapes Go.ChangeAt Go.RowKit
set_option linter.unusedVariables false
/-- The first k bytes are letters a to z. -/
def LowTo (s : ByteArray) (k : Nat) : Prop := ∀ j (h : j < s.size), j < k → 97 ≤ (s[j]'h).toNat ∧ (s[j]'h).toNat ≤ 122
theorem LowTo.succ {s : ByteArray} {k : Nat} (h : LowTo s k) (hk : k < s.size) (h1 : 97 ≤ (s[k]'hk).toNat) (h2 : (s[k]'hk).toNat ≤ 122) : LowTo s (k + 1) := by
  intro j hj hjk
  rcases Nat.lt_or_eq_of_le (Nat.le_of_lt_succ hjk) with h3 | h3
  · exact h j hj h3
  · subst h3; exact ⟨h1, h2⟩
def nameB (s : ByteArray) : Bool := decide (1 ≤ s.size ∧ s.size ≤ 9 ∧ ∀ j (h : j < s.size), 97 ≤ (s[j]'h).toNat ∧ (s[j]'h).toNat ≤ 122)
theorem nameB_no {s : ByteArray} {k : Nat} (hk : k < s.size) (h : (s[k]'hk).toNat < 97 ∨ 122 < (s[k]'hk).toNat) : nameB s = false := by
  unfold nameB; rw [decide_eq_false_iff_not]
  rintro ⟨_, _, h3⟩
  have := h3 k hk; omega
theorem nameB_size {s : ByteArray} (h : s.size < 1 ∨ 9 < s.size) : nameB s = false := by
  unfold nameB; rw [decide_eq_false_iff_not]
  rintro ⟨h1, h2, _⟩; omega
theorem nameB_yes {s : ByteArray} (h1 : 1 ≤ s.size) (h2 : s.size ≤ 9) (h : LowTo s s.size) : nameB s = true := by
  unfold nameB; rw [decide_eq_true_eq]
  exact ⟨h1, h2, fun j hj => h j hj hj⟩
set_option maxHeartbeats 400000 in
theorem specIsName_any (s : ByteArray) (w : World) (hs : s.size ≤ 1048576) :
    Calls Try.prog 116 #[.string s] w fun e w' => e = .returned (.bool (nameB s)) ∧ Keep0 w w' := by
  go_enter Try.func116, Try.ntmps116
  go_wp2
  go_loop [3] (fun i => ∃ k : Nat, k ≤ s.size ∧ i = .int .i64 k ∧ Hid (LowTo s k)) (fun i => s.size - (intOf i).toNat)
  case atStart => exact ⟨0, Nat.zero_le _, rfl, Lib.hid (fun j _ hj => by omega)⟩
  case round =>
    obtain ⟨k, hk, rfl, HL⟩ := hrel
    by_cases hlt : k < s.size
    · have HN := Lib.hid (fun h => nameB_no hlt h)
      have HSU := Lib.hid (fun h1 h2 => HL.out.succ hlt h1 h2)
      have hb := (s[k]'hlt).toNat_lt
      by_cases q1 : (s[k]'hlt).toNat < 97
      · have q1i : (((s[k]'hlt).toNat : Int)) < 97 := by omega
        go_wp2
        go_ret
        exact ⟨ret_bool (HN.out (.inl q1)).symm, Below.refl _ _⟩
      · have q1i : ¬ (((s[k]'hlt).toNat : Int)) < 97 := by omega
        by_cases q2 : 122 < (s[k]'hlt).toNat
        · have q2i : (122 : Int) < (((s[k]'hlt).toNat : Int)) := by omega
          go_wp2
          go_ret
          exact ⟨ret_bool (HN.out (.inr q2)).symm, Below.refl _ _⟩
        · have q2i : ¬ (122 : Int) < (((s[k]'hlt).toNat : Int)) := by omega
          go_wp2
          go_round
          case rel => exact ⟨k + 1, by omega, by go_num, Lib.hid (HSU.out (by omega) (by omega))⟩
          case measure => simp [intOf]; omega
    · have HK := Lib.hid (show k = s.size from by omega)
      by_cases q1 : 1 ≤ s.size
      · have q1i : (1 : Int) ≤ (s.size : Int) := by omega
        by_cases q2 : s.size ≤ 9
        · have q2i : (s.size : Int) ≤ 9 := by omega
          go_wp2
          go_ret
          refine ⟨ret_bool ?_, Below.refl _ _⟩
          rw [nameB_yes q1 q2 (by rw [← HK.out]; exact HL.out)]; try (simp; try omega)
        · have q2i : ¬ (s.size : Int) ≤ 9 := by omega
          go_wp2
          go_ret
          refine ⟨ret_bool ?_, Below.refl _ _⟩
          rw [nameB_size (by omega)]; try (simp; try omega)
      · have q1i : ¬ (1 : Int) ≤ (s.size : Int) := by omega
        go_wp2
        go_ret
        exact ⟨ret_bool (nameB_size (by omega)).symm, Below.refl _ _⟩
theorem isSmallLetter_any (r : Int) (w : World) :
    Calls Try.prog 117 #[.int .i32 r] w fun e w' => e = .returned (.bool (inB r 97 122)) ∧ w = w' := by
  go_enter Try.func117, Try.ntmps117
  go_wp2
  · go_ret
    exact ⟨by simp [inB, *], rfl⟩
  · go_ret
    exact ⟨ret_bool (by symm; rw [inB_not]; omega), rfl⟩
set_option maxHeartbeats 400000 in
theorem IsName_any (s : ByteArray) (w : World) (hs : s.size ≤ 1048576) :
    Calls Try.prog 80 #[.string s] w fun e w' => e = .returned (.bool (nameB s)) ∧ Keep0 w w' := by
  by_cases q1 : 1 ≤ s.size
  case neg =>
    have q1i : (s.size : Int) < 1 := by omega
    rw [nameB_size (by omega)]
    go_enter Try.func80, Try.ntmps80
    go_wp2
    go_ret
    exact ⟨rfl, Below.refl _ _⟩
  by_cases q2 : s.size ≤ 9
  case neg =>
    have q1i : ¬ (s.size : Int) < 1 := by omega
    have q2i : (9 : Int) < (s.size : Int) := by omega
    rw [nameB_size (by omega)]
    go_enter Try.func80, Try.ntmps80
    go_wp2
    go_ret
    exact ⟨rfl, Below.refl _ _⟩
  have q1i : ¬ (s.size : Int) < 1 := by omega
  have q2i : ¬ (9 : Int) < (s.size : Int) := by omega
  go_enter Try.func80, Try.ntmps80
  go_wp2
  go_loopw [4] (fun _ wr => ∃ pos : Nat, pos ≤ s.size ∧ wr = w.iter s pos ∧ Hid (LowTo s pos)) (fun _ wr => s.size - wr.iterPos w.heap.size)
  case atStart => exact ⟨0, Nat.zero_le _, rfl, Lib.hid (fun j _ hj => by omega)⟩
  case round =>
    obtain ⟨pos, hp, rfl, HL⟩ := hrel
    by_cases hlt : pos < s.size
    · have HN := Lib.hid (fun h => nameB_no hlt h)
      have HSU := Lib.hid (fun h1 h2 => HL.out.succ hlt h1 h2)
      have hb := (s[pos]'hlt).toNat_lt
      by_cases q3 : (s[pos]'hlt).toNat < 128
      · have hnx := fun ty => run_next_ascii (P := Try.prog) w s pos ty hlt q3
        generalize hgb : (s[pos]'hlt).toNat = b at *
        clear hgb
        cases q4 : inB (b : Int) 97 122
        · have q5 := inB_not.1 q4
          go_wp2_with (go_at_call 117; refine (isSmallLetter_any _ _).mono ?_; rintro e w' ⟨rfl, rfl⟩)
          go_ret
          exact ⟨ret_bool (HN.out (by omega)).symm, (Below.refl _ _).alloc (Nat.le_refl _) _⟩
        · have q5 := inB_iff.1 q4
          go_wp2_with (go_at_call 117; refine (isSmallLetter_any _ _).mono ?_; rintro e w' ⟨rfl, rfl⟩)
          go_roundw
          case rel => exact ⟨pos + 1, by omega, rfl, Lib.hid (HSU.out (by omega) (by omega))⟩
          case measure => simp; omega
      · have hnx := fun ty => run_next_any (P := Try.prog) w s pos ty hlt
        have hd := (decode_high s pos hlt (by omega)).1
        have HBIG := Lib.hid (HN.out (.inr (by omega)))
        generalize (Utf8.decode s pos).2 = wd at hnx
        generalize (Utf8.decode s pos).1 = r at hnx hd
        have q4 : inB (r : Int) 97 122 = false := inB_not.2 (by omega)
        go_wp2_with (go_at_call 117; refine (isSmallLetter_any _ _).mono ?_; rintro e w' ⟨rfl, rfl⟩)
        go_ret
        exact ⟨ret_bool HBIG.out.symm, (Below.refl _ _).alloc (Nat.le_refl _) _⟩
    · have hnx := fun ty => run_next_end (P := Try.prog) w s pos ty hlt
      have HK := Lib.hid (show pos = s.size from by omega)
      go_wp2
      go_ret
      refine ⟨ret_bool ?_, (Below.refl _ _).alloc (Nat.le_refl _) _⟩
      symm; exact nameB_yes q1 q2 (by rw [← HK.out]; exact HL.out)
end Go.Proofs.Ytpdcmhnaedhkdaa
