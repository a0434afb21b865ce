/- The model's reader of numbers. -/
import Derived.Test.YtpdcmhnaedhkdaaGreatDoorNum
namespace Go.Proofs.YtpdcmhnaedhkdaaGreatDoor
open Go.ChangeShapes Go.WideShapes Go.ChangeAt Go.RowKit
set_option linter.unusedVariables false
theorem in00_one (n lo hi : Int) (w : World) :
    Calls Tryz.prog 88 #[.int .i64 n, .int .i64 lo, .int .i64 hi] w fun e w' => e = .returned (.bool (inB n lo hi)) ∧ w = w' := by
  go_enter Tryz.func88, Tryz.ntmps88
  go_wp2
  · go_ret
    exact ⟨by simp [inB, *], rfl⟩
  · go_ret
    exact ⟨ret_bool (by symm; rw [inB_not]; omega), rfl⟩
/-- The value of the digits from place f up to place k. -/
def dTo (s : ByteArray) (f k : Nat) : Int := dval ((s.data.toList.drop f).take (k - f))
theorem dTo_self (s : ByteArray) (f : Nat) : dTo s f f = 0 := by simp [dTo, dval]
theorem dTo_succ (s : ByteArray) (f k : Nat) (hf : f ≤ k) (hk : k < s.size) : dTo s f (k + 1) = 10 * dTo s f k + (((s[k]'hk).toNat : Int) - 48) := by
  unfold dTo
  have h1 : k + 1 - f = (k - f) + 1 := by omega
  have h2 : k - f < (s.data.toList.drop f).length := by rw [List.length_drop]; simp; omega
  rw [h1, List.take_succ_eq_append_getElem h2, dval_snoc, List.getElem_drop]
  have h3 : f + (k - f) = k := by omega
  simp only [h3]; rfl
/-- All bytes from f up to k are digits. -/
def DigTo (s : ByteArray) (f k : Nat) : Prop := ∀ j (h : j < s.size), f ≤ j → j < k → 48 ≤ (s[j]'h).toNat ∧ (s[j]'h).toNat ≤ 57
theorem dTo_bd (s : ByteArray) (f : Nat) : ∀ k, f ≤ k → k ≤ s.size → k - f ≤ 10 → DigTo s f k → 0 ≤ dTo s f k ∧ dTo s f k < 10 ^ (k - f) := by
  intro k
  induction k with
  | zero => intro h1 h2 h3 h4; have : f = 0 := by omega
            subst this; rw [dTo_self]; simp
  | succ k ih =>
    intro h1 h2 h3 h4
    by_cases h5 : f = k + 1
    · subst h5; rw [dTo_self]; simp
    · obtain ⟨i1, i2⟩ := ih (by omega) (by omega) (by omega) (fun j hj a b => h4 j hj a (by omega))
      have h6 := h4 k (by omega) (by omega) (by omega)
      rw [dTo_succ s f k (by omega) (by omega), show k + 1 - f = (k - f) + 1 from by omega, Int.pow_succ]
      omega
theorem pow_ten : ∀ d : Fin 11, (10 : Int) ^ d.val ≤ 10000000000 := by decide
theorem dTo_lt (s : ByteArray) (f k : Nat) (h1 : f ≤ k) (h2 : k ≤ s.size) (h3 : k - f ≤ 10) (h4 : DigTo s f k) : 0 ≤ dTo s f k ∧ dTo s f k < 10000000000 := by
  have a := dTo_bd s f k h1 h2 h3 h4
  have b := pow_ten ⟨k - f, by omega⟩
  simp only [] at b
  omega
theorem DigTo.next {s : ByteArray} {f k : Nat} (h : DigTo s f k) (hk : k < s.size) (h1 : 48 ≤ (s[k]'hk).toNat) (h2 : (s[k]'hk).toNat ≤ 57) : DigTo s f (k + 1) := by
  intro j hj a b
  rcases Nat.lt_or_eq_of_le (Nat.le_of_lt_succ b) with h3 | h3
  · exact h j hj a h3
  · subst h3; exact ⟨h1, h2⟩
theorem dec_digits (u : Nat) : ∀ c ∈ Lib.decDigits u, 48 ≤ c.toNat ∧ c.toNat ≤ 57 := by
  induction u using Nat.strongRecOn with
  | _ u ih =>
    have hd := dch_nat u
    unfold dch at hd
    by_cases h : u < 10
    · rw [dec_small h]
      rw [Nat.mod_eq_of_lt h] at hd
      intro c hc; simp only [List.mem_singleton] at hc; subst hc; omega
    · rw [dec_big h]
      intro c hc
      rcases List.mem_append.1 hc with hc | hc
      · exact ih (u / 10) (by omega) c hc
      · simp only [List.mem_singleton] at hc; subst hc; omega
/-- What a text looks like that is the Decimal of a number in the range. f: where its digits begin. -/
theorem form (s : ByteArray) (n : Int) (h1 : -1000000000 ≤ n) (h2 : n ≤ 1000000000) (h : Lib.itoa n = s.data.toList) (f : Nat) (hf : f = if 0 < s.size ∧ s.data.toList[0]? = some 45 then 1 else 0) :
    f + 1 ≤ s.size ∧ s.size ≤ f + 10 ∧ DigTo s f s.size := by
  have hsz : s.data.toList.length = s.size := by simp
  have hl : (Lib.decDigits n.natAbs).length ≤ 10 := dec_len n.natAbs 10 (by omega) (by omega)
  obtain ⟨c, r, hc, hc1, hc2⟩ := dec_head n.natAbs
  have hpos : 1 ≤ (Lib.decDigits n.natAbs).length := by rw [hc]; simp
  have hall := dec_digits n.natAbs
  have key : ∀ g, s.data.toList.drop g = Lib.decDigits n.natAbs → g ≤ s.size → DigTo s g s.size := fun g hg _ j hj hgj _ => by
    apply hall
    rw [← hg]
    have : (s.data.toList.drop g)[j - g]? = some (s[j]'hj) := by
      rw [List.getElem?_drop, show g + (j - g) = j from by omega, List.getElem?_eq_getElem (by simpa using hj)]; rfl
    exact List.mem_of_getElem? this
  unfold Lib.itoa at h
  split at h
  · have hh : s.data.toList[0]? = some 45 := by rw [← h]; rfl
    have hs : s.size = (Lib.decDigits n.natAbs).length + 1 := by rw [← hsz, ← h]; simp
    rw [if_pos ⟨by omega, hh⟩] at hf
    subst hf
    exact ⟨by omega, by omega, key 1 (by rw [← h]; rfl) (by omega)⟩
  · rw [show n.toNat = n.natAbs from by omega] at h
    have hs : s.size = (Lib.decDigits n.natAbs).length := by rw [← hsz, ← h]
    have hh : ¬ (0 < s.size ∧ s.data.toList[0]? = some 45) := by
      rintro ⟨_, hh⟩
      rw [← h, hc] at hh
      simp at hh; subst hh; simp at hc1
    rw [if_neg hh] at hf
    subst hf
    exact ⟨by omega, by omega, key 0 (by rw [← h]; rfl) (by omega)⟩
theorem no_form {s : ByteArray} {f : Nat} (hf : f = if 0 < s.size ∧ s.data.toList[0]? = some 45 then 1 else 0) (h : ¬ (f + 1 ≤ s.size ∧ s.size ≤ f + 10 ∧ DigTo s f s.size)) : rdOk s.data.toList = false ∧ rdV s.data.toList = 0 :=
  rd_no (fun n h1 h2 h3 => h (form s n h1 h2 h3 f hf))
/-- The number that the model's reader has come to. -/
theorem num_at (s : ByteArray) (f : Nat) (hf : f = if 0 < s.size ∧ s.data.toList[0]? = some 45 then 1 else 0) (h : f + 1 ≤ s.size) : numL s.data.toList = if f = 1 then -dTo s f s.size else dTo s f s.size := by
  have hsz : s.data.toList.length = s.size := by simp
  have hd : dTo s f s.size = dval (s.data.toList.drop f) := by
    unfold dTo; rw [List.take_of_length_le (by rw [List.length_drop]; omega)]
  rw [hd]
  cases hl : s.data.toList with
  | nil => rw [hl] at hsz; simp at hsz; omega
  | cons c r =>
    by_cases hc : c = 45
    · subst hc
      rw [hl, if_pos ⟨by omega, rfl⟩] at hf
      subst hf
      simp [numL]
    · have : ¬ (0 < s.size ∧ s.data.toList[0]? = some 45) := by rintro ⟨_, h2⟩; rw [hl] at h2; simp at h2; exact hc h2
      rw [if_neg this] at hf
      subst hf
      simp [numL, hc]
set_option maxHeartbeats 3200000 in
theorem l01Value_any (s : ByteArray) (w : World) (hs : s.size ≤ 1048576) :
    Calls Tryz.prog 66 #[.string s] w fun e w' => e = .returned (.tuple #[.int .i64 (rdV s.data.toList), .bool (rdOk s.data.toList)]) ∧ Keep0 w w' := by
  obtain ⟨f, hf⟩ : ∃ f : Nat, f = if 0 < s.size ∧ s.data.toList[0]? = some 45 then 1 else 0 := ⟨_, rfl⟩
  have HNF := Lib.hid (fun h => no_form hf h)
  by_cases h0 : 0 < s.size
  case neg =>
    have h0i : ¬ (0 : Int) < (s.size : Int) := by omega
    obtain ⟨r1, r2⟩ := HNF.out (by omega)
    rw [r1, r2]
    go_enter Tryz.func66, Tryz.ntmps66
    go_wp2
    go_ret2
    exact ⟨rfl, Below.refl _ _⟩
  have h0i : (0 : Int) < (s.size : Int) := by omega
  have hb0 : s.data.toList[0]? = some (s[0]'h0) := by rw [List.getElem?_eq_getElem (by simpa using h0)]; rfl
  have HF : Hid (f = if (s[0]'h0) = 45 then 1 else 0) := by
    rw [hb0] at hf
    by_cases hc : (s[0]'h0) = 45
    · rw [if_pos ⟨h0, by rw [hc]⟩] at hf; rw [if_pos hc]; exact hf
    · rw [if_neg (by rintro ⟨_, h2⟩; exact hc (Option.some.inj h2))] at hf; rw [if_neg hc]; exact hf
  have HNA := Lib.hid (num_at s f hf)
  clear hf hb0
  by_cases hc : (s[0]'h0) = 45
  · obtain rfl : f = 1 := by rw [HF.out, if_pos hc]
    have hci : (((s[0]'h0).toNat : Int) == 45) = true := by rw [hc]; rfl
    by_cases hlen : 1 + 1 ≤ s.size ∧ s.size ≤ 1 + 10
    case neg =>
      obtain ⟨r1, r2⟩ := HNF.out (fun h => hlen ⟨h.1, h.2.1⟩)
      rw [r1, r2]
      by_cases hl2 : (s.size : Int) - 1 < 1
      · go_enter Tryz.func66, Tryz.ntmps66
        go_wp2
        go_ret2
        exact ⟨rfl, Below.refl _ _⟩
      · have hl3 : (10 : Int) < (s.size : Int) - 1 := by omega
        go_enter Tryz.func66, Tryz.ntmps66
        go_wp2
        go_ret2
        exact ⟨rfl, Below.refl _ _⟩
    obtain ⟨hl1, hl2⟩ := hlen
    have hl3 : ¬ (s.size : Int) - 1 < 1 := by omega
    have hl4 : ¬ (10 : Int) < (s.size : Int) - 1 := by omega
    have HNB : Hid (¬ DigTo s 1 s.size → rdOk s.data.toList = false ∧ rdV s.data.toList = 0) := Lib.hid (fun h => HNF.out (fun h2 => h h2.2.2))
    have HNV : Hid (numL s.data.toList = -dTo s 1 s.size) := Lib.hid (by rw [HNA.out (by omega)]; simp)
    clear HNF HNA
    have HCI := Lib.hid hci
    go_enter Tryz.func66, Tryz.ntmps66
    go_wp2
    go_loop [5, 6] (fun n i => ∃ k : Nat, 1 ≤ k ∧ k ≤ s.size ∧ i = .int .i64 k ∧ n = .int .i64 (dTo s 1 k) ∧ Hid (DigTo s 1 k)) (fun _ i => s.size - (intOf i).toNat)
    case atStart => exact ⟨1, by omega, by omega, rfl, by rw [dTo_self], Lib.hid (fun j _ a b => by omega)⟩
    case round =>
      obtain ⟨k, hk1, hk2, rfl, rfl, HD⟩ := hrel
      by_cases hlt : k < s.size
      · have HSU := Lib.hid (fun h1 h2 => HD.out.next hlt h1 h2)
        have HV := Lib.hid (dTo_succ s 1 k hk1 hlt)
        have hbd := dTo_lt s 1 k hk1 hk2 (by omega) HD.out
        have hb := (s[k]'hlt).toNat_lt
        have HBAD : Hid ((s[k]'hlt).toNat < 48 ∨ 57 < (s[k]'hlt).toNat → rdOk s.data.toList = false ∧ rdV s.data.toList = 0) := Lib.hid (fun h => HNB.out (fun h2 => by have := h2 k hlt hk1 hlt; omega))
        generalize dTo s 1 k = x at hbd HV
        by_cases q1 : (s[k]'hlt).toNat < 48
        · have q1i : ((s[k]'hlt).toNat : Int) < 48 := by omega
          go_wp2
          go_ret2
          exact ⟨by rw [(HBAD.out (.inl q1)).1, (HBAD.out (.inl q1)).2]; rfl, Below.refl _ _⟩
        · have q1i : ¬ ((s[k]'hlt).toNat : Int) < 48 := by omega
          by_cases q2 : 57 < (s[k]'hlt).toNat
          · have q2i : (57 : Int) < ((s[k]'hlt).toNat : Int) := by omega
            go_wp2
            go_ret2
            exact ⟨by rw [(HBAD.out (.inr q2)).1, (HBAD.out (.inr q2)).2]; rfl, Below.refl _ _⟩
          · have q2i : ¬ (57 : Int) < ((s[k]'hlt).toNat : Int) := by omega
            go_wp2
            go_round
            case rel => exact ⟨k + 1, by omega, by omega, by go_num, by rw [HV.out], Lib.hid (HSU.out (by omega) (by omega))⟩
            case measure => simp [intOf]; omega
      · have HK := Lib.hid (show k = s.size from by omega)
        have hbd := dTo_lt s 1 k hk1 hk2 (by omega) HD.out
        have HNV2 : Hid (numL s.data.toList = -dTo s 1 k) := Lib.hid (by rw [HNV.out, HK.out])
        generalize dTo s 1 k = x at hbd HNV2
        have HR : Hid (rdOk s.data.toList = (inB (-x) (-1000000000) 1000000000 && decide (Lib.itoa (-x) = s.data.toList))) := Lib.hid (by unfold rdOk; rw [HNV2.out])
        cases hin : inB (-x) (-1000000000) 1000000000
        · have h1 : rdOk s.data.toList = false := by rw [HR.out, hin]; rfl
          have h2 : rdV s.data.toList = 0 := by unfold rdV; rw [h1]; rfl
          have HH := Lib.hid (And.intro h1 h2); clear h1 h2
          go_wp2_with (go_at_call 88; refine (in00_one _ _ _ _).mono ?_; rintro e w' ⟨rfl, rfl⟩)
          go_ret2
          exact ⟨by rw [HH.out.1, HH.out.2]; rfl, Below.refl _ _⟩
        · go_wp2_with (first | (go_at_call 88; refine (in00_one _ _ _ _).mono ?_; rintro e w' ⟨rfl, rfl⟩) | (go_at_call 89; refine (l01Dec_any _ _ ⟨by omega, by omega⟩).mono ?_; rintro e w1 ⟨rfl, k1⟩))
          · have hne : (!Lib.itoa (-x) == s.toList) = true := by assumption
            go_ret2
            have h1 : rdOk s.data.toList = false := by
              rw [HR.out, hin, Bool.true_and, decide_eq_false_iff_not]
              intro h; rw [h, ← ByteArray.toList_eq] at hne; simp at hne
            have h2 : rdV s.data.toList = 0 := by unfold rdV; rw [h1]; rfl
            exact ⟨by rw [h1, h2]; rfl, k1⟩
          · have heq : (!Lib.itoa (-x) == s.toList) = false := by assumption
            go_ret2
            have h1 : rdOk s.data.toList = true := by
              rw [HR.out, hin, Bool.true_and, decide_eq_true_eq, ← ByteArray.toList_eq]; simpa using heq
            have h2 : rdV s.data.toList = -x := by unfold rdV; rw [h1, if_pos rfl, HNV2.out]
            exact ⟨by rw [h1, h2]; rfl, k1⟩
  · obtain rfl : f = 0 := by rw [HF.out, if_neg hc]
    have hci : (((s[0]'h0).toNat : Int) == 45) = false := by rw [beq_eq_false_iff_ne]; intro h; apply hc; apply UInt8.toNat_inj.1; simp; omega
    by_cases hlen : 0 + 1 ≤ s.size ∧ s.size ≤ 0 + 10
    case neg =>
      obtain ⟨r1, r2⟩ := HNF.out (fun h => hlen ⟨h.1, h.2.1⟩)
      rw [r1, r2]
      by_cases hl2 : (s.size : Int) < 1
      · go_enter Tryz.func66, Tryz.ntmps66
        go_wp2
        go_ret2
        exact ⟨rfl, Below.refl _ _⟩
      · have hl3 : (10 : Int) < (s.size : Int) := by omega
        go_enter Tryz.func66, Tryz.ntmps66
        go_wp2
        go_ret2
        exact ⟨rfl, Below.refl _ _⟩
    obtain ⟨hl1, hl2⟩ := hlen
    have hl3 : ¬ (s.size : Int) < 1 := by omega
    have hl4 : ¬ (10 : Int) < (s.size : Int) := by omega
    have HNB : Hid (¬ DigTo s 0 s.size → rdOk s.data.toList = false ∧ rdV s.data.toList = 0) := Lib.hid (fun h => HNF.out (fun h2 => h h2.2.2))
    have HNV : Hid (numL s.data.toList = dTo s 0 s.size) := Lib.hid (by rw [HNA.out (by omega)]; simp)
    clear HNF HNA
    have HCI := Lib.hid hci
    go_enter Tryz.func66, Tryz.ntmps66
    go_wp2
    go_loop [5, 6] (fun n i => ∃ k : Nat, 0 ≤ k ∧ k ≤ s.size ∧ i = .int .i64 k ∧ n = .int .i64 (dTo s 0 k) ∧ Hid (DigTo s 0 k)) (fun _ i => s.size - (intOf i).toNat)
    case atStart => exact ⟨0, by omega, by omega, rfl, by rw [dTo_self], Lib.hid (fun j _ a b => by omega)⟩
    case round =>
      obtain ⟨k, hk1, hk2, rfl, rfl, HD⟩ := hrel
      by_cases hlt : k < s.size
      · have HSU := Lib.hid (fun h1 h2 => HD.out.next hlt h1 h2)
        have HV := Lib.hid (dTo_succ s 0 k hk1 hlt)
        have hbd := dTo_lt s 0 k hk1 hk2 (by omega) HD.out
        have hb := (s[k]'hlt).toNat_lt
        have HBAD : Hid ((s[k]'hlt).toNat < 48 ∨ 57 < (s[k]'hlt).toNat → rdOk s.data.toList = false ∧ rdV s.data.toList = 0) := Lib.hid (fun h => HNB.out (fun h2 => by have := h2 k hlt hk1 hlt; omega))
        generalize dTo s 0 k = x at hbd HV
        by_cases q1 : (s[k]'hlt).toNat < 48
        · have q1i : ((s[k]'hlt).toNat : Int) < 48 := by omega
          go_wp2
          go_ret2
          exact ⟨by rw [(HBAD.out (.inl q1)).1, (HBAD.out (.inl q1)).2]; rfl, Below.refl _ _⟩
        · have q1i : ¬ ((s[k]'hlt).toNat : Int) < 48 := by omega
          by_cases q2 : 57 < (s[k]'hlt).toNat
          · have q2i : (57 : Int) < ((s[k]'hlt).toNat : Int) := by omega
            go_wp2
            go_ret2
            exact ⟨by rw [(HBAD.out (.inr q2)).1, (HBAD.out (.inr q2)).2]; rfl, Below.refl _ _⟩
          · have q2i : ¬ (57 : Int) < ((s[k]'hlt).toNat : Int) := by omega
            go_wp2
            go_round
            case rel => exact ⟨k + 1, by omega, by omega, by go_num, by rw [HV.out], Lib.hid (HSU.out (by omega) (by omega))⟩
            case measure => simp [intOf]; omega
      · have HK := Lib.hid (show k = s.size from by omega)
        have hbd := dTo_lt s 0 k hk1 hk2 (by omega) HD.out
        have HNV2 : Hid (numL s.data.toList = dTo s 0 k) := Lib.hid (by rw [HNV.out, HK.out])
        generalize dTo s 0 k = x at hbd HNV2
        have HR : Hid (rdOk s.data.toList = (inB (x) (-1000000000) 1000000000 && decide (Lib.itoa (x) = s.data.toList))) := Lib.hid (by unfold rdOk; rw [HNV2.out])
        cases hin : inB (x) (-1000000000) 1000000000
        · have h1 : rdOk s.data.toList = false := by rw [HR.out, hin]; rfl
          have h2 : rdV s.data.toList = 0 := by unfold rdV; rw [h1]; rfl
          have HH := Lib.hid (And.intro h1 h2); clear h1 h2
          go_wp2_with (go_at_call 88; refine (in00_one _ _ _ _).mono ?_; rintro e w' ⟨rfl, rfl⟩)
          go_ret2
          exact ⟨by rw [HH.out.1, HH.out.2]; rfl, Below.refl _ _⟩
        · go_wp2_with (first | (go_at_call 88; refine (in00_one _ _ _ _).mono ?_; rintro e w' ⟨rfl, rfl⟩) | (go_at_call 89; refine (l01Dec_any _ _ ⟨by omega, by omega⟩).mono ?_; rintro e w1 ⟨rfl, k1⟩))
          · have hne : (!Lib.itoa (x) == s.toList) = true := by assumption
            go_ret2
            have h1 : rdOk s.data.toList = false := by
              rw [HR.out, hin, Bool.true_and, decide_eq_false_iff_not]
              intro h; rw [h, ← ByteArray.toList_eq] at hne; simp at hne
            have h2 : rdV s.data.toList = 0 := by unfold rdV; rw [h1]; rfl
            exact ⟨by rw [h1, h2]; rfl, k1⟩
          · have heq : (!Lib.itoa (x) == s.toList) = false := by assumption
            go_ret2
            have h1 : rdOk s.data.toList = true := by
              rw [HR.out, hin, Bool.true_and, decide_eq_true_eq, ← ByteArray.toList_eq]; simpa using heq
            have h2 : rdV s.data.toList = x := by unfold rdV; rw [h1, if_pos rfl, HNV2.out]
            exact ⟨by rw [h1, h2]; rfl, k1⟩
end Go.Proofs.YtpdcmhnaedhkdaaGreatDoor
