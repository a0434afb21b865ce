/- Decimal texts. -/
import Derived.Test.YtpdcmhnaedhkdabDoorPlain
import Derived.Lib.ItoaNum
import Derived.Laws.IdiomStrings
import Derived.Laws.Concat
import Derived.Laws.BytesString
namespace Go.Proofs.YtpdcmhnaedhkdabDoor
open Go.ChangeShapes Go.WideShapes Go.ChangeAt Go.RowKit
set_option linter.unusedVariables false
/-- The digit of a number below 10. -/
def dch (u : Nat) : UInt8 := UInt8.ofNat (48 + u % 10)
theorem dch_nat (u : Nat) : (dch u).toNat = 48 + u % 10 := by unfold dch; rw [UInt8.toNat_ofNat']; omega
theorem cat_one (b : UInt8) (x : List UInt8) : (⟨[b].toArray⟩ : ByteArray) ++ ⟨x.toArray⟩ = ⟨(b :: x).toArray⟩ := by rw [ByteArray.mk_append_mk]; simp
theorem dec_small {u : Nat} (h : u < 10) : Lib.decDigits u = [UInt8.ofNat (48 + u)] := by rw [Lib.decDigits, dif_pos h]
theorem dec_big {u : Nat} (h : ¬ u < 10) : Lib.decDigits u = Lib.decDigits (u / 10) ++ [UInt8.ofNat (48 + u % 10)] := by rw [Lib.decDigits, dif_neg h]
theorem dec_len (u : Nat) : ∀ k, 0 < k → u < 10 ^ k → (Lib.decDigits u).length ≤ k := by
  intro k
  induction k generalizing u with
  | zero => intro h; omega
  | succ k ih =>
    intro _ h
    by_cases h2 : u < 10
    · rw [dec_small h2]; simp
    · rw [dec_big h2, List.length_append]
      have h3 : u / 10 < 10 ^ k := by rw [Nat.pow_succ] at h; omega
      have : 0 < k := by
        rcases Nat.eq_zero_or_pos k with h0 | h0
        · subst h0; simp at h; omega
        · exact h0
      have := ih (u / 10) this h3
      simp; omega
/-- One round of the model's loop: the last digit, and what is left. -/
theorem dec_step (r : Int) (o : List UInt8) (u : Nat) (h : Lib.decDigits u = Lib.decDigits r.natAbs ++ o) :
    (r.tdiv 10 ≠ 0 → Lib.decDigits u = Lib.decDigits (r.tdiv 10).natAbs ++ (dch r.natAbs :: o)) ∧ (r.tdiv 10 = 0 → Lib.decDigits u = dch r.natAbs :: o) := by
  have e : (r.tdiv 10).natAbs = r.natAbs / 10 := by rw [Int.natAbs_tdiv]; rfl
  constructor
  · intro h0
    have h1 : ¬ r.natAbs < 10 := by
      intro h2; apply h0
      have : (r.tdiv 10).natAbs = 0 := by rw [e]; omega
      omega
    rw [h, dec_big h1, e]; simp [dch]
  · intro h0
    have h1 : r.natAbs < 10 := by
      have : (r.tdiv 10).natAbs = 0 := by rw [h0]; rfl
      rw [e] at this; omega
    rw [h, dec_small h1]; unfold dch; rw [Nat.mod_eq_of_lt h1]; rfl
theorem tmod10 (r : Int) : -9 ≤ r.tmod 10 ∧ r.tmod 10 ≤ 9 ∧ (r.tmod 10).natAbs = r.natAbs % 10 := by
  have h1 := Int.lt_tmod_of_pos r (show (0 : Int) < 10 by omega)
  have h2 := Int.tmod_lt_of_pos r (show (0 : Int) < 10 by omega)
  exact ⟨by omega, by omega, by rw [Int.natAbs_tmod]; rfl⟩
theorem conv_digit (W : World) (d : Int) (u : Nat) (h : d = (u % 10 : Nat)) : (convert 34 9 (.slice (some ⟨W.heap.size, 0, none⟩) 1 1)).run Tryd.prog (W.alloc (.cells #[.int .u8 (48 + d)] 5)) = .ok (.string ⟨[dch u].toArray⟩) (W.alloc (.cells #[.int .u8 (48 + d)] 5)) := by
  refine run_convert_bytes_back (P := Tryd.prog) (W.alloc (.cells #[.int .u8 (48 + d)] 5)) 34 9 5 ⟨W.heap.size, 0, none⟩ 1 [dch u] Tryd.underlying34 Tryd.underlying5 Tryd.underlying9 ?_
  intro j hj
  have : j = 0 := by simpa using hj
  subst this
  have e : ([dch u][0]'hj).toNat = 48 + u % 10 := dch_nat u
  rw [e]
  simp [Addr.add]; omega
theorem Keep0.step {w wr : World} (h : Keep0 w wr) {o : Obj} : Keep0 w (wr.alloc o) := Below.alloc h h.size o
theorem fin_neg (n y : Int) (x : List UInt8) (b : UInt8) (hn : n < 0) (h : Lib.decDigits n.natAbs = b :: x) : Ending.returned (.string (⟨#[45]⟩ ++ (⟨[b].toArray⟩ ++ ⟨x.toArray⟩))) = .returned (.string ⟨(Lib.itoa n).toArray⟩) := by
  rw [cat_one, Lib.itoa, if_pos hn, h]
  show Ending.returned (.string ((⟨[45].toArray⟩ : ByteArray) ++ ⟨(b :: x).toArray⟩)) = _
  rw [cat_one]
theorem fin_pos (n y : Int) (x : List UInt8) (b : UInt8) (hn : 0 ≤ n) (h : Lib.decDigits n.natAbs = b :: x) : Ending.returned (.string (⟨[b].toArray⟩ ++ ⟨x.toArray⟩)) = .returned (.string ⟨(Lib.itoa n).toArray⟩) := by
  rw [cat_one, Lib.itoa, if_neg (by omega), show n.toNat = n.natAbs from by omega, h]
set_option maxHeartbeats 1600000 in
set_option maxRecDepth 100000 in
theorem l01Dec_any (n : Int) (w : World) (hn : In64 n) :
    Calls Tryd.prog 22 #[.int .i64 n] w fun e w' => e = .returned (.string ⟨(Lib.itoa n).toArray⟩) ∧ Keep0 w w' := by
  have hn1 := hn.1
  have hn2 := hn.2
  go_enter Tryd.func22, Tryd.ntmps22
  go_wp2
  go_loopw [3, 4, 5] (fun o r _ wr => ∃ (x : List UInt8) (y : Int), o = .string ⟨x.toArray⟩ ∧ r = .int .i64 y ∧ In64 y ∧ Hid (Lib.decDigits n.natAbs = Lib.decDigits y.natAbs ++ x) ∧ Keep0 w wr)
    (fun _ r _ _ => (intOf r).natAbs)
  case atStart => exact ⟨[], n, rfl, rfl, hn, Lib.hid (by simp), Below.refl _ _⟩
  case round =>
    obtain ⟨x, y, rfl, rfl, hy, HD, hk⟩ := hrel
    have hx : x.length ≤ 19 := by
      have h1 := congrArg List.length HD.out
      rw [List.length_append] at h1
      have h2 := dec_len n.natAbs 19 (by omega) (by omega)
      omega
    obtain ⟨hy1, hy2⟩ := hy
    obtain ⟨m1, m2, m3⟩ := tmod10 y
    have hx1 : ((⟨x.toArray⟩ : ByteArray).size : Int) ≤ 19 := by simp [ByteArray.size]; omega
    by_cases hy0 : 0 ≤ y
    · have e1 : y.tmod 10 = y % 10 := Int.tmod_eq_emod_of_nonneg hy0
      have e2 : y.tdiv 10 = y / 10 := Int.tdiv_eq_ediv_of_nonneg hy0
      have HEQ := Lib.hid e2
      clear e1 e2 m1 m2 m3
      have m4 : 0 ≤ y % 10 := by omega
      have m5 : y % 10 ≤ 9 := by omega
      by_cases hq : y / 10 = 0
      · have HQ := Lib.hid hq; clear hq
        have hqb : (y / 10 == 0) = true := by rw [HQ.out]; rfl
        have hcv := conv_digit wr (y % 10) y.natAbs (by omega)
        have HS := Lib.hid (dec_step y x n.natAbs HD.out)
        go_wp2
        all_goals go_ret
        all_goals refine ⟨?_, Keep0.step hk⟩
        · exact (fin_neg n y x _ (by assumption) (HS.out.2 (by rw [HEQ.out]; exact HQ.out)))
        · exact (fin_pos n y x _ (by omega) (HS.out.2 (by rw [HEQ.out]; exact HQ.out)))
      · have HQ := Lib.hid hq; clear hq
        have hqb : (y / 10 == 0) = false := by simp [HQ.out]
        have hcv := conv_digit wr (y % 10) y.natAbs (by omega)
        have HS := Lib.hid (dec_step y x n.natAbs HD.out)
        go_wp2
        go_roundw
        case rel => exact ⟨dch y.natAbs :: x, y / 10, by rw [cat_one], rfl, ⟨by omega, by omega⟩, Lib.hid (by have := HS.out.1 (by rw [HEQ.out]; exact HQ.out); simpa [HEQ.out] using this), Keep0.step hk⟩
        case measure => have hq := HQ.out; simp only [intOf]; omega
    · have e3 : (y.tdiv 10).natAbs = y.natAbs / 10 := by rw [Int.natAbs_tdiv]; rfl
      have m4 := tdiv_bd (a := y) (b := 10) (M := 9223372036854775808) (by omega) (by omega) (by omega) (by omega)
      have e4 : y.tdiv 10 ≤ 0 := by
        have h1 := Int.mul_tdiv_add_tmod y 10
        have h2 : y.tmod 10 ≤ 0 := by
          have := Int.tmod_nonneg 10 (show 0 ≤ -y by omega)
          rw [Int.neg_tmod] at this; omega
        omega
      have HEQ := Lib.hid (rfl : y.tdiv 10 = y.tdiv 10)
      have hyn : ¬ 0 ≤ y := hy0
      by_cases h0 : y.tmod 10 < 0
      · by_cases hq : y.tdiv 10 = 0
        · have HQ := Lib.hid hq; clear hq
          have hqb : (y.tdiv 10 == 0) = true := by rw [HQ.out]; rfl
          have hcv := conv_digit wr (-y.tmod 10) y.natAbs (by omega)
          have HS := Lib.hid (dec_step y x n.natAbs HD.out)
          go_wp2
          all_goals go_ret
          all_goals refine ⟨?_, Keep0.step hk⟩
          · exact (fin_neg n y x _ (by assumption) (HS.out.2 (by exact HQ.out)))
          · exact (fin_pos n y x _ (by omega) (HS.out.2 (by exact HQ.out)))
        · have HQ := Lib.hid hq; clear hq
          have hqb : (y.tdiv 10 == 0) = false := by simp [HQ.out]
          have hcv := conv_digit wr (-y.tmod 10) y.natAbs (by omega)
          have HS := Lib.hid (dec_step y x n.natAbs HD.out)
          go_wp2
          go_roundw
          case rel => exact ⟨dch y.natAbs :: x, y.tdiv 10, by rw [cat_one], rfl, ⟨by omega, by omega⟩, Lib.hid (by have := HS.out.1 (by exact HQ.out); simpa [HEQ.out] using this), Keep0.step hk⟩
          case measure => have hq := HQ.out; simp only [intOf]; omega
      · by_cases hq : y.tdiv 10 = 0
        · have HQ := Lib.hid hq; clear hq
          have hqb : (y.tdiv 10 == 0) = true := by rw [HQ.out]; rfl
          have hcv := conv_digit wr (y.tmod 10) y.natAbs (by omega)
          have HS := Lib.hid (dec_step y x n.natAbs HD.out)
          go_wp2
          all_goals go_ret
          all_goals refine ⟨?_, Keep0.step hk⟩
          · exact (fin_neg n y x _ (by assumption) (HS.out.2 (by exact HQ.out)))
          · exact (fin_pos n y x _ (by omega) (HS.out.2 (by exact HQ.out)))
        · have HQ := Lib.hid hq; clear hq
          have hqb : (y.tdiv 10 == 0) = false := by simp [HQ.out]
          have hcv := conv_digit wr (y.tmod 10) y.natAbs (by omega)
          have HS := Lib.hid (dec_step y x n.natAbs HD.out)
          go_wp2
          go_roundw
          case rel => exact ⟨dch y.natAbs :: x, y.tdiv 10, by rw [cat_one], rfl, ⟨by omega, by omega⟩, Lib.hid (by have := HS.out.1 (by exact HQ.out); simpa [HEQ.out] using this), Keep0.step hk⟩
          case measure => have hq := HQ.out; simp only [intOf]; omega
end Go.Proofs.YtpdcmhnaedhkdabDoor
