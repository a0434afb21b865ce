/- Christoffel words: their least period, their first and last letters; the law's divisor. -/
import Derived.Test.YtlkljhncpojlkabDoorLin7
import Derived.Test.YtlkljhncpojlkabDoorPe7
import Derived.Test.YtlkljhncpojlkabDoorPa7
namespace Go.Proofs.YtlkljhncpojlkabDoor
open Go.ChangeShapes Go.WideShapes Go.ChangeAt Go.RowKit Go.Deep
set_option linter.unusedVariables false
theorem chr_no {b n : Int} (h1 : 1 ≤ b) (h2 : b < n) (hg : Int.gcd b n = 1) {m p : Nat} (hm : (m : Int) = n) (hp : 1 ≤ p) (hpm : p < m) : perC (lnW b n 0 m) p = false := by
  unfold perC
  refine decide_eq_false fun he => ?_
  rw [lnW_size, show (lnW b n 0 m).extract p m = strOfNums ((lnN b n 0 m).drop p) from by
    have := str_drop (lnN b n 0 m) p
    rw [strOfNums_size, lnN_len] at this; exact this, show (lnW b n 0 m).extract 0 (m - p) = strOfNums ((lnN b n 0 m).take (m - p)) from str_take _ _, ln_drop b n (by omega), ln_take b n 0 (by omega)] at he
  have hl := str_inj (lnN_ab7 _ _ _ _) (lnN_ab7 _ _ _ _) he
  have hh := ln_hgts (by omega) (by omega) (by omega) (by omega) (by omega) (by omega) hl (m - p) (Nat.le_refl _)
  have e0 : ((m - p : Nat) : Int) * b + (p : Int) * b = n * b := by
    rw [← Int.add_mul, show ((m - p : Nat) : Int) + p = n by omega]
  rw [e0, show fl (n * b) n = b from fl_eq (by omega) (by omega) (by omega)] at hh
  have f1 := fl_mul (a := (p : Int) * b) (b := n) (by omega)
  have f2 := fl_mul (a := ((m - p : Nat) : Int) * b) (b := n) (by omega)
  generalize fl ((p : Int) * b) n = F1 at *
  generalize fl (((m - p : Nat) : Int) * b) n = F2 at *
  have e1 : n * b = n * F1 + n * F2 := by rw [← Int.mul_add, ← hh]
  have e2 : (p : Int) * b = n * F1 := by omega
  have hd : n ∣ (p : Int) := dvd_cop hg ⟨F1, by rw [Int.mul_comm b]; exact e2⟩
  have := Int.le_of_dvd (by omega) hd
  omega
theorem chr_perF {s : ByteArray} {m : Nat} (hs : s.size = m) (h : ∀ p, 1 ≤ p → p < m → perC s p = false) : ∀ (f p : Nat), 1 ≤ p → p ≤ m → m - p ≤ f → perF s (s.size - p) p = m := by
  intro f
  induction f with
  | zero => intro p h1 h2 h3; rw [perF_end (by omega)]; omega
  | succ f ih =>
    intro p h1 h2 h3
    by_cases c : p = m
    · rw [perF_end (by omega)]; exact c
    · rw [perF_no (by omega) (h p h1 (by omega))]
      exact ih (p + 1) (by omega) (by omega) (by omega)
theorem chr_per {b n : Int} (h1 : 1 ≤ b) (h2 : b < n) (hg : Int.gcd b n = 1) {m : Nat} (hm : (m : Int) = n) (h120 : m ≤ 120) : perV (lnW b n 0 m) = n := by
  unfold perV
  rw [lnW_wd b n 0 h120, if_pos rfl, chr_perF (lnW_size b n 0 m) (fun p hp hpm => chr_no h1 h2 hg hm hp hpm) m 1 (by omega) (by omega) (by omega)]
  exact hm
theorem chr_first {b n : Int} (h1 : 1 ≤ b) (h2 : b < n) {m : Nat} (hm : (m : Int) = n) (h : 0 < (lnW b n 0 m).size) : (((lnW b n 0 m)[0]'h).toNat : Int) = 97 := by
  have e0 := lnW_hgt (a := b) (d := n) (s := 0) (by omega) (by omega) (by omega) (by omega) (by omega) m 0 (by omega)
  have e1 := lnW_hgt (a := b) (d := n) (s := 0) (by omega) (by omega) (by omega) (by omega) (by omega) m 1 (by omega)
  rw [hgt_succ _ _ h] at e1
  rw [show fl (((0 : Nat) : Int) * b + 0) n = 0 from fl_eq (by omega) (by omega) (by omega)] at e0
  rw [show fl (((1 : Nat) : Int) * b + 0) n = 0 from fl_eq (by omega) (by omega) (by omega)] at e1
  omega
theorem chr_last {b n : Int} (h1 : 1 ≤ b) (h2 : b < n) {m : Nat} (hm : (m : Int) = n) (h : m - 1 < (lnW b n 0 m).size) : (((lnW b n 0 m)[m - 1]'h).toNat : Int) = 98 := by
  have e0 := lnW_hgt (a := b) (d := n) (s := 0) (by omega) (by omega) (by omega) (by omega) (by omega) m (m - 1) (by omega)
  have e1 := lnW_hgt (a := b) (d := n) (s := 0) (by omega) (by omega) (by omega) (by omega) (by omega) m (m - 1 + 1) (by omega)
  rw [hgt_succ _ _ h] at e1
  have p0 : ((m - 1 : Nat) : Int) * b = n * b - b := by rw [show ((m - 1 : Nat) : Int) = n - 1 by omega, Int.sub_mul, Int.one_mul]
  have p1 : ((m - 1 + 1 : Nat) : Int) * b = n * b := by rw [show ((m - 1 + 1 : Nat) : Int) = n by omega]
  rw [p0, show fl (n * b - b + 0) n = b - 1 from fl_eq (by omega) (by rw [Int.mul_sub]; omega) (by rw [Int.mul_sub]; omega)] at e0
  rw [p1, show fl (n * b + 0) n = b from fl_eq (by omega) (by omega) (by omega)] at e1
  omega
theorem gcd_red {x y : Int} (hx : 1 ≤ x) (hy : 1 ≤ y) : ∃ g A B : Int, g = Int.gcd x y ∧ 1 ≤ g ∧ x = g * A ∧ y = g * B ∧ Int.gcd A B = 1 ∧ 1 ≤ A ∧ A ≤ x ∧ 1 ≤ B ∧ B ≤ y ∧ x.tdiv g = A ∧ y.tdiv g = B := by
  have hg : 1 ≤ (Int.gcd x y : Int) := gcd_pos7 hy
  obtain ⟨A, hA⟩ := Int.gcd_dvd_left x y
  obtain ⟨B, hB⟩ := Int.gcd_dvd_right x y
  generalize hG : (Int.gcd x y : Int) = g at *
  have hA1 : 1 ≤ A := by
    by_cases c : A ≤ 0
    · have : g * A ≤ g * 0 := Int.mul_le_mul_of_nonneg_left c (by omega)
      omega
    · omega
  have hB1 : 1 ≤ B := by
    by_cases c : B ≤ 0
    · have : g * B ≤ g * 0 := Int.mul_le_mul_of_nonneg_left c (by omega)
      omega
    · omega
  have hA2 : 1 * A ≤ g * A := Int.mul_le_mul_of_nonneg_right hg (by omega)
  have hB2 : 1 * B ≤ g * B := Int.mul_le_mul_of_nonneg_right hg (by omega)
  have hgab : Int.gcd A B = 1 := by
    have e : Int.gcd x y = Int.gcd (g * A) (g * B) := by rw [← hA, ← hB]
    rw [Int.gcd_mul_left] at e
    have e2 : (g : Int) = g * (Int.gcd A B : Int) := by
      have := congrArg (fun n : Nat => (n : Int)) e
      simp only [Int.natCast_mul, hG] at this
      rw [show ((g.natAbs : Nat) : Int) = g by omega] at this
      exact this
    have : g * (Int.gcd A B : Int) = g * 1 := by omega
    have := Int.eq_of_mul_eq_mul_left (by omega) this
    omega
  exact ⟨g, A, B, rfl, hg, hA, hB, hgab, hA1, by omega, hB1, by omega, by rw [hA, Int.mul_tdiv_cancel_left _ (by omega)], by rw [hB, Int.mul_tdiv_cancel_left _ (by omega)]⟩
theorem b10Gcd_any (a b : Int) (w : World) (ha : 0 ≤ a) (ha2 : a ≤ 1000000000000000) (hb : 0 ≤ b) (hb2 : b ≤ 1000000000000000) :
    Calls Tryd.prog 20 #[.int .i64 a, .int .i64 b] w fun e w' => e = .returned (.int .i64 (Int.gcd a b : Int)) ∧ w = w' := by
  obtain ⟨G, hG⟩ : ∃ G, G = Int.gcd a b := ⟨_, rfl⟩
  rw [← hG]
  have HG : Hid (Int.gcd a b = G) := Lib.hid hG.symm
  clear hG
  go_enter Tryd.func20, Tryd.ntmps20
  go_wp2
  go_loop [0, 1, 5] (fun s t _ => ∃ x y : Int, s = .int .i64 x ∧ t = .int .i64 y ∧ 0 ≤ x ∧ x ≤ 1000000000000000 ∧ 0 ≤ y ∧ y ≤ 1000000000000000 ∧ Hid (Int.gcd x y = G)) (fun _ t _ => (intOf t).toNat)
  case atStart => exact ⟨a, b, rfl, rfl, ha, ha2, hb, hb2, HG⟩
  case round =>
    obtain ⟨x, y, rfl, rfl, h1, h2, h3, h4, HX⟩ := hrel
    by_cases hy : 0 < y
    · have hm0 : 0 ≤ x % y := Int.emod_nonneg _ (by omega)
      have hml := Int.emod_lt_of_pos x hy
      have HST : Hid (Int.gcd y (x % y) = Int.gcd x y) := Lib.hid (by
        have h := gcd_step x y
        rw [Int.tmod_eq_emod_of_nonneg h1] at h; exact h)
      go_wp2
      go_round
      case rel => exact ⟨y, x % y, rfl, by go_num, h3, h4, hm0, by omega, Lib.hid (by rw [HST.out]; exact HX.out)⟩
      case measure => simp [intOf]; omega
    · have HE : Hid (x = (G : Int)) := Lib.hid (by
        have h := HX.out
        rw [show y = 0 by omega] at h
        unfold Int.gcd at h
        simp at h
        omega)
      go_wp2
      go_ret
      exact ⟨ret_i64 HE.out, rfl⟩
end Go.Proofs.YtlkljhncpojlkabDoor
