/- Words over two letters: what they are, their heights; the model's look. -/
import Derived.Test.YtomfhkpmdalknaaInts
import Derived.Test.YtomfhkpmdalknaaMem
import Derived.Test.YtomfhkpmdalknaaCopyL
import Derived.Test.YtomfhkpmdalknaaStep
import Derived.Test.YtomfhkpmdalknaaGcd6
namespace Go.Proofs.Ytomfhkpmdalknaa
open Go.ChangeShapes Go.WideShapes Go.ChangeAt Go.RowKit Go.Deep
set_option linter.unusedVariables false
/-- The first k bytes are letters a and b. -/
def AbTo (s : ByteArray) (k : Nat) : Prop := ∀ j (h : j < s.size), j < k → (s[j]'h).toNat = 97 ∨ (s[j]'h).toNat = 98
theorem AbTo.succ {s : ByteArray} {k : Nat} (h : AbTo s k) (hk : k < s.size) (h1 : (s[k]'hk).toNat = 97 ∨ (s[k]'hk).toNat = 98) : AbTo s (k + 1) := by
  intro j hj hjk
  rcases Nat.lt_or_eq_of_le (Nat.le_of_lt_succ hjk) with h3 | h3
  · exact h j hj h3
  · subst h3; exact h1
def wdB (s : ByteArray) : Bool := decide (s.size ≤ 120 ∧ ∀ j (h : j < s.size), (s[j]'h).toNat = 97 ∨ (s[j]'h).toNat = 98)
theorem wdB_no {s : ByteArray} {k : Nat} (hk : k < s.size) (h1 : (s[k]'hk).toNat ≠ 97) (h2 : (s[k]'hk).toNat ≠ 98) : wdB s = false := by
  unfold wdB; rw [decide_eq_false_iff_not]
  rintro ⟨_, h3⟩
  have := h3 k hk; omega
theorem wdB_yes {s : ByteArray} (h : AbTo s s.size) : wdB s = decide (s.size ≤ 120) := by
  unfold wdB
  by_cases q : s.size ≤ 120
  · rw [decide_eq_true q, decide_eq_true ⟨q, fun j hj => h j hj hj⟩]
  · rw [decide_eq_false q, decide_eq_false (fun h => q h.1)]
theorem wdB_iff {s : ByteArray} : wdB s = true ↔ s.size ≤ 120 ∧ ∀ j (h : j < s.size), (s[j]'h).toNat = 97 ∨ (s[j]'h).toNat = 98 := by unfold wdB; rw [decide_eq_true_eq]
/-- How many letters b are among the first k. -/
def hgt (s : ByteArray) (k : Nat) : Int := ((List.range k).map fun j => if h : j < s.size then ((s[j]'h).toNat : Int) - 97 else 0).sum
theorem hgt_succ (s : ByteArray) (k : Nat) (h : k < s.size) : hgt s (k + 1) = hgt s k + (((s[k]'h).toNat : Int) - 97) := by
  unfold hgt; rw [List.range_succ, List.map_append, List.sum_append]; simp [h]
theorem hgt_zero (s : ByteArray) : hgt s 0 = 0 := by simp [hgt]
theorem hgt_bd {s : ByteArray} (hw : wdB s = true) : ∀ k, k ≤ s.size → 0 ≤ hgt s k ∧ hgt s k ≤ k := by
  intro k
  induction k with
  | zero => intro _; rw [hgt_zero]; simp
  | succ k ih =>
    intro hk
    have h1 := ih (by omega)
    have h2 := (wdB_iff.1 hw).2 k (by omega)
    rw [hgt_succ s k (by omega)]; omega
def hgtL (s : ByteArray) (k : Nat) : List Int := (List.range (k + 1)).map (hgt s)
theorem hgtL_len (s : ByteArray) (k : Nat) : (hgtL s k).length = k + 1 := by simp [hgtL]
theorem hgtL_succ (s : ByteArray) (k : Nat) : hgtL s (k + 1) = hgtL s k ++ [hgt s (k + 1)] := by
  unfold hgtL; rw [List.range_succ (n := k + 1), List.map_append]; rfl
theorem hgtL_get (s : ByteArray) (k j : Nat) (h : j ≤ k) : (hgtL s k).getD j 0 = hgt s j := by
  unfold hgtL; simp [List.getD_eq_getElem?_getD, show j < k + 1 by omega]
def hgtV (s : ByteArray) : List Int := if wdB s then hgtL s s.size else []
theorem l07Gcd_any (a b : Int) (w : World) (ha : 0 ≤ a) (ha2 : a ≤ 1000000000000000) (hb : 0 ≤ b) (hb2 : b ≤ 1000000000000000) :
    Calls Try.prog 71 #[.int .i64 a, .int .i64 b] w fun e w' => e = .returned (.int .i64 (Int.gcd a b : Int)) ∧ w = w' := by
  obtain ⟨G, hG⟩ : ∃ G, G = Int.gcd a b := ⟨_, rfl⟩
  rw [← hG]
  have HG : Hid (Int.gcd a b = G) := Lib.hid hG.symm
  clear hG
  go_enter Try.func71, Try.ntmps71
  go_wp2
  go_loop [0, 1, 5] (fun s t _ => ∃ x y : Int, s = .int .i64 x ∧ t = .int .i64 y ∧ 0 ≤ x ∧ x ≤ 1000000000000000 ∧ 0 ≤ y ∧ y ≤ 1000000000000000 ∧ Hid (Int.gcd x y = G)) (fun _ t _ => (intOf t).toNat)
  case atStart => exact ⟨a, b, rfl, rfl, ha, ha2, hb, hb2, HG⟩
  case round =>
    obtain ⟨x, y, rfl, rfl, h1, h2, h3, h4, HX⟩ := hrel
    by_cases hy : 0 < y
    · have hm0 : 0 ≤ x % y := Int.emod_nonneg _ (by omega)
      have hml := Int.emod_lt_of_pos x hy
      have HST : Hid (Int.gcd y (x % y) = Int.gcd x y) := Lib.hid (by
        have h := gcd_step x y
        rw [Int.tmod_eq_emod_of_nonneg h1] at h; exact h)
      go_wp2
      go_round
      case rel => exact ⟨y, x % y, rfl, by go_num, h3, h4, hm0, by omega, Lib.hid (by rw [HST.out]; exact HX.out)⟩
      case measure => simp [intOf]; omega
    · have HE : Hid (x = (G : Int)) := Lib.hid (by
        have h := HX.out
        rw [show y = 0 by omega] at h
        unfold Int.gcd at h
        simp at h
        omega)
      go_wp2
      go_ret
      exact ⟨ret_i64 HE.out, rfl⟩
end Go.Proofs.Ytomfhkpmdalknaa
