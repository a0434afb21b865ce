/- A word is balanced if and only if something lies between its ends (pure). -/
import Derived.Test.YtmckbjhmkcbjgabDoorLm7
namespace Go.Proofs.YtmckbjhmkcbjgabDoor
open Go.ChangeShapes Go.WideShapes Go.ChangeAt Go.RowKit Go.Deep
set_option linter.unusedVariables false
/-- Parts of one size grow by nearly the same. -/
def Eq7 (s : ByteArray) : Prop := ∀ n i j : Nat, i + n ≤ s.size → j + n ≤ s.size → hgt s (i + n) - hgt s i ≤ hgt s (j + n) - hgt s j + 1
theorem ba_pairs {s : ByteArray} (h : Eq7 s) : ∀ (f n m i j : Nat), n + m ≤ f → 1 ≤ n → 1 ≤ m → i + n ≤ s.size → j + m ≤ s.size → (hgt s (i + n) - hgt s i - 1) * m < (hgt s (j + m) - hgt s j + 1) * n := by
  intro f
  induction f with
  | zero => intro n m i j hf; omega
  | succ f ih =>
    intro n m i j hf hn hm hi hj
    rcases Nat.lt_trichotomy n m with c | c | c
    · -- the second part is longer: its first n letters
      have h1 := h n i j hi (by omega)
      have h2 := ih n (m - n) i (j + n) (by omega) hn (by omega) hi (by omega)
      rw [show j + n + (m - n) = j + m by omega] at h2
      have e : ((m - n : Nat) : Int) = (m : Int) - n := by omega
      rw [e] at h2
      generalize hgt s (i + n) - hgt s i = g at *
      have h3 : (g - 1) * n ≤ (hgt s (j + n) - hgt s j) * n := Int.mul_le_mul_of_nonneg_right (by omega) (by omega)
      simp only [Int.mul_sub, Int.sub_mul, Int.add_mul, Int.one_mul] at h2 h3 ⊢
      omega
    · subst c
      have h1 := h n i j hi hj
      exact Int.mul_lt_mul_of_pos_right (by omega) (by omega)
    · have h1 := h m i j (by omega) hj
      have h2 := ih (n - m) m (i + m) j (by omega) (by omega) hm (by omega) hj
      rw [show i + m + (n - m) = i + n by omega] at h2
      have e : ((n - m : Nat) : Int) = (n : Int) - m := by omega
      rw [e] at h2
      generalize hgt s (j + m) - hgt s j = g at *
      have h3 : (hgt s (i + m) - hgt s i) * m ≤ (g + 1) * m := Int.mul_le_mul_of_nonneg_right (by omega) (by omega)
      simp only [Int.mul_sub, Int.sub_mul, Int.add_mul, Int.one_mul] at h2 h3 ⊢
      omega
theorem bal_iff7 {s : ByteArray} (hw : wdB s = true) {l d u v : Int} (hl : ILo s allP l d) (hu : IHi s allP u v) : Eq7 s ↔ l * v < u * d := by
  have bl := hl.1.bd hw; have bu := hu.1.bd hw
  have cl := hl.1.bd2 hw; have cu := hu.1.bd2 hw
  constructor
  · intro h
    rcases hl.1 with ⟨h1, h2⟩ | ⟨i, j, _, hij, hj, h1, h2⟩
    · rw [h1, h2]; omega
    · rcases hu.1 with ⟨h3, h4⟩ | ⟨i', j', _, hij', hj', h3, h4⟩
      · rw [h3, h4]; omega
      · have hp := ba_pairs h _ (j - i) (j' - i') i i' (Nat.le_refl _) (by omega) (by omega) (by omega) (by omega)
        rw [show i + (j - i) = j by omega, show i' + (j' - i') = j' by omega] at hp
        rw [h1, h2, h3, h4]
        rw [show ((j - i : Nat) : Int) = (j : Int) - i by omega, show ((j' - i' : Nat) : Int) = (j' : Int) - i' by omega] at hp
        exact hp
  · intro h n i j hi hj
    by_cases hn : n = 0
    · subst hn; simp
    · have c1 : CLo s allP (hgt s (i + n) - hgt s i - 1) (((i + n : Nat) : Int) - i) := .inr ⟨i, i + n, trivial, by omega, hi, rfl, rfl⟩
      have c2 : CHi s allP (hgt s (j + n) - hgt s j + 1) (((j + n : Nat) : Int) - j) := .inr ⟨j, j + n, trivial, by omega, hj, rfl, rfl⟩
      have m1 := hl.2 _ _ c1
      have m2 := hu.2 _ _ c2
      rw [show ((i + n : Nat) : Int) - i = n by omega] at m1
      rw [show ((j + n : Nat) : Int) - j = n by omega] at m2
      generalize hgt s (i + n) - hgt s i = g at *
      generalize hgt s (j + n) - hgt s j = g' at *
      have a1 : (g - 1) * d * v ≤ l * n * v := Int.mul_le_mul_of_nonneg_right m1 (by omega)
      have a2 : u * n * d ≤ (g' + 1) * v * d := Int.mul_le_mul_of_nonneg_right m2 (by omega)
      have a3 : l * v * n < u * d * n := Int.mul_lt_mul_of_pos_right h (by omega)
      have b1 : l * n * v = l * v * n := by ac_rfl
      have b2 : u * n * d = u * d * n := by ac_rfl
      have b3 : (g - 1) * d * v = (g - 1) * (d * v) := by ac_rfl
      have b4 : (g' + 1) * v * d = (g' + 1) * (d * v) := by ac_rfl
      have hdv : 0 < d * v := Int.mul_pos (by omega) (by omega)
      have := Int.lt_of_mul_lt_mul_right (show (g - 1) * (d * v) < (g' + 1) * (d * v) by omega) (by omega)
      omega
end Go.Proofs.YtmckbjhmkcbjgabDoor
