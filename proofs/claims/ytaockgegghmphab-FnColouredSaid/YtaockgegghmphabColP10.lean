/- What is true of colourings: the least cost is reached and least; colours exchanged turn every imbalance's sign. Nothing here speaks of one program. -/
import Derived.Test.YtaockgegghmphabAvg10
namespace Go.Proofs.Ytaockgegghmphab
set_option linter.unusedVariables false
theorem bst_least {c : Nat → Int} {m : Nat} (hc : ∀ t, 0 ≤ c t) : ∀ t, ∀ q, q < t → partB m q = true → (bstT c m t).1 ≤ c q := by
  intro t
  induction t with
  | zero => intro q h; omega
  | succ t ih =>
    intro q hq hp
    rw [bstT]
    by_cases e : q = t
    · subst e
      rw [if_pos hp]
      split
      · exact Int.le_refl _
      · omega
    · have h1 := ih q (by omega) hp
      split
      · split
        · rename_i h3
          have h0 : 0 ≤ (bstT c m t).1 := by
            obtain ⟨_, _, _, h⟩ := fnd_bst (m := m) hc t (by omega); exact h
          show c t ≤ c q
          omega
        · exact h1
      · exact h1
theorem bst_has {c : Nat → Int} {m : Nat} (hc : ∀ t, 0 ≤ c t) : ∀ t, 1 ≤ t → c (bstT c m t).2 = (bstT c m t).1 ∧ partB m (bstT c m t).2 = true := by
  intro t
  induction t with
  | zero => omega
  | succ t ih =>
    intro _
    by_cases ht : t = 0
    · subst ht
      rw [bstT, if_pos (partB_zero m), if_pos (.inl (show (-1 : Int) < 0 by decide))]
      exact ⟨rfl, partB_zero m⟩
    · have h1 := ih (by omega)
      rw [bstT]
      split
      · rename_i hp
        split
        · exact ⟨rfl, hp⟩
        · exact h1
      · exact h1
theorem dis_has (zs : List Int) (m : Nat) : mostS zs m (disV zs m).2 = (disV zs m).1 ∧ (disV zs m).2 ≤ m := by
  have h := bst_has (m := m) (fun t => (mostS_bd zs m t).1) (m + 1) (by omega)
  exact ⟨h.1, part_le (partB_iff.1 h.2)⟩
theorem dis_least (zs : List Int) {n q : Nat} (h : q < 2 ^ n) : (disV zs (2 ^ n - 1)).1 ≤ mostS zs (2 ^ n - 1) q :=
  bst_least (fun t => (mostS_bd zs (2 ^ n - 1) t).1) _ q (by omega) (partB_iff.2 (Nat.and_two_pow_sub_one_of_lt_two_pow h))
theorem pcT_flip {z n r : Nat} (hz : z < 2 ^ n) : ∀ k, pcT (z &&& ((2 ^ n - 1) ^^^ r)) k + pcT (z &&& r) k = pcT z k := by
  intro k
  induction k with
  | zero => rfl
  | succ k ih =>
    rw [pcT, pcT, pcT, Nat.testBit_and, Nat.testBit_and, Nat.testBit_xor, Nat.testBit_two_pow_sub_one]
    by_cases hk : k < n
    · simp only [hk, decide_true]
      cases z.testBit k <;> cases r.testBit k <;> simp <;> omega
    · have : z.testBit k = false := Nat.testBit_lt_two_pow (Nat.lt_of_lt_of_le hz (Nat.pow_le_pow_right (by omega) (by omega)))
      rw [this]; simp; omega
theorem imb_flip {z n r : Nat} (hz : z < 2 ^ n) : imb z ((2 ^ n - 1) ^^^ r) = -imb z r := by
  have h := pcT_flip (r := r) hz 64
  unfold imb pc
  omega
theorem flip_lt {n r : Nat} (hr : r < 2 ^ n) : (2 ^ n - 1) ^^^ r < 2 ^ n := Nat.xor_lt_two_pow (by have := Nat.one_le_two_pow (n := n); omega) hr
end Go.Proofs.Ytaockgegghmphab
