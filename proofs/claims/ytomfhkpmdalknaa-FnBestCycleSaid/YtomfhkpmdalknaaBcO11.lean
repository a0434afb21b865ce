/- The best cycle is the best one (pure). -/
import Derived.Test.YtomfhkpmdalknaaBcP11
namespace Go.Proofs.Ytomfhkpmdalknaa
open Go.ChangeShapes Go.WideShapes Go.ChangeAt Go.RowKit
set_option linter.unusedVariables false
/-- s is nearer than k / c, or as near with fewer years, or with as many and no more leap years. -/
def bcP (num den : Int) (s : Int × Int) (k c : Int) : Prop := bcD num den s.1 s.2 * c < bcD num den k c * s.2 ∨ (bcD num den s.1 s.2 * c = bcD num den k c * s.2 ∧ (s.2 < c ∨ (s.2 = c ∧ s.1 ≤ k)))
theorem frac_trans {D D1 D2 n n1 c : Int} (hn : 1 ≤ n) (hn1 : 1 ≤ n1) (hc : 1 ≤ c) (h1 : D1 * n < D * n1) (h2 : D * c ≤ D2 * n) : D1 * c < D2 * n1 := by
  have a1 : (D1 * n) * c < (D * n1) * c := Int.mul_lt_mul_of_pos_right h1 (by omega)
  have a2 : (D * c) * n1 ≤ (D2 * n) * n1 := Int.mul_le_mul_of_nonneg_right h2 (by omega)
  have e1 : (D1 * n) * c = (D1 * c) * n := by rw [Int.mul_assoc, Int.mul_comm n c, ← Int.mul_assoc]
  have e2 : (D * n1) * c = (D * c) * n1 := by rw [Int.mul_assoc, Int.mul_comm n1 c, ← Int.mul_assoc]
  have e3 : (D2 * n) * n1 = (D2 * n1) * n := by rw [Int.mul_assoc, Int.mul_comm n n1, ← Int.mul_assoc]
  exact Int.lt_of_mul_lt_mul_right (a := n) (by omega) (by omega)
theorem bcU_self {num den : Int} {s : Int × Int} {k n : Int} (hE : s.2 < n ∨ (s.2 = n ∧ s.1 ≤ k)) : bcP num den (bcU num den s k n) k n := by
  unfold bcU
  split
  · exact .inr ⟨rfl, .inr ⟨rfl, Int.le_refl _⟩⟩
  · rename_i h
    unfold bcP
    by_cases c : bcD num den s.1 s.2 * n < bcD num den k n * s.2
    · exact .inl c
    · exact .inr ⟨by omega, hE⟩
theorem bcU_old {num den : Int} {s : Int × Int} {k n k0 c : Int} (hs : 1 ≤ s.2) (hn : 1 ≤ n) (hc : 1 ≤ c) (h : bcP num den s k0 c) : bcP num den (bcU num den s k n) k0 c := by
  unfold bcU
  split
  · rename_i h1
    refine .inl (frac_trans (D := bcD num den s.1 s.2) (n := s.2) hs hn hc h1 ?_)
    rcases h with h | ⟨h, _⟩
    · omega
    · omega
  · exact h
theorem bcK_best {num den : Int} {s : Int × Int} {n : Int} (hs : 1 ≤ s.2) (hn : 1 ≤ n) (hE : s.2 < n ∨ (s.2 = n ∧ s.1 ≤ 0)) : ∀ m : Nat,
    (1 ≤ (bcK num den s n m).2 ∧ ((bcK num den s n m).2 < n ∨ ((bcK num den s n m).2 = n ∧ (bcK num den s n m).1 ≤ (m : Int)))) ∧ (∀ k c : Int, 1 ≤ c → bcP num den s k c → bcP num den (bcK num den s n m) k c) ∧ (∀ j : Nat, j < m → bcP num den (bcK num den s n m) (j : Int) n) := by
  intro m
  induction m with
  | zero => exact ⟨⟨hs, hE⟩, fun k c _ h => h, fun j hj => absurd hj (by omega)⟩
  | succ m ih =>
    obtain ⟨⟨i1, i2⟩, i3, i4⟩ := ih
    refine ⟨?_, fun k c hc h => bcU_old i1 hn hc (i3 k c hc h), fun j hj => ?_⟩
    · show 1 ≤ (bcU num den (bcK num den s n m) (m : Int) n).2 ∧ ((bcU num den (bcK num den s n m) (m : Int) n).2 < n ∨ ((bcU num den (bcK num den s n m) (m : Int) n).2 = n ∧ (bcU num den (bcK num den s n m) (m : Int) n).1 ≤ ((m + 1 : Nat) : Int)))
      unfold bcU
      split
      · exact ⟨hn, .inr ⟨rfl, by show (m : Int) ≤ _; omega⟩⟩
      · exact ⟨i1, by omega⟩
    · by_cases e : j = m
      · subst e; exact bcU_self i2
      · exact bcU_old i1 hn hn (i4 j (by omega))
theorem bcN_best {num den : Int} : ∀ m : Nat, (1 ≤ (bcN num den m).2 ∧ ((bcN num den m).2 < (m : Int) + 1 ∨ ((bcN num den m).2 = (m : Int) + 1 ∧ (bcN num den m).1 ≤ 0))) ∧ (∀ c k : Nat, 1 ≤ c → c ≤ m → k ≤ c → bcP num den (bcN num den m) (k : Int) (c : Int)) := by
  intro m
  induction m with
  | zero => exact ⟨⟨by simp [bcN], .inr ⟨by simp [bcN], by simp [bcN]⟩⟩, fun c k h1 h2 _ => by omega⟩
  | succ m ih =>
    obtain ⟨⟨i1, i2⟩, i3⟩ := ih
    obtain ⟨⟨a1, a2⟩, a3, a4⟩ := bcK_best (num := num) (den := den) (s := bcN num den m) (n := (m : Int) + 1) i1 (by omega) i2 (m + 2)
    refine ⟨⟨a1, .inl ?_⟩, fun c k h1 h2 h3 => ?_⟩
    · show (bcK num den (bcN num den m) ((m : Int) + 1) (m + 2)).2 < ((m + 1 : Nat) : Int) + 1
      omega
    · show bcP num den (bcK num den (bcN num den m) ((m : Int) + 1) (m + 2)) (k : Int) (c : Int)
      by_cases e : c = m + 1
      · subst e; exact a4 k (by omega)
      · exact a3 _ _ (by omega) (i3 c k h1 (by omega) h3)
end Go.Proofs.Ytomfhkpmdalknaa
