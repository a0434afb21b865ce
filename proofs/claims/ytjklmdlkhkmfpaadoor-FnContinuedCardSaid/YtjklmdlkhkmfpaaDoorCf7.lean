/- The continued fraction of a fraction gives the fraction back in lowest terms (pure). -/
import Derived.Test.YtjklmdlkhkmfpaaDoorCt7
import Derived.Test.YtjklmdlkhkmfpaaDoorFc7
namespace Go.Proofs.YtjklmdlkhkmfpaaDoor
open Go.ChangeShapes Go.WideShapes Go.ChangeAt Go.RowKit Go.Deep
set_option linter.unusedVariables false
/-- Numbers that grow as Fibonacci's. -/
def fib7 : Nat → Nat
  | 0 => 0
  | 1 => 1
  | 2 => 2
  | n + 3 => fib7 (n + 2) + fib7 (n + 1)
theorem fib7_mono : ∀ n, fib7 n ≤ fib7 (n + 1) := by
  intro n
  match n with
  | 0 => decide
  | 1 => decide
  | 2 => decide
  | n + 3 => show fib7 (n + 3) ≤ fib7 (n + 3) + fib7 (n + 2); omega
theorem fib7_le {m n : Nat} (h : m ≤ n) : fib7 m ≤ fib7 n := by
  induction h with
  | refl => exact Nat.le_refl _
  | step _ ih => exact Nat.le_trans ih (fib7_mono _)
theorem contN_zero (a : Nat) : contN a 0 = [] := by rw [contN]; simp
theorem contN_pos {a b : Nat} (h : b ≠ 0) : contN a b = ((a / b : Nat) : Int) :: contN b (a % b) := by rw [contN, dif_neg h]
theorem cf_fib : ∀ (f b a : Nat), b ≤ f → 1 ≤ b → fib7 (contN a b).length ≤ b := by
  intro f
  induction f with
  | zero => intro b a h1 h2; omega
  | succ f ih =>
    intro b a h1 h2
    have hm := Nat.mod_lt a (show 0 < b by omega)
    rw [contN_pos (by omega), List.length_cons]
    by_cases h0 : a % b = 0
    · rw [h0, contN_zero]
      exact h2
    · generalize a % b = r at *
      have i1 := ih r b (by omega) (by omega)
      have hm2 := Nat.mod_lt b (show 0 < r by omega)
      have hdm := Nat.div_add_mod b r
      have hq : 1 ≤ b / r := (Nat.one_le_div_iff (by omega)).2 (by omega)
      have hmul : r * 1 ≤ r * (b / r) := Nat.mul_le_mul_left _ hq
      rw [contN_pos (by omega), List.length_cons] at i1 ⊢
      by_cases h3 : b % r = 0
      · rw [h3, contN_zero]
        show 2 ≤ b
        omega
      · have i2 := ih (b % r) r (by omega) (by omega)
        generalize hL : (contN r (b % r)).length = L at *
        have hL1 : 1 ≤ L := by
          rw [← hL, contN_pos h3, List.length_cons]; omega
        obtain ⟨m, rfl⟩ : ∃ m, L = m + 1 := ⟨L - 1, by omega⟩
        have i1 : fib7 (m + 2) ≤ r := i1
        show fib7 (m + 2) + fib7 (m + 1) ≤ b
        omega
/-- What the continued fraction of a fraction gives. -/
theorem cf_all : ∀ (f b a : Nat), b ≤ f → 1 ≤ b → a ≤ 1000000000 → b ≤ 1000000000 →
    ∃ g : Nat, 1 ≤ g ∧ (a : Int) = g * (fcP (contN a b)).1 ∧ (b : Int) = g * (fcP (contN a b)).2 ∧ Int.gcd (fcP (contN a b)).1 (fcP (contN a b)).2 = 1 ∧ fcO (contN a b) = true := by
  intro f
  induction f with
  | zero => intro b a h1 h2; omega
  | succ f ih =>
    intro b a h1 h2 ha hb
    have hm := Nat.mod_lt a (show 0 < b by omega)
    have hdm : (a : Int) = ((a / b : Nat) : Int) * b + ((a % b : Nat) : Int) := by
      have := Nat.div_add_mod a b
      rw [← Int.natCast_mul, ← Int.natCast_add, Nat.mul_comm, this]
    have hq : ((a / b : Nat) : Int) ≤ 1000000000 := by have := Nat.div_le_self a b; omega
    rw [contN_pos (by omega)]
    by_cases h0 : a % b = 0
    · rw [h0, contN_zero]
      rw [h0] at hdm
      refine ⟨b, h2, by simp only [fcP, Int.mul_one, Int.add_zero]; rw [hdm, Int.mul_comm]; simp, by simp [fcP], by simp [fcP], ?_⟩
      simp only [fcO, fcP, Bool.true_and, decide_eq_true_eq, Int.mul_one, Int.add_zero]
      exact hq
    · obtain ⟨g, g1, e1, e2, e3, e4⟩ := ih (a % b) b (by omega) (by omega) hb (by omega)
      have hN : (a : Int) = g * (((a / b : Nat) : Int) * (fcP (contN b (a % b))).1 + (fcP (contN b (a % b))).2) := by
        rw [hdm]
        conv => lhs; rw [e1]
        rw [e2, Int.mul_add, ← Int.mul_assoc, ← Int.mul_assoc, Int.mul_comm ((a / b : Nat) : Int) (g : Int)]
      refine ⟨g, g1, hN, e1, ?_, ?_⟩
      · show Int.gcd (((a / b : Nat) : Int) * (fcP (contN b (a % b))).1 + (fcP (contN b (a % b))).2) (fcP (contN b (a % b))).1 = 1
        rw [Int.gcd_comm, Int.add_comm, Int.mul_comm, Int.gcd_add_mul_left_right]
        exact e3
      · show (fcO (contN b (a % b)) && decide (((a / b : Nat) : Int) * (fcP (contN b (a % b))).1 + (fcP (contN b (a % b))).2 ≤ 1000000000)) = true
        rw [e4, Bool.true_and, decide_eq_true_eq]
        generalize ((a / b : Nat) : Int) * (fcP (contN b (a % b))).1 + (fcP (contN b (a % b))).2 = N at *
        have : 1 * N ≤ (g : Int) * N ∨ N < 0 := by
          by_cases c : N < 0
          · exact .inr c
          · exact .inl (Int.mul_le_mul_of_nonneg_right (by omega) (by omega))
        omega
theorem cf_terms : ∀ (f b a : Nat), b ≤ f → 1 ≤ b → b < a → a ≤ 1000000000 → (∀ z ∈ contN a b, 1 ≤ z ∧ z ≤ 1000000000) ∧ (contN a b).length ≠ 0 ∧ (contN a b).getD ((contN a b).length - 1) 0 ≠ 1 := by
  intro f
  induction f with
  | zero => intro b a h1 h2; omega
  | succ f ih =>
    intro b a h1 h2 hlt ha
    have hm := Nat.mod_lt a (show 0 < b by omega)
    have hdm := Nat.div_add_mod a b
    have hq0 := Nat.div_le_self a b
    have hq : 1 ≤ a / b := (Nat.one_le_div_iff (by omega)).2 (by omega)
    rw [contN_pos (by omega)]
    by_cases h0 : a % b = 0
    · rw [h0, contN_zero]
      refine ⟨fun z hz => by simp at hz; omega, by simp, ?_⟩
      have : a / b ≠ 1 := fun h => by rw [h, h0] at hdm; omega
      simp only [List.length_cons, List.length_nil, Nat.zero_add, Nat.sub_self, List.getD_cons_zero]
      omega
    · obtain ⟨i1, i2, i3⟩ := ih (a % b) b (by omega) (by omega) hm (by omega)
      refine ⟨fun z hz => ?_, by simp, ?_⟩
      · rcases List.mem_cons.1 hz with rfl | hz
        · omega
        · exact i1 z hz
      · rw [List.length_cons, Nat.add_sub_cancel]
        obtain ⟨m, hm1⟩ : ∃ m, (contN b (a % b)).length = m + 1 := ⟨(contN b (a % b)).length - 1, by omega⟩
        rw [hm1, List.getD_cons_succ]
        rw [hm1, Nat.add_sub_cancel] at i3
        exact i3
theorem cf_isC {a b : Nat} (hb : 1 ≤ b) (hb2 : b ≤ 4100) (ha : a ≤ 4100) : isC (contN a b) = true := by
  have hL := cf_fib b b a (Nat.le_refl _) hb
  have hlen : (contN a b).length ≤ 20 := by
    by_cases c : (contN a b).length ≤ 20
    · exact c
    · have h1 := fib7_le (show 20 ≤ (contN a b).length by omega)
      have h2 : fib7 20 = 10946 := by decide
      omega
  have hq0 := Nat.div_le_self a b
  have hm := Nat.mod_lt a (show 0 < b by omega)
  rw [contN_pos (by omega)] at hlen ⊢
  have ht : ∀ z ∈ contN b (a % b), 1 ≤ z ∧ z ≤ 1000000000 := by
    by_cases h0 : a % b = 0
    · rw [h0, contN_zero]; intro z hz; simp at hz
    · exact (cf_terms (a % b) (a % b) b (Nat.le_refl _) (by omega) hm (by omega)).1
  have hl : (contN b (a % b)).length ≠ 0 → (contN b (a % b)).getD ((contN b (a % b)).length - 1) 0 ≠ 1 := by
    by_cases h0 : a % b = 0
    · rw [h0, contN_zero]; intro h; simp at h
    · intro _; exact (cf_terms (a % b) (a % b) b (Nat.le_refl _) (by omega) hm (by omega)).2.2
  generalize contN b (a % b) = t at *
  generalize a / b = q at *
  rw [List.length_cons] at hlen
  unfold isC okTr
  rw [List.length_cons, decide_eq_false (by omega), decide_eq_true hlen]
  have htr : trms ((q : Int) :: t) 1000000000 (t.length + 1) = true := by
    unfold trms
    rw [List.all_eq_true]
    intro j hj
    have hj := List.mem_range.1 hj
    unfold trmB
    rw [inB_iff]
    cases j with
    | zero => rw [List.getD_cons_zero]; omega
    | succ j =>
      rw [List.getD_cons_succ]
      have := ht _ (getD_mem t j (by omega))
      omega
  rw [htr]
  by_cases h0 : t.length = 0
  · simp [h0]
  · have h1 := hl h0
    obtain ⟨m, hm1⟩ : ∃ m, t.length = m + 1 := ⟨t.length - 1, by omega⟩
    rw [hm1, Nat.add_sub_cancel] at h1
    rw [hm1, Nat.add_sub_cancel, List.getD_cons_succ, decide_eq_false h1]
    simp
/-- What the law asks of the way there and back. -/
theorem cf_back {a b : Nat} (hb : 1 ≤ b) (hb2 : b ≤ 4100) (ha : a ≤ 4100) : fcB (contN a b) = true ∧ ∃ c d : Nat, fcN (contN a b) = c ∧ fcD (contN a b) = d ∧ 1 ≤ d ∧ c ≤ 4100 ∧ d ≤ 4100 ∧ (a : Int) * d = b * c ∧ Int.gcd c d = 1 := by
  have h1 := cf_isC hb hb2 ha
  obtain ⟨g, g1, e1, e2, e3, e4⟩ := cf_all b b a (Nat.le_refl _) hb (by omega) (by omega)
  have hB : fcB (contN a b) = true := by unfold fcB; rw [h1, e4]; rfl
  have hbd := fc_bd (contN a b) (isC_parts h1).2.2 e4
  obtain ⟨c, hc⟩ : ∃ c : Nat, (fcP (contN a b)).1 = c := ⟨(fcP (contN a b)).1.toNat, by omega⟩
  obtain ⟨d, hd⟩ : ∃ d : Nat, (fcP (contN a b)).2 = d := ⟨(fcP (contN a b)).2.toNat, by omega⟩
  refine ⟨hB, c, d, ?_⟩
  unfold fcN fcD
  simp only [hB, if_true]
  simp only [hc, hd] at e1 e2 e3
  have q1 : a = g * c := by rw [← Int.natCast_mul] at e1; omega
  have q2 : b = g * d := by rw [← Int.natCast_mul] at e2; omega
  have m1 : 1 * c ≤ g * c := Nat.mul_le_mul_right _ g1
  have m2 : 1 * d ≤ g * d := Nat.mul_le_mul_right _ g1
  have hd1 : 1 ≤ d := by
    by_cases c0 : d = 0
    · subst c0; simp at q2; omega
    · omega
  refine ⟨hc, hd, hd1, by omega, by omega, ?_, e3⟩
  rw [e1, e2, Int.mul_assoc, Int.mul_assoc, Int.mul_comm (c : Int) (d : Int)]
end Go.Proofs.YtjklmdlkhkmfpaaDoor
