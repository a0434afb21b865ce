/- Even calendars: as many leap years as asked, and their days differ from multiples of the mean year by less than one (pure). -/
import Derived.Test.YtomfhkpmdalknabLn11
import Derived.Test.YtomfhkpmdalknabCal11
import Derived.Test.YtomfhkpmdalknabGcd6
namespace Go.Proofs.Ytomfhkpmdalknab
open Go.ChangeShapes Go.WideShapes Go.ChangeAt Go.RowKit Go.Deep
set_option linter.unusedVariables false
theorem pickL_get {p : Nat → Bool} {n : Nat} : (pickL p n).Pairwise (· < ·) := by
  induction n with
  | zero => exact List.Pairwise.nil
  | succ n ih =>
    rw [pickL_succ]
    split
    · rw [List.pairwise_append]
      refine ⟨ih, List.pairwise_singleton _ _, fun a ha b hb => ?_⟩
      obtain ⟨i, rfl, hi, _⟩ := pickL_mem.1 ha
      rw [List.mem_singleton] at hb; subst hb; omega
    · exact ih
theorem inc_of_pw {zs : List Int} (h : zs.Pairwise (· < ·)) : incB zs = true := by
  unfold incB incT
  rw [List.all_eq_true]
  intro i hi
  have hi := List.mem_range.1 hi
  unfold incAt
  by_cases c : i = 0
  · simp [c]
  · have h2 := (List.pairwise_iff_getElem.1 h) (i - 1) i (by omega) hi (by omega)
    rw [getD_get zs (i - 1) (by omega), getD_get zs i hi, decide_eq_true h2]; simp
theorem okC_pick {p : Nat → Bool} {n : Nat} {gh : Int} (n1 : 1 ≤ n) (n2 : n ≤ 400) (h1 : 1 ≤ gh) (h2 : gh ≤ 1000) : okC (n : Int) gh (pickL p n) = true := by
  unfold okC
  rw [inB_iff.2 (by omega), inB_iff.2 ⟨h1, h2⟩, inc_of_pw pickL_get, Bool.and_true]
  simp only [Bool.true_and, List.all_eq_true]
  intro z hz
  obtain ⟨i, rfl, hi, _⟩ := pickL_mem.1 hz
  exact inB_iff.2 (by omega)
theorem ltN_pick (p : Nat → Bool) (i : Nat) : ∀ m, ltN (pickL p (i + m)) (i : Int) = (pickL p i).length := by
  intro m
  induction m with
  | zero => exact ltN_all _ _ (fun z hz => by obtain ⟨j, rfl, hj, _⟩ := pickL_mem.1 hz; omega)
  | succ m ih =>
    rw [← Nat.add_assoc, pickL_succ]
    split
    · have : ltN (pickL p (i + m) ++ [((i + m : Nat) : Int)]) (i : Int) = ltN (pickL p (i + m)) (i : Int) + ltN [((i + m : Nat) : Int)] (i : Int) := by unfold ltN; rw [List.countP_append]
      rw [this, ih, ltN_none _ _ (fun z hz => by rw [List.mem_singleton] at hz; subst hz; omega)]; rfl
    · exact ih
/-- The leap years before a year of the cycle. -/
theorem ev_count {n : Nat} {l sh : Int} (n1 : 1 ≤ n) (l1 : 0 ≤ l) (l2 : l ≤ n) (s1 : 0 ≤ sh) (s2 : sh < n) : ∀ i : Nat, ((pickL (evP l n sh) i).length : Int) = fl ((i : Int) * l + sh) n := by
  intro i
  induction i with
  | zero =>
    have : fl sh (n : Int) = 0 := fl_eq (by omega) (by omega) (by omega)
    simp [pickL, this]
  | succ i ih =>
    rw [pickL_succ]
    have hg := fl_grow (x := (i : Int) * l + sh) (a := l) (d := (n : Int)) (by omega) l1 l2
    have e : ((i + 1 : Nat) : Int) * l + sh = ((i : Int) * l + sh) + l := by rw [Int.natCast_add, Int.add_mul]; omega
    rw [e]
    have e2 : ((i : Int) + 1) * l + sh = ((i : Int) * l + sh) + l := by rw [Int.add_mul]; omega
    have hp : evP l n sh i = decide (fl ((i : Int) * l + sh) n < fl (((i : Int) * l + sh) + l) n) := by
      unfold evP lnB
      rw [e2, Bool.eq_iff_iff, decide_eq_true_eq, decide_eq_true_eq]
      split <;> simp_all
    rcases hg with q | q
    · rw [hp, q, decide_eq_false (by omega), if_neg (by simp)]; exact ih
    · rw [hp, q, decide_eq_true (by omega), if_pos rfl, List.length_append, Int.natCast_add, ih]; rfl
theorem ev_len {n : Nat} {l sh : Int} (n1 : 1 ≤ n) (l1 : 0 ≤ l) (l2 : l ≤ n) (s1 : 0 ≤ sh) (s2 : sh < n) : ((pickL (evP l n sh) n).length : Int) = l := by
  rw [ev_count n1 l1 l2 s1 s2 n]
  refine fl_eq (by omega) ?_ ?_ <;> (rw [Int.mul_comm (n : Int) l]; omega)
theorem ev_bef {n : Nat} {l sh gh : Int} (n1 : 1 ≤ n) (l1 : 0 ≤ l) (l2 : l ≤ n) (s1 : 0 ≤ sh) (s2 : sh < n) (i : Nat) (hi : i ≤ n) : bef n gh (pickL (evP l n sh) n) i = (i : Int) * gh + fl ((i : Int) * l + sh) n := by
  unfold bef
  by_cases c : i < n
  · rw [Int.ediv_eq_zero_of_lt (by omega) (by omega), Int.emod_eq_of_lt (by omega) (by omega)]
    have h := ltN_pick (evP l n sh) i (n - i)
    rw [show i + (n - i) = n by omega] at h
    rw [h, ev_count n1 l1 l2 s1 s2 i]; omega
  · obtain rfl : i = n := by omega
    rw [Int.ediv_self (by omega), Int.emod_self, ltN_none _ _ (fun z hz => by obtain ⟨j, rfl, hj, _⟩ := pickL_mem.1 hz; omega), ev_len n1 l1 l2 s1 s2, ← ev_count n1 l1 l2 s1 s2 i, ev_len n1 l1 l2 s1 s2]; omega
/-- The mean year in lowest terms. -/
theorem mean_low {B n : Int} (hB : 0 ≤ B) (hn : 1 ≤ n) : ∃ G : Int, 1 ≤ G ∧ B = G * (B.tdiv (Int.gcd B n)) ∧ n = G * (n.tdiv (Int.gcd B n)) ∧ 0 ≤ B.tdiv (Int.gcd B n) ∧ B.tdiv (Int.gcd B n) ≤ B ∧ 1 ≤ n.tdiv (Int.gcd B n) ∧ n.tdiv (Int.gcd B n) ≤ n := by
  have hg : 1 ≤ (Int.gcd B n : Int) := by
    have h1 : 0 < Int.gcd B n := Nat.gcd_pos_of_pos_right _ (by omega)
    omega
  have e1 := Int.mul_tdiv_cancel' (Int.gcd_dvd_left (a := B) (b := n))
  have e2 := Int.mul_tdiv_cancel' (Int.gcd_dvd_right (a := B) (b := n))
  have t1 : 0 ≤ B.tdiv (Int.gcd B n) := Int.tdiv_nonneg hB (by omega)
  have t2 : 0 ≤ n.tdiv (Int.gcd B n) := Int.tdiv_nonneg (by omega) (by omega)
  generalize (Int.gcd B n : Int) = G at *
  generalize B.tdiv G = x at *
  generalize n.tdiv G = y at *
  have y1 : 1 ≤ y := by
    by_cases c : y = 0
    · rw [c, Int.mul_zero] at e2; omega
    · omega
  have m1 := Int.mul_le_mul_of_nonneg_right hg t1
  have m2 := Int.mul_le_mul_of_nonneg_right hg t2
  exact ⟨G, hg, e1.symm, e2.symm, t1, by omega, y1, by omega⟩
/-- No year is a day off. -/
theorem ev_drift {n : Nat} {l sh gh : Int} (n1 : 1 ≤ n) (n2 : n ≤ 400) (l1 : 0 ≤ l) (l2 : l ≤ n) (s1 : 0 ≤ sh) (s2 : sh < n) {G num den : Int} (hG : 1 ≤ G) (hd : 1 ≤ den) (e1 : (n : Int) * gh + l = G * num) (e2 : (n : Int) = G * den) :
    ∀ k : Nat, k ≤ n + 1 → drT n gh (pickL (evP l n sh) n) num den k < den := by
  intro k
  induction k with
  | zero => intro _; simp [drT]; omega
  | succ k ih =>
    intro hk
    have ih := ih (by omega)
    rw [drT, ev_bef n1 l1 l2 s1 s2 k (by omega)]
    obtain ⟨f1, f2⟩ := fl_mul (a := (k : Int) * l + sh) (b := (n : Int)) (by omega)
    generalize fl ((k : Int) * l + sh) (n : Int) = f at *
    have e3 : G * (den * ((k : Int) * gh + f) - (k : Int) * num) = (n : Int) * f - (k : Int) * l := by
      have a1 : G * (den * ((k : Int) * gh + f)) = (n : Int) * ((k : Int) * gh + f) := by rw [← Int.mul_assoc, ← e2]
      have a2 : G * ((k : Int) * num) = (k : Int) * ((n : Int) * gh + l) := by rw [e1, ← Int.mul_assoc, Int.mul_comm G, Int.mul_assoc]
      rw [Int.mul_sub, a1, a2, Int.mul_add, Int.mul_add, ← Int.mul_assoc (n : Int), ← Int.mul_assoc (k : Int), Int.mul_comm (n : Int) (k : Int)]
      omega
    generalize den * ((k : Int) * gh + f) - (k : Int) * num = D at *
    have h1 : D < den := by
      by_cases c : D < den
      · exact c
      · have := Int.mul_le_mul_of_nonneg_left (show den ≤ D by omega) (show 0 ≤ G by omega); omega
    have h2 : -den < D := by
      by_cases c : -den < D
      · exact c
      · have := Int.mul_le_mul_of_nonneg_left (show D ≤ -den by omega) (show 0 ≤ G by omega); rw [Int.mul_neg] at this; omega
    unfold mx ab
    split <;> (try split) <;> omega
end Go.Proofs.Ytomfhkpmdalknab
