/- Windows of a sequence: each copy stands within its windows for the greatest deviation, and some copy does not for one less (pure). -/
import Derived.Test.YtmckbjhmkcbjgaaWin8
import Derived.Test.YtmckbjhmkcbjgaaGd8
namespace Go.Proofs.Ytmckbjhmkcbjgaa
open Go.ChangeShapes Go.WideShapes Go.ChangeAt Go.RowKit Go.Deep
set_option linter.unusedVariables false
/-! ### the greatest deviation -/
theorem ab_abs (x : Int) : x ≤ ab x ∧ -x ≤ ab x ∧ (ab x = x ∨ ab x = -x) := by unfold ab; split <;> omega
theorem mx_ge (a b : Int) : a ≤ mx a b ∧ b ≤ mx a b ∧ (mx a b = a ∨ mx a b = b) := by unfold mx; split <;> omega
theorem gr_all (E : List Int) : ∀ (m : Int), m ≤ E.foldl (fun m x => mx m (ab x)) m ∧ (∀ x ∈ E, ab x ≤ E.foldl (fun m x => mx m (ab x)) m) ∧ (E.foldl (fun m x => mx m (ab x)) m = m ∨ ∃ x ∈ E, E.foldl (fun m x => mx m (ab x)) m = ab x) := by
  induction E with
  | nil => intro m; simp
  | cons a t ih =>
    intro m
    obtain ⟨h1, h2, h3⟩ := ih (mx m (ab a))
    have hm := mx_ge m (ab a)
    simp only [List.foldl_cons]
    refine ⟨by omega, fun x hx => ?_, ?_⟩
    · rcases List.mem_cons.1 hx with rfl | hx
      · omega
      · exact h2 x hx
    · rcases h3 with h3 | ⟨x, hx, h3⟩
      · rcases hm.2.2 with h4 | h4
        · exact .inl (h3.trans h4)
        · exact .inr ⟨a, List.mem_cons_self .., h3.trans h4⟩
      · exact .inr ⟨x, List.mem_cons_of_mem _ hx, h3⟩
theorem fold_all (zss : List (List Int)) : ∀ (m : Int), m ≤ zss.foldl (fun m z => mx m (gr z)) m ∧ (∀ z ∈ zss, gr z ≤ zss.foldl (fun m z => mx m (gr z)) m) ∧ (zss.foldl (fun m z => mx m (gr z)) m = m ∨ ∃ z ∈ zss, zss.foldl (fun m z => mx m (gr z)) m = gr z) := by
  induction zss with
  | nil => intro m; simp
  | cons a t ih =>
    intro m
    obtain ⟨h1, h2, h3⟩ := ih (mx m (gr a))
    have hm := mx_ge m (gr a)
    simp only [List.foldl_cons]
    refine ⟨by omega, fun x hx => ?_, ?_⟩
    · rcases List.mem_cons.1 hx with rfl | hx
      · omega
      · exact h2 x hx
    · rcases h3 with h3 | ⟨x, hx, h3⟩
      · rcases hm.2.2 with h4 | h4
        · exact .inl (h3.trans h4)
        · exact .inr ⟨a, List.mem_cons_self .., h3.trans h4⟩
      · exact .inr ⟨x, List.mem_cons_of_mem _ hx, h3⟩
/-- A deviation: behind k elements, of a product. -/
def dvA (d l : List Int) (k i : Nat) : Int := d.sum * cntI (l.take k) i - (k : Int) * d.getD i 0
theorem gd_le {d l : List Int} (h : seqO d l = true) (k i : Nat) (hk : 1 ≤ k ∧ k ≤ l.length) (hi : i < d.length) : dvA d l k i ≤ gdV d l ∧ -dvA d l k i ≤ gdV d l := by
  have hE : devV d l = devs d l l.length := by unfold devV; rw [h]; rfl
  have hz : devF d (cntI (l.take k)) k ∈ devs d l l.length := by
    unfold devs
    refine List.mem_map.2 ⟨k - 1, List.mem_range.2 (by omega), ?_⟩
    rw [show k - 1 + 1 = k by omega, show ((k - 1 : Nat) : Int) + 1 = k by omega]
  have hx : dvA d l k i ∈ devF d (cntI (l.take k)) k := by
    unfold devF
    exact List.mem_map.2 ⟨i, List.mem_range.2 hi, rfl⟩
  have h1 := (fold_all (devs d l l.length) 0).2.1 _ hz
  have h2 := (gr_all (devF d (cntI (l.take k)) k) 0).2.1 _ hx
  have h3 := ab_abs (dvA d l k i)
  have h4 : gdV d l = (devs d l l.length).foldl (fun m z => mx m (gr z)) 0 := by unfold gdV foldP; rw [hE]
  unfold gr at h1
  rw [h4]; unfold gr
  omega
theorem gd_at {d l : List Int} (h : seqO d l = true) : 0 ≤ gdV d l ∧ (gdV d l = 0 ∨ ∃ k i, 1 ≤ k ∧ k ≤ l.length ∧ i < d.length ∧ (gdV d l = dvA d l k i ∨ gdV d l = -dvA d l k i)) := by
  have hE : devV d l = devs d l l.length := by unfold devV; rw [h]; rfl
  have h4 : gdV d l = (devs d l l.length).foldl (fun m z => mx m (gr z)) 0 := by unfold gdV foldP; rw [hE]
  obtain ⟨a1, a2, a3⟩ := fold_all (devs d l l.length) 0
  rw [← h4] at a1 a3
  refine ⟨a1, ?_⟩
  rcases a3 with a3 | ⟨z, hz, a3⟩
  · exact .inl a3
  · obtain ⟨b1, b2, b3⟩ := gr_all z 0
    rcases b3 with b3 | ⟨x, hx, b3⟩
    · exact .inl (a3.trans b3)
    · right
      unfold devs at hz
      obtain ⟨k, hk, rfl⟩ := List.mem_map.1 hz
      have hk := List.mem_range.1 hk
      unfold devF at hx
      obtain ⟨i, hi, rfl⟩ := List.mem_map.1 hx
      have hi := List.mem_range.1 hi
      refine ⟨k + 1, i, by omega, by omega, hi, ?_⟩
      have hg : gdV d l = ab (d.sum * cntI (l.take (k + 1)) i - ((k : Int) + 1) * d.getD i 0) := a3.trans b3
      have h5 := (ab_abs (d.sum * cntI (l.take (k + 1)) i - ((k : Int) + 1) * d.getD i 0)).2.2
      have h6 : dvA d l (k + 1) i = d.sum * cntI (l.take (k + 1)) i - ((k : Int) + 1) * d.getD i 0 := by unfold dvA; rw [Int.natCast_add, Int.natCast_one]
      rw [hg, h6]; exact h5
/-! ### copies -/
theorem last_copy (l : List Int) (i : Nat) : ∀ k, k ≤ l.length → 1 ≤ cntI (l.take k) i → ∃ k', k' < k ∧ l.getD k' 0 = (i : Int) ∧ cntI (l.take k') i = cntI (l.take k) i - 1 := by
  intro k
  induction k with
  | zero => intro _ h; simp [cntI] at h
  | succ k ih =>
    intro hk h
    have e := cntI_succ l k i (by omega)
    by_cases c : l.getD k 0 = (i : Int)
    · rw [if_pos c] at e
      exact ⟨k, by omega, c, by omega⟩
    · rw [if_neg c] at e
      obtain ⟨k', h1, h2, h3⟩ := ih (by omega) (by omega)
      exact ⟨k', by omega, h2, by omega⟩
theorem next_copy (l : List Int) (i : Nat) : ∀ (f k : Nat), l.length - k = f → k ≤ l.length → cntI (l.take k) i < cntI l i → ∃ k', k ≤ k' ∧ k' < l.length ∧ l.getD k' 0 = (i : Int) ∧ cntI (l.take k') i = cntI (l.take k) i := by
  intro f
  induction f with
  | zero =>
    intro k hf hk h
    rw [show k = l.length by omega, List.take_length] at h; omega
  | succ f ih =>
    intro k hf hk h
    have e := cntI_succ l k i (by omega)
    by_cases c : l.getD k 0 = (i : Int)
    · exact ⟨k, Nat.le_refl _, by omega, c, rfl⟩
    · rw [if_neg c] at e
      obtain ⟨k', h1, h2, h3, h4⟩ := ih (k + 1) (by omega) (by omega) (by omega)
      exact ⟨k', by omega, h2, h3, by omega⟩
/-! ### windows -/
theorem ce_le {a q x : Int} (hx : 1 ≤ x) : ce a x ≤ q ↔ a ≤ x * q := by
  have h := fl_mul (a := -a) hx
  rw [ce_eq]
  generalize fl (-a) x = f at *
  constructor
  · intro h1
    have : x * (-q) ≤ x * f := Int.mul_le_mul_of_nonneg_left (by omega) (by omega)
    rw [Int.mul_neg] at this
    omega
  · intro h1
    have h2 : x * (-q) < x * (f + 1) := by rw [Int.mul_neg, Int.mul_add]; omega
    have := Int.lt_of_mul_lt_mul_left h2 (by omega)
    omega
theorem le_fl {a q x : Int} (hx : 1 ≤ x) : q ≤ fl a x ↔ x * q ≤ a := by
  have h := fl_mul (a := a) hx
  generalize fl a x = f at *
  constructor
  · intro h1
    have : x * q ≤ x * f := Int.mul_le_mul_of_nonneg_left h1 (by omega)
    omega
  · intro h1
    have h2 : x * q < x * (f + 1) := by rw [Int.mul_add]; omega
    have := Int.lt_of_mul_lt_mul_left h2 (by omega)
    omega
theorem fst_le {D x b : Int} {t k : Nat} (hx : 1 ≤ x) : fstV D x b t ≤ (k : Int) + 1 ↔ D * ((t : Int) + 1) - b ≤ x * ((k : Int) + 1) := by
  rw [← ce_le hx]
  unfold fstV mx
  split <;> omega
theorem le_lst {D x b : Int} {t k : Nat} (hx : 1 ≤ x) (hk : (k : Int) + 1 ≤ D) : (k : Int) + 1 ≤ lstV D x b t ↔ x * (k : Int) ≤ b + D * (t : Int) := by
  rw [← le_fl hx]
  unfold lstV mnW
  split <;> omega
/-- The copy at a place stands within its window. -/
def inAt (d l : List Int) (b : Int) (k : Nat) : Bool :=
  decide (fstV d.sum (d.getD (l.getD k 0).toNat 0) b (cntI (l.take k) (l.getD k 0).toNat).toNat ≤ (k : Int) + 1) && decide ((k : Int) + 1 ≤ lstV d.sum (d.getD (l.getD k 0).toNat 0) b (cntI (l.take k) (l.getD k 0).toNat).toNat)
def inW (d l : List Int) (b : Int) (k : Nat) : Bool := (List.range k).all (inAt d l b)
theorem inW_succ (d l : List Int) (b : Int) (k : Nat) : inW d l b (k + 1) = (inW d l b k && inAt d l b k) := by unfold inW; rw [List.range_succ, List.all_append]; simp
theorem copy_lt {d l : List Int} (h : seqO d l = true) {k i : Nat} (hk : k < l.length) (hi : l.getD k 0 = (i : Int)) : i < d.length ∧ 0 ≤ cntI (l.take k) i ∧ cntI (l.take k) i < d.getD i 0 ∧ cntI (l.take (k + 1)) i = cntI (l.take k) i + 1 := by
  have h1 := rngB_at (seqO_parts h).2.1 hk
  have e := cntI_succ l k i hk
  rw [if_pos hi] at e
  have h2 := cntI_take_le l (k + 1) i
  rw [cntI_dem h i (by omega)] at h2
  have h3 := cntI_bd l k i (by omega)
  exact ⟨by omega, h3.1, by omega, e⟩
theorem all_in {d l : List Int} (h : seqO d l = true) : inW d l (gdV d l) l.length = true := by
  unfold inW
  rw [List.all_eq_true]
  intro k hk
  have hk := List.mem_range.1 hk
  have hr := rngB_at (seqO_parts h).2.1 hk
  obtain ⟨i, hi⟩ : ∃ i : Nat, l.getD k 0 = (i : Int) := ⟨(l.getD k 0).toNat, by omega⟩
  obtain ⟨c1, c2, c3, c4⟩ := copy_lt h hk hi
  obtain ⟨t, ht⟩ : ∃ t : Nat, cntI (l.take k) i = (t : Int) := ⟨(cntI (l.take k) i).toNat, by omega⟩
  have hd := (okD_parts (seqO_parts h).1).2.2.1 i c1
  have hL := (seqO_len h).1
  unfold inAt
  rw [hi, Int.toNat_natCast, ht, Int.toNat_natCast, Bool.and_eq_true, decide_eq_true_eq, decide_eq_true_eq, fst_le hd.1, le_lst hd.1 (by omega)]
  have g1 := (gd_le h (k + 1) i (by omega) c1).1
  have hg0 := (gd_at h).1
  unfold dvA at g1
  rw [c4, ht, Int.natCast_add, Int.natCast_one] at g1
  have m1 := Int.mul_comm (d.getD i 0) ((k : Int) + 1)
  have m2 := Int.mul_comm (d.getD i 0) (k : Int)
  refine ⟨by omega, ?_⟩
  by_cases k0 : k = 0
  · subst k0
    have : 0 ≤ d.sum * (t : Int) := Int.mul_nonneg (by omega) (by omega)
    simp; omega
  · have g2 := (gd_le h k i (by omega) c1).2
    unfold dvA at g2
    rw [ht] at g2
    omega
theorem some_out {d l : List Int} (h : seqO d l = true) {b : Int} (hb : 0 ≤ b) (hlt : b < gdV d l) : inW d l b l.length = false := by
  have hL := (seqO_len h).1
  rcases (gd_at h).2 with h0 | ⟨k, i, k1, k2, hi, hg⟩
  · omega
  have hd := (okD_parts (seqO_parts h).1).2.2.1 i hi
  have hcb := cntI_bd l k i k2
  have key : ∃ k', k' < l.length ∧ inAt d l b k' = false := by
    unfold dvA at hg
    rcases hg with hg | hg
    · -- the last copy so far stands too early
      have hc1 : 1 ≤ cntI (l.take k) i := by
        by_cases c : 1 ≤ cntI (l.take k) i
        · exact c
        · exfalso
          have e : cntI (l.take k) i = 0 := by omega
          rw [e, Int.mul_zero] at hg
          have : 0 ≤ (k : Int) * d.getD i 0 := Int.mul_nonneg (by omega) (by omega)
          omega
      obtain ⟨k', h1, h2, h3⟩ := last_copy l i k k2 hc1
      refine ⟨k', by omega, ?_⟩
      obtain ⟨t, ht⟩ : ∃ t : Nat, cntI (l.take k') i = (t : Int) := ⟨(cntI (l.take k') i).toNat, by omega⟩
      unfold inAt
      rw [h2, Int.toNat_natCast, ht, Int.toNat_natCast, Bool.and_eq_false_iff]
      left
      rw [decide_eq_false_iff_not, fst_le hd.1]
      have m1 : d.getD i 0 * ((k' : Int) + 1) ≤ d.getD i 0 * (k : Int) := Int.mul_le_mul_of_nonneg_left (by omega) (by omega)
      have m2 := Int.mul_comm (d.getD i 0) (k : Int)
      have m3 : (t : Int) + 1 = cntI (l.take k) i := by omega
      rw [m3]; omega
    · -- the next copy stands too late
      have hc1 : cntI (l.take k) i < cntI l i := by
        rw [cntI_dem h i hi]
        by_cases c : cntI (l.take k) i < d.getD i 0
        · exact c
        · exfalso
          have e1 : d.sum * d.getD i 0 ≤ d.sum * cntI (l.take k) i := Int.mul_le_mul_of_nonneg_left (by omega) (by omega)
          have e2 : (k : Int) * d.getD i 0 ≤ d.sum * d.getD i 0 := Int.mul_le_mul_of_nonneg_right (by omega) (by omega)
          omega
      obtain ⟨k', h1, h2, h3, h4⟩ := next_copy l i _ k rfl k2 hc1
      refine ⟨k', h2, ?_⟩
      obtain ⟨t, ht⟩ : ∃ t : Nat, cntI (l.take k') i = (t : Int) := ⟨(cntI (l.take k') i).toNat, by omega⟩
      unfold inAt
      rw [h3, Int.toNat_natCast, ht, Int.toNat_natCast, Bool.and_eq_false_iff]
      right
      rw [decide_eq_false_iff_not, le_lst hd.1 (by omega)]
      have m1 : d.getD i 0 * (k : Int) ≤ d.getD i 0 * (k' : Int) := Int.mul_le_mul_of_nonneg_left (by omega) (by omega)
      have m2 := Int.mul_comm (d.getD i 0) (k : Int)
      have m3 : (t : Int) = cntI (l.take k) i := by omega
      rw [m3]; omega
  obtain ⟨k', h1, h2⟩ := key
  unfold inW
  rw [List.all_eq_false]
  exact ⟨k', List.mem_range.2 h1, by rw [h2]; exact Bool.false_ne_true⟩
/-! ### the bound -/
theorem cnt_rest {d l : List Int} (h : seqO d l = true) {k i : Nat} (hk : k ≤ l.length) (hi : i < d.length) : (k : Int) - cntI (l.take k) i ≤ d.sum - d.getD i 0 := by
  have h1 := (List.take_sublist k l).countP_le (p := fun z => !decide (z = (i : Int)))
  have h2 := List.length_eq_countP_add_countP (fun z => decide (z = (i : Int))) (l := l.take k)
  have h3 := List.length_eq_countP_add_countP (fun z => decide (z = (i : Int))) (l := l)
  have h4 := cntI_dem h i hi
  have h5 := (seqO_len h).1
  rw [List.length_take] at h2
  have e1 : (l.take k).countP (fun a => decide ¬ (decide (a = (i : Int)) = true)) = (l.take k).countP (fun z => !decide (z = (i : Int))) := List.countP_congr (fun x _ => by simp)
  have e2 : l.countP (fun a => decide ¬ (decide (a = (i : Int)) = true)) = l.countP (fun z => !decide (z = (i : Int))) := List.countP_congr (fun x _ => by simp)
  rw [e1] at h2
  rw [e2] at h3
  unfold cntI at h4 ⊢
  omega
theorem dem_sum : ∀ (d : List Int) (i : Nat), (∀ z ∈ d, 1 ≤ z) → i < d.length → d.getD i 0 ≤ d.sum := by
  intro d
  induction d with
  | nil => intro i _ h; simp at h
  | cons a t ih =>
    intro i h hi
    have ha := h a (List.mem_cons_self ..)
    have ht : 0 ≤ t.sum := by
      have : ∀ u : List Int, (∀ z ∈ u, 1 ≤ z) → 0 ≤ u.sum := by
        intro u
        induction u with
        | nil => intro _; simp
        | cons b u ih2 =>
          intro hu
          have := ih2 (fun z hz => hu z (List.mem_cons_of_mem _ hz))
          have := hu b (List.mem_cons_self ..)
          rw [List.sum_cons]; omega
      exact this t (fun z hz => h z (List.mem_cons_of_mem _ hz))
    cases i with
    | zero => simp; omega
    | succ i =>
      have := ih i (fun z hz => h z (List.mem_cons_of_mem _ hz)) (by simpa using hi)
      rw [List.getD_cons_succ, List.sum_cons]; omega
theorem gd_win {d l : List Int} (h : seqO d l = true) {b : Int} (hb : 0 ≤ b) (hle : b ≤ gdV d l) : winB d b = true := by
  have hok := (seqO_parts h).1
  unfold winB
  rw [hok, Bool.true_and, inB_iff]
  refine ⟨hb, ?_⟩
  have hs := okD_sum hok
  have hp := okD_parts hok
  have hDD : d.sum * (d.sum - 1) = d.sum * d.sum - d.sum := by rw [Int.mul_sub, Int.mul_one]
  rcases (gd_at h).2 with h0 | ⟨k, i, k1, k2, hi, hg⟩
  · have : 1 * 1 ≤ d.sum * d.sum := Int.mul_le_mul (by omega) (by omega) (by omega) (by omega)
    omega
  · have hd := hp.2.2.1 i hi
    have hcb := cntI_bd l k i k2
    have hct := cntI_take_le l k i
    rw [cntI_dem h i hi] at hct
    have hr := cnt_rest h k2 hi
    have hds := dem_sum d i (fun z hz => (okD_mem hok z hz).1) hi
    unfold dvA at hg
    generalize d.sum = D at *
    generalize d.getD i 0 = x at *
    generalize cntI (l.take k) i = c at *
    rcases hg with hg | hg
    · have e1 : c * x ≤ (k : Int) * x := Int.mul_le_mul_of_nonneg_right (by omega) (by omega)
      have e2 : c * (D - x) ≤ D * (D - 1) := Int.mul_le_mul (by omega) (by omega) (by omega) (by omega)
      have e3 : c * (D - x) = D * c - c * x := by rw [Int.mul_sub, Int.mul_comm c D]
      omega
    · have e1 : (k : Int) * x ≤ (c + D - x) * x := Int.mul_le_mul_of_nonneg_right (by omega) (by omega)
      have e2 : (D - x) * (x - c) ≤ (D - 1) * D := Int.mul_le_mul (by omega) (by omega) (by omega) (by omega)
      have e3 : (c + D - x) * x = c * x + D * x - x * x := by rw [Int.sub_mul, Int.add_mul]
      have e4 : (D - x) * (x - c) = D * x - D * c - (x * x - x * c) := by rw [Int.sub_mul, Int.mul_sub, Int.mul_sub]
      have e5 := Int.mul_comm x c
      have e6 : (D - 1) * D = D * D - D := by rw [Int.sub_mul, Int.one_mul]
      omega
end Go.Proofs.Ytmckbjhmkcbjgaa
