/- Calendars: increasing lists, leap years before a year, the year of a day (pure). -/
import Derived.Test.YtpdcmhnaedhkdaaGreat
import Derived.Test.YtpdcmhnaedhkdaaLam4
namespace Go.Proofs.Ytpdcmhnaedhkdaa
open Go.ChangeShapes Go.WideShapes Go.ChangeAt Go.RowKit
set_option linter.unusedVariables false
/-- An element of a list is greater than the one before it. -/
def incAt (zs : List Int) (i : Nat) : Bool := decide (i = 0) || decide (zs.getD (i - 1) 0 < zs.getD i 0)
def incT (zs : List Int) (k : Nat) : Bool := (List.range k).all (incAt zs)
def incB (zs : List Int) : Bool := incT zs zs.length
theorem incT_succ (zs : List Int) (k : Nat) : incT zs (k + 1) = (incT zs k && incAt zs k) := by unfold incT; rw [List.range_succ, List.all_append]; simp
theorem incB_no {zs : List Int} {k : Nat} (h : k < zs.length) (hf : incAt zs k = false) : incB zs = false := by
  unfold incB incT; rw [List.all_eq_false]; exact ⟨k, List.mem_range.2 h, by rw [hf]; simp⟩
def okC (g gh : Int) (zs : List Int) : Bool := inB g 1 400 && (inB gh 1 1000 && ((zs.all fun x => inB x 0 (g - 1)) && incB zs))
open Classical in
theorem risesB_all (lo hi : Int) (zs : List Int) : risesB zs lo hi = ((zs.all fun x => inB x lo hi) && incB zs) := by
  unfold risesB
  rw [Bool.eq_iff_iff, Bool.and_eq_true, decide_eq_true_eq]
  unfold RisesTo incB incT
  simp only [List.all_eq_true, List.mem_range]
  constructor
  · intro h
    refine ⟨fun x hx => ?_, fun i hi => ?_⟩
    · obtain ⟨i, hi, rfl⟩ := List.getElem_of_mem hx
      have h2 := (h i hi).1
      rwa [getD_get zs i hi] at h2
    · have h2 := (h i hi).2
      unfold incAt
      by_cases c : i = 0
      · simp [c]
      · rw [decide_eq_true (h2 (by omega))]; simp
  · rintro ⟨h1, h2⟩ i hi
    refine ⟨h1 _ (getD_mem zs i hi), fun h0 => ?_⟩
    have h3 := h2 i hi
    unfold incAt at h3
    rw [decide_eq_false (show ¬ i = 0 by omega), Bool.false_or, decide_eq_true_eq] at h3
    exact h3
theorem inc_step {zs : List Int} (h : incB zs = true) {i : Nat} (hi : i + 1 < zs.length) : zs.getD i 0 < zs.getD (i + 1) 0 := by
  unfold incB incT at h
  rw [List.all_eq_true] at h
  have h2 := h (i + 1) (List.mem_range.2 hi)
  unfold incAt at h2
  simp at h2
  simpa [List.getD_eq_getElem?_getD] using h2
theorem inc_lt {zs : List Int} (h : incB zs = true) (i : Nat) : ∀ j, i < j → j < zs.length → zs.getD i 0 < zs.getD j 0 := by
  intro j
  induction j with
  | zero => intro h1; omega
  | succ j ih =>
    intro h1 h2
    have h3 := inc_step h h2
    by_cases e : i = j
    · subst e; exact h3
    · have := ih (by omega) (by omega); omega
theorem inc_pw {zs : List Int} (h : incB zs = true) : zs.Pairwise (· < ·) := by
  rw [List.pairwise_iff_getElem]
  intro i j hi hj hij
  have := inc_lt h i j hij hj
  rwa [getD_get zs i hi, getD_get zs j hj] at this
/-- How many elements are less than r. -/
def ltN (zs : List Int) (r : Int) : Nat := zs.countP (fun z => decide (z < r))
theorem ltN_take (zs : List Int) (r : Int) (k : Nat) (h : k < zs.length) : ltN (zs.take (k + 1)) r = ltN (zs.take k) r + (if zs.getD k 0 < r then 1 else 0) := by
  unfold ltN
  rw [take_succ_getD zs k h, List.countP_append]
  by_cases c : zs.getD k 0 < r
  · rw [if_pos c, List.countP_cons_of_pos (by simpa using c)]; rfl
  · rw [if_neg c, List.countP_cons_of_neg (by simpa using c)]; rfl
theorem ltN_le (zs : List Int) (r : Int) : ltN zs r ≤ zs.length := List.countP_le_length
theorem ltN_lo {zs : List Int} (h : incB zs = true) {r : Int} {k : Nat} (hk : k < zs.length) (hr : zs.getD k 0 < r) : k + 1 ≤ ltN zs r := by
  have e : ltN zs r = ltN (zs.take (k + 1)) r + ltN (zs.drop (k + 1)) r := by
    unfold ltN; rw [← List.countP_append, List.take_append_drop]
  have e2 : ltN (zs.take (k + 1)) r = (zs.take (k + 1)).length := by
    unfold ltN
    rw [List.countP_eq_length]
    intro x hx
    obtain ⟨i, hi, rfl⟩ := List.getElem_of_mem hx
    rw [List.length_take] at hi
    rw [List.getElem_take]
    have hi2 : i < zs.length := by omega
    rw [← getD_get zs i hi2]
    by_cases c : i = k
    · subst c; simpa using hr
    · have := inc_lt h i k (by omega) hk
      simp; simp at *; omega
  rw [List.length_take] at e2
  omega
theorem ltN_hi {zs : List Int} (h : incB zs = true) {r : Int} {k : Nat} (hk : k < zs.length) (hr : ¬ zs.getD k 0 < r) : ltN zs r ≤ k := by
  have e : ltN zs r = ltN (zs.take k) r + ltN (zs.drop k) r := by
    unfold ltN; rw [← List.countP_append, List.take_append_drop]
  have e2 : ltN (zs.drop k) r = 0 := by
    unfold ltN
    rw [List.countP_eq_zero]
    intro x hx
    obtain ⟨i, hi, rfl⟩ := List.getElem_of_mem hx
    rw [List.length_drop] at hi
    rw [List.getElem_drop]
    have hi2 : k + i < zs.length := by omega
    rw [← getD_get zs (k + i) hi2]
    by_cases c : i = 0
    · subst c; simpa using hr
    · have h9 := inc_lt h k (k + i) (by omega) hi2
      rw [decide_eq_true_eq]; omega
  have e3 := ltN_le (zs.take k) r
  rw [List.length_take] at e3
  omega
theorem ltN_none (zs : List Int) (r : Int) (h : ∀ z ∈ zs, r ≤ z) : ltN zs r = 0 := by
  unfold ltN
  rw [List.countP_eq_zero]
  intro z hz
  have := h z hz
  rw [decide_eq_true_eq]; omega
theorem ltN_all (zs : List Int) (r : Int) (h : ∀ z ∈ zs, z < r) : ltN zs r = zs.length := by
  unfold ltN
  rw [List.countP_eq_length]
  intro z hz
  have := h z hz
  simpa using this
theorem ltN_succ (zs : List Int) (h : zs.Pairwise (· < ·)) (r : Int) : ltN zs (r + 1) = ltN zs r + (if hasB zs r then 1 else 0) := by
  induction zs with
  | nil => rfl
  | cons a t ih =>
    obtain ⟨h1, h2⟩ := List.pairwise_cons.1 h
    have ih := ih h2
    rcases Int.lt_trichotomy a r with c | c | c
    · have e1 : ltN (a :: t) (r + 1) = ltN t (r + 1) + 1 := List.countP_cons_of_pos (by simp; omega)
      have e2 : ltN (a :: t) r = ltN t r + 1 := List.countP_cons_of_pos (by simp; omega)
      have e3 : hasB (a :: t) r = hasB t r := by unfold hasB; exact decide_eq_decide.2 ⟨fun h => (List.mem_cons.1 h).resolve_left (by omega), fun h => List.mem_cons_of_mem _ h⟩
      rw [e1, e2, e3, ih]; omega
    · subst c
      rw [ltN_none t (a + 1) (fun z hz => by have := h1 z hz; omega)] at ih
      have e1 : ltN (a :: t) (a + 1) = ltN t (a + 1) + 1 := List.countP_cons_of_pos (by simp; omega)
      have e2 : ltN (a :: t) a = ltN t a := List.countP_cons_of_neg (by simp)
      have e3 : hasB (a :: t) a = true := by unfold hasB; exact decide_eq_true (List.mem_cons_self ..)
      rw [e1, e2, e3, ltN_none t (a + 1) (fun z hz => by have := h1 z hz; omega), ltN_none t a (fun z hz => by have := h1 z hz; omega)]; rfl
    · have e1 : ltN (a :: t) (r + 1) = 0 := ltN_none _ _ (fun z hz => by rcases List.mem_cons.1 hz with rfl | hz; omega; have := h1 z hz; omega)
      have e2 : ltN (a :: t) r = 0 := ltN_none _ _ (fun z hz => by rcases List.mem_cons.1 hz with rfl | hz; omega; have := h1 z hz; omega)
      have e3 : hasB (a :: t) r = false := by
        unfold hasB; refine decide_eq_false fun hm => ?_
        rcases List.mem_cons.1 hm with e | hz
        · omega
        · have := h1 r hz; omega
      rw [e1, e2, e3]; rfl
theorem okC_g {g gh : Int} {zs : List Int} (h : okC g gh zs = true) : 1 ≤ g ∧ g ≤ 400 := by unfold okC at h; simp only [Bool.and_eq_true] at h; exact inB_iff.1 h.1
theorem okC_h {g gh : Int} {zs : List Int} (h : okC g gh zs = true) : 1 ≤ gh ∧ gh ≤ 1000 := by unfold okC at h; simp only [Bool.and_eq_true] at h; exact inB_iff.1 h.2.1
theorem okC_in {g gh : Int} {zs : List Int} (h : okC g gh zs = true) : ∀ z ∈ zs, 0 ≤ z ∧ z ≤ g - 1 := by
  unfold okC at h; simp only [Bool.and_eq_true, List.all_eq_true] at h
  intro z hz; exact inB_iff.1 (h.2.2.1 z hz)
theorem okC_inc {g gh : Int} {zs : List Int} (h : okC g gh zs = true) : incB zs = true := by unfold okC at h; simp only [Bool.and_eq_true] at h; exact h.2.2.2
theorem okC_len {g gh : Int} {zs : List Int} (h : okC g gh zs = true) : (zs.length : Int) ≤ g := by
  have h1 := okC_in h; have h2 := okC_inc h
  have h3 : ∀ i, i < zs.length → (i : Int) ≤ zs.getD i 0 := by
    intro i
    induction i with
    | zero => intro hi; have := h1 _ (getD_mem zs 0 hi); simp only [Int.natCast_zero] at *; omega
    | succ i ih => intro hi; have := inc_step h2 hi; have := ih (by omega); omega
  have hg := okC_g h
  by_cases e : zs.length = 0
  · omega
  have h4 := h3 (zs.length - 1) (by omega)
  have h5 := h1 _ (getD_mem zs (zs.length - 1) (by omega))
  omega
/-- The days before a year. -/
def bef (g gh : Int) (zs : List Int) (y : Int) : Int := y * gh + y / g * zs.length + ltN zs (y % g)
theorem bef_step {g gh : Int} {zs : List Int} (h : okC g gh zs = true) {y : Int} (hy : 0 ≤ y) : bef g gh zs (y + 1) = bef g gh zs y + gh + (if hasB zs (y % g) then 1 else 0) := by
  have hg := okC_g h
  have hp := inc_pw (okC_inc h)
  have hin := okC_in h
  have m0 := Int.emod_nonneg y (show g ≠ 0 by omega)
  have m1 := Int.emod_lt_of_pos y (show 0 < g by omega)
  have e0 := Int.mul_ediv_add_emod y g
  have hs := ltN_succ zs hp (y % g)
  unfold bef
  have e1 : (y + 1) * gh = y * gh + gh := by rw [Int.add_mul, Int.one_mul]
  have hs2 : ((ltN zs (y % g + 1) : Nat) : Int) = (ltN zs (y % g) : Nat) + (if hasB zs (y % g) then 1 else 0) := by rw [hs]; split <;> simp
  by_cases c : y % g + 1 < g
  · have q : (y + 1) / g = y / g ∧ (y + 1) % g = y % g + 1 := by
      refine ⟨?_, ?_⟩
      · rw [show y + 1 = (y % g + 1) + g * (y / g) by omega, Int.add_mul_ediv_left _ _ (by omega), Int.ediv_eq_zero_of_lt (by omega) c]; omega
      · rw [show y + 1 = (y % g + 1) + g * (y / g) by omega, Int.add_mul_emod_self_left, Int.emod_eq_of_lt (by omega) c]
    rw [q.1, q.2, e1, hs2]; omega
  · have q : (y + 1) / g = y / g + 1 ∧ (y + 1) % g = 0 := by
      have e3 : y + 1 = 0 + g * (y / g + 1) := by rw [Int.mul_add]; omega
      refine ⟨?_, ?_⟩
      · rw [e3, Int.add_mul_ediv_left _ _ (by omega)]; simp
      · rw [e3, Int.add_mul_emod_self_left]; simp
    rw [show y % g + 1 = g by omega, ltN_all zs g (fun z hz => by have := hin z hz; omega)] at hs2
    rw [q.1, q.2, e1, ltN_none zs 0 (fun z hz => (hin z hz).1), Int.add_mul, Int.one_mul]
    omega
theorem bef_zero {g gh : Int} {zs : List Int} (h : okC g gh zs = true) : bef g gh zs 0 = 0 := by
  unfold bef
  rw [show (0 : Int) % g = 0 by simp, ltN_none zs 0 (fun z hz => (okC_in h z hz).1)]; simp
theorem bef_grow {g gh : Int} {zs : List Int} (h : okC g gh zs = true) {y : Int} (hy : 0 ≤ y) : bef g gh zs y + 1 ≤ bef g gh zs (y + 1) ∧ bef g gh zs (y + 1) ≤ bef g gh zs y + 1001 := by
  have := okC_h h
  rw [bef_step h hy]; split <;> omega
theorem bef_mono {g gh : Int} {zs : List Int} (h : okC g gh zs = true) (a : Nat) : ∀ n : Nat, bef g gh zs a + n ≤ bef g gh zs ((a + n : Nat) : Int) ∧ bef g gh zs ((a + n : Nat) : Int) ≤ bef g gh zs a + 1001 * n := by
  intro n
  induction n with
  | zero => simp
  | succ n ih =>
    have := bef_grow h (y := ((a + n : Nat) : Int)) (by omega)
    rw [show (((a + n : Nat) : Int) + 1) = ((a + (n + 1) : Nat) : Int) by omega] at this
    omega
theorem bef_le {g gh : Int} {zs : List Int} (h : okC g gh zs = true) {a b : Int} (ha : 0 ≤ a) (hb : a ≤ b) : bef g gh zs a + (b - a) ≤ bef g gh zs b := by
  obtain ⟨m, rfl⟩ : ∃ m : Nat, a = m := ⟨a.toNat, by omega⟩
  obtain ⟨n, rfl⟩ : ∃ n : Nat, b = ((m + n : Nat) : Int) := ⟨(b - m).toNat, by omega⟩
  have := (bef_mono h m n).1
  omega
theorem bef_bd {g gh : Int} {zs : List Int} (h : okC g gh zs = true) {y : Int} (hy : 0 ≤ y) : 0 ≤ bef g gh zs y ∧ bef g gh zs y ≤ 1001 * y := by
  obtain ⟨n, rfl⟩ : ∃ n : Nat, y = n := ⟨y.toNat, by omega⟩
  have := bef_mono h 0 n
  rw [Nat.zero_add, show ((0 : Nat) : Int) = 0 from rfl, bef_zero h] at this
  omega
/-- What is counted on the way stays small. -/
theorem bef_parts {g gh : Int} {zs : List Int} (h : okC g gh zs = true) {y : Int} (hy : 0 ≤ y) (hy2 : y ≤ 100000) : (0 ≤ y * gh ∧ y * gh ≤ 100000000) ∧ (0 ≤ y / g ∧ y / g ≤ 100000) ∧ (0 ≤ y / g * (zs.length : Int) ∧ y / g * (zs.length : Int) ≤ 40000000) ∧ (zs.length : Int) ≤ 400 ∧ ltN zs (y % g) ≤ 400 := by
  have h1 := okC_g h; have h2 := okC_h h; have h3 := okC_len h
  have q0 := Int.ediv_nonneg hy (show 0 ≤ g by omega)
  have q1 := Int.ediv_le_self (a := y) g hy
  have m1 := Int.mul_nonneg hy (show 0 ≤ gh by omega)
  have m2 := Int.mul_le_mul hy2 h2.2 (by omega) (by omega)
  have m3 := Int.mul_nonneg q0 (show 0 ≤ (zs.length : Int) by omega)
  have m4 := Int.mul_le_mul (show y / g ≤ 100000 by omega) (show (zs.length : Int) ≤ 400 by omega) (by omega) (by omega)
  have := ltN_le zs (y % g)
  exact ⟨⟨m1, by omega⟩, ⟨q0, by omega⟩, ⟨m3, by omega⟩, by omega, by omega⟩
/-- The year in which a day lies. -/
def IsY (g gh : Int) (zs : List Int) (day : Int) (y : Nat) : Prop := y < 100000 ∧ bef g gh zs y ≤ day ∧ day < bef g gh zs ((y : Int) + 1)
theorem isY_ex {g gh : Int} {zs : List Int} (h : okC g gh zs = true) {day : Int} (h0 : 0 ≤ day) (h1 : day < bef g gh zs 100000) : ∃ y, IsY g gh zs day y := by
  have : ∀ N : Nat, N ≤ 100000 → day < bef g gh zs N → ∃ y, IsY g gh zs day y := by
    intro N
    induction N with
    | zero => intro _ h2; rw [show ((0 : Nat) : Int) = 0 from rfl, bef_zero h] at h2; omega
    | succ N ih =>
      intro h3 h2
      by_cases c : day < bef g gh zs N
      · exact ih (by omega) c
      · exact ⟨N, by omega, by omega, by rw [show ((N : Int) + 1) = ((N + 1 : Nat) : Int) by omega]; exact h2⟩
  exact this 100000 (Nat.le_refl _) h1
theorem isY_le {g gh : Int} {zs : List Int} (h : okC g gh zs = true) {day : Int} {y : Nat} (hy : IsY g gh zs day y) {m : Int} (hm : 0 ≤ m) : bef g gh zs m ≤ day ↔ m ≤ y := by
  constructor
  · intro h2
    by_cases c : m ≤ y
    · exact c
    · have := bef_le h (a := (y : Int) + 1) (b := m) (by omega) (by omega); have := hy.2.2; omega
  · intro h2
    have := bef_le h (a := m) (b := (y : Int)) hm h2; have := hy.2.1; omega
theorem isY_one {g gh : Int} {zs : List Int} (h : okC g gh zs = true) {day : Int} {y y' : Nat} (hy : IsY g gh zs day y) (hy' : IsY g gh zs day y') : y = y' := by
  have h1 := (isY_le h hy (m := (y' : Int)) (by omega)).1 hy'.2.1
  have h2 := (isY_le h hy' (m := (y : Int)) (by omega)).1 hy.2.1
  omega
open Classical in
/-- The year of a day, if there is one. -/
noncomputable def yrV (g gh : Int) (zs : List Int) (day : Int) : Nat := if h : ∃ y, IsY g gh zs day y then h.choose else 0
theorem yrV_of {g gh : Int} {zs : List Int} (h : okC g gh zs = true) {day : Int} (h0 : 0 ≤ day) (h1 : day < bef g gh zs 100000) : IsY g gh zs day (yrV g gh zs day) := by
  have e := isY_ex h h0 h1
  unfold yrV
  rw [dif_pos e]; exact e.choose_spec
theorem yrV_eq {g gh : Int} {zs : List Int} (h : okC g gh zs = true) {day : Int} {y : Nat} (hy : IsY g gh zs day y) : yrV g gh zs day = y := by
  have e : ∃ y, IsY g gh zs day y := ⟨y, hy⟩
  unfold yrV
  rw [dif_pos e]; exact isY_one h e.choose_spec hy
def dbB (g gh : Int) (zs : List Int) (y : Int) : Bool := okC g gh zs && inB y 0 100000
def dbV (g gh : Int) (zs : List Int) (y : Int) : Int := if dbB g gh zs y then bef g gh zs y else 0
def lpB (g gh : Int) (zs : List Int) (y : Int) : Bool := okC g gh zs && (inB y 0 100000 && hasB zs (y % g))
def yoB (g gh : Int) (zs : List Int) (day : Int) : Bool := okC g gh zs && inB day 0 (bef g gh zs 100000 - 1)
noncomputable def yoV (g gh : Int) (zs : List Int) (day : Int) : Int := if yoB g gh zs day then (yrV g gh zs day : Int) else 0
noncomputable def yoD (g gh : Int) (zs : List Int) (day : Int) : Int := if yoB g gh zs day then day - bef g gh zs (yrV g gh zs day : Int) else 0
/-- How far the first k years are from multiples of a year. -/
def drT (g gh : Int) (zs : List Int) (num den : Int) : Nat → Int
  | 0 => 0
  | k + 1 => mx (drT g gh zs num den k) (ab (den * bef g gh zs (k : Int) - (k : Int) * num))
theorem dr_in {g gh : Int} {zs : List Int} (h : okC g gh zs = true) {num den : Int} (hn : 0 ≤ num ∧ num ≤ 1000000) (hd : 1 ≤ den ∧ den ≤ 1000) (k : Nat) (hk : k ≤ 400) :
    (0 ≤ den * bef g gh zs (k : Int) ∧ den * bef g gh zs (k : Int) ≤ 1000000000) ∧ (0 ≤ (k : Int) * num ∧ (k : Int) * num ≤ 400000000) := by
  have hb := bef_bd h (y := (k : Int)) (by omega)
  have m1 := Int.mul_nonneg (show 0 ≤ den by omega) hb.1
  have m2 := Int.mul_le_mul hd.2 (show bef g gh zs (k : Int) ≤ 400400 by omega) hb.1 (by omega)
  have m3 := Int.mul_nonneg (show 0 ≤ (k : Int) by omega) hn.1
  have m4 := Int.mul_le_mul (show (k : Int) ≤ 400 by omega) hn.2 hn.1 (by omega)
  exact ⟨⟨m1, by omega⟩, ⟨m3, by omega⟩⟩
theorem drT_bd {g gh : Int} {zs : List Int} (h : okC g gh zs = true) {num den : Int} (hn : 0 ≤ num ∧ num ≤ 1000000) (hd : 1 ≤ den ∧ den ≤ 1000) : ∀ k : Nat, k ≤ 401 → 0 ≤ drT g gh zs num den k ∧ drT g gh zs num den k ≤ 1000000000 := by
  intro k
  induction k with
  | zero => intro _; simp [drT]
  | succ k ih =>
    intro hk
    have h1 := dr_in h hn hd k (by omega)
    rw [drT]
    exact mx_bd (ih (by omega)) (ab_bd (by omega))
def drB (g gh : Int) (zs : List Int) (num den : Int) : Bool := okC g gh zs && (inB den 1 1000 && inB num 0 1000000)
def drV (g gh : Int) (zs : List Int) (num den : Int) : Int := if drB g gh zs num den then drT g gh zs num den (g.toNat + 1) else 0
end Go.Proofs.Ytpdcmhnaedhkdaa
