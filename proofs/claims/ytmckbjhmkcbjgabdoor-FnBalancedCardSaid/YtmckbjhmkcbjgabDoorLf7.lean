/- The line of a word: pure. -/
import Derived.Test.YtmckbjhmkcbjgabDoorSlo7
import Derived.Test.YtmckbjhmkcbjgabDoorHgt7
namespace Go.Proofs.YtmckbjhmkcbjgabDoor
open Go.ChangeShapes Go.WideShapes Go.ChangeAt Go.RowKit Go.Deep
set_option linter.unusedVariables false
/-- Some shift makes a line of slope a / e keep the heights. -/
def Ok7 (s : ByteArray) (a e : Int) : Prop := ∀ i j : Nat, i ≤ s.size → j ≤ s.size → hgt s i * e - (i : Int) * a < (hgt s j + 1) * e - (j : Int) * a
def loN (s : ByteArray) (a e : Int) : Nat → Int
  | 0 => 0
  | k + 1 => max (loN s a e k) (hgt s k * e - (k : Int) * a)
def hiN (s : ByteArray) (a e : Int) : Nat → Int
  | 0 => e - 1
  | k + 1 => min (hiN s a e k) ((hgt s k + 1) * e - (k : Int) * a - 1)
theorem loN_bd (s : ByteArray) (a e : Int) (M : Int) (h : ∀ j, j ≤ s.size → hgt s j * e - (j : Int) * a ≤ M) (h0 : 0 ≤ M) : ∀ k, k ≤ s.size + 1 → 0 ≤ loN s a e k ∧ loN s a e k ≤ M := by
  intro k
  induction k with
  | zero => intro _; exact ⟨Int.le_refl _, h0⟩
  | succ k ih => intro hk; have h1 := ih (by omega); have h2 := h k (by omega); simp only [loN]; omega
theorem hiN_bd (s : ByteArray) (a e : Int) (M : Int) (h : ∀ j, j ≤ s.size → -M ≤ (hgt s j + 1) * e - (j : Int) * a - 1) (h0 : -M ≤ e - 1) : ∀ k, k ≤ s.size + 1 → -M ≤ hiN s a e k ∧ hiN s a e k ≤ e - 1 := by
  intro k
  induction k with
  | zero => intro _; exact ⟨h0, Int.le_refl _⟩
  | succ k ih => intro hk; have h1 := ih (by omega); have h2 := h k (by omega); simp only [hiN]; omega
theorem lohi_iff (s : ByteArray) (a e : Int) : ∀ k, loN s a e k ≤ hiN s a e k ↔ (0 ≤ e - 1 ∧ (∀ j, j < k → 0 ≤ (hgt s j + 1) * e - (j : Int) * a - 1) ∧ (∀ i, i < k → hgt s i * e - (i : Int) * a ≤ e - 1) ∧ ∀ i j, i < k → j < k → hgt s i * e - (i : Int) * a ≤ (hgt s j + 1) * e - (j : Int) * a - 1) := by
  have lo_le : ∀ k m, loN s a e k ≤ m ↔ (0 ≤ m ∧ ∀ i, i < k → hgt s i * e - (i : Int) * a ≤ m) := by
    intro k
    induction k with
    | zero => intro m; exact ⟨fun h => ⟨h, fun i hi => by omega⟩, fun h => h.1⟩
    | succ k ih =>
      intro m
      have h := ih m
      simp only [loN]
      constructor
      · intro hm
        have h1 := h.1 (by omega)
        exact ⟨h1.1, fun i hi => by
          by_cases c : i = k
          · subst c; omega
          · exact h1.2 i (by omega)⟩
      · intro hm
        have h1 := h.2 ⟨hm.1, fun i hi => hm.2 i (by omega)⟩
        have h2 := hm.2 k (by omega)
        omega
  have le_hi : ∀ k m, m ≤ hiN s a e k ↔ (m ≤ e - 1 ∧ ∀ j, j < k → m ≤ (hgt s j + 1) * e - (j : Int) * a - 1) := by
    intro k
    induction k with
    | zero => intro m; exact ⟨fun h => ⟨h, fun i hi => by omega⟩, fun h => h.1⟩
    | succ k ih =>
      intro m
      have h := ih m
      simp only [hiN]
      constructor
      · intro hm
        have h1 := h.1 (by omega)
        exact ⟨h1.1, fun i hi => by
          by_cases c : i = k
          · subst c; omega
          · exact h1.2 i (by omega)⟩
      · intro hm
        have h1 := h.2 ⟨hm.1, fun i hi => hm.2 i (by omega)⟩
        have h2 := hm.2 k (by omega)
        omega
  intro k
  rw [lo_le, le_hi]
  constructor
  · rintro ⟨⟨h1, h2⟩, h3⟩
    exact ⟨h1, h2, fun i hi => ((le_hi k _).1 (h3 i hi)).1, fun i j hi hj => ((le_hi k _).1 (h3 i hi)).2 j hj⟩
  · rintro ⟨h1, h2, h3, h4⟩
    exact ⟨⟨h1, h2⟩, fun i hi => (le_hi k _).2 ⟨h3 i hi, fun j hj => h4 i j hi hj⟩⟩
/-- At the end the ways part by whether there is a shift. -/
theorem ok7_iff (s : ByteArray) (a e : Int) (he : 1 ≤ e) : Ok7 s a e ↔ loN s a e (s.size + 1) ≤ hiN s a e (s.size + 1) := by
  rw [lohi_iff]
  constructor
  · intro h
    refine ⟨by omega, fun j hj => ?_, fun i hi => ?_, fun i j hi hj => ?_⟩
    · have := h 0 j (by omega) (by omega); rw [hgt_zero] at this; simp at this; omega
    · have := h i 0 (by omega) (by omega); rw [hgt_zero] at this; simp at this; omega
    · have := h i j (by omega) (by omega); omega
  · rintro ⟨_, _, _, h⟩ i j hi hj
    have := h i j (by omega) (by omega); omega
/-- Ways that have parted stay so. -/
theorem lohi_mono (s : ByteArray) (a e : Int) {k m : Nat} (h : k ≤ m) (hh : loN s a e m ≤ hiN s a e m) : loN s a e k ≤ hiN s a e k := by
  rw [lohi_iff] at hh ⊢
  exact ⟨hh.1, fun j hj => hh.2.1 j (by omega), fun i hi => hh.2.2.1 i (by omega), fun i j hi hj => hh.2.2.2 i j (by omega) (by omega)⟩
/-- The ends say it as well. -/
theorem ok7_ends {s : ByteArray} (hw : wdB s = true) {l d u v : Int} (hl : ILo s allP l d) (hu : IHi s allP u v) {a e : Int} (he : 1 ≤ e) (ha : 0 ≤ a) (hae : a ≤ e) : Ok7 s a e ↔ l * e < a * d ∧ a * v < u * e := by
  have bl := hl.1.bd hw
  have bu := hu.1.bd hw
  constructor
  · intro h
    refine ⟨?_, ?_⟩
    · rcases hl.1 with ⟨h1, h2⟩ | ⟨i, j, _, hij, hj, h1, h2⟩
      · rw [h1, h2]; omega
      · have hh := h j i hj (by omega)
        rw [h1, h2]
        simp only [Int.sub_mul, Int.add_mul, Int.mul_sub, Int.one_mul] at hh ⊢
        have := Int.mul_comm a (j : Int); have := Int.mul_comm a (i : Int)
        omega
    · rcases hu.1 with ⟨h1, h2⟩ | ⟨i, j, _, hij, hj, h1, h2⟩
      · rw [h1, h2]; omega
      · have hh := h i j (by omega) hj
        rw [h1, h2]
        simp only [Int.sub_mul, Int.add_mul, Int.mul_sub, Int.one_mul] at hh ⊢
        have := Int.mul_comm a (j : Int); have := Int.mul_comm a (i : Int)
        omega
  · rintro ⟨h1, h2⟩ i j hi hj
    rcases Nat.lt_trichotomy i j with c | c | c
    · have hc : CHi s allP (hgt s j - hgt s i + 1) ((j : Int) - i) := .inr ⟨i, j, trivial, c, hj, rfl, rfl⟩
      have hm := hu.2 _ _ hc
      -- u (j - i) <= (h+1) v, a v < u e
      have x1 : a * v * ((j : Int) - i) < u * e * ((j : Int) - i) := Int.mul_lt_mul_of_pos_right h2 (by omega)
      have x2 : u * ((j : Int) - i) * e ≤ (hgt s j - hgt s i + 1) * v * e := Int.mul_le_mul_of_nonneg_right hm (by omega)
      have y1 : a * v * ((j : Int) - i) = a * ((j : Int) - i) * v := by ac_rfl
      have y2 : u * e * ((j : Int) - i) = u * ((j : Int) - i) * e := by ac_rfl
      have y3 : (hgt s j - hgt s i + 1) * v * e = (hgt s j - hgt s i + 1) * e * v := by ac_rfl
      have z := Int.lt_of_mul_lt_mul_right (show a * ((j : Int) - i) * v < (hgt s j - hgt s i + 1) * e * v by omega) (by omega)
      simp only [Int.sub_mul, Int.add_mul, Int.mul_sub, Int.one_mul] at z ⊢
      have := Int.mul_comm a (j : Int); have := Int.mul_comm a (i : Int)
      omega
    · subst c; simp only [Int.add_mul, Int.one_mul]; omega
    · have hc : CLo s allP (hgt s i - hgt s j - 1) ((i : Int) - j) := .inr ⟨j, i, trivial, c, hi, rfl, rfl⟩
      have hm := hl.2 _ _ hc
      have x1 : l * e * ((i : Int) - j) < a * d * ((i : Int) - j) := Int.mul_lt_mul_of_pos_right h1 (by omega)
      have x2 : (hgt s i - hgt s j - 1) * d * e ≤ l * ((i : Int) - j) * e := Int.mul_le_mul_of_nonneg_right hm (by omega)
      have y1 : l * e * ((i : Int) - j) = l * ((i : Int) - j) * e := by ac_rfl
      have y2 : a * d * ((i : Int) - j) = a * ((i : Int) - j) * d := by ac_rfl
      have y3 : (hgt s i - hgt s j - 1) * d * e = (hgt s i - hgt s j - 1) * e * d := by ac_rfl
      have z := Int.lt_of_mul_lt_mul_right (show (hgt s i - hgt s j - 1) * e * d < a * ((i : Int) - j) * d by omega) (by omega)
      simp only [Int.sub_mul, Int.add_mul, Int.mul_sub, Int.one_mul] at z ⊢
      have := Int.mul_comm a (j : Int); have := Int.mul_comm a (i : Int)
      omega
/-- The line of a word. -/
def SimpS (s : ByteArray) (a e : Int) : Prop := Ok7 s a e ∧ 1 ≤ e ∧ 0 ≤ a ∧ a ≤ e ∧ ∀ X Y, 1 ≤ Y → 0 ≤ X → X ≤ Y → Ok7 s X Y → e ≤ Y ∧ (Y = e → a ≤ X)
noncomputable def lfV (s : ByteArray) : Int × Int × Int × Bool := by classical exact if h : wdB s = true ∧ ∃ p : Int × Int, SimpS s p.1 p.2 then (h.2.choose.1, h.2.choose.2, loN s h.2.choose.1 h.2.choose.2 (s.size + 1), true) else (0, 0, 0, false)
theorem lfV_yes {s : ByteArray} (hw : wdB s = true) {a e : Int} (h : SimpS s a e) : lfV s = (a, e, loN s a e (s.size + 1), true) := by
  have hx : wdB s = true ∧ ∃ p : Int × Int, SimpS s p.1 p.2 := ⟨hw, (a, e), h⟩
  unfold lfV
  rw [dif_pos hx]
  have hs := hx.2.choose_spec
  generalize hx.2.choose = z at *
  obtain ⟨i1, e1, a1, c1, m1⟩ := h
  obtain ⟨i2, e2, a2, c2, m2⟩ := hs
  have x1 := m1 _ _ e2 a2 c2 i2
  have x2 := m2 a e e1 a1 c1 i1
  have he : z.2 = e := by omega
  have ha : z.1 = a := by have := x1.2 (by omega); have := x2.2 (by omega); omega
  rw [he, ha]
theorem lfV_no {s : ByteArray} (h : wdB s = true → ∀ X Y, 1 ≤ Y → 0 ≤ X → X ≤ Y → ¬ Ok7 s X Y) : lfV s = (0, 0, 0, false) := by
  unfold lfV
  rw [dif_neg]
  rintro ⟨hw, p, hp⟩
  exact h hw _ _ hp.2.1 hp.2.2.1 hp.2.2.2.1 hp.1
noncomputable def lfR (s : ByteArray) : Value := .tuple #[.int .i64 (lfV s).1, .int .i64 (lfV s).2.1, .int .i64 (lfV s).2.2.1, .bool (lfV s).2.2.2]
end Go.Proofs.YtmckbjhmkcbjgabDoor
