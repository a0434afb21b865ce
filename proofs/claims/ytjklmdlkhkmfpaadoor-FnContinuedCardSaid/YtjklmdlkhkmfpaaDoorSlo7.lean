/- The ends of possible slopes: greatest and least fractions, lowest terms (pure). -/
import Derived.Test.YtjklmdlkhkmfpaaDoorBl7
namespace Go.Proofs.YtjklmdlkhkmfpaaDoor
open Go.ChangeShapes Go.WideShapes Go.ChangeAt Go.RowKit Go.Deep
set_option linter.unusedVariables false
/-! ### the ends of the slopes, as the greatest and the least of many fractions -/
/-- The fractions that a lower end must not be less than: of the pairs in S, and -1. -/
def CLo (s : ByteArray) (S : Nat → Nat → Prop) (x y : Int) : Prop := (x = -1 ∧ y = 1) ∨ ∃ i j : Nat, S i j ∧ i < j ∧ j ≤ s.size ∧ x = hgt s j - hgt s i - 1 ∧ y = (j : Int) - i
def CHi (s : ByteArray) (S : Nat → Nat → Prop) (x y : Int) : Prop := (x = 2 ∧ y = 1) ∨ ∃ i j : Nat, S i j ∧ i < j ∧ j ≤ s.size ∧ x = hgt s j - hgt s i + 1 ∧ y = (j : Int) - i
def ILo (s : ByteArray) (S : Nat → Nat → Prop) (l d : Int) : Prop := CLo s S l d ∧ ∀ x y, CLo s S x y → x * d ≤ l * y
def IHi (s : ByteArray) (S : Nat → Nat → Prop) (l d : Int) : Prop := CHi s S l d ∧ ∀ x y, CHi s S x y → l * y ≤ x * d
theorem hgt_inc {s : ByteArray} (hw : wdB s = true) {i j : Nat} (hij : i < j) (hj : j ≤ s.size) : 0 ≤ hgt s j - hgt s i ∧ hgt s j - hgt s i ≤ (j : Int) - i := by
  have h := hgt_step hw (j - i) i (by omega)
  unfold dif7 at h
  rw [show i + (j - i) = j by omega] at h
  omega
theorem CLo.bd {s : ByteArray} (hw : wdB s = true) {S : Nat → Nat → Prop} {x y : Int} (h : CLo s S x y) : (-1 ≤ x ∧ x ≤ 120) ∧ 1 ≤ y ∧ y ≤ 120 := by
  have h120 := (wdB_iff.1 hw).1
  rcases h with ⟨rfl, rfl⟩ | ⟨i, j, _, h1, h2, rfl, rfl⟩
  · omega
  · have := hgt_inc hw h1 h2; omega
theorem CHi.bd {s : ByteArray} (hw : wdB s = true) {S : Nat → Nat → Prop} {x y : Int} (h : CHi s S x y) : (1 ≤ x ∧ x ≤ 121) ∧ 1 ≤ y ∧ y ≤ 120 := by
  have h120 := (wdB_iff.1 hw).1
  rcases h with ⟨rfl, rfl⟩ | ⟨i, j, _, h1, h2, rfl, rfl⟩
  · omega
  · have := hgt_inc hw h1 h2; omega
/-- Fractions with denominators greater than 0: the order is transitive. -/
theorem frac_lt {x y l d a n : Int} (hy : 1 ≤ y) (hd : 1 ≤ d) (hn : 1 ≤ n) (h1 : x * d ≤ l * y) (h2 : l * n ≤ a * d) : x * n ≤ a * y := by
  have e1 : (x * d) * n ≤ (l * y) * n := Int.mul_le_mul_of_nonneg_right h1 (by omega)
  have e2 : (l * n) * y ≤ (a * d) * y := Int.mul_le_mul_of_nonneg_right h2 (by omega)
  have e3 : d * (x * n) ≤ d * (a * y) := by
    calc d * (x * n) = (x * d) * n := by ac_rfl
      _ ≤ (l * y) * n := e1
      _ = (l * n) * y := by ac_rfl
      _ ≤ (a * d) * y := e2
      _ = d * (a * y) := by ac_rfl
  exact Int.le_of_mul_le_mul_left e3 (by omega)
theorem ILo.yes {s : ByteArray} (hw : wdB s = true) {S S' : Nat → Nat → Prop} {l d : Int} (h : ILo s S l d) {i j : Nat} (hij : i < j) (hj : j ≤ s.size) (hS : ∀ a b, S' a b ↔ S a b ∨ (a = i ∧ b = j))
    (hlt : l * ((j : Int) - i) < (hgt s j - hgt s i - 1) * d) : ILo s S' (hgt s j - hgt s i - 1) ((j : Int) - i) := by
  refine ⟨.inr ⟨i, j, (hS i j).2 (.inr ⟨rfl, rfl⟩), hij, hj, rfl, rfl⟩, fun x y hc => ?_⟩
  rcases hc with ⟨rfl, rfl⟩ | ⟨i', j', h1, h2, h3, rfl, rfl⟩
  · exact frac_lt (by omega) (h.1.bd hw).2.1 (by omega) (h.2 _ _ (.inl ⟨rfl, rfl⟩)) (by omega)
  · rcases (hS i' j').1 h1 with q | ⟨rfl, rfl⟩
    · exact frac_lt (by omega) (h.1.bd hw).2.1 (by omega) (h.2 _ _ (.inr ⟨i', j', q, h2, h3, rfl, rfl⟩)) (by omega)
    · exact Int.le_refl _
theorem ILo.no {s : ByteArray} {S S' : Nat → Nat → Prop} {l d : Int} (h : ILo s S l d) {i j : Nat} (hij : i < j) (hj : j ≤ s.size) (hS : ∀ a b, S' a b ↔ S a b ∨ (a = i ∧ b = j))
    (hlt : ¬ l * ((j : Int) - i) < (hgt s j - hgt s i - 1) * d) : ILo s S' l d := by
  refine ⟨?_, fun x y hc => ?_⟩
  · rcases h.1 with q | ⟨i', j', h1, h2⟩
    · exact .inl q
    · exact .inr ⟨i', j', (hS _ _).2 (.inl h1), h2⟩
  · rcases hc with q | ⟨i', j', h1, h2, h3, rfl, rfl⟩
    · exact h.2 _ _ (.inl q)
    · rcases (hS i' j').1 h1 with q | ⟨rfl, rfl⟩
      · exact h.2 _ _ (.inr ⟨i', j', q, h2, h3, rfl, rfl⟩)
      · omega
theorem IHi.yes {s : ByteArray} (hw : wdB s = true) {S S' : Nat → Nat → Prop} {l d : Int} (h : IHi s S l d) {i j : Nat} (hij : i < j) (hj : j ≤ s.size) (hS : ∀ a b, S' a b ↔ S a b ∨ (a = i ∧ b = j))
    (hlt : (hgt s j - hgt s i + 1) * d < l * ((j : Int) - i)) : IHi s S' (hgt s j - hgt s i + 1) ((j : Int) - i) := by
  refine ⟨.inr ⟨i, j, (hS i j).2 (.inr ⟨rfl, rfl⟩), hij, hj, rfl, rfl⟩, fun x y hc => ?_⟩
  rcases hc with ⟨rfl, rfl⟩ | ⟨i', j', h1, h2, h3, rfl, rfl⟩
  · exact frac_lt (by omega) (h.1.bd hw).2.1 (by omega) (by omega) (h.2 _ _ (.inl ⟨rfl, rfl⟩))
  · rcases (hS i' j').1 h1 with q | ⟨rfl, rfl⟩
    · exact frac_lt (by omega) (h.1.bd hw).2.1 (by omega) (by omega) (h.2 _ _ (.inr ⟨i', j', q, h2, h3, rfl, rfl⟩))
    · exact Int.le_refl _
theorem IHi.no {s : ByteArray} {S S' : Nat → Nat → Prop} {l d : Int} (h : IHi s S l d) {i j : Nat} (hij : i < j) (hj : j ≤ s.size) (hS : ∀ a b, S' a b ↔ S a b ∨ (a = i ∧ b = j))
    (hlt : ¬ (hgt s j - hgt s i + 1) * d < l * ((j : Int) - i)) : IHi s S' l d := by
  refine ⟨?_, fun x y hc => ?_⟩
  · rcases h.1 with q | ⟨i', j', h1, h2⟩
    · exact .inl q
    · exact .inr ⟨i', j', (hS _ _).2 (.inl h1), h2⟩
  · rcases hc with q | ⟨i', j', h1, h2, h3, rfl, rfl⟩
    · exact h.2 _ _ (.inl q)
    · rcases (hS i' j').1 h1 with q | ⟨rfl, rfl⟩
      · exact h.2 _ _ (.inr ⟨i', j', q, h2, h3, rfl, rfl⟩)
      · omega
theorem ILo.congr {s : ByteArray} {S S' : Nat → Nat → Prop} {l d : Int} (h : ILo s S l d) (hS : ∀ i j, i < j → j ≤ s.size → (S i j ↔ S' i j)) : ILo s S' l d := by
  have hc : ∀ x y, CLo s S' x y ↔ CLo s S x y := by
    intro x y
    unfold CLo
    constructor
    · rintro (q | ⟨i, j, h1, h2, h3, h4⟩)
      · exact .inl q
      · exact .inr ⟨i, j, (hS i j h2 h3).2 h1, h2, h3, h4⟩
    · rintro (q | ⟨i, j, h1, h2, h3, h4⟩)
      · exact .inl q
      · exact .inr ⟨i, j, (hS i j h2 h3).1 h1, h2, h3, h4⟩
  exact ⟨(hc _ _).2 h.1, fun x y q => h.2 x y ((hc _ _).1 q)⟩
theorem IHi.congr {s : ByteArray} {S S' : Nat → Nat → Prop} {l d : Int} (h : IHi s S l d) (hS : ∀ i j, i < j → j ≤ s.size → (S i j ↔ S' i j)) : IHi s S' l d := by
  have hc : ∀ x y, CHi s S' x y ↔ CHi s S x y := by
    intro x y
    unfold CHi
    constructor
    · rintro (q | ⟨i, j, h1, h2, h3, h4⟩)
      · exact .inl q
      · exact .inr ⟨i, j, (hS i j h2 h3).2 h1, h2, h3, h4⟩
    · rintro (q | ⟨i, j, h1, h2, h3, h4⟩)
      · exact .inl q
      · exact .inr ⟨i, j, (hS i j h2 h3).1 h1, h2, h3, h4⟩
  exact ⟨(hc _ _).2 h.1, fun x y q => h.2 x y ((hc _ _).1 q)⟩
theorem ILo.start (s : ByteArray) (S : Nat → Nat → Prop) (hS : ∀ i j, i < j → j ≤ s.size → ¬ S i j) : ILo s S (-1) 1 := by
  refine ⟨.inl ⟨rfl, rfl⟩, fun x y h => ?_⟩
  rcases h with ⟨rfl, rfl⟩ | ⟨i, j, h1, h2, h3, _⟩
  · exact Int.le_refl _
  · exact (hS i j h2 h3 h1).elim
theorem IHi.start (s : ByteArray) (S : Nat → Nat → Prop) (hS : ∀ i j, i < j → j ≤ s.size → ¬ S i j) : IHi s S 2 1 := by
  refine ⟨.inl ⟨rfl, rfl⟩, fun x y h => ?_⟩
  rcases h with ⟨rfl, rfl⟩ | ⟨i, j, h1, h2, h3, _⟩
  · exact Int.le_refl _
  · exact (hS i j h2 h3 h1).elim
/-! ### lowest terms -/
def rdN (l d : Int) : Int := l.tdiv (Int.gcd l d)
def rdD (l d : Int) : Int := d.tdiv (Int.gcd l d)
theorem rd_mul {l d : Int} : rdN l d * (Int.gcd l d : Int) = l ∧ rdD l d * (Int.gcd l d : Int) = d :=
  ⟨Int.tdiv_mul_cancel (Int.gcd_dvd_left ..), Int.tdiv_mul_cancel (Int.gcd_dvd_right ..)⟩
theorem gcd_pos7 {l d : Int} (hd : 1 ≤ d) : 1 ≤ (Int.gcd l d : Int) := by
  have : 0 < Int.gcd l d := Nat.gcd_pos_of_pos_right _ (by omega)
  omega
theorem rd_pos {l d : Int} (hd : 1 ≤ d) : 1 ≤ rdD l d := by
  have h := (rd_mul (l := l) (d := d)).2
  have hg := gcd_pos7 (l := l) hd
  by_cases q : rdD l d ≤ 0
  · have : rdD l d * (Int.gcd l d : Int) ≤ 0 * (Int.gcd l d : Int) := Int.mul_le_mul_of_nonneg_right q (by omega)
    omega
  · omega
theorem rd_cop {l d : Int} (hd : 1 ≤ d) : Int.gcd (rdN l d) (rdD l d) = 1 := by
  have h := rd_mul (l := l) (d := d)
  have hg := gcd_pos7 (l := l) hd
  have e : Int.gcd (rdN l d * (Int.gcd l d : Int)) (rdD l d * (Int.gcd l d : Int)) = Int.gcd (rdN l d) (rdD l d) * (Int.gcd l d) := by
    rw [Int.gcd_mul_right]; simp
  rw [h.1, h.2] at e
  have h3 : Int.gcd (rdN l d) (rdD l d) * (Int.gcd l d) = 1 * Int.gcd l d := by omega
  exact Nat.eq_of_mul_eq_mul_right (by omega) h3
theorem dvd_cop {a b c : Int} (h : Int.gcd a b = 1) (hd : b ∣ a * c) : b ∣ c := by
  have h1 : b.natAbs ∣ a.natAbs * c.natAbs := by rw [← Int.natAbs_mul]; exact Int.natAbs_dvd_natAbs.2 hd
  have h2 : Nat.Coprime b.natAbs a.natAbs := by
    show Nat.gcd b.natAbs a.natAbs = 1
    rw [Nat.gcd_comm]; exact h
  exact Int.natAbs_dvd_natAbs.1 (h2.dvd_of_dvd_mul_left h1)
theorem rd_eq {l d l' d' : Int} (hd : 1 ≤ d) (hd' : 1 ≤ d') (h : l * d' = l' * d) : rdN l d = rdN l' d' ∧ rdD l d = rdD l' d' := by
  have m := rd_mul (l := l) (d := d); have m' := rd_mul (l := l') (d := d')
  have g := gcd_pos7 (l := l) hd; have g' := gcd_pos7 (l := l') hd'
  have c := rd_cop (l := l) hd; have c' := rd_cop (l := l') hd'
  have p := rd_pos (l := l) hd; have p' := rd_pos (l := l') hd'
  generalize rdN l d = a at *; generalize rdD l d = b at *; generalize rdN l' d' = a' at *; generalize rdD l' d' = b' at *
  have hx : a * b' = a' * b := by
    have e : ((Int.gcd l d : Int) * (Int.gcd l' d' : Int)) * (a * b') = ((Int.gcd l d : Int) * (Int.gcd l' d' : Int)) * (a' * b) := by
      calc ((Int.gcd l d : Int) * (Int.gcd l' d' : Int)) * (a * b') = (a * (Int.gcd l d : Int)) * (b' * (Int.gcd l' d' : Int)) := by ac_rfl
        _ = l * d' := by rw [m.1, m'.2]
        _ = l' * d := h
        _ = (a' * (Int.gcd l' d' : Int)) * (b * (Int.gcd l d : Int)) := by rw [m.2, m'.1]
        _ = ((Int.gcd l d : Int) * (Int.gcd l' d' : Int)) * (a' * b) := by ac_rfl
    exact Int.eq_of_mul_eq_mul_left (by have : 1 * 1 ≤ (Int.gcd l d : Int) * (Int.gcd l' d' : Int) := Int.mul_le_mul g g' (by omega) (by omega)
                                        omega) e
  have d1 : b ∣ b' := dvd_cop c (show b ∣ a * b' from ⟨a', by rw [hx, Int.mul_comm]⟩)
  have d2 : b' ∣ b := dvd_cop c' (show b' ∣ a' * b from ⟨a, by rw [← hx, Int.mul_comm]⟩)
  have e1 := Int.le_of_dvd (by omega) d1
  have e2 := Int.le_of_dvd (by omega) d2
  have hb : b = b' := by omega
  subst hb
  exact ⟨Int.eq_of_mul_eq_mul_right (by omega) hx, rfl⟩
def allP (i j : Nat) : Prop := True
/-- The lower end in lowest terms, the upper one; whether there is something between them. -/
noncomputable def loV (s : ByteArray) : Int × Int := by classical exact if h : ∃ p : Int × Int, ILo s allP p.1 p.2 then (rdN h.choose.1 h.choose.2, rdD h.choose.1 h.choose.2) else (0, 0)
noncomputable def hiV (s : ByteArray) : Int × Int := by classical exact if h : ∃ p : Int × Int, IHi s allP p.1 p.2 then (rdN h.choose.1 h.choose.2, rdD h.choose.1 h.choose.2) else (0, 0)
theorem loV_eq {s : ByteArray} (hw : wdB s = true) {l d : Int} (h : ILo s allP l d) : loV s = (rdN l d, rdD l d) := by
  unfold loV
  have hx : ∃ p : Int × Int, ILo s allP p.1 p.2 := ⟨(l, d), h⟩
  rw [dif_pos hx]
  have h2 := hx.choose_spec
  generalize hx.choose = p at *
  have e1 := h.2 _ _ h2.1
  have e2 := h2.2 _ _ h.1
  have := rd_eq (h2.1.bd hw).2.1 (h.1.bd hw).2.1 (show p.1 * d = l * p.2 by omega)
  rw [this.1, this.2]
theorem hiV_eq {s : ByteArray} (hw : wdB s = true) {l d : Int} (h : IHi s allP l d) : hiV s = (rdN l d, rdD l d) := by
  unfold hiV
  have hx : ∃ p : Int × Int, IHi s allP p.1 p.2 := ⟨(l, d), h⟩
  rw [dif_pos hx]
  have h2 := hx.choose_spec
  generalize hx.choose = p at *
  have e1 := h.2 _ _ h2.1
  have e2 := h2.2 _ _ h.1
  have := rd_eq (h2.1.bd hw).2.1 (h.1.bd hw).2.1 (show p.1 * d = l * p.2 by omega)
  rw [this.1, this.2]
noncomputable def posB (s : ByteArray) : Bool := @decide (∃ l d h e : Int, ILo s allP l d ∧ IHi s allP h e ∧ l * e < h * d) (Classical.propDecidable _)
theorem posB_eq {s : ByteArray} (hw : wdB s = true) {l d h e : Int} (h1 : ILo s allP l d) (h2 : IHi s allP h e) : posB s = decide (l * e < h * d) := by
  unfold posB
  by_cases q : l * e < h * d
  · rw [decide_eq_true q]; exact @decide_eq_true _ (Classical.propDecidable _) ⟨l, d, h, e, h1, h2, q⟩
  · rw [decide_eq_false q]
    refine @decide_eq_false _ (Classical.propDecidable _) ?_
    rintro ⟨l', d', h', e', q1, q2, q3⟩
    refine q ?_
    have bl := (h1.1.bd hw).2.1; have bh := (h2.1.bd hw).2.1; have bl' := (q1.1.bd hw).2.1; have bh' := (q2.1.bd hw).2.1
    have a1 := q1.2 _ _ h1.1
    have a2 := h2.2 _ _ q2.1
    have a3 := q2.2 _ _ h2.1
    by_cases r : h * d ≤ l * e
    · have r1 : h * d' ≤ l' * e := frac_lt bh bl bl' r a1
      have r2 : h' * d' ≤ l' * e' := frac_lt bh' bh bl' a3 r1
      omega
    · omega
noncomputable def slB (s : ByteArray) : Bool := wdB s && (decide (s.size ≠ 0) && posB s)
end Go.Proofs.YtjklmdlkhkmfpaaDoor
