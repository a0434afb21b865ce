/- The word of a line: heights, balance, slopes (pure). -/
import Derived.Test.YtjklmdlkhkmfpaaDoorSlo7
import Derived.Test.YtjklmdlkhkmfpaaDoorHgt7
import Derived.Test.YtjklmdlkhkmfpaaDoorLn7
import Derived.Test.YtjklmdlkhkmfpaaDoorLi7
import Derived.Test.YtjklmdlkhkmfpaaDoorSe7
namespace Go.Proofs.YtjklmdlkhkmfpaaDoor
open Go.ChangeShapes Go.WideShapes Go.ChangeAt Go.RowKit Go.Deep
set_option linter.unusedVariables false
def lnW (a d s : Int) (n : Nat) : ByteArray := strOfNums (lnN a d s n)
theorem lnW_size (a d s : Int) (n : Nat) : (lnW a d s n).size = n := by unfold lnW; rw [strOfNums_size, lnN_len]
theorem lnW_wd (a d s : Int) {n : Nat} (h : n ≤ 120) : wdB (lnW a d s n) = true := wdB_ab _ (lnN_ab a d s n) (by rw [lnN_len]; exact h)
theorem lnN_at (a d s : Int) (n k : Nat) (h : k < (lnN a d s n).length) : (lnN a d s n)[k] = lnB a d s k := by simp [lnN]
theorem lnW_hgt {a d s : Int} (hd : 1 ≤ d) (ha : 0 ≤ a) (hb : a ≤ d) (hs : 0 ≤ s) (ht : s < d) (n : Nat) : ∀ k : Nat, k ≤ n → hgt (lnW a d s n) k = fl ((k : Int) * a + s) d := by
  intro k
  induction k with
  | zero => intro _; rw [hgt_zero]; exact (fl_eq hd (by simp; omega) (by simp; omega)).symm
  | succ k ih =>
    intro hk
    have hl : k < (lnN a d s n).length := by rw [lnN_len]; omega
    have hz : k < (lnW a d s n).size := by rw [lnW_size]; omega
    have hby := byte7 (lnN a d s n) k hl (lnN_ab a d s n) hz
    rw [lnN_at a d s n k hl] at hby
    have e : ((k + 1 : Nat) : Int) * a + s = ((k : Int) * a + s) + a := by rw [Int.natCast_add, Int.add_mul]; simp; omega
    have e2 : ((k : Int) + 1) * a + s = ((k : Int) * a + s) + a := by rw [Int.add_mul]; omega
    have hg := fl_grow (x := (k : Int) * a + s) hd ha hb
    rw [hgt_succ _ k hz, ih (by omega), e]
    have hbb : (((lnW a d s n)[k]'hz).toNat : Int) = lnB a d s k := hby
    rw [hbb]
    unfold lnB
    rw [e2]
    split <;> omega
/-- How far a growth is from its share. -/
theorem lnW_near {a d s : Int} (hd : 1 ≤ d) (ha : 0 ≤ a) (hb : a ≤ d) (hs : 0 ≤ s) (ht : s < d) {n i j : Nat} (hij : i ≤ j) (hj : j ≤ n) :
    (hgt (lnW a d s n) j - hgt (lnW a d s n) i - 1) * d < a * ((j : Int) - i) ∧ a * ((j : Int) - i) < (hgt (lnW a d s n) j - hgt (lnW a d s n) i + 1) * d := by
  rw [lnW_hgt hd ha hb hs ht n j hj, lnW_hgt hd ha hb hs ht n i (by omega)]
  have h1 := fl_mul (a := (j : Int) * a + s) hd
  have h2 := fl_mul (a := (i : Int) * a + s) hd
  generalize fl ((j : Int) * a + s) d = x at *
  generalize fl ((i : Int) * a + s) d = y at *
  have e1 : (x - y - 1) * d = d * x - d * y - d := by rw [Int.sub_mul, Int.sub_mul, Int.one_mul, Int.mul_comm x, Int.mul_comm y]
  have e2 : (x - y + 1) * d = d * x - d * y + d := by rw [Int.add_mul, Int.sub_mul, Int.one_mul, Int.mul_comm x, Int.mul_comm y]
  have e3 : a * ((j : Int) - i) = (j : Int) * a - (i : Int) * a := by rw [Int.mul_sub, Int.mul_comm a, Int.mul_comm a]
  rw [e1, e2, e3]
  omega
theorem lnW_bal {a d s : Int} (hd : 1 ≤ d) (ha : 0 ≤ a) (hb : a ≤ d) (hs : 0 ≤ s) (ht : s < d) {n : Nat} (hn : n ≤ 120) : balB (lnW a d s n) = true := by
  unfold balB
  rw [lnW_wd a d s hn, Bool.true_and]
  unfold balT
  rw [List.all_eq_true]
  intro t _
  rw [balN_iff]
  intro i j hi hj
  rw [lnW_size] at hi hj
  have h1 := (lnW_near hd ha hb hs ht (n := n) (i := i) (j := i + (t + 1)) (by omega) (by omega)).1
  have h2 := (lnW_near hd ha hb hs ht (n := n) (i := j) (j := j + (t + 1)) (by omega) (by omega)).2
  have e1 : (((i + (t + 1) : Nat) : Int) - i) = (t : Int) + 1 := by omega
  have e2 : (((j + (t + 1) : Nat) : Int) - j) = (t : Int) + 1 := by omega
  rw [e1] at h1
  rw [e2] at h2
  unfold dif7
  have h3 := Int.lt_of_mul_lt_mul_right (Int.lt_trans h1 h2) (by omega)
  omega
/-- The ends are there. -/
theorem ends_ex {s : ByteArray} (hw : wdB s = true) : (∃ l d, ILo s allP l d) ∧ (∃ l d, IHi s allP l d) := by
  have row : ∀ j, j ≤ s.size → ((∃ l d, ILo s (fun a b => b < j ∨ (b = j ∧ a < 0)) l d) ∧ (∃ l d, IHi s (fun a b => b < j ∨ (b = j ∧ a < 0)) l d)) → ∀ i, i ≤ j → (∃ l d, ILo s (fun a b => b < j ∨ (b = j ∧ a < i)) l d) ∧ (∃ l d, IHi s (fun a b => b < j ∨ (b = j ∧ a < i)) l d) := by
    intro j hj h0 i
    induction i with
    | zero => intro _; exact h0
    | succ i ih =>
      intro hi
      obtain ⟨⟨l, d, hl⟩, ⟨u, q, hu⟩⟩ := ih (by omega)
      constructor
      · by_cases c : l * ((j : Int) - i) < (hgt s j - hgt s i - 1) * d
        · exact ⟨_, _, hl.yes hw (show i < j by omega) hj (fun a b => by omega) c⟩
        · exact ⟨_, _, hl.no (show i < j by omega) hj (fun a b => by omega) c⟩
      · by_cases c : (hgt s j - hgt s i + 1) * q < u * ((j : Int) - i)
        · exact ⟨_, _, hu.yes hw (show i < j by omega) hj (fun a b => by omega) c⟩
        · exact ⟨_, _, hu.no (show i < j by omega) hj (fun a b => by omega) c⟩
  have all : ∀ j, j ≤ s.size + 1 → (∃ l d, ILo s (fun a b => b < j ∨ (b = j ∧ a < 0)) l d) ∧ (∃ l d, IHi s (fun a b => b < j ∨ (b = j ∧ a < 0)) l d) := by
    intro j
    induction j with
    | zero => intro _; exact ⟨⟨-1, 1, ILo.start s _ (fun i j _ _ h => by omega)⟩, ⟨2, 1, IHi.start s _ (fun i j _ _ h => by omega)⟩⟩
    | succ j ih =>
      intro hj
      obtain ⟨⟨l, d, hl⟩, ⟨u, q, hu⟩⟩ := row j (by omega) (ih (by omega)) j (Nat.le_refl _)
      exact ⟨⟨l, d, hl.congr (fun a b h1 h2 => by omega)⟩, ⟨u, q, hu.congr (fun a b h1 h2 => by omega)⟩⟩
  obtain ⟨⟨l, d, hl⟩, ⟨u, q, hu⟩⟩ := all (s.size + 1) (Nat.le_refl _)
  exact ⟨⟨l, d, hl.congr (fun a b h1 h2 => ⟨fun _ => trivial, fun _ => .inl (by omega)⟩)⟩, ⟨u, q, hu.congr (fun a b h1 h2 => ⟨fun _ => trivial, fun _ => .inl (by omega)⟩)⟩⟩
/-- A slope that all growths allow lies between the ends, also in lowest terms. -/
theorem rd_lt {l d a e : Int} (hd : 1 ≤ d) (h : l * e < a * d) : rdN l d * e < a * rdD l d := by
  have m := rd_mul (l := l) (d := d)
  have g := gcd_pos7 (l := l) hd
  have h2 : (Int.gcd l d : Int) * (rdN l d * e) < (Int.gcd l d : Int) * (a * rdD l d) := by
    calc (Int.gcd l d : Int) * (rdN l d * e) = (rdN l d * (Int.gcd l d : Int)) * e := by ac_rfl
      _ = l * e := by rw [m.1]
      _ < a * d := h
      _ = a * (rdD l d * (Int.gcd l d : Int)) := by rw [m.2]
      _ = (Int.gcd l d : Int) * (a * rdD l d) := by ac_rfl
  exact Int.lt_of_mul_lt_mul_left h2 (by omega)
theorem rd_gt {u q a e : Int} (hq : 1 ≤ q) (h : a * q < u * e) : a * rdD u q < rdN u q * e := by
  have m := rd_mul (l := u) (d := q)
  have g := gcd_pos7 (l := u) hq
  have h2 : (Int.gcd u q : Int) * (a * rdD u q) < (Int.gcd u q : Int) * (rdN u q * e) := by
    calc (Int.gcd u q : Int) * (a * rdD u q) = a * (rdD u q * (Int.gcd u q : Int)) := by ac_rfl
      _ = a * q := by rw [m.2]
      _ < u * e := h
      _ = (rdN u q * (Int.gcd u q : Int)) * e := by rw [m.1]
      _ = (Int.gcd u q : Int) * (rdN u q * e) := by ac_rfl
  exact Int.lt_of_mul_lt_mul_left h2 (by omega)
/-- The slopes of the word of a line. -/
theorem lnW_slopes {a d s : Int} (hd : 1 ≤ d) (ha : 0 ≤ a) (hb : a ≤ d) (hs : 0 ≤ s) (ht : s < d) {n : Nat} (hn : n ≤ 120) (h1 : 1 ≤ n) :
    ∃ p q r t : Int, slR (lnW a d s n) = .tuple #[.int .i64 p, .int .i64 q, .int .i64 r, .int .i64 t, .bool true] ∧ p * d < a * q ∧ a * t < r * d ∧ (-200 ≤ p ∧ p ≤ 200) ∧ (-200 ≤ q ∧ q ≤ 200) ∧ (-200 ≤ r ∧ r ≤ 200) ∧ (-200 ≤ t ∧ t ≤ 200) := by
  have hw := lnW_wd a d s hn
  obtain ⟨⟨l, e, hl⟩, ⟨u, q, hu⟩⟩ := ends_ex hw
  have bl := hl.1.bd hw
  have bu := hu.1.bd hw
  have c1 : l * d < a * e := by
    rcases hl.1 with ⟨rfl, rfl⟩ | ⟨i, j, _, hij, hj, rfl, rfl⟩
    · omega
    · rw [lnW_size] at hj
      exact (lnW_near hd ha hb hs ht (n := n) (by omega) hj).1
  have c2 : a * q < u * d := by
    rcases hu.1 with ⟨rfl, rfl⟩ | ⟨i, j, _, hij, hj, rfl, rfl⟩
    · omega
    · rw [lnW_size] at hj
      exact (lnW_near hd ha hb hs ht (n := n) (by omega) hj).2
  have hp : l * q < u * e := by
    have e1 : (l * d) * q < (a * e) * q := Int.mul_lt_mul_of_pos_right c1 (by omega)
    have e2 : (a * q) * e < (u * d) * e := Int.mul_lt_mul_of_pos_right c2 (by omega)
    have e3 : d * (l * q) < d * (u * e) := by
      calc d * (l * q) = (l * d) * q := by ac_rfl
        _ < (a * e) * q := e1
        _ = (a * q) * e := by ac_rfl
        _ < (u * d) * e := e2
        _ = d * (u * e) := by ac_rfl
    exact Int.lt_of_mul_lt_mul_left e3 (by omega)
  have b1 : ∀ {x y : Int}, (-1 ≤ x ∧ x ≤ 121) → (1 ≤ y ∧ y ≤ 120) → (-200 ≤ rdN x y ∧ rdN x y ≤ 200) ∧ (-200 ≤ rdD x y ∧ rdD x y ≤ 200) := by
    intro x y hx hy
    have hg := gcd_pos7 (l := x) hy.1
    exact ⟨tdiv_in hg (by omega), tdiv_in hg (by omega)⟩
  have x1 := b1 (x := l) (y := e) (by omega) (by omega)
  have x2 := b1 (x := u) (y := q) (by omega) (by omega)
  exact ⟨_, _, _, _, slR_yes hw (by rw [lnW_size]; omega) hl hu hp, rd_lt (by omega) c1, rd_gt (by omega) c2, x1.1, x1.2, x2.1, x2.2⟩
end Go.Proofs.YtjklmdlkhkmfpaaDoor
