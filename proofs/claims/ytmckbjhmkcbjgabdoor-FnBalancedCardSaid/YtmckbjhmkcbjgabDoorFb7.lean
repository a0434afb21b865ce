/- FnBalanced: balanced words, their slopes and lines (pure). -/
import Derived.Test.YtmckbjhmkcbjgabDoorBa7
import Derived.Test.YtmckbjhmkcbjgabDoorLp7
import Derived.Test.YtmckbjhmkcbjgabDoorBi7
namespace Go.Proofs.YtmckbjhmkcbjgabDoor
open Go.ChangeShapes Go.WideShapes Go.ChangeAt Go.RowKit Go.Deep
set_option linter.unusedVariables false
theorem eq7_iff (s : ByteArray) : Eq7 s ↔ balT s = true := by
  unfold balT
  rw [List.all_eq_true]
  constructor
  · intro h t ht
    rw [balN_iff]
    intro i j hi hj
    have ht := List.mem_range.1 ht
    exact h (t + 1) i j (by omega) (by omega)
  · intro h n i j hi hj
    by_cases h0 : n = 0
    · subst h0; simp
    · have h1 := h (n - 1) (List.mem_range.2 (by omega))
      rw [show n - 1 + 1 = n by omega, balN_iff] at h1
      exact h1 i j (by omega) (by omega)
/-- How far two growths are from each other. -/
def d4 (s : ByteArray) (n i k : Nat) : Int := hgt s (i + n) - hgt s i - hgt s (k + n) + hgt s k
def okK (s : ByteArray) (n i k : Nat) : Bool := (List.range k).all fun j => decide (-1 ≤ d4 s n i j ∧ d4 s n i j ≤ 1)
def okI (s : ByteArray) (n i : Nat) : Bool := (List.range i).all fun i' => okK s n i' i'
def okN (s : ByteArray) (n : Nat) : Bool := (List.range n).all fun m => okI s (m + 1) (s.size - m)
theorem okK_succ (s : ByteArray) (n i k : Nat) : okK s n i (k + 1) = (okK s n i k && decide (-1 ≤ d4 s n i k ∧ d4 s n i k ≤ 1)) := by unfold okK; rw [List.range_succ, List.all_append]; simp
theorem okI_succ (s : ByteArray) (n i : Nat) : okI s n (i + 1) = (okI s n i && okK s n i i) := by unfold okI; rw [List.range_succ, List.all_append]; simp
theorem okN_succ (s : ByteArray) (n : Nat) : okN s (n + 1) = (okN s n && okI s (n + 1) (s.size - n)) := by unfold okN; rw [List.range_succ, List.all_append]; simp
theorem okN_iff (s : ByteArray) : okN s s.size = true ↔ Eq7 s := by
  unfold okN okI okK
  simp only [List.all_eq_true, List.mem_range, decide_eq_true_eq]
  constructor
  · intro h n i j hi hj
    by_cases h0 : n = 0
    · subst h0; simp
    · rcases Nat.lt_trichotomy i j with c | c | c
      · have h1 := h (n - 1) (by omega) j (by omega) i c
        rw [show n - 1 + 1 = n by omega] at h1
        unfold d4 at h1; omega
      · subst c; omega
      · have h1 := h (n - 1) (by omega) i (by omega) j c
        rw [show n - 1 + 1 = n by omega] at h1
        unfold d4 at h1; omega
  · intro h m hm i hi k hk
    have h1 := h (m + 1) i k (by omega) (by omega)
    have h2 := h (m + 1) k i (by omega) (by omega)
    unfold d4; omega
theorem okN_bal {s : ByteArray} (hw : wdB s = true) : okN s s.size = balB s := by
  rw [Bool.eq_iff_iff, okN_iff, eq7_iff]
  unfold balB; rw [hw, Bool.true_and]
/-- The least number. -/
theorem least8 (p : Nat → Prop) : (∃ n, p n) → ∃ n, p n ∧ ∀ m, p m → n ≤ m := by
  rintro ⟨n, hn⟩
  induction n using Nat.strongRecOn with
  | ind n ih =>
    by_cases h : ∃ m, m < n ∧ p m
    · obtain ⟨m, h1, h2⟩ := h; exact ih m h1 h2
    · exact ⟨n, hn, fun m hm => Nat.le_of_not_lt (fun q => h ⟨m, q, hm⟩)⟩
theorem simp_ex {s : ByteArray} (h : ∃ X Y : Int, 1 ≤ Y ∧ 0 ≤ X ∧ X ≤ Y ∧ Ok7 s X Y) : ∃ a e : Int, SimpS s a e := by
  obtain ⟨e, he, hem⟩ := least8 (fun Y => 1 ≤ Y ∧ ∃ X : Nat, X ≤ Y ∧ Ok7 s X Y) (by
    obtain ⟨X, Y, h1, h2, h3, h4⟩ := h
    refine ⟨Y.toNat, by omega, X.toNat, by omega, ?_⟩
    rw [Int.toNat_of_nonneg h2, Int.toNat_of_nonneg (by omega)]; exact h4)
  obtain ⟨a, ha, ham⟩ := least8 (fun X => X ≤ e ∧ Ok7 s X e) he.2
  refine ⟨a, e, ha.2, by omega, by omega, by omega, fun X Y y1 x0 xy hk => ?_⟩
  have hY := hem Y.toNat ⟨by omega, X.toNat, by omega, by rw [Int.toNat_of_nonneg x0, Int.toNat_of_nonneg (by omega)]; exact hk⟩
  refine ⟨by omega, fun hye => ?_⟩
  subst hye
  have := ham X.toNat ⟨by omega, by rw [Int.toNat_of_nonneg x0]; exact hk⟩
  omega
theorem loN_ge (s : ByteArray) (a e : Int) : ∀ m k, k < m → hgt s k * e - (k : Int) * a ≤ loN s a e m := by
  intro m
  induction m with
  | zero => intro k hk; omega
  | succ m ih =>
    intro k hk
    rw [loN]
    rcases Nat.lt_or_eq_of_le (Nat.le_of_lt_succ hk) with h | h
    · exact Int.le_trans (ih k h) (Int.le_max_left _ _)
    · subst h; exact Int.le_max_right _ _
theorem hiN_le (s : ByteArray) (a e : Int) : ∀ m k, k < m → hiN s a e m ≤ (hgt s k + 1) * e - (k : Int) * a - 1 := by
  intro m
  induction m with
  | zero => intro k hk; omega
  | succ m ih =>
    intro k hk
    rw [hiN]
    rcases Nat.lt_or_eq_of_le (Nat.le_of_lt_succ hk) with h | h
    · exact Int.le_trans (Int.min_le_left _ _) (ih k h)
    · subst h; exact Int.min_le_right _ _
theorem loN_0 (s : ByteArray) (a e : Int) : ∀ m, 0 ≤ loN s a e m := by
  intro m
  induction m with
  | zero => exact Int.le_refl _
  | succ m ih => rw [loN]; exact Int.le_trans ih (Int.le_max_left _ _)
theorem hiN_e (s : ByteArray) (a e : Int) : ∀ m, hiN s a e m ≤ e - 1 := by
  intro m
  induction m with
  | zero => exact Int.le_refl _
  | succ m ih => rw [hiN]; exact Int.le_trans (Int.min_le_left _ _) ih
/-- Words with the same heights are the same. -/
theorem word_ext {s t : ByteArray} (hn : s.size = t.size) (h : ∀ k, k ≤ s.size → hgt s k = hgt t k) : s = t := by
  apply ByteArray.ext
  apply Array.ext
  · exact hn
  · intro k h1 h2
    have hs : k < s.size := h1
    have ht : k < t.size := h2
    have e1 := h k (by omega)
    have e2 := h (k + 1) (by omega)
    rw [hgt_succ s k hs, hgt_succ t k ht] at e2
    have e3 : (s[k]'hs).toNat = (t[k]'ht).toNat := by omega
    exact UInt8.toNat_inj.1 e3
theorem simp_word {s : ByteArray} (hw : wdB s = true) {a e : Int} (h : SimpS s a e) : lnW a e (loN s a e (s.size + 1)) s.size = s ∧ 0 ≤ loN s a e (s.size + 1) ∧ loN s a e (s.size + 1) ≤ e - 1 := by
  obtain ⟨hk, he, ha, hae, _⟩ := h
  have hlh := (ok7_iff s a e he).1 hk
  have h0 := loN_0 s a e (s.size + 1)
  have h1 := hiN_e s a e (s.size + 1)
  refine ⟨?_, h0, by omega⟩
  refine word_ext (lnW_size _ _ _ _) (fun k hk => ?_)
  rw [lnW_size] at hk
  rw [lnW_hgt he ha hae h0 (by omega) s.size k hk]
  have g1 := loN_ge s a e (s.size + 1) k (by omega)
  have g2 := hiN_le s a e (s.size + 1) k (by omega)
  have m1 := Int.mul_comm (hgt s k) e
  have m2 : (hgt s k + 1) * e = e * hgt s k + e := by rw [Int.add_mul, Int.one_mul, m1]
  exact fl_eq he (by omega) (by omega)
theorem rdD_pos {l d : Int} (hd : 1 ≤ d) : 1 ≤ rdD l d := by
  have hg := gcd_pos7 (l := l) hd
  obtain ⟨c, hc⟩ : ((Int.gcd l d : Nat) : Int) ∣ d := Int.gcd_dvd_right ..
  unfold rdD
  generalize ((Int.gcd l d : Nat) : Int) = g at *
  subst hc
  rw [Int.mul_tdiv_cancel_left _ (by omega)]
  by_cases h : 1 ≤ c
  · exact h
  · exfalso
    have : g * c ≤ g * 0 := Int.mul_le_mul_of_nonneg_left (by omega) (by omega)
    omega
theorem fb_all {s : ByteArray} (hw : wdB s = true) (h1 : 1 ≤ s.size) : ∃ p q r t x y z : Int, slR s = .tuple #[.int .i64 p, .int .i64 q, .int .i64 r, .int .i64 t, .bool (balB s)] ∧ lfR s = .tuple #[.int .i64 x, .int .i64 y, .int .i64 z, .bool (balB s)] ∧
    ((-300 ≤ p ∧ p ≤ 300) ∧ (-300 ≤ q ∧ q ≤ 300) ∧ (-300 ≤ r ∧ r ≤ 300) ∧ (-300 ≤ t ∧ t ≤ 300) ∧ (0 ≤ x ∧ x ≤ 300) ∧ (0 ≤ y ∧ y ≤ 300) ∧ (0 ≤ z ∧ z ≤ 300)) ∧
    (balB s = true → okLn x y z s.size = true ∧ lnS x y z s.size = s ∧ 1 ≤ q ∧ 1 ≤ t ∧ p * y < x * q ∧ x * t < r * y) := by
  obtain ⟨⟨l, d, hl⟩, ⟨u, v, hu⟩⟩ := ends_ex hw
  have h120 := (wdB_iff.1 hw).1
  have bl := hl.1.bd hw
  have bu := hu.1.bd hw
  have hbi := bal_iff7 hw hl hu
  by_cases hp : l * v < u * d
  · have hb : balB s = true := by unfold balB; rw [hw, (eq7_iff s).1 (hbi.2 hp)]; rfl
    have hm := med7 hp
    have hOk : Ok7 s (l + u) (d + v) := (ok7_ends hw hl hu (by omega) (by omega) (by have := hl.1.bd2 hw; have := hu.1.bd2 hw; omega)).2 hm
    obtain ⟨a, e, hs⟩ := simp_ex ⟨l + u, d + v, by omega, by omega, by have := hl.1.bd2 hw; have := hu.1.bd2 hw; omega, hOk⟩
    obtain ⟨k1, k2, k3⟩ := simp_word hw hs
    have hse := hs
    obtain ⟨hk, he, ha, hae, hmin⟩ := hs
    have hme := (hmin (l + u) (d + v) (by omega) (by omega) (by have := hl.1.bd2 hw; have := hu.1.bd2 hw; omega) hOk).1
    have hen := (ok7_ends hw hl hu he ha hae).1 hk
    have b1 : ∀ {x y : Int}, (-1 ≤ x ∧ x ≤ 121) → (1 ≤ y ∧ y ≤ 120) → (-300 ≤ rdN x y ∧ rdN x y ≤ 300) ∧ (-300 ≤ rdD x y ∧ rdD x y ≤ 300) := fun hx hy => by
      have := rd_bd hx hy; omega
    have x1 := b1 (x := l) (y := d) (by omega) (by omega)
    have x2 := b1 (x := u) (y := v) (by omega) (by omega)
    have hokL : okLn a e (loN s a e (s.size + 1)) s.size = true := by
      unfold okLn
      rw [inB_iff.2 (show (1 : Int) ≤ e ∧ e ≤ 1000 by omega), inB_iff.2 (show (0 : Int) ≤ a ∧ a ≤ e by omega), inB_iff.2 (show (0 : Int) ≤ loN s a e (s.size + 1) ∧ loN s a e (s.size + 1) ≤ e - 1 by omega), inB_iff.2 (show (0 : Int) ≤ (s.size : Int) ∧ (s.size : Int) ≤ 120 by omega)]; rfl
    refine ⟨rdN l d, rdD l d, rdN u v, rdD u v, a, e, loN s a e (s.size + 1), by rw [hb]; exact slR_yes hw (by omega) hl hu hp, by rw [hb]; exact lfR_yes hw hse, ⟨x1.1, x1.2, x2.1, x2.2, by omega, by omega, by omega⟩, fun _ => ⟨hokL, ?_, rdD_pos (by omega), rdD_pos (by omega), rd_lt (by omega) hen.1, rd_gt (by omega) hen.2⟩⟩
    unfold lnS
    rw [hokL, if_pos rfl, Int.toNat_natCast]
    exact k1
  · have hb : balB s = false := by
      cases h : balB s
      · rfl
      · unfold balB at h; rw [hw, Bool.true_and] at h
        exact absurd (hbi.1 ((eq7_iff s).2 h)) hp
    have hno : ∀ X Y : Int, 1 ≤ Y → 0 ≤ X → X ≤ Y → ¬ Ok7 s X Y := fun X Y y1 x0 xy hk => hp (by
      have hE := (ok7_ends hw hl hu y1 x0 xy).1 hk
      exact poss7 bl.2.1 bu.2.1 y1 hE.1 hE.2)
    exact ⟨0, 0, 0, 0, 0, 0, 0, by rw [hb]; exact slR_no (slR_imp hw hl hu hp), by rw [hb]; exact lfR_no (fun _ => hno), by omega, fun h => by rw [hb] at h; cases h⟩
end Go.Proofs.YtmckbjhmkcbjgabDoor
