/- Systems of sets of points, their imbalances and discrepancies. Nothing here speaks of one program. -/
import Derived.Test.YtpdcmhnaedhkdaaSub10
import Derived.Test.YtpdcmhnaedhkdaaGreat
namespace Go.Proofs.Ytpdcmhnaedhkdaa
set_option linter.unusedVariables false
/-- The greatest set of g points. -/
def topS (g : Int) : Int := 2 ^ g.toNat - 1
def okS (g : Int) (zs : List Int) : Bool := inB g 0 12 && (decide (zs.length ≤ 12) && zs.all fun z => inB z 0 (topS g))
theorem okS_parts {g : Int} {zs : List Int} (h : okS g zs = true) : 0 ≤ g ∧ g ≤ 12 ∧ zs.length ≤ 12 ∧ ∀ z ∈ zs, 0 ≤ z ∧ z ≤ topS g := by
  unfold okS at h
  simp only [Bool.and_eq_true, decide_eq_true_eq, List.all_eq_true] at h
  have h1 := inB_iff.1 h.1
  exact ⟨h1.1, h1.2, h.2.1, fun z hz => inB_iff.1 (h.2.2 z hz)⟩
theorem topS_nat {g : Int} (h0 : 0 ≤ g) (h1 : g ≤ 12) : ∃ n : Nat, g = n ∧ n ≤ 12 ∧ topS g = ((2 ^ n - 1 : Nat) : Int) ∧ 1 ≤ 2 ^ n ∧ 2 ^ n ≤ 4096 := by
  obtain ⟨n, rfl⟩ : ∃ n : Nat, g = n := ⟨g.toNat, by omega⟩
  have hn : n ≤ 12 := by omega
  have h2 : 1 ≤ 2 ^ n := Nat.one_le_two_pow
  have h3 : 2 ^ n ≤ 2 ^ 12 := Nat.pow_le_pow_right (by omega) hn
  refine ⟨n, rfl, hn, ?_, h2, by simpa using h3⟩
  unfold topS
  rw [Int.toNat_natCast, show ((2 : Int) ^ n) = ((2 ^ n : Nat) : Int) from by norm_cast]
  omega
theorem okS_sets {g : Int} {zs : List Int} (h : okS g zs = true) : ∀ z ∈ zs, 0 ≤ z ∧ z < 4096 := by
  obtain ⟨h0, h1, _, h3⟩ := okS_parts h
  obtain ⟨n, _, _, ht, _, hp⟩ := topS_nat h0 h1
  intro z hz; have := h3 z hz; omega
/-- The imbalances of sets, where only some points count. -/
def imbL (zs : List Int) (points red : Nat) : List Int := zs.map fun z => imb (z.toNat &&& points) red
theorem imbL_len (zs : List Int) (p r : Nat) : (imbL zs p r).length = zs.length := by simp [imbL]
theorem imbL_bd (zs : List Int) (p r : Nat) : ∀ z ∈ imbL zs p r, -64 ≤ z ∧ z ≤ 64 := by
  intro z hz; obtain ⟨y, _, rfl⟩ := List.mem_map.1 hz; exact imb_bd _ _
theorem imbL_in (zs : List Int) (p r : Nat) : ∀ z ∈ imbL zs p r, In64 z := by
  intro z hz; have := imbL_bd zs p r z hz; exact ⟨by omega, by omega⟩
theorem imbL_ok {zs : List Int} (h : zs.length ≤ 40) (p r : Nat) : listOk (imbL zs p r) 1000000000 = true := by
  unfold listOk allIn
  simp only [Bool.and_eq_true, decide_eq_true_eq, List.all_eq_true]
  exact ⟨by rw [imbL_len]; exact h, fun z hz => by have := imbL_bd zs p r z hz; exact inB_iff.2 ⟨by omega, by omega⟩⟩
theorem imbL_get (zs : List Int) (p r k : Nat) (h : k < zs.length) : (imbL zs p r).getD k 0 = imb ((zs.getD k 0).toNat &&& p) r := by
  rw [getD_get _ k (by rw [imbL_len]; exact h), getD_get zs k h]; unfold imbL; rw [List.getElem_map]
/-- The greatest imbalance. -/
def mostS (zs : List Int) (p r : Nat) : Int := gr (imbL zs p r)
theorem mostS_bd (zs : List Int) (p r : Nat) : 0 ≤ mostS zs p r ∧ mostS zs p r ≤ 64 := by
  have := gr_bd 64 (by omega) (imbL zs p r) (imbL_bd zs p r) _ (Nat.le_refl _)
  rw [List.take_length] at this; exact this
theorem mostS_grV {zs : List Int} (h : zs.length ≤ 40) (p r : Nat) : grV (imbL zs p r) = mostS zs p r := by
  unfold grV mostS; rw [if_pos (imbL_ok h p r)]
/-! ### the least cost of the parts of a set -/
/-- The parts below t that cost least, in their order, and this cost. -/
def fndT (c : Nat → Int) (m : Nat) : Nat → List Nat × Int
  | 0 => ([], 0)
  | t + 1 => if partB m t = true then
      (if (fndT c m t).1 = [] ∨ c t < (fndT c m t).2 then ([t], c t) else if c t = (fndT c m t).2 then ((fndT c m t).1 ++ [t], (fndT c m t).2) else fndT c m t)
    else fndT c m t
/-- The least cost of the parts below t, -1 without any, and the first part that has it. -/
def bstT (c : Nat → Int) (m : Nat) : Nat → Int × Nat
  | 0 => (-1, 0)
  | t + 1 => if partB m t = true then (if (bstT c m t).1 < 0 ∨ c t < (bstT c m t).1 then (c t, t) else bstT c m t) else bstT c m t
theorem partB_zero (m : Nat) : partB m 0 = true := by unfold partB; simp
theorem fnd_bst {c : Nat → Int} {m : Nat} (hc : ∀ t, 0 ≤ c t) : ∀ t, 1 ≤ t → ∃ l, (fndT c m t).1 = (bstT c m t).2 :: l ∧ (fndT c m t).2 = (bstT c m t).1 ∧ 0 ≤ (bstT c m t).1 := by
  intro t
  induction t with
  | zero => omega
  | succ t ih =>
    intro _
    by_cases ht : t = 0
    · subst ht
      refine ⟨[], ?_⟩
      rw [fndT, bstT, if_pos (partB_zero m), if_pos (partB_zero m), if_pos (.inl rfl), if_pos (.inl (show (-1 : Int) < 0 by decide))]
      exact ⟨rfl, rfl, hc 0⟩
    · obtain ⟨l, h1, h2, h3⟩ := ih (by omega)
      rw [fndT, bstT]
      cases hp : partB m t
      · simp only [Bool.false_eq_true, if_false]; exact ⟨l, h1, h2, h3⟩
      · simp only [if_true]
        rw [h1, h2]
        by_cases hlt : c t < (bstT c m t).1
        · rw [if_pos (.inr hlt), if_pos (.inr hlt)]; exact ⟨[], rfl, rfl, hc t⟩
        · have hn : ¬ ((bstT c m t).2 :: l = [] ∨ c t < (bstT c m t).1) := by simp [hlt]
          have hn2 : ¬ ((bstT c m t).1 < 0 ∨ c t < (bstT c m t).1) := by omega
          rw [if_neg hn, if_neg hn2]
          split
          · exact ⟨l ++ [t], rfl, rfl, h3⟩
          · exact ⟨l, h1, h2, h3⟩
theorem fnd_parts (c : Nat → Int) (m : Nat) : ∀ t, ∀ p ∈ (fndT c m t).1, p ≤ m ∧ p < t := by
  intro t
  induction t with
  | zero => intro p hp; simp [fndT] at hp
  | succ t ih =>
    intro p hp
    rw [fndT] at hp
    cases h : partB m t
    · rw [h] at hp; simp only [Bool.false_eq_true, if_false] at hp; have := ih p hp; omega
    · have hm := part_le (partB_iff.1 h)
      rw [h] at hp; simp only [if_true] at hp
      split at hp
      · simp at hp; omega
      · split at hp
        · rcases List.mem_append.1 hp with q | q
          · have := ih p q; omega
          · simp at q; omega
        · have := ih p hp; omega
theorem fnd_len (c : Nat → Int) (m : Nat) : ∀ t, (fndT c m t).1.length ≤ t := by
  intro t
  induction t with
  | zero => simp [fndT]
  | succ t ih =>
    rw [fndT]
    split
    · split
      · simp
      · split
        · simp; omega
        · omega
    · omega
theorem fnd_skip (c : Nat → Int) (m t : Nat) (h : partB m t = false) : fndT c m (t + 1) = fndT c m t := by rw [fndT, h]; rfl
theorem bst_skip (c : Nat → Int) (m t : Nat) (h : partB m t = false) : bstT c m (t + 1) = bstT c m t := by rw [bstT, h]; rfl
theorem bst_bd {c : Nat → Int} {m : Nat} {M : Int} (hM : 0 ≤ M) (hc : ∀ t, 0 ≤ c t ∧ c t ≤ M) : ∀ t, -1 ≤ (bstT c m t).1 ∧ (bstT c m t).1 ≤ M ∧ (bstT c m t).2 ≤ t := by
  intro t
  induction t with
  | zero => simp [bstT]; omega
  | succ t ih =>
    rw [bstT]
    split
    · split
      · have := hc t; simp only; omega
      · omega
    · omega
/-- The discrepancy of a system if only some of its points count, and the least set that is red with it. -/
def disV (zs : List Int) (p : Nat) : Int × Nat := bstT (mostS zs p) p (p + 1)
theorem disV_bd (zs : List Int) (p : Nat) : 0 ≤ (disV zs p).1 ∧ (disV zs p).1 ≤ 64 ∧ (disV zs p).2 ≤ p + 1 := by
  have h1 := bst_bd (m := p) (M := 64) (by omega) (mostS_bd zs p) (p + 1)
  obtain ⟨l, _, _, h2⟩ := fnd_bst (m := p) (fun t => (mostS_bd zs p t).1) (p + 1) (by omega)
  exact ⟨h2, h1.2.1, h1.2.2⟩
/-- The greatest discrepancy of the systems on the sets below t. -/
def herT (zs : List Int) : Nat → Int
  | 0 => 0
  | t + 1 => mx (herT zs t) (disV zs t).1
theorem herT_bd (zs : List Int) : ∀ t, 0 ≤ herT zs t ∧ herT zs t ≤ 64 := by
  intro t
  induction t with
  | zero => simp [herT]
  | succ t ih => rw [herT]; exact mx_bd ih ⟨(disV_bd zs t).1, (disV_bd zs t).2.1⟩
end Go.Proofs.Ytpdcmhnaedhkdaa
