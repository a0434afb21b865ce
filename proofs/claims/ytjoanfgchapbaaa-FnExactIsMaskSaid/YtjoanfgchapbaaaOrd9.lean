/- Sorted lists; lists that contain each index once. Pure. -/
import Derived.Test.YtjoanfgchapbaaaPlain
namespace Go.Proofs.Ytjoanfgchapbaaa
set_option linter.unusedVariables false
def srt (zs : List Int) : List Int := zs.mergeSort fun x y => decide (x ≤ y)
theorem srt_perm (zs : List Int) : (srt zs).Perm zs := List.mergeSort_perm _ _
theorem srt_len (zs : List Int) : (srt zs).length = zs.length := (srt_perm zs).length_eq
theorem srt_le (zs : List Int) : (srt zs).Pairwise (fun a b => a ≤ b) := by
  have h := List.pairwise_mergeSort (le := fun x y : Int => decide (x ≤ y)) (fun a b c h1 h2 => by simp at *; omega) (fun a b => by simp; omega) zs
  exact h.imp (fun h => by simpa using h)
def idxs (n : Nat) : List Int := (List.range n).map fun (i : Nat) => (i : Int)
theorem idxs_len (n : Nat) : (idxs n).length = n := by simp [idxs]
theorem idxs_get (n i : Nat) (h : i < n) : (idxs n).getD i 0 = i := by simp [idxs, List.getD_eq_getElem?_getD, h]
theorem idxs_mem (n : Nat) (x : Int) : x ∈ idxs n ↔ 0 ≤ x ∧ x < n := by
  unfold idxs
  simp only [List.mem_map, List.mem_range]
  constructor
  · rintro ⟨i, hi, rfl⟩; omega
  · intro h; exact ⟨x.toNat, by omega, by omega⟩
theorem idxs_nodup (n : Nat) : (idxs n).Nodup := by
  unfold idxs
  rw [List.Nodup, List.pairwise_map]
  exact (List.nodup_range (n := n)).imp (fun h e => h (by omega))
/-- Whether a list contains each index once. -/
def ordB (zs : List Int) : Bool := decide (srt zs = idxs zs.length)
theorem incr_ge : ∀ (L : List Int) (a : Int), L.Pairwise (fun x y => x < y) → (∀ x ∈ L, a ≤ x) → ∀ i, (h : i < L.length) → a + i ≤ L[i] := by
  intro L
  induction L with
  | nil => intro a _ _ i h; simp at h
  | cons b t ih =>
    intro a hp hm i h
    have hb := hm b (by simp)
    rw [List.pairwise_cons] at hp
    cases i with
    | zero => simpa using hb
    | succ i =>
      have := ih (b + 1) hp.2 (fun x hx => by have := hp.1 x hx; omega) i (by simpa using h)
      simp only [List.getElem_cons_succ]
      omega
theorem incr_le : ∀ (L : List Int) (c : Int), L.Pairwise (fun x y => x < y) → (∀ x ∈ L, x < c) → ∀ i, (h : i < L.length) → L[i] + (L.length - i : Nat) ≤ c := by
  intro L
  induction L with
  | nil => intro a _ _ i h; simp at h
  | cons b t ih =>
    intro c hp hm i h
    rw [List.pairwise_cons] at hp
    cases i with
    | zero =>
      have hb := hm b (by simp)
      simp only [List.getElem_cons_zero, List.length_cons, Nat.sub_zero]
      by_cases ht : t = []
      · subst ht; simp; omega
      · have h0 : 0 < t.length := List.length_pos_iff.2 ht
        have := ih c hp.2 (fun x hx => hm x (by simp [hx])) 0 h0
        have h1 := hp.1 t[0] (List.getElem_mem h0)
        simp at this
        omega
    | succ i =>
      have := ih c hp.2 (fun x hx => hm x (by simp [hx])) i (by simpa using h)
      simp only [List.getElem_cons_succ, List.length_cons]
      have h2 : i < t.length := by simpa using h
      rw [show t.length + 1 - (i + 1) = t.length - i from by omega]
      exact this
theorem ordB_iff (zs : List Int) : ordB zs = true ↔ zs.Nodup ∧ ∀ x ∈ zs, 0 ≤ x ∧ x < zs.length := by
  unfold ordB
  rw [decide_eq_true_eq]
  constructor
  · intro h
    have hp := srt_perm zs
    rw [h] at hp
    exact ⟨hp.nodup_iff.1 (idxs_nodup _), fun x hx => (idxs_mem _ _).1 (hp.mem_iff.2 hx)⟩
  · rintro ⟨hn, hm⟩
    have hp := srt_perm zs
    have hnd : (srt zs).Nodup := hp.nodup_iff.2 hn
    have hlt : (srt zs).Pairwise (fun x y => x < y) := by
      have h1 := srt_le zs
      have h2 : (srt zs).Pairwise (fun a b => a ≠ b) := hnd
      exact (h1.and h2).imp (fun h => by omega)
    have hms : ∀ x ∈ srt zs, 0 ≤ x ∧ x < zs.length := fun x hx => hm x (hp.mem_iff.1 hx)
    apply List.ext_getElem
    · rw [srt_len, idxs_len]
    · intro i h1 h2
      have a := incr_ge (srt zs) 0 hlt (fun x hx => (hms x hx).1) i h1
      have b := incr_le (srt zs) zs.length hlt (fun x hx => (hms x hx).2) i h1
      rw [srt_len] at b h1
      have : (idxs zs.length)[i] = (i : Int) := by simp [idxs]
      rw [this]
      omega
end Go.Proofs.Ytjoanfgchapbaaa
