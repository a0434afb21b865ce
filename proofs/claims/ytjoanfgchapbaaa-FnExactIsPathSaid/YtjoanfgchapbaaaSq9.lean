/- Rows as a function of two indexes; one number of them stored. -/
import Derived.Test.YtjoanfgchapbaaaRowG
namespace Go.Proofs.Ytjoanfgchapbaaa
open Go.ChangeShapes Go.WideShapes Go.ChangeAt Go.RowKit Go.Deep
set_option linter.unusedVariables false
def sqF (n m : Nat) (f : Nat → Nat → Int) : List (List Int) := (List.range n).map fun i => (List.range m).map fun k => f i k
theorem sqF_len (n m : Nat) (f : Nat → Nat → Int) : (sqF n m f).length = n := by simp [sqF]
theorem sqF_row (n m : Nat) (f : Nat → Nat → Int) (i : Nat) (h : i < n) : (sqF n m f).getD i [] = (List.range m).map (f i) := by simp [sqF, List.getD_eq_getElem?_getD, h]
theorem sqF_rowlen (n m : Nat) (f : Nat → Nat → Int) (i : Nat) (h : i < n) : ((sqF n m f).getD i []).length = m := by rw [sqF_row n m f i h]; simp
theorem sqF_get (n m : Nat) (f : Nat → Nat → Int) (i k : Nat) (h : i < n) (hk : k < m) : ((sqF n m f).getD i []).getD k 0 = f i k := by rw [sqF_row n m f i h]; simp [List.getD_eq_getElem?_getD, hk]
theorem sqF_same (n m : Nat) (f g : Nat → Nat → Int) (h : ∀ i k, i < n → k < m → f i k = g i k) : sqF n m f = sqF n m g := by
  unfold sqF
  refine List.map_congr_left fun i hi => List.map_congr_left fun k hk => h i k (List.mem_range.1 hi) (List.mem_range.1 hk)
theorem sqF_push (n m : Nat) (f : Nat → Nat → Int) : sqF (n + 1) m f = sqF n m f ++ [(List.range m).map (f n)] := by unfold sqF; rw [List.range_succ, List.map_append]; rfl
theorem sqF_tot (m : Nat) (f : Nat → Nat → Int) : ∀ n, tot (sqF n m f) = n * m := by
  intro n
  induction n with
  | zero => simp [sqF, tot]
  | succ n ih => rw [sqF_push, tot_append, ih]; simp [tot, Nat.succ_mul]
/-- Rows that are all as long are such. -/
theorem sqF_of (zss : List (List Int)) (m : Nat) (h : ∀ k, k < zss.length → (zss.getD k []).length = m) : zss = sqF zss.length m (fun i k => (zss.getD i []).getD k 0) := by
  apply List.ext_getElem
  · rw [sqF_len]
  · intro i h1 h2
    have a := h i h1
    rw [getDD_get zss i h1] at a
    simp only [sqF, List.getElem_map, List.getElem_range]
    apply List.ext_getElem
    · simp [a]
    · intro k h3 h4
      simp [List.getD_eq_getElem?_getD, h1, h3]
def upd2 (f : Nat → Nat → Int) (i k : Nat) (v : Int) : Nat → Nat → Int := fun a b => if a = i ∧ b = k then v else f a b
theorem map_range_set (m : Nat) (f : Nat → Int) (k : Nat) (v : Int) : ((List.range m).map f).set k v = (List.range m).map (fun b => if b = k then v else f b) := by
  apply List.ext_getElem
  · simp
  · intro i h1 h2
    simp only [List.getElem_set, List.getElem_map, List.getElem_range]
    by_cases e : k = i
    · rw [if_pos e, if_pos e.symm]
    · rw [if_neg e, if_neg (fun h => e h.symm)]
theorem sqF_set (n m : Nat) (f : Nat → Nat → Int) (i k : Nat) (h : i < n) (v : Int) : (sqF n m f).set i (((sqF n m f).getD i []).set k v) = sqF n m (upd2 f i k v) := by
  rw [sqF_row n m f i h, map_range_set]
  apply List.ext_getElem
  · simp [sqF]
  · intro j h1 h2
    simp only [List.getElem_set, sqF, List.getElem_map, List.getElem_range]
    by_cases e : i = j
    · subst e
      rw [if_pos rfl]
      refine List.map_congr_left fun b hb => ?_
      unfold upd2
      simp
    · rw [if_neg e]
      refine List.map_congr_left fun b hb => ?_
      unfold upd2
      rw [if_neg (fun h => e h.1.symm)]
theorem set_getD_set (zss : List (List Int)) (i j : Nat) (z : List Int) (hj : j < zss.length) : (zss.set i z).getD j [] = if i = j then z else zss.getD j [] := by
  by_cases e : i = j
  · subst e; simp [List.getD_eq_getElem?_getD, hj]
  · rw [if_neg e]; simp [List.getD_eq_getElem?_getD, List.getElem?_set_ne e]
theorem tot_set (zss : List (List Int)) (i : Nat) (z : List Int) (h : i < zss.length) (hl : z.length = (zss.getD i []).length) : tot (zss.set i z) = tot zss := by
  induction zss generalizing i with
  | nil => simp at h
  | cons a t ih =>
    cases i with
    | zero => simp [tot] at hl ⊢; omega
    | succ i => simp only [List.set_cons_succ, tot]; rw [ih i (by simpa using h) (by simpa using hl)]
/-- One number of rows of the call's own is stored. -/
theorem OwnR.store {w : World} {lo cap : Nat} {ad : Option Addr} {AD : Nat → Option Addr} {CP : Nat → Nat} {zss : List (List Int)} (h : OwnR w lo ad cap AD CP zss) (i k : Nat) (hi : i < zss.length) (hk : k < (zss.getD i []).length) :
    ∃ g, AD i = some ⟨g, 0, none⟩ ∧ lo ≤ g ∧ g < w.heap.size ∧ w.cell? ⟨g, k, none⟩ = some (.int .i64 ((zss.getD i []).getD k 0)) ∧ w.frozen? ⟨g, k, none⟩ = false ∧ w.cell? ⟨g, 0 + k, none⟩ = some (.int .i64 ((zss.getD i []).getD k 0)) ∧
      ∀ v, In64 v → OwnR (w.setCell ⟨g, k, none⟩ (.int .i64 v)) lo ad cap AD CP (zss.set i ((zss.getD i []).set k v)) := by
  have o := h.each i hi
  rcases own_block o.1 with ⟨_, e, _⟩ | ⟨g, e, h1, h2, _⟩
  · omega
  rw [e] at o
  have r := o.rowAt
  have hc := r.cell k hk
  rw [Nat.zero_add] at hc
  refine ⟨g, e, h1, h2, hc, r.frozen k, by rw [Nat.zero_add]; exact hc, fun v hv => ?_⟩
  have hl : ((zss.getD i []).set k v).length = (zss.getD i []).length := by simp
  have hg : ∀ j, j < zss.length → ((zss.set i ((zss.getD i []).set k v)).getD j []).length = (zss.getD j []).length := fun j hj => by
    rw [set_getD_set zss i j _ hj]
    split
    · rename_i e; rw [← e]; exact hl
    · rfl
  refine ⟨by simpa using h.small, by rw [tot_set zss i _ hi hl]; exact h.all, ?_, fun j hj => ?_, fun a b ha hb => h.apart a b (by simpa using ha) (by simpa using hb), fun a ha => h.off a (by simpa using ha)⟩
  · have hr : rowC AD CP (zss.set i ((zss.getD i []).set k v)) = rowC AD CP zss := rowC_same AD CP _ _ (by simp) hg
    rw [hr, List.length_set]
    exact row_same h.row (fun q e2 hq => heap_setCell_other w _ q _ (fun e3 => h.off i hi q e2 (by rw [e]; simp at e3; rw [e3])))
  · rw [List.length_set] at hj
    rw [set_getD_set zss i j _ hj]
    by_cases e2 : i = j
    · subst e2
      rw [if_pos rfl, e]
      have s := (o.1.stored k (.int .i64 v)).1
      refine ⟨?_, by rw [hl]; exact o.2.1, fun z hz => ?_⟩
      · rw [hl]
        have : vals ((zss.getD i []).set k v) = (vals (zss.getD i [])).set k (.int .i64 v) := by simp [vals, List.map_set]
        rw [this]; exact s
      · rcases List.mem_or_eq_of_mem_set hz with hz | rfl
        · exact o.2.2 z hz
        · exact hv
    · rw [if_neg e2]
      have oj := h.each j hj
      refine oj.wrote (F := fun q => q = g) ⟨rfl, rfl, rfl, by simp, fun q _ hq => heap_setCell_other w _ q _ hq⟩ (fun q e3 e4 => ?_)
      subst e4
      exact h.apart i j hi hj e2 q e e3
/-- The place of x in a square with h rows that begins again behind h, x below 2 h. -/
def md (h x : Nat) : Nat := if x < h then x else x - h
def dblF (h : Nat) (f : Nat → Nat → Int) : Nat → Nat → Int := fun i k => 4 * f (md h i) (md h k) + (if i < h then (if k < h then 0 else 2) else (if k < h then 3 else 1))
/-- The doubling mask of an order. -/
def dbF : Nat → Nat → Nat → Int
  | 0 => fun _ _ => 0
  | o + 1 => dblF (2 ^ o) (dbF o)
theorem dbF_bd : ∀ o i k, 0 ≤ dbF o i k ∧ dbF o i k < 4 ^ o := by
  intro o
  induction o with
  | zero => intro i k; exact ⟨Int.le_refl _, by show (0 : Int) < 4 ^ 0; decide⟩
  | succ o ih =>
    intro i k
    have h := ih (md (2 ^ o) i) (md (2 ^ o) k)
    show 0 ≤ dblF (2 ^ o) (dbF o) i k ∧ dblF (2 ^ o) (dbF o) i k < 4 ^ (o + 1)
    unfold dblF
    rw [Int.pow_succ]
    split <;> split <;> omega
end Go.Proofs.Ytjoanfgchapbaaa
