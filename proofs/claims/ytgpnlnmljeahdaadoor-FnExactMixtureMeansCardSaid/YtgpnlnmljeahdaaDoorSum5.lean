/- Tables: the sums of rows and of columns; the model's side. -/
import Derived.Test.YtgpnlnmljeahdaaDoorTab5
import Derived.Test.YtgpnlnmljeahdaaDoorSums
import Derived.BigRegion
namespace Go.Proofs.YtgpnlnmljeahdaaDoor
open Go.ChangeShapes Go.WideShapes Go.ChangeAt Go.RowKit Go.Deep
set_option linter.unusedVariables false
def sumsL (zss : List (List Int)) : List Int := zss.map List.sum
theorem sumsL_len (zss : List (List Int)) : (sumsL zss).length = zss.length := by simp [sumsL]
theorem sum_bd5 (zs : List Int) (h : ∀ z ∈ zs, -1000000 ≤ z ∧ z ≤ 1000000) : -(1000000 * (zs.length : Int)) ≤ zs.sum ∧ zs.sum ≤ 1000000 * (zs.length : Int) := by
  induction zs with
  | nil => simp
  | cons a t ih =>
    have h1 := ih (fun z hz => h z (List.mem_cons_of_mem _ hz))
    have h2 := h a (List.mem_cons_self ..)
    rw [List.sum_cons, List.length_cons]
    omega
/-- The sum of a column of the first i rows. -/
def colS (zss : List (List Int)) (i t : Nat) : Int := ((zss.take i).map fun z => z.getD t 0).sum
def downT (m : Nat) (zss : List (List Int)) (i : Nat) : List Int := (List.range m).map (colS zss i)
def downL (m : Nat) (zss : List (List Int)) : List Int := downT m zss zss.length
theorem downT_len (m : Nat) (zss : List (List Int)) (i : Nat) : (downT m zss i).length = m := by simp [downT]
theorem colS_succ (zss : List (List Int)) (i t : Nat) (h : i < zss.length) : colS zss (i + 1) t = colS zss i t + (zss.getD i []).getD t 0 := by
  unfold colS
  rw [List.take_succ_eq_append_getElem h, List.map_append, List.sum_append, getDD_get zss i h]
  simp
/-- The sums while a row is added. -/
def mixD (m : Nat) (zss : List (List Int)) (i k : Nat) : List Int := (List.range m).map fun t => if t < k then colS zss (i + 1) t else colS zss i t
theorem mixD_len (m : Nat) (zss : List (List Int)) (i k : Nat) : (mixD m zss i k).length = m := by simp [mixD]
theorem mixD_zero (m : Nat) (zss : List (List Int)) (i : Nat) : mixD m zss i 0 = downT m zss i := by
  unfold mixD downT
  refine List.map_congr_left fun t _ => by rw [if_neg (by omega)]
theorem mixD_all (m : Nat) (zss : List (List Int)) (i : Nat) : mixD m zss i m = downT m zss (i + 1) := by
  unfold mixD downT
  refine List.map_congr_left fun t ht => by rw [if_pos (List.mem_range.1 ht)]
theorem mixD_get (m : Nat) (zss : List (List Int)) (i k : Nat) (h : k < m) : (mixD m zss i k).getD k 0 = colS zss i k := by
  unfold mixD
  rw [List.getD_eq_getElem?_getD, List.getElem?_map, List.getElem?_range h]
  simp
theorem mixD_set (m : Nat) (zss : List (List Int)) (i k : Nat) (h : k < m) (hi : i < zss.length) : (mixD m zss i k).set k (colS zss i k + (zss.getD i []).getD k 0) = mixD m zss i (k + 1) := by
  apply List.ext_getElem
  · simp [mixD]
  · intro t t1 t2
    rw [List.getElem_set]
    have hm : t < m := by simpa [mixD] using t2
    by_cases e : k = t
    · subst e
      rw [if_pos rfl]
      simp only [mixD, List.getElem_map, List.getElem_range]
      rw [if_pos (by omega), colS_succ zss i k hi]
    · rw [if_neg e]
      simp only [mixD, List.getElem_map, List.getElem_range]
      by_cases q : t < k
      · rw [if_pos q, if_pos (by omega)]
      · rw [if_neg q, if_neg (by omega)]
theorem colS_bd (zss : List (List Int)) (m : Nat) (hm : ∀ k, k < zss.length → (zss.getD k []).length = m ∧ ∀ x ∈ zss.getD k [], -1000000 ≤ x ∧ x ≤ 1000000) (i t : Nat) (hi : i ≤ zss.length) : -(1000000 * (i : Int)) ≤ colS zss i t ∧ colS zss i t ≤ 1000000 * (i : Int) := by
  induction i with
  | zero => simp [colS]
  | succ i ih =>
    have h1 := ih (by omega)
    rw [colS_succ zss i t (by omega)]
    have h2 : -1000000 ≤ (zss.getD i []).getD t 0 ∧ (zss.getD i []).getD t 0 ≤ 1000000 := by
      by_cases q : t < (zss.getD i []).length
      · exact (hm i (by omega)).2 _ (getD_mem _ t q)
      · rw [List.getD_eq_getElem?_getD, List.getElem?_eq_none (by omega)]; simp
    omega
theorem tab_rows {g : Int} {zss : List (List Int)} (h : tabB g zss = true) : ∀ k, k < zss.length → (zss.getD k []).length = (zss.getD 0 []).length ∧ ∀ x ∈ zss.getD k [], -1000000 ≤ x ∧ x ≤ 1000000 := fun k hk => by
  have := tab_row h hk
  exact ⟨this.1, fun x hx => by have := this.2 x hx; omega⟩
def rowSV (g : Int) (zss : List (List Int)) : List Int := if tabB g zss then sumsL zss else []
def colSV (g : Int) (zss : List (List Int)) : List Int := if tabB g zss then downL (zss.getD 0 []).length zss else []
end Go.Proofs.YtgpnlnmljeahdaaDoor
