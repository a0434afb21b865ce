/- Sequences for demands: how often each product stands; the model's look and the program's. -/
import Derived.Test.YtpdcmhnaedhkdaaArr8
import Derived.Test.YtpdcmhnaedhkdaaSame
namespace Go.Proofs.Ytpdcmhnaedhkdaa
open Go.ChangeShapes Go.WideShapes Go.ChangeAt Go.RowKit Go.Deep
set_option linter.unusedVariables false
/-- How often a product stands in a list. -/
def cntI (l : List Int) (i : Nat) : Int := (l.countP (fun z => decide (z = (i : Int))) : Nat)
theorem cntI_nil (i : Nat) : cntI [] i = 0 := rfl
theorem cntI_succ (l : List Int) (k i : Nat) (h : k < l.length) : cntI (l.take (k + 1)) i = cntI (l.take k) i + (if l.getD k 0 = (i : Int) then 1 else 0) := by
  unfold cntI
  rw [List.take_succ_eq_append_getElem h, List.countP_append, getD_get l k h, List.countP_singleton]
  by_cases c : l[k] = (i : Int)
  · rw [if_pos c, if_pos (by simpa using c)]; rfl
  · rw [if_neg c, if_neg (by simpa using c)]; rfl
theorem cntI_bd (l : List Int) (k i : Nat) (h : k ≤ l.length) : 0 ≤ cntI (l.take k) i ∧ cntI (l.take k) i ≤ k := by
  have h2 : (l.take k).countP (fun z => decide (z = (i : Int))) ≤ k := Nat.le_trans List.countP_le_length (by rw [List.length_take]; omega)
  unfold cntI
  omega
/-- The first k numbers are products. -/
def rngB (l : List Int) (n k : Nat) : Bool := (List.range k).all fun j => inB (l.getD j 0) 0 ((n : Int) - 1)
theorem rngB_succ (l : List Int) (n k : Nat) : rngB l n (k + 1) = (rngB l n k && inB (l.getD k 0) 0 ((n : Int) - 1)) := by
  unfold rngB; rw [List.range_succ, List.all_append]; simp
theorem rngB_no {l : List Int} {n m k : Nat} (h : k < m) (hf : inB (l.getD k 0) 0 ((n : Int) - 1) = false) : rngB l n m = false := by
  unfold rngB; rw [List.all_eq_false]; exact ⟨k, List.mem_range.2 h, by rw [hf]; exact Bool.false_ne_true⟩
theorem rngB_at {l : List Int} {n m k : Nat} (h : rngB l n m = true) (hk : k < m) : 0 ≤ l.getD k 0 ∧ l.getD k 0 ≤ (n : Int) - 1 := by
  unfold rngB at h; rw [List.all_eq_true] at h; exact inB_iff.1 (h k (List.mem_range.2 hk))
theorem cntI_none {l : List Int} {n : Nat} (h : rngB l n l.length = true) (i : Nat) (hi : n ≤ i) : cntI l i = 0 := by
  unfold cntI
  have : l.countP (fun z => decide (z = (i : Int))) = 0 := by
    rw [List.countP_eq_zero]
    intro z hz
    obtain ⟨k, hk, rfl⟩ := List.getElem_of_mem hz
    have := rngB_at h hk
    rw [getD_get l k hk] at this
    simp; omega
  omega
def cntL (n : Nat) (l : List Int) : List Int := (List.range n).map (cntI l)
theorem cntL_len (n : Nat) (l : List Int) : (cntL n l).length = n := by simp [cntL]
theorem cntL_get (n : Nat) (l : List Int) (i : Nat) (h : i < n) : (cntL n l).getD i 0 = cntI l i := by simp [cntL, List.getD_eq_getElem?_getD, h]
theorem cntL_nil (n : Nat) : vals (cntL n []) = List.replicate n (.int .i64 0) := by
  rw [List.eq_replicate_iff]
  refine ⟨by simp [cntL], fun v hv => ?_⟩
  obtain ⟨z, hz, rfl⟩ := List.mem_map.1 hv
  unfold cntL at hz
  obtain ⟨i, _, rfl⟩ := List.mem_map.1 hz
  rfl
theorem cntL_at (n : Nat) (l : List Int) (i : Nat) (h : i < n) : (vals (cntL n l))[i]? = some (.int .i64 (cntI l i)) := by
  simp [cntL, vals, h]
theorem cntL_set (n : Nat) (l : List Int) (k x : Nat) (h : k < l.length) (hx : l.getD k 0 = (x : Int)) (hn : x < n) : (vals (cntL n (l.take k))).set x (.int .i64 (cntI (l.take k) x + 1)) = vals (cntL n (l.take (k + 1))) := by
  refine List.ext_getElem (by simp [cntL, vals]) fun i h1 h2 => ?_
  rw [List.getElem_set]
  simp only [cntL, vals, List.getElem_map, List.getElem_range]
  rw [cntI_succ l k i h, hx]
  by_cases c : x = i
  · subst c; simp
  · rw [if_neg c, if_neg (by omega), Int.add_zero]
def seqB (d l : List Int) : Bool := rngB l d.length l.length && eqB (cntL d.length l) d
def seqO (d l : List Int) : Bool := okD d && seqB d l
theorem seqO_parts {d l : List Int} (h : seqO d l = true) : okD d = true ∧ rngB l d.length l.length = true ∧ cntL d.length l = d := by
  unfold seqO seqB eqB at h
  simp only [Bool.and_eq_true, decide_eq_true_eq] at h
  exact ⟨h.1, h.2.1, h.2.2⟩
theorem cnt_sum (l : List Int) : ∀ (n : Nat), (∀ z ∈ l, 0 ≤ z ∧ z < (n : Int)) → (cntL n l).sum = l.length := by
  induction l with
  | nil =>
    intro n _
    have : ∀ n, (cntL n []).sum = 0 := by
      intro n; induction n with
      | zero => rfl
      | succ n ih => unfold cntL at ih ⊢; rw [List.range_succ, List.map_append, List.sum_append, ih]; rfl
    simpa using this n
  | cons a t ih =>
    intro n h
    have h1 := ih n (fun z hz => h z (List.mem_cons_of_mem _ hz))
    have h2 := h a (List.mem_cons_self ..)
    have : ∀ m : Nat, (cntL m (a :: t)).sum = (cntL m t).sum + (if a < (m : Int) then 1 else 0) := by
      intro m
      induction m with
      | zero => simp [cntL]; omega
      | succ m ihm =>
        unfold cntL at ihm ⊢
        rw [List.range_succ, List.map_append, List.map_append, List.sum_append, List.sum_append, ihm]
        have e : cntI (a :: t) m = cntI t m + (if a = (m : Int) then 1 else 0) := by
          unfold cntI
          rw [List.countP_cons]
          by_cases c : a = (m : Int)
          · simp [c]
          · simp [c]
        simp only [List.map_cons, List.map_nil, List.sum_cons, List.sum_nil, Int.add_zero]
        rw [e]
        by_cases c1 : a < (m : Int)
        · rw [if_pos c1, if_neg (by omega), if_pos (by omega)]; omega
        · by_cases c2 : a = (m : Int)
          · rw [if_neg c1, if_pos c2, if_pos (by omega)]; omega
          · rw [if_neg c1, if_neg c2, if_neg (by omega)]; omega
    rw [this n, if_pos h2.2, h1]; simp
theorem seqO_len {d l : List Int} (h : seqO d l = true) : (l.length : Int) = d.sum ∧ l.length ≤ 240 := by
  obtain ⟨h1, h2, h3⟩ := seqO_parts h
  have h4 := cnt_sum l d.length (fun z hz => by
    obtain ⟨k, hk, rfl⟩ := List.getElem_of_mem hz
    have := rngB_at h2 hk
    rw [getD_get l k hk] at this; omega)
  rw [h3] at h4
  have := okD_sum h1
  omega
end Go.Proofs.Ytpdcmhnaedhkdaa
