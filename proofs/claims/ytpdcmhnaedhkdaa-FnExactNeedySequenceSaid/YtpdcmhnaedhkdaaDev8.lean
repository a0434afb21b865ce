/- Deviations: pure; the model's look. -/
import Derived.Test.YtpdcmhnaedhkdaaSeq8
import Derived.Test.YtpdcmhnaedhkdaaRowR
import Derived.Test.YtpdcmhnaedhkdaaSums
import Derived.Deep.DeepCutAuto
import Derived.Deep.RegionLaw
namespace Go.Proofs.Ytpdcmhnaedhkdaa
open Go.ChangeShapes Go.WideShapes Go.ChangeAt Go.RowKit Go.Deep
set_option linter.unusedVariables false
/-- Deviations where the products stand f times among k elements. -/
def devF (d : List Int) (f : Nat → Int) (k : Int) : List Int := (List.range d.length).map fun i => d.sum * f i - k * d.getD i 0
theorem devF_len (d : List Int) (f : Nat → Int) (k : Int) : (devF d f k).length = d.length := by simp [devF]
theorem devF_get (d : List Int) (f : Nat → Int) (k : Int) (i : Nat) (h : i < d.length) : (devF d f k).getD i 0 = d.sum * f i - k * d.getD i 0 := by
  unfold devF
  rw [List.getD_eq_getElem?_getD, List.getElem?_map, List.getElem?_range h]; rfl
theorem devF_same {d : List Int} {f g : Nat → Int} {k : Int} (h : ∀ i, i < d.length → f i = g i) : devF d f k = devF d g k := by
  unfold devF
  refine List.map_congr_left fun i hi => ?_
  rw [h i (List.mem_range.1 hi)]
/-- Deviations behind the first k + 1 elements, for all k below n. -/
def devs (d l : List Int) (n : Nat) : List (List Int) := (List.range n).map fun k => devF d (cntI (l.take (k + 1))) ((k : Int) + 1)
theorem devs_len (d l : List Int) (n : Nat) : (devs d l n).length = n := by simp [devs]
theorem devs_get (d l : List Int) (n k : Nat) (h : k < n) : (devs d l n).getD k [] = devF d (cntI (l.take (k + 1))) ((k : Int) + 1) := by simp [devs, List.getD_eq_getElem?_getD, h]
theorem devs_succ (d l : List Int) (n : Nat) : devs d l (n + 1) = devs d l n ++ [devF d (cntI (l.take (n + 1))) ((n : Int) + 1)] := by unfold devs; rw [List.range_succ, List.map_append]; rfl
theorem devs_tot (d l : List Int) : ∀ n, tot (devs d l n) = n * d.length := by
  intro n
  induction n with
  | zero => simp [devs, tot]
  | succ n ih => rw [devs_succ, tot_append, ih]; simp [tot, devF_len, Nat.succ_mul]
def devV (d l : List Int) : List (List Int) := if seqO d l then devs d l l.length else []
theorem cntI_take_le (l : List Int) (k i : Nat) : cntI (l.take k) i ≤ cntI l i := by
  unfold cntI
  have := (List.take_sublist k l).countP_le (p := fun z => decide (z = (i : Int)))
  omega
theorem cntI_dem {d l : List Int} (h : seqO d l = true) (i : Nat) (hi : i < d.length) : cntI l i = d.getD i 0 := by
  have h3 := (seqO_parts h).2.2
  rw [← cntL_get d.length l i hi, h3]
theorem mul_bd8 {D x : Int} (hD : 0 ≤ D ∧ D ≤ 260) (hx : 0 ≤ x ∧ x ≤ 260) : 0 ≤ D * x ∧ D * x ≤ 67600 := by
  have e1 : D * x ≤ 260 * 260 := Int.mul_le_mul hD.2 hx.2 hx.1 (by omega)
  exact ⟨Int.mul_nonneg hD.1 hx.1, by omega⟩
theorem mul_bd8s {D x : Int} (hD : 0 ≤ D ∧ D ≤ 240) (hx : 0 ≤ x ∧ x ≤ 40) : 0 ≤ D * x ∧ D * x ≤ 9600 := by
  have e1 : D * x ≤ 240 * 40 := Int.mul_le_mul hD.2 hx.2 hx.1 (by omega)
  exact ⟨Int.mul_nonneg hD.1 hx.1, by omega⟩
theorem devF_in {d : List Int} {f : Nat → Int} {k : Int} (hok : okD d = true) (hf : ∀ i, i < d.length → 0 ≤ f i ∧ f i ≤ 260) (hk : 0 ≤ k ∧ k ≤ 260) : ∀ z ∈ devF d f k, -67600 ≤ z ∧ z ≤ 67600 := by
  intro z hz
  unfold devF at hz
  obtain ⟨i, hi, rfl⟩ := List.mem_map.1 hz
  have hi := List.mem_range.1 hi
  have hs := okD_sum hok
  have hd := (okD_parts hok).2.2.1 i hi
  have e1 := mul_bd8 (D := d.sum) (x := f i) (by omega) (hf i hi)
  have e2 := mul_bd8 (D := k) (x := d.getD i 0) hk (by omega)
  show -67600 ≤ d.sum * f i - k * d.getD i 0 ∧ _
  omega
/-- The deviations of a sequence are small. -/
theorem devs_in {d l : List Int} (h : seqO d l = true) {k : Nat} (hk : k < l.length) : ∀ z ∈ devF d (cntI (l.take (k + 1))) ((k : Int) + 1), -9600 ≤ z ∧ z ≤ 9600 := by
  intro z hz
  obtain ⟨h1, h2, h3⟩ := seqO_parts h
  have h4 := seqO_len h
  unfold devF at hz
  obtain ⟨i, hi, rfl⟩ := List.mem_map.1 hz
  have hi := List.mem_range.1 hi
  have hs := okD_sum h1
  have hd := (okD_parts h1).2.2.1 i hi
  have hc := cntI_bd l (k + 1) i (by omega)
  have hc2 := cntI_take_le l (k + 1) i
  rw [cntI_dem h i hi] at hc2
  have e1 := mul_bd8s (D := d.sum) (x := cntI (l.take (k + 1)) i) (by omega) (by omega)
  have e2 := mul_bd8s (D := (k : Int) + 1) (x := d.getD i 0) (by omega) (by omega)
  show -9600 ≤ d.sum * cntI (l.take (k + 1)) i - ((k : Int) + 1) * d.getD i 0 ∧ _
  omega
theorem okD_sumb {d : List Int} (h : okD d = true) : ∀ z ∈ d, -1000000000 ≤ z ∧ z ≤ 1000000000 := fun z hz => by have := okD_mem h z hz; omega
theorem code_wp_gen8 {P : Program} {c : Code} {Q : Exit → Act → World → Prop} {a : Act} {W : World} (h : ∀ W2, W2 = W → Code.wp P c Q a W2) : Code.wp P c Q a W := h W rfl
theorem sum_of_get (c : List Int) (f : Nat → Int) (n : Nat) (hn : c.length = n) (h : ∀ i, i < n → c.getD i 0 = f i) : c = (List.range n).map f := by
  refine List.ext_getElem (by simp [hn]) fun i h1 h2 => ?_
  rw [List.getElem_map, List.getElem_range, ← h i (by omega), getD_get c i h1]
end Go.Proofs.Ytpdcmhnaedhkdaa
