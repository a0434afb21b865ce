/- Percents: the program's side. -/
import Derived.Test.YtmckbjhmkcbjgabBest4
import Derived.Test.YtmckbjhmkcbjgabSel4
namespace Go.Proofs.Ytmckbjhmkcbjgab
open Go.ChangeShapes Go.WideShapes Go.ChangeAt Go.RowKit Go.Deep
set_option linter.unusedVariables false
/-- Whether a list is one of counts. -/
def cntsB (cs : List Int) : Bool := decide (1 ≤ cs.length ∧ cs.length ≤ 40) && (cs.all (fun c => inB c 0 1000000) && decide (cs.sum ≠ 0))
theorem cnts_no {cs : List Int} (h : listOk cs 1000000 = false) : cntsB cs = false := by
  cases q : cntsB cs
  · rfl
  · exfalso
    unfold cntsB at q
    simp only [Bool.and_eq_true, decide_eq_true_eq, List.all_eq_true] at q
    obtain ⟨⟨a, b⟩, c, d⟩ := q
    have : listOk cs 1000000 = true := by
      unfold listOk allIn
      simp only [Bool.and_eq_true, decide_eq_true_eq, List.all_eq_true]
      exact ⟨b, fun z hz => inB_iff.2 (by have := inB_iff.1 (c z hz); omega)⟩
    rw [h] at this; cases this
theorem sum_nn {cs : List Int} (h : ∀ c ∈ cs, 0 ≤ c) : 0 ≤ cs.sum := by
  induction cs with
  | nil => simp
  | cons a t ih => rw [List.sum_cons]; have := h a (by simp); have := ih (fun c hc => h c (by simp [hc])); omega
theorem cnts_low {cs : List Int} (h : cs.sum ≤ 0) : cntsB cs = false := by
  cases q : cntsB cs
  · rfl
  · exfalso
    unfold cntsB at q
    simp only [Bool.and_eq_true, decide_eq_true_eq, List.all_eq_true] at q
    obtain ⟨⟨a, b⟩, c, d⟩ := q
    have := sum_nn (fun x hx => (inB_iff.1 (c x hx)).1)
    exact d (by omega)
theorem cnts_min {cs : List Int} {m : Int} (h1 : listOk cs 1000000 = true) (h2 : 0 < cs.sum) (hm : m ∈ cs) (hl : ∀ z ∈ cs, m ≤ z) : cntsB cs = decide (0 ≤ m) := by
  have hle := listOk_len h1
  have hn := listOk_num h1
  have h0 : 1 ≤ cs.length := List.length_pos_of_mem hm
  by_cases q : 0 ≤ m
  · rw [decide_eq_true q]
    unfold cntsB
    simp only [Bool.and_eq_true, decide_eq_true_eq, List.all_eq_true]
    exact ⟨⟨h0, hle⟩, fun z hz => inB_iff.2 (by have := hl z hz; have := hn z hz; omega), by omega⟩
  · rw [decide_eq_false q]
    cases r : cntsB cs
    · rfl
    · exfalso
      unfold cntsB at r
      simp only [Bool.and_eq_true, decide_eq_true_eq, List.all_eq_true] at r
      have := inB_iff.1 (r.2.1 m hm); omega
def wholeP (p : Int) : Int := 100 * 10 ^ p.toNat
def pctB (cs : List Int) (p : Int) : Bool := cntsB cs && inB p 0 3
def partsP (cs : List Int) (p : Int) : List Int := cs.map fun n => n * wholeP p
def upsP (cs : List Int) (p : Int) : Nat := (wholeP p - (flL cs.sum (partsP cs p)).sum).toNat
noncomputable def pctV (cs : List Int) (p : Int) : List Int :=
  if pctB cs p then putL (flL cs.sum (partsP cs p)) (fixL 0 cs.sum (partsP cs p) (upsP cs p)) (upsP cs p - isC 1 (fixL 0 cs.sum (partsP cs p) (upsP cs p))) else []
theorem whole_bd {p : Int} (h : inB p 0 3 = true) : 100 ≤ wholeP p ∧ wholeP p ≤ 100000 := by
  have h2 := inB_iff.1 h
  unfold wholeP
  have h3 : p.toNat = 0 ∨ p.toNat = 1 ∨ p.toNat = 2 ∨ p.toNat = 3 := by omega
  rcases h3 with e | e | e | e <;> rw [e] <;> omega
theorem cnts_parts {cs : List Int} (h : cntsB cs = true) : (1 ≤ cs.length ∧ cs.length ≤ 40) ∧ (∀ c ∈ cs, 0 ≤ c ∧ c ≤ 1000000) ∧ 1 ≤ cs.sum := by
  unfold cntsB at h
  simp only [Bool.and_eq_true, decide_eq_true_eq, List.all_eq_true] at h
  have h1 : ∀ c ∈ cs, 0 ≤ c ∧ c ≤ 1000000 := fun c hc => inB_iff.1 (h.2.1 c hc)
  have := sum_nn (fun c hc => (h1 c hc).1)
  exact ⟨h.1, h1, by omega⟩
theorem le_sum {cs : List Int} (h : ∀ c ∈ cs, 0 ≤ c) : ∀ c ∈ cs, c ≤ cs.sum := by
  induction cs with
  | nil => intro c hc; simp at hc
  | cons a t ih =>
    intro c hc
    have h2 := sum_nn (fun x hx => h x (by simp [hx]) : ∀ x ∈ t, 0 ≤ x)
    have h3 := h a (by simp)
    rw [List.sum_cons]
    rcases List.mem_cons.1 hc with rfl | hc
    · omega
    · have := ih (fun x hx => h x (by simp [hx])) c hc; omega
theorem sum_parts (W : Int) (cs : List Int) : (cs.map fun n => n * W).sum = cs.sum * W := by
  induction cs with
  | nil => simp
  | cons a t ih => rw [List.map_cons, List.sum_cons, List.sum_cons, ih, Int.add_mul]
theorem sum_rests (g : Int) (zs : List Int) : (reL g zs).sum = zs.sum - g * (flL g zs).sum := by
  induction zs with
  | nil => simp [reL, flL]
  | cons a t ih =>
    have e1 : reL g (a :: t) = (a - g * fl a g) :: reL g t := rfl
    have e2 : flL g (a :: t) = fl a g :: flL g t := rfl
    rw [e1, e2, List.sum_cons, List.sum_cons, List.sum_cons, ih, Int.mul_add]; omega
theorem rests_le {g : Int} (R : List Int) (h : ∀ r ∈ R, 0 ≤ r ∧ r < g) : R.sum ≤ g * (gtC 0 R : Nat) ∧ 0 ≤ R.sum := by
  induction R with
  | nil => simp [gtC]
  | cons a t ih =>
    have h1 := ih (fun r hr => h r (by simp [hr]))
    have h2 := h a (by simp)
    have e : gtC 0 (a :: t) = gtC 0 t + (if 0 < a then 1 else 0) := by unfold gtC; rw [List.countP_cons]; simp
    rw [List.sum_cons, e]
    by_cases q : 0 < a
    · rw [if_pos q, show ((gtC 0 t + 1 : Nat) : Int) = (gtC 0 t : Nat) + 1 from by omega, Int.mul_add]; omega
    · rw [if_neg q]; simp; omega
/-- The facts that the choice asks of the parts. -/
theorem pct_facts {cs : List Int} {p : Int} (h : cntsB cs = true) (hp : inB p 0 3 = true) :
    (∀ z ∈ partsP cs p, 0 ≤ z ∧ z ≤ 100000000000) ∧ (partsP cs p).length = cs.length ∧ cs.sum ≤ 40000000 ∧ (∀ f ∈ flL cs.sum (partsP cs p), 0 ≤ f ∧ f ≤ 100000) ∧
      wholeP p = (flL cs.sum (partsP cs p)).sum + (upsP cs p : Nat) ∧ upsP cs p ≤ gtC 0 (reL cs.sum (partsP cs p)) := by
  obtain ⟨⟨h1, h2⟩, h3, h4⟩ := cnts_parts h
  have hw := whole_bd hp
  have hle := le_sum (fun c hc => (h3 c hc).1)
  have hs := sum_bd 1000000 (by omega) cs (fun z hz => by have := h3 z hz; omega)
  have hpart : ∀ z ∈ partsP cs p, 0 ≤ z ∧ z ≤ 100000000000 ∧ z ≤ cs.sum * wholeP p := fun z hz => by
    unfold partsP at hz
    obtain ⟨c, hc, rfl⟩ := List.mem_map.1 hz
    have hc3 := h3 c hc
    have e1 : c * wholeP p ≤ 1000000 * 100000 := Int.mul_le_mul hc3.2 hw.2 (by omega) (by omega)
    have e2 : 0 ≤ c * wholeP p := Int.mul_nonneg hc3.1 (by omega)
    have e3 : c * wholeP p ≤ cs.sum * wholeP p := Int.mul_le_mul_of_nonneg_right (hle c hc) (by omega)
    omega
  have hrest := rests_in h4 (partsP cs p)
  have hrl := rests_le _ hrest
  have hrs := sum_rests cs.sum (partsP cs p)
  have hps : (partsP cs p).sum = cs.sum * wholeP p := sum_parts _ _
  rw [hrs, hps, ← Int.mul_sub] at hrl
  have hu : 0 ≤ wholeP p - (flL cs.sum (partsP cs p)).sum := by
    by_cases q : 0 ≤ wholeP p - (flL cs.sum (partsP cs p)).sum
    · exact q
    · exfalso
      have : cs.sum * (wholeP p - (flL cs.sum (partsP cs p)).sum) ≤ cs.sum * (-1) := Int.mul_le_mul_of_nonneg_left (by omega) (by omega)
      omega
  have hu2 : wholeP p - (flL cs.sum (partsP cs p)).sum ≤ (gtC 0 (reL cs.sum (partsP cs p)) : Nat) := Int.le_of_mul_le_mul_left hrl.1 (by omega)
  refine ⟨fun z hz => ⟨(hpart z hz).1, (hpart z hz).2.1⟩, by simp [partsP], by omega, fun f hf => ?_, by unfold upsP; omega, by unfold upsP; omega⟩
  unfold flL at hf
  obtain ⟨z, hz, rfl⟩ := List.mem_map.1 hf
  have hz2 := hpart z hz
  have hm := fl_mul (a := z) h4
  constructor
  · by_cases q : 0 ≤ fl z cs.sum
    · exact q
    · exfalso
      have : cs.sum * fl z cs.sum ≤ cs.sum * (-1) := Int.mul_le_mul_of_nonneg_left (by omega) (by omega)
      omega
  · have : cs.sum * fl z cs.sum ≤ cs.sum * wholeP p := by omega
    have := Int.le_of_mul_le_mul_left this (by omega)
    omega
end Go.Proofs.Ytmckbjhmkcbjgab
