/- Percents: the model's side. -/
import Derived.Test.YtmckbjhmkcbjgabPct4
import Derived.Test.YtmckbjhmkcbjgabAsk4
import Derived.Test.YtmckbjhmkcbjgabSums
import Derived.Test.YtmckbjhmkcbjgabChoice4b
import Derived.BigQuiet
namespace Go.Proofs.Ytmckbjhmkcbjgab
open Go.ChangeShapes Go.WideShapes Go.ChangeAt Go.RowKit Go.Deep
set_option linter.unusedVariables false
theorem cnts_len {cs : List Int} (h : inB (cs.length : Int) 1 40 = false) : cntsB cs = false := by
  have := inB_not.1 h
  unfold cntsB
  rw [decide_eq_false (by omega)]; rfl
theorem cnts_out {cs : List Int} {k : Nat} (hk : k < cs.length) (h : inB (cs.getD k 0) 0 1000000 = false) : cntsB cs = false := by
  unfold cntsB
  have : cs.all (fun c => inB c 0 1000000) = false := by
    rw [List.all_eq_false]
    exact ⟨cs.getD k 0, getD_mem cs k hk, by rw [h]; simp⟩
  rw [this, Bool.false_and, Bool.and_false]
theorem cnts_zero {cs : List Int} (h : cs.sum = 0) : cntsB cs = false := by
  unfold cntsB; simp [h]
theorem cnts_yes {cs : List Int} (h1 : inB (cs.length : Int) 1 40 = true) (h2 : ∀ j, j < cs.length → inB (cs.getD j 0) 0 1000000 = true) (h3 : cs.sum ≠ 0) : cntsB cs = true := by
  have := inB_iff.1 h1
  unfold cntsB
  simp only [Bool.and_eq_true, decide_eq_true_eq, List.all_eq_true]
  refine ⟨by omega, fun c hc => ?_, h3⟩
  obtain ⟨j, hj, rfl⟩ := List.getElem_of_mem hc
  have := h2 j hj
  rwa [getD_get cs j hj] at this
/-- The list that the choice gives is that of the chosen places. -/
theorem pct_sel {cs : List Int} {p : Int} (h : cntsB cs = true) (hp : inB p 0 3 = true) {S : List Bool} (hS : Top (reL cs.sum (partsP cs p)) S) (ht : trues S = upsP cs p) :
    addS (flL cs.sum (partsP cs p)) S = putL (flL cs.sum (partsP cs p)) (fixL 0 cs.sum (partsP cs p) (upsP cs p)) (upsP cs p - isC 1 (fixL 0 cs.sum (partsP cs p) (upsP cs p))) := by
  obtain ⟨f1, f2, f3, f4, f5, f6⟩ := pct_facts h hp
  have hs := (cnts_parts h).2.2
  have hp := List.mergeSort_perm (cs.sum :: 0 :: reL cs.sum (partsP cs p)) (fun a b => decide (b ≤ a))
  have hsr : ((cs.sum :: 0 :: reL cs.sum (partsP cs p)).mergeSort (fun a b => decide (b ≤ a))).Pairwise fun a b => decide (b ≤ a) = true :=
    List.pairwise_mergeSort (fun a b c h1 h2 => by simp at *; omega) (fun a b => by simp; omega) _
  have hd : Desc ((cs.sum :: 0 :: reL cs.sum (partsP cs p)).mergeSort (fun a b => decide (b ≤ a))) := fun i j hij hj => by
    rw [List.pairwise_iff_getElem] at hsr
    have := hsr i j (by omega) hj hij
    rw [getD_get _ i (by omega), getD_get _ j hj]
    simpa using this
  have hr := ranks_of hs (rests_in hs _) f6 hp hd
  generalize ((cs.sum :: 0 :: reL cs.sum (partsP cs p)).mergeSort (fun a b => decide (b ≤ a))).getD (upsP cs p) 0 = T at hr
  generalize ((cs.sum :: 0 :: reL cs.sum (partsP cs p)).mergeSort (fun a b => decide (b ≤ a))).getD (upsP cs p + 1) 0 = Sx at hr
  have hT : 1 ≤ T := by
    by_cases e : upsP cs p = 0
    · have := hr.t0 e; omega
    · have := hr.t1 (by omega); omega
  have hc := fixL_cls (norm := 0) hs hr
  have hft := fixL_fits (norm := 0) hs hr
  have hcl : fixL 0 cs.sum (partsP cs p) (upsP cs p) = (reL cs.sum (partsP cs p)).map (clsX T T) := by
    rw [← hc]; unfold clsL loOf hiOf; simp
  have hlen := fixL_len 0 cs.sum (partsP cs p) (upsP cs p)
  have hfl := flL_len cs.sum (partsP cs p)
  generalize fixL 0 cs.sum (partsP cs p) (upsP cs p) = C at *
  have htop := top_selP (R := reL cs.sum (partsP cs p)) (C := C) (T := T) (upsP cs p - isC 1 C) hT hcl
  have htr := selP_trues C (upsP cs p - isC 1 C)
  have : S = selP C (upsP cs p - isC 1 C) := hS.unique htop (by rw [ht, htr]; omega)
  rw [this, add_put _ _ _ (by omega)]
theorem addS_len (F : List Int) (S : List Bool) (h : F.length = S.length) : (addS F S).length = F.length := by unfold addS; rw [List.length_zipWith]; omega
theorem cutS_len (F : List Int) (S : List Bool) (h : F.length = S.length) : (cutS F S).length = F.length := by unfold cutS; rw [List.length_zipWith]; omega
theorem addS_zero (F : List Int) : addS F (List.replicate F.length false) = F := by
  unfold addS
  apply List.ext_getElem (by simp)
  intro i h1 h2
  simp
theorem cutS_zero (F : List Int) : cutS F (List.replicate F.length false) = F := by
  unfold cutS
  apply List.ext_getElem (by simp)
  intro i h1 h2
  simp
theorem trues_zero (n : Nat) : trues (List.replicate n false) = 0 := by unfold trues; rw [List.countP_eq_zero]; intro a ha; rw [List.eq_of_mem_replicate ha]; simp
theorem addS_set {F : List Int} {S : List Bool} {b : Nat} (h : F.length = S.length) (hb : b < F.length) (hs : S.getD b false = false) : addS F (S.set b true) = (addS F S).set b ((addS F S).getD b 0 + 1) := by
  have e : (addS F S).getD b 0 = F.getD b 0 := by
    have := zip_get (fun f s => if s then f + 1 else f) F S h b hb
    rw [hs] at this; simpa [addS] using this
  rw [e]
  have := zip_set (fun f s => if s then f + 1 else f) F S b true h hb
  simpa [addS] using this
theorem cutS_set {F : List Int} {S : List Bool} {b : Nat} (h : F.length = S.length) (hb : b < F.length) : cutS F (S.set b true) = (cutS F S).set b 0 := by
  have := zip_set (fun r s => if s then 0 else r) F S b true h hb
  simpa [cutS] using this
theorem addS_in {F : List Int} {S : List Bool} {M : Int} (hF : ∀ f ∈ F, 0 ≤ f ∧ f ≤ M) : ∀ z ∈ addS F S, 0 ≤ z ∧ z ≤ M + 1 := by
  intro z hz
  unfold addS at hz
  induction F generalizing S with
  | nil => simp at hz
  | cons f ft ih =>
    cases S with
    | nil => simp at hz
    | cons s st =>
      rw [List.zipWith_cons_cons] at hz
      have hf := hF f (by simp)
      rcases List.mem_cons.1 hz with e | hz
      · cases s
        · rw [e]; show (0 : Int) ≤ f ∧ f ≤ M + 1; omega
        · rw [e]; show (0 : Int) ≤ f + 1 ∧ f + 1 ≤ M + 1; omega
      · exact ih (fun x hx => hF x (by simp [hx])) hz
end Go.Proofs.Ytmckbjhmkcbjgab
