/- slices.SortFunc, descending; appends of one slice to another; slices.Clone. -/
import Derived.Test.YtmckbjhmkcbjgabRank4
import Derived.Test.YtmckbjhmkcbjgabInts
import Derived.Test.YtmckbjhmkcbjgabMem
import Derived.Test.YtmckbjhmkcbjgabShelf
import Derived.Test.YtmckbjhmkcbjgabCopyL
import Derived.Deep.Upon
import Derived.Lib.OwnBridge
import Derived.Lib.AppendIntMem
namespace Go.Proofs.Ytmckbjhmkcbjgab
open Go.ChangeShapes Go.WideShapes Go.ChangeAt Go.RowKit Go.Deep
set_option linter.unusedVariables false
def cfD (x y : Int) : Int := if y < x then -1 else if x < y then 1 else 0
theorem ltD (x y : Int) : ltOf cfD x y = decide (y < x) := by
  unfold ltOf cfD
  by_cases h1 : y < x
  · simp [h1]
  · by_cases h2 : x < y <;> simp [h1, h2]
theorem swoD : Sort.SWO (ltOf cfD) where
  irrefl x := by rw [ltD]; simp
  trans x y z h1 h2 := by rw [ltD] at *; simp at *; omega
  ntrans x y z h1 h2 := by rw [ltD] at *; simp at *; omega
theorem closD_any (x y : Int) (W : World) : Calls Try.prog 67 #[.int .i64 x, .int .i64 y] W fun e w' => e = .returned (.int .i64 (cfD x y)) ∧ ∃ q, w' = W.drewN q := by
  have h : (if y < x then (-1 : Int) else if x < y then 1 else 0) = cfD x y := rfl
  have hc := Compare64_any y x W
  rw [h] at hc
  generalize cfD x y = r at *
  clear h
  go_enter Try.func67, Try.ntmps67
  go_wp2_with (go_at_call 68; refine hc.mono ?_; rintro e w' ⟨rfl, rfl⟩)
  go_ret
  exact ⟨rfl, 0, rfl⟩
theorem extract_all {α : Type} (a : Array α) (n : Nat) (h : a.size = n) : (a.extract 0 n).toList = a.toList := by subst h; simp
set_option maxHeartbeats 800000 in
theorem sortDesc_any (b cap : Nat) (zs : List Int) (w : World) (hb : b < w.heap.size) (hc : ∀ i, i < zs.length → w.cell? ⟨b, i, none⟩ = some (.int .i64 (zs.getD i 0)) ∧ w.frozen? ⟨b, i, none⟩ = false) (hn : zs.length ≤ 1048576) :
    Calls Try.prog 66 #[.slice (some ⟨b, 0, none⟩) zs.length cap, .func (.func 67) #[] #[]] w fun e w' =>
      e = .returned (.tuple #[]) ∧ ∃ O : List Int, O.Perm zs ∧ Desc O ∧ (∀ i, i < zs.length → w'.cell? ⟨b, i, none⟩ = some (.int .i64 (O.getD i 0))) ∧ Below b w w' := by
  have hsz : zs.toArray.size = zs.length := by simp
  have hget : ∀ (d : Array Int) (t : Nat), t < d.size → d[t]! = d.toList.getD t 0 := fun d t ht => by
    rw [getElem!_pos d t ht]; simp [List.getD_eq_getElem?_getD, ht]
  have hH : Sort.Holds (Value.int .i64) w b 0 zs.toArray := fun j hj => by
    rw [hsz] at hj
    rw [hget _ j (by rw [hsz]; exact hj), Nat.zero_add]; simpa using hc j hj
  have hcmp : CmpReads Try.prog 67 #[] (Value.int .i64) cfD b 0 zs.toArray.size w := fun _ _ _ _ x y => closD_any x y _
  have hS := Go.Proofs.Try.slices_SortFunc (Value.int .i64) (fun _ => rfl) cfD swoD 67 #[] b 0 cap zs.toArray w (enters_of Try.func67 (by kernel_rfl) rfl) hcmp.lays hH hb (by rw [hsz]; omega)
  rw [hsz] at hS
  refine hS.mono ?_
  rintro e w' ⟨rfl, d', q, os, hperm, hsort, rfl⟩
  obtain ⟨hps, _, hpp⟩ := hperm
  rw [hsz] at hps
  have hx1 : (d'.extract 0 zs.length).toList = d'.toList := extract_all d' _ hps
  have hx2 : (zs.toArray.extract 0 zs.length).toList = zs := by rw [extract_all _ _ hsz]
  rw [hx1, hx2] at hpp
  have hl : d'.toList.length = zs.length := by simpa using hps
  have e1 : Go.Proofs.sortWorld (Value.int .i64) w b 0 q d' os = Sort.putRow (Value.int .i64) (Sort.grow (Sort.ahead w q) os) b 0 d' := by
    unfold Go.Proofs.sortWorld; rw [Sort.putRow_grow _ (Sort.ahead w q) _ b 0 _ (by show b < w.heap.size; omega)]
  have hHg : Sort.Holds (Value.int .i64) (Sort.grow (Sort.ahead w q) os) b 0 zs.toArray := Sort.holds_grow _ _ _ b 0 _ (by show b < w.heap.size; omega) (Sort.holds_ahead _ _ _ _ _ _ hH)
  refine ⟨rfl, d'.toList, hpp, fun i j hij hj => ?_, fun r hr => ?_, ?_⟩
  · have h := hsort i j (Nat.zero_le _) hij (by rw [hl] at hj; exact hj)
    rw [ltD, hget _ _ (by omega), hget _ _ (by omega)] at h
    simp only [decide_eq_false_iff_not] at h
    omega
  · have := Sort.cell?_putRow (Value.int .i64) _ b 0 zs.toArray d' hHg (by rw [hps, hsz]) r (by rw [hps]; exact hr)
    rw [e1]; rw [Nat.zero_add, hget _ _ (by omega)] at this; exact this
  · have k1 : Below b w (Sort.putRow (Value.int .i64) (Sort.ahead w q) b 0 d') := Lib.below_putRow (Below.refl _ _) (Nat.le_refl _)
    exact k1.trans (Lib.below_grow b _ (by rw [Sort.size_putRow]; show b ≤ w.heap.size; omega) 0 os)
theorem Clone_any (B : Nat) (ad : Option Addr) (cap : Nat) (zs : List Int) (w : World) (ho : Own w B ad cap zs) (hl : zs.length ≤ 1048576) :
    Calls Try.prog 59 #[.slice ad zs.length cap] w fun e w' => ∃ rd rc, e = .returned (.slice rd zs.length rc) ∧ Own w' w.heap.size rd rc zs ∧ Keep w w' := by
  obtain ⟨i0, hi, hz0, hz1, hz2⟩ := info_parts Try.infoI
  have hcell := ho.ints
  rcases own_block ho.1 with ⟨rfl, h0, rfl⟩ | ⟨g, rfl, _, hg, _⟩
  · have h0 : zs = [] := List.eq_nil_of_length_eq_zero h0
    subst h0
    refine (Go.Proofs.Try.slices_Clone_nil 0 0 w).mono ?_
    rintro e w' ⟨rfl, rfl⟩
    exact ⟨none, 0, rfl, Own.nil _ _, Below.refl _ _⟩
  · refine (Go.Proofs.Try.slices_Clone i0 (.int .i64 0) 1 8 hi hz0 hz1 hz2 rfl (by omega) (fun w => by kernel_rfl) g 0 zs.length cap (vals zs) w (by simp) (by unfold maxLen; omega) (by omega) (fun j u hj => ?_) (fun u hu => ?_)).mono ?_
    · have hj2 : j < zs.length := by have := (List.getElem?_eq_some_iff.1 hj).1; simpa using this
      rw [Nat.zero_add, ho.1.cellAt j (by omega)]; exact hj
    · obtain ⟨z, _, rfl⟩ := List.mem_map.1 hu; rfl
    rintro e w' ⟨v', rfl, h, _, hk⟩
    rcases h.2 with ⟨h1, h2⟩ | ⟨g2, c, cur, h1, _⟩
    · subst h1
      have h0 : zs = [] := List.eq_nil_of_length_eq_zero h2
      subst h0
      exact ⟨none, 0, rfl, Own.nil _ _, hk⟩
    · subst h1
      exact ⟨some ⟨g2, 0, none⟩, c, rfl, ⟨h, ho.2.1, ho.2.2⟩, hk⟩
end Go.Proofs.Ytmckbjhmkcbjgab
