/- Errors of sets for a rounding: pure. -/
import Derived.Test.YtpdcmhnaedhkdaaDis10
import Derived.Test.YtpdcmhnaedhkdaaAvg10
import Derived.Test.YtpdcmhnaedhkdaaBits4
import Derived.Test.YtpdcmhnaedhkdaaErrs
import Derived.Test.YtpdcmhnaedhkdaaRunning
namespace Go.Proofs.Ytpdcmhnaedhkdaa
open Go.ChangeShapes Go.WideShapes Go.ChangeAt Go.RowKit
set_option linter.unusedVariables false
/-- A valid system, and valid values for its points. -/
def bothB (g : Int) (zs : List Int) (d : Int) (ns : List Int) : Bool := okS g zs && (okV d ns && decide ((ns.length : Int) = g))
def seB (g : Int) (zs : List Int) (d : Int) (ns ls : List Int) : Bool := bothB g zs d ns && rndB d ns ls
def seL (d : Int) (ns ls zs : List Int) : List Int := zs.map fun z => selS (errsL d ns ls) z.toNat ls.length
def seV (g : Int) (zs : List Int) (d : Int) (ns ls : List Int) : List Int := if seB g zs d ns ls = true then seL d ns ls zs else []
theorem bothB_parts {g : Int} {zs : List Int} {d : Int} {ns : List Int} (h : bothB g zs d ns = true) : okS g zs = true ∧ okV d ns = true ∧ (ns.length : Int) = g := by
  unfold bothB at h
  simp only [Bool.and_eq_true, decide_eq_true_eq] at h
  exact ⟨h.1, h.2.1, h.2.2⟩
theorem seL_len (d : Int) (ns ls zs : List Int) : (seL d ns ls zs).length = zs.length := by simp [seL]
theorem rnd_ok {d : Int} {ns ls : List Int} (h : rndB d ns ls = true) : okE d ns ls = true := by
  have h1 := rndB_okR h
  unfold okR at h1
  unfold okE
  simp only [Bool.and_eq_true] at h1 ⊢
  exact ⟨h1.1, listOk_more h1.2⟩
/-- A rounding's errors are less than the denominator. -/
theorem rnd_errs {d : Int} {ns ls : List Int} (h : rndB d ns ls = true) : ∀ z ∈ errsL d ns ls, -1000 ≤ z ∧ z ≤ 1000 := by
  obtain ⟨h1, h2, h3⟩ := rndB_iff.1 h
  have hg := okV_den h1
  intro z hz
  obtain ⟨k, hk, rfl⟩ := List.getElem_of_mem hz
  rw [errsL_len d ns ls h2] at hk
  rw [← getD_get _ k (by rw [errsL_len d ns ls h2]; exact hk), errsL_get d ns ls h2 k hk]
  have a := fl_mul (a := ns.getD k 0) hg.1
  have b := fl_mul (a := -(ns.getD k 0)) hg.1
  rcases h3 k hk with e | e
  · rw [e]; omega
  · rw [e, ce_eq, Int.mul_neg]; omega
theorem seL_take_succ (d : Int) (ns ls zs : List Int) (k : Nat) (h : k < zs.length) : seL d ns ls (zs.take (k + 1)) = seL d ns ls (zs.take k) ++ [selS (errsL d ns ls) (zs.getD k 0).toNat ls.length] := by
  unfold seL; rw [take_succ_getD zs k h, List.map_append]; rfl
theorem seL_in {d : Int} {ns ls : List Int} (h : rndB d ns ls = true) (hl : ls.length ≤ 12) (zs : List Int) : ∀ z ∈ seL d ns ls zs, -12000 ≤ z ∧ z ≤ 12000 := by
  obtain ⟨_, h2, _⟩ := rndB_iff.1 h
  intro z hz
  obtain ⟨x, _, rfl⟩ := List.mem_map.1 hz
  have := selS_bd 1000 (by omega) (errsL d ns ls) (rnd_errs h) x.toNat ls.length (by rw [errsL_len d ns ls h2]; exact Nat.le_refl _)
  constructor <;> omega
theorem selS_bits (E : List Int) (m t : Nat) : selS E m (t + 1) = selS E m t + (if m.testBit t then E.getD t 0 else 0) := rfl
end Go.Proofs.Ytpdcmhnaedhkdaa
