/- Running sums: a list mapped by a function literal that writes a variable of its maker. -/
import Derived.Test.YtpdcmhnaedhkdaaDivs
import Derived.Test.YtpdcmhnaedhkdaaErrs
import Derived.RangeFuncBox
namespace Go.Proofs.Ytpdcmhnaedhkdaa
open Go.ChangeShapes Go.WideShapes Go.ChangeAt Go.RowKit
set_option linter.unusedVariables false
theorem grown_set {a w : World} {row : Option Nat} {c : Nat} (h : a.grownBy w row) (hc : a.heap.size ≤ c ∨ row = some c) (v : Value) (off : Nat) : a.grownBy (w.setCell ⟨c, off, none⟩ v) row := by
  refine ⟨h.os, h.tape, h.output, by simpa [World.setCell] using h.size, fun k hk hr => ?_⟩
  rw [← h.block k hk hr]
  exact Below.heap_setCell _ _ _ _ (by
    show k ≠ c
    rcases hc with h1 | h1
    · omega
    · rw [h1] at hr; exact fun e => hr (by rw [e]))
theorem fill_get_of (ψ : List Int) (n k : Nat) (hl : ψ.length = n) (h : k < n) (z : Value) : (vals (ψ.take k) ++ List.replicate (n - k) z)[k]? = some z := by
  subst hl; exact fill_get ψ k h z
theorem fill_set_of (ψ : List Int) (n k : Nat) (hl : ψ.length = n) (h : k < n) (z : Value) : (vals (ψ.take k) ++ List.replicate (n - k) z).set k (.int .i64 (ψ.getD k 0)) = vals (ψ.take (k + 1)) ++ List.replicate (n - (k + 1)) z := by
  subst hl; exact fill_set ψ k h z
theorem Own.grown {w w' : World} {B c : Nat} {ad : Option Addr} {cap : Nat} {zs : List Int} (h : Own w B ad cap zs) (k : w.grownBy w' (some c)) (hc : c < B) : Own w' B ad cap zs := by
  refine ⟨h.1.kept k ?_, h.2⟩
  rcases own_block h.1 with ⟨rfl, _⟩ | ⟨g, rfl, h1, _⟩
  · exact .inl rfl
  · right; simp [Value.ownBlock]; omega
/-- The running sums of a list. -/
def preS (zs : List Int) : List Int := (List.range zs.length).map fun k => (zs.take (k + 1)).sum
theorem preS_len (zs : List Int) : (preS zs).length = zs.length := by simp [preS]
theorem preS_get (zs : List Int) (k : Nat) (h : k < zs.length) : (preS zs).getD k 0 = (zs.take (k + 1)).sum := by simp [preS, List.getD_eq_getElem?_getD, h]
theorem preS_bd (M : Int) (hM : 0 ≤ M) (zs : List Int) (h : ∀ z ∈ zs, -M ≤ z ∧ z ≤ M) (hl : zs.length ≤ 40) : ∀ z ∈ preS zs, -(M * 40) ≤ z ∧ z ≤ M * 40 := by
  intro z hz
  unfold preS at hz
  obtain ⟨k, hk, rfl⟩ := List.mem_map.1 hz
  exact sum_take_bd M 40 hM zs h (by omega) (k + 1)
end Go.Proofs.Ytpdcmhnaedhkdaa
