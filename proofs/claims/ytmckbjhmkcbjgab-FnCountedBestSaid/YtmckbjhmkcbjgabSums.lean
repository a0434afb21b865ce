/- Sums of lists; errors; roundings; check numbers. -/
import Derived.Test.YtmckbjhmkcbjgabVals
import Derived.Test.YtmckbjhmkcbjgabTot
namespace Go.Proofs.Ytmckbjhmkcbjgab
open Go.ChangeShapes Go.WideShapes Go.ChangeAt Go.RowKit
set_option linter.unusedVariables false
def sumV (g : Int) (zs : List Int) : Int := if okV g zs then zs.sum else 0
/-- The check number behind the bytes l, begun with n. -/
def chk (n : Int) (l : List UInt8) : Int := l.foldl (fun c b => (263 * c + (b.toNat : Int) + 7) % 65521) n
theorem chk_snoc (n : Int) (l : List UInt8) (b : UInt8) : chk n (l ++ [b]) = (263 * chk n l + (b.toNat : Int) + 7) % 65521 := by simp [chk]
theorem chk_bd (n : Int) (l : List UInt8) (h : 0 ≤ n ∧ n < 65521) : 0 ≤ chk n l ∧ chk n l < 65521 := by
  induction l generalizing n with
  | nil => exact h
  | cons b l ih => exact ih _ (by have := b.toNat_lt; show 0 ≤ (263 * n + (b.toNat : Int) + 7) % 65521 ∧ (263 * n + (b.toNat : Int) + 7) % 65521 < 65521; omega)
theorem chk_step (n : Int) (s : ByteArray) (k : Nat) (h : k < s.size) : chk n (s.data.toList.take (k + 1)) = (263 * chk n (s.data.toList.take k) + ((s[k]'h).toNat : Int) + 7) % 65521 := by
  rw [List.take_succ_eq_append_getElem (by simpa using h), chk_snoc]; rfl
theorem bytes_conv (W : World) (s : ByteArray) : ∃ (cap : Nat) (C : Array Value) (fr : Nat × Nat), (convert 9 22 (.string s)).run Try.prog W = .ok (.slice (some ⟨W.heap.size, 0, none⟩) s.size cap) (W.drew.alloc (.cells C 5 fr)) ∧
    ∀ i (h : i < s.size), C[i]? = some (.int .u8 ((s[i]'h).toNat : Int)) := by
  refine ⟨_, _, _, run_bytes_of_string (P := Try.prog) W 9 22 5 s Try.underlying9 Try.underlying22 Try.underlying5, fun i h => ?_⟩
  unfold bytesRow
  rw [Array.getElem?_append_left (by simpa using h)]
  simp only [Array.getElem?_map]
  rw [Array.getElem?_eq_getElem (by simpa using h)]; rfl
end Go.Proofs.Ytmckbjhmkcbjgab
