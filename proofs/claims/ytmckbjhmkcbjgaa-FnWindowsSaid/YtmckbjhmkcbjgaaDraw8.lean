/- What the laws draw: votes, and numbers that an input chooses. -/
import Derived.Test.YtmckbjhmkcbjgaaSrc
import Derived.Test.YtmckbjhmkcbjgaaVotes
import Derived.Deep.LoopGhost
namespace Go.Proofs.Ytmckbjhmkcbjgaa
open Go.ChangeShapes Go.WideShapes Go.ChangeAt Go.RowKit
set_option linter.unusedVariables false
theorem r8Long_any (ad bd : Option Addr) (ca cb n m : Nat) (w : World) (hn : n ≤ 9223372036854775807) (hm : m ≤ 9223372036854775807) :
    Calls Try.prog 15 #[.slice ad n ca, .slice bd m cb] w fun e w' => e = .returned (.bool (decide (48 < n) || decide (48 < m))) ∧ w = w' := by
  by_cases h : 48 < n
  · have h1 : (48 : Int) < n := by omega
    have e : (decide (48 < n) || decide (48 < m)) = true := by simp [h]
    rw [e]; clear e
    go_enter Try.func15, Try.ntmps15
    go_wp2
    go_ret
    exact ⟨rfl, rfl⟩
  · have h1 : ¬ (48 : Int) < n := by omega
    by_cases h2 : 48 < m
    · have h3 : (48 : Int) < m := by omega
      have e : (decide (48 < n) || decide (48 < m)) = true := by simp [h2]
      rw [e]; clear e
      go_enter Try.func15, Try.ntmps15
      go_wp2
      go_ret
      exact ⟨rfl, rfl⟩
    · have h3 : ¬ (48 : Int) < m := by omega
      have e : (decide (48 < n) || decide (48 < m)) = false := by simp; omega
      rw [e]; clear e
      go_enter Try.func15, Try.ntmps15
      go_wp2
      go_ret
      exact ⟨rfl, rfl⟩
theorem Own.beside {w w' : World} {B b : Nat} {ad : Option Addr} {cap : Nat} {zs : List Int} (h : Own w B ad cap zs) (g : w.grownBy w' (some b)) (hb : b < B) : Own w' B ad cap zs := by
  refine ⟨h.1.kept g ?_, h.2⟩
  rcases own_block h.1 with ⟨rfl, _⟩ | ⟨k, rfl, h1, _⟩
  · exact .inl rfl
  · right; simp [Value.ownBlock]; omega
theorem below_beside {w0 w w' : World} {B b : Nat} (h : Below B w0 w) (g : w.grownBy w' (some b)) (hB : B ≤ w.heap.size) (hb : B ≤ b) : Below B w0 w' :=
  h.grown g hB (fun k hk => by simp at hk; omega)
end Go.Proofs.Ytmckbjhmkcbjgaa
