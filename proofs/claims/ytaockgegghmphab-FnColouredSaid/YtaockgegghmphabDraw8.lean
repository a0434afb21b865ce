/- What the laws draw: votes, and numbers that an input chooses. -/
import Derived.Test.YtaockgegghmphabSrc
import Derived.Test.YtaockgegghmphabVotes
import Derived.Deep.LoopGhost
namespace Go.Proofs.Ytaockgegghmphab
open Go.ChangeShapes Go.WideShapes Go.ChangeAt Go.RowKit
set_option linter.unusedVariables false
theorem r8Long_any (ad bd : Option Addr) (ca cb n m : Nat) (w : World) (hn : n ≤ 9223372036854775807) (hm : m ≤ 9223372036854775807) :
    Calls Try.prog 10 #[.slice ad n ca, .slice bd m cb] w fun e w' => e = .returned (.bool (decide (48 < n) || decide (48 < m))) ∧ w = w' := by
  by_cases h : 48 < n
  · have h1 : (48 : Int) < n := by omega
    have e : (decide (48 < n) || decide (48 < m)) = true := by simp [h]
    rw [e]; clear e
    go_enter Try.func10, Try.ntmps10
    go_wp2
    go_ret
    exact ⟨rfl, rfl⟩
  · have h1 : ¬ (48 : Int) < n := by omega
    by_cases h2 : 48 < m
    · have h3 : (48 : Int) < m := by omega
      have e : (decide (48 < n) || decide (48 < m)) = true := by simp [h2]
      rw [e]; clear e
      go_enter Try.func10, Try.ntmps10
      go_wp2
      go_ret
      exact ⟨rfl, rfl⟩
    · have h3 : ¬ (48 : Int) < m := by omega
      have e : (decide (48 < n) || decide (48 < m)) = false := by simp; omega
      rw [e]; clear e
      go_enter Try.func10, Try.ntmps10
      go_wp2
      go_ret
      exact ⟨rfl, rfl⟩
theorem Own.beside {w w' : World} {B b : Nat} {ad : Option Addr} {cap : Nat} {zs : List Int} (h : Own w B ad cap zs) (g : w.grownBy w' (some b)) (hb : b < B) : Own w' B ad cap zs := by
  refine ⟨h.1.kept g ?_, h.2⟩
  rcases own_block h.1 with ⟨rfl, _⟩ | ⟨k, rfl, h1, _⟩
  · exact .inl rfl
  · right; simp [Value.ownBlock]; omega
theorem below_beside {w0 w w' : World} {B b : Nat} (h : Below B w0 w) (g : w.grownBy w' (some b)) (hB : B ≤ w.heap.size) (hb : B ≤ b) : Below B w0 w' :=
  h.grown g hB (fun k hk => by simp at hk; omega)
theorem r8At_any (ad : Option Addr) (cap : Nat) (zs : List Int) (k m : Int) (w : World) (hz : Bytes w ad zs) (hk : 0 ≤ k) (hk2 : k ≤ 1000) (hm : 1 ≤ m) (hm2 : m ≤ 1000000) :
    Calls Try.prog 14 #[.slice ad zs.length cap, .int .i64 k, .int .i64 m] w fun e w' => ∃ r : Int, 0 ≤ r ∧ r < m ∧ e = .returned (.int .i64 r) ∧ w = w' := by
  have hlen := hz.small
  by_cases h1 : m ≤ 1
  · go_enter Try.func14, Try.ntmps14
    go_wp2
    go_ret
    exact ⟨0, by omega, by omega, rfl, rfl⟩
  · obtain ⟨j, rfl⟩ : ∃ j : Nat, k = j := ⟨k.toNat, by omega⟩
    by_cases h2 : zs.length ≤ j
    · have h3 : (zs.length : Int) ≤ j := by omega
      go_enter Try.func14, Try.ntmps14
      go_wp2
      go_ret
      exact ⟨0, by omega, by omega, rfl, rfl⟩
    · have h3 : ¬ (zs.length : Int) ≤ j := by omega
      have hjl : j < zs.length := by omega
      rcases hz.at_ with h | ⟨a, off, rfl, hb, hc⟩
      · subst h; simp at hjl
      have hcx := hc j hjl
      have hx := hz.wf _ (getD_mem zs j hjl)
      clear hc
      generalize zs.getD j 0 = x at hcx hx
      have h4 := Int.emod_nonneg x (show m ≠ 0 by omega)
      have h5 := Int.emod_lt_of_pos x (show 0 < m by omega)
      go_enter Try.func14, Try.ntmps14
      go_wp2
      go_ret
      exact ⟨x % m, h4, h5, by rw [← Int.tmod_eq_emod_of_nonneg hx.1]; rfl, rfl⟩
end Go.Proofs.Ytaockgegghmphab
