/- Appends of one number in a region that draws its order. -/
import Derived.Test.YtpdcmhnaedhkdaaMem
import Derived.Deep.RegionLaw
import Derived.Deep.AppendLies
namespace Go.Proofs.Ytpdcmhnaedhkdaa
open Go.ChangeShapes Go.WideShapes Go.ChangeAt Go.RowKit Go.Deep
set_option linter.unusedVariables false
theorem step_app {ops : Array Oper} {o : Oper} {a : Act} {w : World} {K : Act → World → Prop} {Q : Exit → Act → World → Prop} {E : Prop} (hgd : o.guard = none) (s x : Operand)
    (ho : o.op = .call { callee := .builtin .append, args := #[s, x], argTypes := #[22, 22] })
    (B : Nat) (ad : Option Addr) (cap n : Nat) (zs : List Int) (y : Int) (hs : a.eval s = .slice ad n cap) (hown : Own w B ad cap zs) (hn : n = zs.length) (nb : Nat) (hx : a.eval x = .slice (some ⟨nb, 0, none⟩) 1 1)
    (hc : w.cell? ⟨nb, 0, none⟩ = some (.int .i64 y)) (hy : In64 y) (hl : zs.length < 1099511627776) (hB : B ≤ w.heap.size)
    (h : ∀ g cap' w', Own w' B (some ⟨g, 0, none⟩) cap' (zs ++ [y]) → w.grownBy w' (Value.slice ad n cap).ownBlock → (ad = some ⟨g, 0, none⟩ ∨ w.heap.size ≤ g) → K (a.put o.dst (.slice (some ⟨g, 0, none⟩) (n + 1) cap')) w') :
    if Region.wanted o (yielded ops a.tmps) = true then Oper.wp Try.prog o a w K Q else E := by
  obtain ⟨i0, hi, hz0, hz1, hz2⟩ := info_parts Try.infoI
  subst hn
  refine step_append_lies w hgd s x 22 ho B 2 i0 (.int .i64 0) 1 8 Try.underlying22 hi hz0 hz1 hz2 rfl (by omega) (.slice ad zs.length cap) zs.length (vals zs) hs hown.1 ⟨nb, 0, none⟩ 1 1 [.int .i64 y] hx rfl ?_ ?_ (by omega) (by unfold maxLen; omega) (by omega) hB _ rfl ?_
  · intro j u hj
    match j, hj with
    | 0, hj => simp at hj; subst hj; simpa [Addr.add] using hc
  · intro u hu; simp at hu; subst hu; rfl
  · intro g cap' w' h1 h2 h3 _
    refine h g cap' w' ⟨?_, ?_, ?_⟩ h2 ?_
    · simpa [vals] using h1
    · simp; omega
    · intro z hz; rcases List.mem_append.1 hz with hz | hz
      · exact hown.2.2 z hz
      · simp at hz; subst hz; exact hy
    · rcases own_block hown.1 with ⟨rfl, _⟩ | ⟨k, rfl, _⟩
      · rcases h3 with h3 | h3
        · simp [Value.ownBlock] at h3
        · exact .inr (by omega)
      · rcases h3 with h3 | h3
        · simp [Value.ownBlock] at h3; exact .inl (by rw [h3])
        · exact .inr (by omega)
theorem at_funcS {P : Program} {ops : Array Oper} {o : Oper} {a : Act} {w : World} {K : Act → World → Prop} {Q : Exit → Act → World → Prop} {E : Prop} (F : Nat) (x : Array Operand) (T : Array TypeId)
    (ho : o.op = .call { callee := .value (.func F), args := x, argTypes := T }) (h : if Region.wanted o (yielded ops a.tmps) = true then Oper.wp P o a w K Q else E) : if Region.wanted o (yielded ops a.tmps) = true then Oper.wp P o a w K Q else E := h
theorem cell_wrapS {w : World} {x y : Int} {t : Nat} (h : IntKind.i64.wrap x = y) : (w.alloc (.cells #[.int .i64 (IntKind.i64.wrap x)] t)).cell? ⟨w.heap.size, 0, none⟩ = some (.int .i64 y) := by rw [h]; simp
end Go.Proofs.Ytpdcmhnaedhkdaa
