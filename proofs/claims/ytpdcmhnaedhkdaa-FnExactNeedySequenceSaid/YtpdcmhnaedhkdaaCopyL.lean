/- Lists copied: appends of one slice to another; the model's l00Own. -/
import Derived.Test.YtpdcmhnaedhkdaaMem
import Derived.Deep.Upon
import Derived.Lib.OwnBridge
import Derived.Lib.AppendIntMem
namespace Go.Proofs.Ytpdcmhnaedhkdaa
open Go.ChangeShapes Go.WideShapes Go.ChangeAt Go.RowKit Go.Deep
set_option linter.unusedVariables false
/-- One slice appended to a slice of the call's own. -/
theorem list_appI {ops : Array Oper} {rest : List Oper} {o : Oper} {a : Act} {w : World} {Q : Exit → Act → World → Prop} (hgd : o.guard = none) (s x : Operand)
    (ho : o.op = .call { callee := .builtin .append, args := #[s, x], argTypes := #[22, 22] })
    (B sb n cap : Nat) (zs : List Int) (hs : a.eval s = .slice (some ⟨sb, 0, none⟩) n cap) (hown : Own w B (some ⟨sb, 0, none⟩) cap zs) (hn : n = zs.length) (hsb : B ≤ sb ∧ sb < w.heap.size ∧ n ≤ cap)
    (ys : List Int) (bd : Option Addr) (m bcap : Nat) (hx : a.eval x = .slice bd m bcap) (hm : m = ys.length) (w0 : World) (hg : Ints w0 bd ys) (hk0 : Below w0.heap.size w0 w) (hl : ys.length ≤ 1048576) (hl2 : zs.length ≤ 1048576) (hB : B ≤ w.heap.size)
    (h : ∀ g cap' w', Own w' B (some ⟨g, 0, none⟩) cap' (zs ++ ys) → w.grownBy w' (some sb) → B ≤ g → g < w'.heap.size → wpList Try.prog ops Q rest (a.put o.dst (.slice (some ⟨g, 0, none⟩) (zs ++ ys).length cap')) w') :
    wpList Try.prog ops Q (o :: rest) a w := by
  obtain ⟨i0, hi, hz0, hz1, hz2⟩ := info_parts Try.infoI
  simp only [List.length_append] at h
  subst hn hm
  by_cases h0 : ys.length = 0
  · have hy : ys = [] := List.eq_nil_of_length_eq_zero h0
    subst hy
    refine wpList_plain hgd fun K hK => ?_
    have hsrc : Src Try.prog i0.size 22 (.slice bd 0 bcap) 0 [] w := by
      cases bd with
      | none => exact Src.ofNil w Try.underlying22 bcap
      | some ad => exact Src.ofSlice w Try.underlying22 ad 0 bcap [] (by simp) (by simp) (by simp)
    have hr := run_append_nothing (P := Try.prog) w 22 22 o.type 2 i0 Try.underlying22 hi (some ⟨sb, 0, none⟩) zs.length cap hsb.2.2 (.slice bd 0 bcap) hsrc
    have hx' : a.eval x = .slice bd 0 bcap := hx
    unfold Oper.wp execOp
    simp only [ho, resolve, invoke, builtin, Sem.run_bind, Sem.run_pure, Result.andThen_ok, List.map_toArray, List.map_cons, List.map_nil, hs, hx', hr]
    exact hK _ _ (h sb cap w (by rw [List.append_nil]; exact hown) (World.grownBy.refl _ _) hsb.1 hsb.2.1)
  · rcases hg.at_ with rfl | ⟨b, off, rfl, hb, hc⟩
    · simp at h0
    refine wpList_append_lies w hgd s x 22 ho B 2 i0 (.int .i64 0) 1 8 Try.underlying22 hi hz0 hz1 hz2 rfl (by omega) (.slice (some ⟨sb, 0, none⟩) zs.length cap) zs.length (vals zs) hs hown.1 ⟨b, off, none⟩ ys.length bcap (vals ys) hx (by simp) ?_ ?_ (by omega) (by unfold maxLen; omega) (by omega) hB _ rfl ?_
    · intro j u hj
      have hj2 : j < ys.length := by have := (List.getElem?_eq_some_iff.1 hj).1; simpa using this
      rw [Go.WideShapes.add_plain, hk0.cell (by exact hb), hc j hj2]
      rw [← hj]; simp [hj2]
    · intro u hu; obtain ⟨z, _, rfl⟩ := List.mem_map.1 hu; rfl
    · intro g cap' w' h1 h2 h3 h4
      have hBg : B ≤ g := by
        rcases h3 with h3 | h3
        · simp [Value.ownBlock] at h3; omega
        · omega
      refine h g cap' w' ⟨?_, by simp; omega, ?_⟩ h2 hBg h4
      · simpa [vals] using h1
      · intro z hz; rcases List.mem_append.1 hz with hz | hz
        · exact hown.2.2 z hz
        · exact hg.wf z hz
theorem Own.lit0 (w : World) : Own (w.alloc (.cells #[] 2)) w.heap.size (some ⟨w.heap.size, 0, none⟩) 0 [] := by
  have := World.ownsRow_lit (base := w.heap.size) (e := 2) (size := 1) w #[] 0 (by simp) (by simp) rfl
  exact ⟨by simpa using this, by simp, by simp⟩
end Go.Proofs.Ytpdcmhnaedhkdaa
