/- Slices of slices behind an empty literal and one more behind them: appends. -/
import Derived.Test.YtjfepogmphjliabLists
import Derived.Deep.Upon
namespace Go.Proofs.Ytjfepogmphjliab
open Go.ChangeShapes Go.WideShapes Go.ChangeAt Go.RowKit Go.Deep
set_option linter.unusedVariables false
/-- Values that are slices which hold the numbers zss. -/
def RowI (w : World) (V : List Value) (zss : List (List Int)) : Prop := V.length = zss.length ∧ ∀ i, i < zss.length → ∃ p c, V[i]? = some (.slice p (zss.getD i []).length c) ∧ (zss.getD i []).length ≤ c ∧ Ints w p (zss.getD i [])
theorem RowI.one {w : World} {V : List Value} {zss : List (List Int)} (h : RowI w V zss) : ∀ u ∈ V, u.oneCell' = true := by
  intro u hu
  obtain ⟨i, hi, e⟩ := List.getElem_of_mem hu
  obtain ⟨p, c, e1, _⟩ := h.2 i (by rw [← h.1]; exact hi)
  rw [List.getElem?_eq_getElem hi, e] at e1
  cases e1; rfl
theorem RowI.of {w : World} {b off : Nat} {zss : List (List Int)} (h : ∀ i, i < zss.length → ∃ p c, w.cell? ⟨b, off + i, none⟩ = some (.slice p (zss.getD i []).length c) ∧ (zss.getD i []).length ≤ c ∧ Ints w p (zss.getD i [])) :
    ∃ V, RowI w V zss ∧ ∀ j u, V[j]? = some u → w.cell? ⟨b, off + j, none⟩ = some u := by
  obtain ⟨F, hF⟩ := choose_lt (α := Option Addr × Nat) (n := zss.length) (p := fun i pc => w.cell? ⟨b, off + i, none⟩ = some (.slice pc.1 (zss.getD i []).length pc.2) ∧ (zss.getD i []).length ≤ pc.2 ∧ Ints w pc.1 (zss.getD i [])) (fun i hi => by
    obtain ⟨p, c, h1⟩ := h i hi
    exact ⟨(p, c), h1⟩)
  refine ⟨(List.range zss.length).map fun i => .slice (F i).1 (zss.getD i []).length (F i).2, ⟨by simp, fun i hi => ⟨(F i).1, (F i).2, by simp [hi], (hF i hi).2⟩⟩, fun j u hu => ?_⟩
  have hj : j < zss.length := by
    have := (List.getElem?_eq_some_iff.1 hu).1
    simpa using this
  simp [hj] at hu
  have h2 := (hF j hj).1
  rw [getDD_get zss j hj] at h2
  rw [← hu]; exact h2
theorem RowI.keep {w w' : World} {V : List Value} {zss : List (List Int)} {B : Nat} (h : RowI w V zss) (hb : Below B w w') (hB : w.heap.size ≤ B) : RowI w' V zss :=
  ⟨h.1, fun i hi => by obtain ⟨p, c, e1, e2, e3⟩ := h.2 i hi; exact ⟨p, c, e1, e2, e3.keep hb hB⟩⟩
theorem RowI.push {w : World} {V : List Value} {zss : List (List Int)} {p : Option Addr} {c : Nat} {zs : List Int} (h : RowI w V zss) (hc : zs.length ≤ c) (hz : Ints w p zs) : RowI w (V ++ [.slice p zs.length c]) (zss ++ [zs]) := by
  refine ⟨by simp [h.1], fun i hi => ?_⟩
  by_cases hlt : i < zss.length
  · obtain ⟨p1, c1, e1, e2⟩ := h.2 i hlt
    have hg : (zss ++ [zs]).getD i [] = zss.getD i [] := by simp [List.getD_eq_getElem?_getD, List.getElem?_append_left hlt]
    rw [hg]
    exact ⟨p1, c1, by rw [List.getElem?_append_left (by rw [h.1]; exact hlt)]; exact e1, e2⟩
  · have he : i = zss.length := by simp at hi; omega
    subst he
    have hg : (zss ++ [zs]).getD zss.length [] = zs := by simp [List.getD_eq_getElem?_getD]
    rw [hg]
    exact ⟨p, c, by rw [List.getElem?_append_right (by rw [h.1]; exact Nat.le_refl _), h.1]; simp, hc, hz⟩
theorem RowI.intss {w : World} {V : List Value} {zss : List (List Int)} {B b cap n : Nat} {e : TypeId} (h : RowI w V zss) (o : w.ownsRow B e 1 (.slice (some ⟨b, 0, none⟩) n cap) n V) (hn : n = zss.length) (hb : b < w.heap.size) (hs : zss.length ≤ 9223372036854775807) : Intss w (some ⟨b, 0, none⟩) zss := by
  subst hn
  refine ⟨hs, .inr ⟨b, 0, rfl, hb, fun i hi => ?_⟩⟩
  obtain ⟨p, c, e1, e2⟩ := h.2 i hi
  exact ⟨p, c, by rw [Nat.zero_add, o.cellAt i (by omega)]; exact e1, e2⟩
/-- Slices appended to an empty literal. -/
theorem list_appSS0 {ops : Array Oper} {rest : List Oper} {o : Oper} {a : Act} {w : World} {Q : Exit → Act → World → Prop} (hgd : o.guard = none) (s x : Operand)
    (ho : o.op = .call { callee := .builtin .append, args := #[s, x], argTypes := #[25, 25] })
    (B : Nat) (hs : a.eval s = .slice (some ⟨B, 0, none⟩) 0 0) (hown : w.ownsRow B 22 1 (.slice (some ⟨B, 0, none⟩) 0 0) 0 []) (hB : B < w.heap.size)
    (zss : List (List Int)) (bd : Option Addr) (bcap : Nat) (hx : a.eval x = .slice bd zss.length bcap) (w0 : World) (hg : Intss w0 bd zss) (hk0 : Below w0.heap.size w0 w) (hl : zss.length ≤ 1048576)
    (h : ∀ g cap' V w', w'.ownsRow B 22 1 (.slice (some ⟨g, 0, none⟩) zss.length cap') zss.length V → RowI w0 V zss → w.grownBy w' (some B) → B ≤ g → g < w'.heap.size → wpList Try.prog ops Q rest (a.put o.dst (.slice (some ⟨g, 0, none⟩) zss.length cap')) w') :
    wpList Try.prog ops Q (o :: rest) a w := by
  obtain ⟨i0, hi, hz0, hz1, hz2⟩ := info_parts Try.infoS
  rcases hg.at_ with rfl | ⟨b, off, rfl, hb, hc⟩
  · refine wpList_plain hgd fun K hK => ?_
    have hsrc : Src Try.prog i0.size 25 (.slice bd 0 bcap) 0 [] w := by
      cases bd with
      | none => exact Src.ofNil w Try.underlying25 bcap
      | some ad => exact Src.ofSlice w Try.underlying25 ad 0 bcap [] (by simp) (by simp) (by simp)
    have hr := run_append_nothing (P := Try.prog) w 25 25 o.type 22 i0 Try.underlying25 hi (some ⟨B, 0, none⟩) 0 0 (Nat.le_refl _) (.slice bd 0 bcap) hsrc
    have hx' : a.eval x = .slice bd 0 bcap := hx
    unfold Oper.wp execOp
    simp only [ho, resolve, invoke, builtin, Sem.run_bind, Sem.run_pure, Result.andThen_ok, List.map_toArray, List.map_cons, List.map_nil, hs, hx', hr]
    exact hK _ _ (h B 0 [] w hown ⟨rfl, fun i hi => by simp at hi⟩ (World.grownBy.refl _ _) (Nat.le_refl _) hB)
  · by_cases h0 : zss.length = 0
    · refine wpList_plain hgd fun K hK => ?_
      have hz : zss = [] := List.eq_nil_of_length_eq_zero h0
      subst hz
      have hsrc : Src Try.prog i0.size 25 (.slice (some ⟨b, off, none⟩) 0 bcap) 0 [] w := Src.ofSlice w Try.underlying25 _ 0 bcap [] (by simp) (by simp) (by simp)
      have hr := run_append_nothing (P := Try.prog) w 25 25 o.type 22 i0 Try.underlying25 hi (some ⟨B, 0, none⟩) 0 0 (Nat.le_refl _) (.slice (some ⟨b, off, none⟩) 0 bcap) hsrc
      have hx' : a.eval x = .slice (some ⟨b, off, none⟩) 0 bcap := hx
      unfold Oper.wp execOp
      simp only [ho, resolve, invoke, builtin, Sem.run_bind, Sem.run_pure, Result.andThen_ok, List.map_toArray, List.map_cons, List.map_nil, hs, hx', hr]
      exact hK _ _ (h B 0 [] w hown ⟨rfl, fun i hi => by simp at hi⟩ (World.grownBy.refl _ _) (Nat.le_refl _) hB)
    · obtain ⟨V, hV, hcV⟩ := RowI.of hc
      refine wpList_append_lies w hgd s x 25 ho B 22 i0 (.slice none 0 0) 1 24 Try.underlying25 hi hz0 hz1 hz2 rfl (by omega) (.slice (some ⟨B, 0, none⟩) 0 0) 0 [] hs hown ⟨b, off, none⟩ zss.length bcap V hx (by rw [hV.1]; omega) ?_ hV.one (by omega) (by unfold maxLen; omega) (by omega) (by omega) _ rfl ?_
      · intro j u hj
        rw [Go.WideShapes.add_plain]; exact (hk0.cell (by exact hb)).trans (hcV j u hj)
      · intro g cap' w' h1 h2 h3 h4
        rw [Nat.zero_add] at h1
        have hgr : w.grownBy w' (some B) := h2
        have hBg : B ≤ g := by
          rcases h3 with h3 | h3
          · simp [Value.ownBlock] at h3; omega
          · omega
        have hK := h g cap' V w' h1 hV hgr hBg h4
        rw [← Nat.zero_add zss.length] at hK
        exact hK
/-- A slice of the call's own behind a write into an older block. -/
theorem Own.past1 {w w' : World} {lo g : Nat} {ad : Option Addr} {cap : Nat} {zs : List Int} (h : Own w lo ad cap zs) (m : w.grownBy w' (some g)) (hg : g < lo) : Own w' lo ad cap zs := by
  refine ⟨h.1.kept m ?_, h.2⟩
  rcases own_block h.1 with ⟨rfl, _⟩ | ⟨k, rfl, h1, h2, _⟩
  · exact .inl rfl
  · right
    simp [Value.ownBlock]; omega
end Go.Proofs.Ytjfepogmphjliab
