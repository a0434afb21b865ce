/- All best roundings with a sum: the program's choice, made. -/
import Derived.Test.YtmckbjhmkcbjgabChoice4
import Derived.Deep.LoopGhost
namespace Go.Proofs.Ytmckbjhmkcbjgab
open Go.ChangeShapes Go.WideShapes Go.ChangeAt Go.RowKit Go.Deep
set_option linter.unusedVariables false
/-- The list as it stands after k places. -/
def LK (fs cs : List Int) (k : Nat) : List Int := (upL fs cs).take k ++ fs.drop k
theorem upL_len (fs cs : List Int) (h : fs.length = cs.length) : (upL fs cs).length = fs.length := by unfold upL; rw [List.length_zipWith]; omega
theorem upL_get (fs cs : List Int) (h : fs.length = cs.length) (k : Nat) (hk : k < fs.length) : (upL fs cs).getD k 0 = if cs.getD k 0 = 1 then fs.getD k 0 + 1 else fs.getD k 0 := by
  rw [getD_get _ k (by rw [upL_len fs cs h]; exact hk), getD_get fs k hk, getD_get cs k (by omega)]
  unfold upL; rw [List.getElem_zipWith]
theorem LK_len (fs cs : List Int) (h : fs.length = cs.length) (k : Nat) (hk : k ≤ fs.length) : (LK fs cs k).length = fs.length := by
  unfold LK; rw [List.length_append, List.length_take, List.length_drop, upL_len fs cs h]; omega
theorem LK_get (fs cs : List Int) (h : fs.length = cs.length) (k : Nat) (hk : k < fs.length) : (LK fs cs k).getD k 0 = fs.getD k 0 := by
  have hl := upL_len fs cs h
  unfold LK
  rw [List.getD_eq_getElem?_getD, List.getElem?_append_right (by rw [List.length_take]; omega), List.length_take, hl, List.getElem?_drop, List.getD_eq_getElem?_getD]
  congr 2; omega
theorem LK_set (fs cs : List Int) (h : fs.length = cs.length) (k : Nat) (hk : k < fs.length) : (LK fs cs k).set k ((upL fs cs).getD k 0) = LK fs cs (k + 1) := by
  have hl := upL_len fs cs h
  unfold LK
  rw [List.set_append_right _ _ (by rw [List.length_take]; omega), List.length_take, hl, show k - min k fs.length = 0 from by omega, List.drop_eq_getElem_cons hk, List.set_cons_zero,
    List.take_succ_eq_append_getElem (by omega : k < (upL fs cs).length), List.append_assoc, getD_get _ k (by omega)]
  rfl
theorem LK_same (fs cs : List Int) (h : fs.length = cs.length) (k : Nat) (hk : k < fs.length) (hc : cs.getD k 0 ≠ 1) : LK fs cs (k + 1) = LK fs cs k := by
  rw [← LK_set fs cs h k hk, upL_get fs cs h k hk, if_neg hc, ← LK_get fs cs h k hk, getD_get _ k (by rw [LK_len fs cs h k (by omega)]; exact hk)]
  exact List.set_getElem_self _
theorem LK_zero (fs cs : List Int) : LK fs cs 0 = fs := by simp [LK]
theorem LK_all (fs cs : List Int) (h : fs.length = cs.length) : LK fs cs fs.length = upL fs cs := by
  unfold LK; rw [List.take_of_length_le (by rw [upL_len fs cs h]; exact Nat.le_refl _), List.drop_length, List.append_nil]
theorem LK_in (fs cs : List Int) (h : fs.length = cs.length) (M : Int) (hM : ∀ f ∈ fs, -M ≤ f ∧ f ≤ M) (k : Nat) : ∀ z ∈ LK fs cs k, -M ≤ z ∧ z ≤ M + 1 := by
  intro z hz
  unfold LK at hz
  rcases List.mem_append.1 hz with hz | hz
  · have hz := List.mem_of_mem_take hz
    obtain ⟨j, hj, rfl⟩ := List.getElem_of_mem hz
    have hj2 : j < fs.length := by rw [upL_len fs cs h] at hj; exact hj
    have e := upL_get fs cs h j hj2
    rw [getD_get _ j hj] at e
    have := hM _ (getD_mem fs j hj2)
    rw [e]; split <;> omega
  · have := hM z (List.mem_of_mem_drop hz); omega
theorem isC_take_succ (c : Int) (cs : List Int) (k : Nat) (hk : k < cs.length) : isC c (cs.take (k + 1)) = isC c (cs.take k) + (if cs.getD k 0 = c then 1 else 0) := by
  unfold isC; rw [take_succ_getD cs k hk, List.countP_append, List.countP_cons, List.countP_nil]; simp
theorem freeL_take_succ (cs : List Int) (k : Nat) (hk : k < cs.length) : freeL (cs.take (k + 1)) = freeL (cs.take k) ++ (if cs.getD k 0 = 0 then [k] else []) := by
  rw [take_succ_getD cs k hk, freeL_snoc, List.length_take, show min k cs.length = k from by omega]
theorem set_grown (w : World) (c off : Nat) (v : Value) : w.grownBy (w.setCell ⟨c, off, none⟩ v) (some c) := by
  have h := Below.refl 0 w
  refine ⟨rfl, rfl, rfl, by simp [World.setCell], fun k hk hr => ?_⟩
  exact Below.heap_setCell _ _ _ _ (by show k ≠ c; exact fun e => hr (by rw [e]))
theorem Mine.out {w w' : World} {lo hi c : Nat} {ad : Option Addr} {cap : Nat} {zs : List Int} (h : Mine w lo hi ad cap zs) (m : w.grownBy w' (some c)) (sep : c < lo ∨ hi ≤ c) : Mine w' lo hi ad cap zs := by
  refine ⟨⟨h.own.1.kept m ?_, h.own.2⟩, h.below⟩
  rcases own_block h.own.1 with ⟨rfl, _⟩ | ⟨k, rfl, h1, h2, _⟩
  · exact .inl rfl
  · right
    have h3 := h.below k rfl
    simp [Value.ownBlock]; omega
theorem Mine.outR {w w' : World} {lo hi : Nat} {row : Option Nat} {ad : Option Addr} {cap : Nat} {zs : List Int} (h : Mine w lo hi ad cap zs) (m : w.grownBy w' row) (sep : ∀ c, row = some c → c < lo ∨ hi ≤ c) : Mine w' lo hi ad cap zs := by
  cases row with
  | none => exact ⟨⟨h.own.1.kept m (by rcases own_block h.own.1 with ⟨rfl, _⟩ | ⟨k, rfl, _⟩; exact .inl rfl; exact .inr (by simp [Value.ownBlock])), h.own.2⟩, h.below⟩
  | some c => exact h.out m (sep c rfl)
theorem Mine.stored {w : World} {lo hi lb : Nat} {cap : Nat} {zs : List Int} (h : Mine w lo hi (some ⟨lb, 0, none⟩) cap zs) (k : Nat) (v : Int) (hv : In64 v) : Mine (w.setCell ⟨lb, k, none⟩ (.int .i64 v)) lo hi (some ⟨lb, 0, none⟩) cap (zs.set k v) := by
  obtain ⟨s1, s2⟩ := h.own.1.stored k (.int .i64 v)
  refine ⟨⟨?_, by simpa using h.own.2.1, fun z hz => ?_⟩, h.below⟩
  · rw [List.length_set]
    unfold vals
    rw [List.map_set]; exact s1
  · rcases List.mem_or_eq_of_mem_set hz with hz | rfl
    · exact h.own.2.2 z hz
    · exact hv
end Go.Proofs.Ytmckbjhmkcbjgab
