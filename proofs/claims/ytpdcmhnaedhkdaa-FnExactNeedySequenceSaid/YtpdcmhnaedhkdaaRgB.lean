/- A range over a function whose value may carry bound arguments (a method value), where its elements are known: one for each good number, in ascending order. -/
import Derived.Test.YtpdcmhnaedhkdaaPlain
import Derived.RangeFuncNested
import Derived.RangeFuncLeaves
import Derived.RangeFuncCalls
namespace Go.Proofs.Ytpdcmhnaedhkdaa
open Go.RowKit
set_option linter.unusedVariables false
/-- The iterator g, called with mk of yield, gives enc t for each good t below N, in ascending order; each round keeps Kp. -/
def SeqUp (F : Fence) (n : Nat) (P : Program) (g : Nat) (mk : Value → Array Value) (enc : Nat → Array Value) (good : Nat → Bool) (N : Nat) (Kp : World → World → Prop) (w : World) : Prop :=
  ∀ (l : Nat) (J : Nat → World → Prop) (W : World), Below w.heap.size w W → AbidesFrom W.heap.size J →
    (∀ t W1, t < N → good t = false → J t W1 → J (t + 1) W1) →
    (∀ t W1, t < N → good t = true → J t W1 → YieldAt F (n - 1) P l (enc t) W1 fun e W' => e = .returned (.bool true) ∧ J (t + 1) W' ∧ Kp W1 W') →
    J 0 W → CallsIn F n P g (mk (.func (.yield l) #[] #[])) W fun e W' => (∃ v, e = .returned v) ∧ J N W'
/-- How a round ends: off the body's end. -/
def upPost (B : Nat) (Kp : World → World → Prop) (R : World → Prop) (W : World) : Exit → Act → World → Prop
  | .normal, _, W' => KeepsFrom B W W' ∧ Kp W W' ∧ R W'
  | _, _, _ => False
theorem upPost_calm {B : Nat} {Kp : World → World → Prop} {R : World → Prop} {W : World} : ¬ LetsOut (upPost B Kp R W) := by
  rintro ⟨a, w, h⟩; exact h
variable {F : Fence} {n : Nat} {P : Program}
theorem range_up {g : Operand} {ps : Array Tmp} {assign body : Code} {Q : Exit → Act → World → Prop} {a : Act} {w : World}
    (hro : F.round = none) (h1 : 1 ≤ n) {gf : Nat} {bs lb : Array Value} (hg : a.eval g = .func (.func gf) bs lb) (hFg : F.fn gf) (eg : ∀ args w, (callFunc gf args).run P w = .ok (.enter gf args) w)
    {enc : Nat → Array Value} {good : Nat → Bool} {N : Nat} {Kp : World → World → Prop} (hseq : SeqUp F (n - 1) P gf (fun y => bs ++ #[y] ++ lb) enc good N Kp w) (hps : ∀ t, (enc t).size = ps.size)
    (hKt : ∀ {A B C : World}, Kp A B → Kp B C → Kp A C) (hKb : ∀ (W : World) (l : Nat) (o o' : Obj), w.heap.size ≤ l → W.heap[l]? = some o → o.isCells = false → o.isWalk = false → Kp W (W.putObj l o'))
    (I : Nat → World → Prop) (hI : OwnFrom w.heap.size I) (hskip : ∀ t W, t < N → good t = false → I t W → I (t + 1) W) (h0 : I 0 w)
    (hround : ∀ (l t : Nat) (W : World), t < N → good t = true → w.heap.size ≤ l → w.heap.size ≤ W.heap.size → I t W →
      assign.wpIn (F.inRound l) (n - 1 - 1) P (Exit.then (fun a1 W1 => W1 = W ∧ ∀ U, w.heap.size ≤ U.heap.size → I t U → body.wpIn (F.inRound l) (n - 1 - 1) P (upPost w.heap.size Kp (I (t + 1)) U) a1 U) (fun _ _ _ => False))
        { tmps := (ps.zip (enc t)).foldl (fun s (p, v) => s.setIfInBounds p v) a.tmps, defers := [] } W)
    (hdone : ∀ (D : Nat) (W : World), w.heap.size ≤ D → I N W → W.heap[D]? = some (.deferred (some [])) → Q .normal { a with defers := { target := .collected D, args := #[] } :: a.defers } W) :
    (Code.rangeFunc g ps assign body).wpIn F n P Q a w := by
  refine wpIn_rangeFunc fun fn hfn => ?_
  rw [hro]
  -- the loop's record, ready, busy or done; it lies behind the block for deferred calls
  let rc (st : LoopState) : Loop := { state := st, pending := none, fn, tmps := a.tmps, params := ps, assign, body, defers := w.heap.size }
  have hrcs : ∀ st, (rc st).state = st := fun _ => rfl
  obtain ⟨V, hV⟩ : ∃ V, V = (w.alloc (.deferred (some []))).alloc (.loop (rc .ready)) := ⟨_, rfl⟩
  have vD : V.heap[w.heap.size]? = some (.deferred (some [])) := by
    rw [hV]; exact (Below.heap_alloc _ _ _ (by simp)).trans (World.alloc_heap_new w _)
  have vL : V.heap[w.heap.size + 1]? = some (.loop (rc .ready)) := by
    have h := World.alloc_heap_new (w.alloc (.deferred (some []))) (.loop (rc .ready))
    rw [World.size_alloc] at h; rw [hV]; exact h
  have vI : I 0 V := by rw [hV]; exact hI.alloc _ (hI.alloc _ h0)
  have vB : Below w.heap.size w V := by
    rw [hV]; exact ((Below.refl _ w).alloc (Nat.le_refl _) _).alloc (by simp) _
  have vS : V.heap.size = w.heap.size + 1 + 1 := by rw [hV]; simp
  refine ⟨w.heap.size + 1, [{ target := .collected w.heap.size, args := #[] }], V, { target := .fn (.func gf) lb, args := bs ++ #[.func (.yield (w.heap.size + 1)) #[] #[]] }, V, gf,
    bs ++ #[.func (.yield (w.heap.size + 1)) #[] #[]] ++ lb, V, ?_, ?_, ?_, ?_, fun _ => h1, ?_⟩
  · rw [hV]; exact run_enterLoop_outer _ _ _ _ _
  · simp only [resolve, hg]
    simp [go_sem]
  · intro f' hf'; simp [Target.leads] at hf'; subst hf'; exact hFg
  · simp [invoke, go_sem, eg]
  -- what holds between two rounds
  refine (hseq (w.heap.size + 1) (fun t W => I t W ∧ W.heap[w.heap.size + 1]? = some (.loop (rc .ready)) ∧ W.heap[w.heap.size]? = some (.deferred (some [])) ∧ w.heap.size ≤ W.heap.size) V vB ?_ ?_ ?_ ⟨vI, vL, vD, by omega⟩).mono ?_
  · -- a step of the iterator turns none of it
    rintro t X Y row ⟨i1, i2, i3, i4⟩ hgr hrow
    have hw : ∀ r, row = some r → ∃ o : Obj, X.heap[r]? = some o ∧ o.isWalk = true := fun r e => (hrow r e).2
    refine ⟨hI t X Y row i1 hgr (fun r e => ?_), (grownBy_keeps hgr hw i2 rfl).trans i2, (grownBy_keeps hgr hw i3 rfl).trans i3, Nat.le_trans i4 hgr.size⟩
    obtain ⟨b1, o, b2, b3⟩ := hrow r e
    exact ⟨by omega, o, b2, Obj.not_cells_of_walk b3⟩
  · rintro t W ht hb ⟨i1, i⟩; exact ⟨hskip t W ht hb i1, i⟩
  · -- one round
    rintro t W ht hb ⟨i1, i2, i3, i4⟩
    have hlt : w.heap.size + 1 < W.heap.size := (Array.getElem?_eq_some_iff.1 i2).1
    refine ⟨fn, _, assign, body, run_yield i2 (hps t), roundIn_of_wpIn hfn (wpIn_mono (hround _ t W ht hb (by omega) i4 i1) ?_)⟩
    rintro e a1 W1 hx
    cases e with
    | exit id => exact hx.elim
    | goto t => exact hx.elim
    | ret => exact hx.elim
    | panic c => exact hx.elim
    | outgrown => exact hx.elim
    | normal =>
    obtain ⟨rfl, hbody⟩ := hx
    refine ⟨_, run_beginRound i2 rfl, ?_⟩
    obtain ⟨U, hU⟩ : ∃ U, U = W1.putObj (w.heap.size + 1) (.loop (rc .busy)) := ⟨_, rfl⟩
    have uL : U.heap[w.heap.size + 1]? = some (.loop (rc .busy)) := by rw [hU]; exact World.putObj_heap_same hlt
    have uD : U.heap[w.heap.size]? = some (.deferred (some [])) := by rw [hU]; exact (World.putObj_heap_other (by omega)).trans i3
    have uS : w.heap.size ≤ U.heap.size := by rw [hU]; simpa using i4
    have uK : Kp W1 U := by rw [hU]; exact hKb _ _ _ _ (by omega) i2 rfl rfl
    have uI : I t U := by rw [hU]; exact hI.putObj _ i1 (by omega) i2 rfl
    change body.wpIn _ _ _ _ _ (W1.putObj (w.heap.size + 1) (.loop (rc .busy)))
    rw [← hU]
    refine wpIn_mono (hbody U uS uI) ?_
    rintro e a3 X hp
    cases e with
    | normal =>
      obtain ⟨k1, k2, k3⟩ := hp
      have xL := k1.same _ _ (by omega) uL rfl
      have xD := k1.same _ _ (Nat.le_refl _) uD rfl
      have xlt := (Array.getElem?_eq_some_iff.1 xL).1
      refine ⟨_, _, run_endRound none xL, rfl, ⟨hI.putObj _ k3 (by omega) xL rfl, World.putObj_heap_same xlt, (World.putObj_heap_other (by omega)).trans xD, ?_⟩, hKt uK (hKt k2 (hKb _ _ _ _ (by omega) xL rfl rfl))⟩
      simp only [World.putObj_size]; exact Nat.le_trans uS k1.size
    | ret => exact hp.elim
    | exit id => exact hp.elim
    | goto t => exact hp.elim
    | panic c => exact hp.elim
    | outgrown => exact hp.elim
  · -- behind the iterator
    rintro e W2 ⟨⟨v, rfl⟩, i1, i2, i3, _⟩
    exact ⟨none, _, run_endLoop i2 (by simp [rc]), hdone _ _ (Nat.le_refl _) (hI.putObj _ i1 (by omega) i2 rfl) ((World.putObj_heap_other (by omega)).trans i3)⟩
/-- An iterator's contract holds for every later world. -/
theorem SeqUp.later {g : Nat} {mk : Value → Array Value} {enc : Nat → Array Value} {good : Nat → Bool} {N : Nat} {Kp : World → World → Prop} {w w' : World} (h : SeqUp F n P g mk enc good N Kp w) (hb : Below w.heap.size w w') : SeqUp F n P g mk enc good N Kp w' :=
  fun l J W hW hJ hs hY h0 => h l J W (hb.trans (hW.mono hb.size)) hJ hs hY h0
end Go.Proofs.Ytpdcmhnaedhkdaa
