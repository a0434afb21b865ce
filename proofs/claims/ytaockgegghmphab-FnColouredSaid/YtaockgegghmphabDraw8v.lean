/- What the laws draw: valid values (few), and a rounding of them. -/
import Derived.Test.YtaockgegghmphabDraw8
import Derived.Test.YtaockgegghmphabDivs
import Derived.Test.YtaockgegghmphabVals
import Derived.Deep.LoopGhost
import Derived.Deep.RegionLaw
import Derived.Deep.AppendLies
import Derived.BigQuiet
namespace Go.Proofs.Ytaockgegghmphab
open Go.ChangeShapes Go.WideShapes Go.ChangeAt Go.RowKit
set_option linter.unusedVariables false
theorem oneV_any (b : Nat) (ad : Option Addr) (cap : Nat) (zs : List Int) (n : Nat) (m : Int) (w : World) (h : SrcAt w b ad cap zs n) (hz : Bytes w ad zs) (hn : n ≤ 1099511627776) (hm : 1 ≤ m) (hm2 : m ≤ 200) :
    Calls Try.prog 67 #[.pointer (some ⟨b, 0, none⟩), .int .i64 m] w fun e w' =>
      ∃ r : Bool, e = .returned (.bool r) ∧ SrcAt w' b ad cap zs (n + 1) ∧ w.grownBy w' (some b) ∧ w'.heap.size = w.heap.size := by
  go_enter Try.func67, Try.ntmps67
  go_wp2_with fail
  refine (pick_any b ad cap zs n m w h hz hn hm hm2).mono ?_
  rintro e w1 ⟨r, r0, r1, rfl, hs, hg, hsz⟩
  have HS := Lib.hid hs; have HG := Lib.hid hg; have HZ := Lib.hid hsz
  clear hs hg hsz
  by_cases h0 : r = 0
  · subst h0
    go_wp2
    go_ret
    exact ⟨true, rfl, HS.out, HG.out, HZ.out⟩
  · go_wp2
    go_ret
    exact ⟨false, ret_bool (by simp [h0]), HS.out, HG.out, HZ.out⟩
/-- An append of one number at a step of a region that draws its order, and where the new slice lies. -/
theorem stepV_app2 {ops : Array Oper} {o : Oper} {a : Act} {w : World} {K : Act → World → Prop} {Q : Exit → Act → World → Prop} {E : Prop} (hgd : o.guard = none) (s x : Operand)
    (ho : o.op = .call { callee := .builtin .append, args := #[s, x], argTypes := #[24, 24] })
    (B : Nat) (ad : Option Addr) (cap n : Nat) (zs : List Int) (y : Int) (hs : a.eval s = .slice ad n cap) (hown : Own w B ad cap zs) (hn : n = zs.length) (nb : Nat) (hx : a.eval x = .slice (some ⟨nb, 0, none⟩) 1 1)
    (hc : w.cell? ⟨nb, 0, none⟩ = some (.int .i64 y)) (hy : In64 y) (hl : zs.length < 1099511627776) (hB : B ≤ w.heap.size)
    (h : ∀ g cap' w', Own w' B (some ⟨g, 0, none⟩) cap' (zs ++ [y]) → w.grownBy w' (Value.slice ad n cap).ownBlock → (ad = some ⟨g, 0, none⟩ ∨ w.heap.size ≤ g) → K (a.put o.dst (.slice (some ⟨g, 0, none⟩) (n + 1) cap')) w') :
    if Region.wanted o (yielded ops a.tmps) = true then Oper.wp Try.prog o a w K Q else E := by
  obtain ⟨i0, hi, hz0, hz1, hz2⟩ := info_parts Try.infoI
  subst hn
  refine step_append_lies w hgd s x 24 ho B 2 i0 (.int .i64 0) 1 8 Try.underlying24 hi hz0 hz1 hz2 rfl (by omega) (.slice ad zs.length cap) zs.length (vals zs) hs hown.1 ⟨nb, 0, none⟩ 1 1 [.int .i64 y] hx rfl ?_ ?_ (by omega) (by unfold maxLen; omega) (by omega) hB _ rfl ?_
  · intro j u hj
    match j, hj with
    | 0, hj => simp at hj; subst hj; simpa [Addr.add] using hc
  · intro u hu; simp at hu; subst hu; rfl
  · intro g cap' w' h1 h2 h3 _
    refine h g cap' w' ⟨?_, ?_, ?_⟩ h2 ?_
    · simpa [vals] using h1
    · simp; omega
    · intro z hz; rcases List.mem_append.1 hz with hz | hz
      · exact hown.2.2 z hz
      · simp at hz; subst hz; exact hy
    · rcases own_block hown.1 with ⟨rfl, _⟩ | ⟨k, rfl, _⟩
      · rcases h3 with h3 | h3
        · simp [Value.ownBlock] at h3
        · exact .inr (by omega)
      · rcases h3 with h3 | h3
        · simp [Value.ownBlock] at h3; exact .inl (by rw [h3])
        · exact .inr (by omega)
theorem atV_func {P : Program} {ops : Array Oper} {o : Oper} {a : Act} {w : World} {K : Act → World → Prop} {Q : Exit → Act → World → Prop} {E : Prop} (F : Nat) (x : Array Operand) (T : Array TypeId)
    (ho : o.op = .call { callee := .value (.func F), args := x, argTypes := T }) (h : if Region.wanted o (yielded ops a.tmps) = true then Oper.wp P o a w K Q else E) : if Region.wanted o (yielded ops a.tmps) = true then Oper.wp P o a w K Q else E := h
theorem cellV_wrapped {w : World} {x y : Int} {t : Nat} (h : IntKind.i64.wrap x = y) : (w.alloc (.cells #[.int .i64 (IntKind.i64.wrap x)] t)).cell? ⟨w.heap.size, 0, none⟩ = some (.int .i64 y) := by rw [h]; simp
/-- The two cells of a block. -/
structure TwoC (W : World) (b : Nat) (u0 u1 : Value) : Prop where
  c0 : W.cell? ⟨b, 0, none⟩ = some u0
  c1 : W.cell? ⟨b, 1, none⟩ = some u1
  f0 : W.frozen? ⟨b, 0, none⟩ = false
  f1 : W.frozen? ⟨b, 1, none⟩ = false
theorem TwoC.keep {W W' : World} {b B : Nat} {u0 u1 : Value} (h : TwoC W b u0 u1) (k : Below B W W') (hb : b < B) : TwoC W' b u0 u1 :=
  ⟨(k.cell (p := ⟨b, 0, none⟩) hb).trans h.c0, (k.cell (p := ⟨b, 1, none⟩) hb).trans h.c1, (k.frozen (p := ⟨b, 0, none⟩) hb).trans h.f0, (k.frozen (p := ⟨b, 1, none⟩) hb).trans h.f1⟩
theorem TwoC.lt {W : World} {b : Nat} {u0 u1 : Value} (h : TwoC W b u0 u1) : b < W.heap.size := World.block_lt_of_cell? _ _ h.c0
theorem TwoC.set {W : World} {b : Nat} {u0 u1 : Value} (h : TwoC W b u0 u1) (v0 v1 : Value) :
    ((W.setCell ⟨b, 0, none⟩ v0).setCell ⟨b, 1, none⟩ v1).cell? ⟨b, 0, none⟩ = some v0 ∧ ((W.setCell ⟨b, 0, none⟩ v0).setCell ⟨b, 1, none⟩ v1).cell? ⟨b, 1, none⟩ = some v1 :=
  ⟨by rw [World.cell?_setCell_other _ _ _ _ (by simp), World.cell?_setCell_same _ _ _ h.c0], World.cell?_setCell_same _ _ _ (by rw [World.cell?_setCell_other _ _ _ _ (by simp)]; exact h.c1)⟩
theorem TwoC.alloc {W : World} {b : Nat} {u0 u1 : Value} (h : TwoC W b u0 u1) (X : Obj) : TwoC (W.alloc X) b u0 u1 :=
  h.keep (B := W.heap.size) (by go_grown) h.lt
theorem TwoC.grown {W W' : World} {b : Nat} {row : Option Nat} {u0 u1 : Value} (h : TwoC W b u0 u1) (g : W.grownBy W' row) (hb : some b ≠ row) : TwoC W' b u0 u1 := by
  have l := h.lt
  have e := g.block b l hb
  exact ⟨(World.cell?_of_block (a := ⟨b, 0, none⟩) e).trans h.c0, (World.cell?_of_block (a := ⟨b, 1, none⟩) e).trans h.c1, (World.frozen?_of_block (a := ⟨b, 0, none⟩) e).trans h.f0, (World.frozen?_of_block (a := ⟨b, 1, none⟩) e).trans h.f1⟩
theorem twoC_fresh (w1 : World) (E : Obj) (u0 u1 : Value) (T vb : Nat) (h : w1.heap.size = vb + 1) : TwoC ((w1.alloc E).alloc (.cells #[u0, u1] T)) (vb + 1 + 1) u0 u1 := by
  have e : vb + 1 + 1 = (w1.alloc E).heap.size := by simp; omega
  rw [e]
  exact ⟨by simp, by simp, by simp, by simp⟩
/-- What holds of the world at each round of the values' draw. -/
structure DrawnV (w W : World) (ad : Option Addr) (cap : Nat) (zs : List Int) (n : Nat) (g : Int) (rd : Option Addr) (rc : Nat) (vs : List Int) : Prop where
  t0 : TwoC W w.heap.size (.int .i64 0) (.slice none 0 0)
  t1 : TwoC W (w.heap.size + 3) (.int .i64 g) (.slice rd vs.length rc)
  o : Own W (w.heap.size + 2) rd rc vs
  ne : ∀ a, rd = some a → a.block ≠ w.heap.size + 3
  v : ∀ z ∈ vs, -12 ≤ z ∧ z ≤ 27
  s : SrcAt W (w.heap.size + 1) ad cap zs n
  k : Keep w W
theorem DrawnV.more {w W : World} {ad : Option Addr} {cap : Nat} {zs : List Int} {n m : Nat} {g : Int} {rd : Option Addr} {rc : Nat} {vs : List Int} (h : DrawnV w W ad cap zs n g rd rc vs) (hm : n ≤ m) : DrawnV w W ad cap zs m g rd rc vs :=
  ⟨h.t0, h.t1, h.o, h.ne, h.v, h.s.more hm, h.k⟩
theorem DrawnV.pick {w W W' : World} {ad : Option Addr} {cap : Nat} {zs : List Int} {n m : Nat} {g : Int} {rd : Option Addr} {rc : Nat} {vs : List Int} (h : DrawnV w W ad cap zs n g rd rc vs)
    (s : SrcAt W' (w.heap.size + 1) ad cap zs m) (gr : W.grownBy W' (some (w.heap.size + 1))) : DrawnV w W' ad cap zs m g rd rc vs :=
  ⟨h.t0.grown gr (by simp), h.t1.grown gr (by simp), h.o.beside gr (by omega), h.ne, h.v, s, below_beside h.k gr h.k.size (by omega)⟩
theorem DrawnV.keep {w W W' : World} {ad : Option Addr} {cap : Nat} {zs : List Int} {n : Nat} {g : Int} {rd : Option Addr} {rc : Nat} {vs : List Int} (h : DrawnV w W ad cap zs n g rd rc vs)
    (k : Keep W W') : DrawnV w W' ad cap zs n g rd rc vs :=
  ⟨h.t0.keep k h.t0.lt, h.t1.keep k h.t1.lt, h.o.keep k, h.ne, h.v, h.s.keep k h.s.lt, Keep.next h.k k⟩
theorem DrawnV.app {w W W' : World} {ad : Option Addr} {cap : Nat} {zs : List Int} {n : Nat} {g : Int} {rd : Option Addr} {rc : Nat} {vs : List Int} {g' cap' : Nat} {y : Int} (h : DrawnV w W ad cap zs n g rd rc vs)
    (o : Own W' (w.heap.size + 2) (some ⟨g', 0, none⟩) cap' (vs ++ [y])) (gr : W.grownBy W' (Value.slice rd vs.length rc).ownBlock) (hat : rd = some ⟨g', 0, none⟩ ∨ W.heap.size ≤ g') (hy : -12 ≤ y ∧ y ≤ 27) :
    TwoC W' (w.heap.size + 3) (.int .i64 g) (.slice rd vs.length rc) ∧ DrawnV w (W'.setCell ⟨w.heap.size + 3, 1, none⟩ (.slice (some ⟨g', 0, none⟩) (vs.length + 1) cap')) ad cap zs n g (some ⟨g', 0, none⟩) cap' (vs ++ [y]) := by
  have l1 := h.t1.lt
  have k1 : Below (w.heap.size + 2) W W' := below_own (Below.refl _ _) h.o gr (by omega) (Nat.le_refl _)
  have hr : some (w.heap.size + 3) ≠ (Value.slice rd vs.length rc).ownBlock := by
    intro e
    rcases own_block h.o.1 with ⟨rfl, _⟩ | ⟨k, rfl, _⟩
    · simp [Value.ownBlock] at e
    · simp [Value.ownBlock] at e; exact h.ne _ rfl e.symm
  have t1 := h.t1.grown gr hr
  have hne : g' ≠ w.heap.size + 3 := by
    rcases hat with e | e
    · exact h.ne _ e
    · omega
  refine ⟨t1, ?_⟩
  have k2 : Below (w.heap.size + 2) W (W'.setCell ⟨w.heap.size + 3, 1, none⟩ (.slice (some ⟨g', 0, none⟩) (vs.length + 1) cap')) := k1.setCell (by show w.heap.size + 2 ≤ w.heap.size + 3; omega) _
  refine ⟨h.t0.keep k2 (by omega), ⟨?_, ?_, by simpa using t1.f0, by simpa using t1.f1⟩, o.set (by show w.heap.size + 3 ≠ g'; omega) _, fun a e => by simp at e; subst e; exact hne, ?_, h.s.keep k2 (by omega), h.k.trans (k2.mono (by omega))⟩
  · rw [World.cell?_setCell_other _ _ _ _ (by simp)]; exact t1.c0
  · rw [List.length_append]; exact World.cell?_setCell_same _ _ _ t1.c1
  · intro z hz
    rcases List.mem_append.1 hz with e | e
    · exact h.v z e
    · simp at e; subst e; exact hy
theorem drawnV_start (w w0 w1 : World) (ad : Option Addr) (cap : Nat) (zs : List Int) (r : Int) (T0 : TwoC w0 w.heap.size (.int .i64 0) (.slice none 0 0)) (k0 : Keep w w0) (h0 : w0.heap.size = w.heap.size + 2)
    (s1 : SrcAt w1 (w.heap.size + 1) ad cap zs 1) (g1 : w0.grownBy w1 (some (w.heap.size + 1))) (e1 : w1.heap.size = w0.heap.size) :
    ∃ W, W = (w1.alloc (.cells #[] 2)).alloc (.cells #[.int .i64 (1 + r), .slice (some ⟨w1.heap.size, 0, none⟩) 0 0] 37) ∧ W.heap.size = w.heap.size + 4 ∧ DrawnV w W ad cap zs 1 (1 + r) (some ⟨w.heap.size + 2, 0, none⟩) 0 [] := by
  have kk : Keep w1 ((w1.alloc (.cells #[] 2)).alloc (.cells #[.int .i64 (1 + r), .slice (some ⟨w1.heap.size, 0, none⟩) 0 0] 37)) := by go_grown
  have hw1 : w1.heap.size = w.heap.size + 2 := by omega
  have t0 := T0.grown g1 (by simp)
  refine ⟨_, rfl, by simp; omega, t0.keep kk t0.lt, ?_, ?_, fun a h => by simp at h; subst h; simp, fun z h => by simp at h, s1.keep kk s1.lt, Keep.next (below_beside k0 g1 k0.size (by omega)) kk⟩
  · have e : w.heap.size + 3 = (w1.alloc (.cells #[] 2)).heap.size := by simp; omega
    rw [e, hw1]
    exact ⟨by simp, by simp, by simp, by simp⟩
  · have := World.ownsRow_lit (base := w.heap.size + 2) (e := 2) (size := 1) w1 #[] 0 (by omega) (by simp) rfl
    rw [hw1] at this
    have o : Own (w1.alloc (.cells #[] 2)) (w.heap.size + 2) (some ⟨w.heap.size + 2, 0, none⟩) 0 [] := ⟨by simpa using this, by simp, by simp⟩
    exact o.keep (by go_grown)
end Go.Proofs.Ytaockgegghmphab
