/- What the laws draw: valid values. -/
import Derived.Test.YtpdcmhnaedhkdaaGreatDoorSrc
import Derived.Test.YtpdcmhnaedhkdaaGreatDoorReadV
import Derived.Deep.LoopGhost
namespace Go.Proofs.YtpdcmhnaedhkdaaGreatDoor
open Go.ChangeShapes Go.WideShapes Go.ChangeAt Go.RowKit
set_option linter.unusedVariables false
theorem one_any (b : Nat) (ad : Option Addr) (cap : Nat) (zs : List Int) (n : Nat) (m : Int) (w : World) (h : SrcAt w b ad cap zs n) (hz : Bytes w ad zs) (hn : n ≤ 1099511627776) (hm : 1 ≤ m) (hm2 : m ≤ 200) :
    Calls Tryz.prog 33 #[.pointer (some ⟨b, 0, none⟩), .int .i64 m] w fun e w' =>
      ∃ r : Bool, e = .returned (.bool r) ∧ SrcAt w' b ad cap zs (n + 1) ∧ w.grownBy w' (some b) ∧ w'.heap.size = w.heap.size := by
  go_enter Tryz.func33, Tryz.ntmps33
  go_wp2_with fail
  refine (pick_any b ad cap zs n m w h hz hn hm hm2).mono ?_
  rintro e w1 ⟨r, r0, r1, rfl, hs, hg, hsz⟩
  have HS := Lib.hid hs; have HG := Lib.hid hg; have HZ := Lib.hid hsz
  clear hs hg hsz
  by_cases h0 : r = 0
  · subst h0
    go_wp2
    go_ret
    exact ⟨true, rfl, HS.out, HG.out, HZ.out⟩
  · go_wp2
    go_ret
    exact ⟨false, ret_bool (by simp [h0]), HS.out, HG.out, HZ.out⟩
theorem Own.beside {w w' : World} {B b : Nat} {ad : Option Addr} {cap : Nat} {zs : List Int} (h : Own w B ad cap zs) (g : w.grownBy w' (some b)) (hb : b < B) : Own w' B ad cap zs := by
  refine ⟨h.1.kept g ?_, h.2⟩
  rcases own_block h.1 with ⟨rfl, _⟩ | ⟨k, rfl, h1, _⟩
  · exact .inl rfl
  · right; simp [Value.ownBlock]; omega
theorem below_beside {w0 w w' : World} {B b : Nat} (h : Below B w0 w) (g : w.grownBy w' (some b)) (hB : B ≤ w.heap.size) (hb : B ≤ b) : Below B w0 w' :=
  h.grown g hB (fun k hk => by simp at hk; omega)
/-- An append of one number at a step of a region that draws its order, and where the new slice lies. -/
theorem step_app2 {ops : Array Oper} {o : Oper} {a : Act} {w : World} {K : Act → World → Prop} {Q : Exit → Act → World → Prop} {E : Prop} (hgd : o.guard = none) (s x : Operand)
    (ho : o.op = .call { callee := .builtin .append, args := #[s, x], argTypes := #[24, 24] })
    (B : Nat) (ad : Option Addr) (cap n : Nat) (zs : List Int) (y : Int) (hs : a.eval s = .slice ad n cap) (hown : Own w B ad cap zs) (hn : n = zs.length) (nb : Nat) (hx : a.eval x = .slice (some ⟨nb, 0, none⟩) 1 1)
    (hc : w.cell? ⟨nb, 0, none⟩ = some (.int .i64 y)) (hy : In64 y) (hl : zs.length < 1099511627776) (hB : B ≤ w.heap.size)
    (h : ∀ g cap' w', Own w' B (some ⟨g, 0, none⟩) cap' (zs ++ [y]) → w.grownBy w' (Value.slice ad n cap).ownBlock → (ad = some ⟨g, 0, none⟩ ∨ w.heap.size ≤ g) → K (a.put o.dst (.slice (some ⟨g, 0, none⟩) (n + 1) cap')) w') :
    if Region.wanted o (yielded ops a.tmps) = true then Oper.wp Tryz.prog o a w K Q else E := by
  obtain ⟨i0, hi, hz0, hz1, hz2⟩ := info_parts Tryz.infoI
  subst hn
  refine step_append_lies w hgd s x 24 ho B 2 i0 (.int .i64 0) 1 8 Tryz.underlying24 hi hz0 hz1 hz2 rfl (by omega) (.slice ad zs.length cap) zs.length (vals zs) hs hown.1 ⟨nb, 0, none⟩ 1 1 [.int .i64 y] hx rfl ?_ ?_ (by omega) (by unfold maxLen; omega) (by omega) hB _ rfl ?_
  · intro j u hj
    match j, hj with
    | 0, hj => simp at hj; subst hj; simpa [Addr.add] using hc
  · intro u hu; simp at hu; subst hu; rfl
  · intro g cap' w' h1 h2 h3 _
    refine h g cap' w' ⟨?_, ?_, ?_⟩ h2 ?_
    · simpa [vals] using h1
    · simp; omega
    · intro z hz; rcases List.mem_append.1 hz with hz | hz
      · exact hown.2.2 z hz
      · simp at hz; subst hz; exact hy
    · rcases own_block hown.1 with ⟨rfl, _⟩ | ⟨k, rfl, _⟩
      · rcases h3 with h3 | h3
        · simp [Value.ownBlock] at h3
        · exact .inr (by omega)
      · rcases h3 with h3 | h3
        · simp [Value.ownBlock] at h3; exact .inl (by rw [h3])
        · exact .inr (by omega)
theorem at_func {P : Program} {ops : Array Oper} {o : Oper} {a : Act} {w : World} {K : Act → World → Prop} {Q : Exit → Act → World → Prop} {E : Prop} (F : Nat) (x : Array Operand) (T : Array TypeId)
    (ho : o.op = .call { callee := .value (.func F), args := x, argTypes := T }) (h : if Region.wanted o (yielded ops a.tmps) = true then Oper.wp P o a w K Q else E) : if Region.wanted o (yielded ops a.tmps) = true then Oper.wp P o a w K Q else E := h
theorem cell_wrapped {w : World} {x y : Int} {t : Nat} (h : IntKind.i64.wrap x = y) : (w.alloc (.cells #[.int .i64 (IntKind.i64.wrap x)] t)).cell? ⟨w.heap.size, 0, none⟩ = some (.int .i64 y) := by rw [h]; simp
theorem Two.grown {W W' : World} {b : Nat} {row : Option Nat} {u0 u1 : Value} (h : Two W b u0 u1) (g : W.grownBy W' row) (hb : some b ≠ row) : Two W' b u0 u1 := by
  have l := h.lt
  have e := g.block b l hb
  exact ⟨(World.cell?_of_block (a := ⟨b, 0, none⟩) e).trans h.c0, (World.cell?_of_block (a := ⟨b, 1, none⟩) e).trans h.c1, (World.frozen?_of_block (a := ⟨b, 0, none⟩) e).trans h.f0, (World.frozen?_of_block (a := ⟨b, 1, none⟩) e).trans h.f1⟩
theorem two_fresh (w1 : World) (E : Obj) (u0 u1 : Value) (T vb : Nat) (h : w1.heap.size = vb + 1) : Two ((w1.alloc E).alloc (.cells #[u0, u1] T)) (vb + 1 + 1) u0 u1 := by
  have e : vb + 1 + 1 = (w1.alloc E).heap.size := by simp; omega
  rw [e]
  exact ⟨by simp, by simp, by simp, by simp⟩
/-- What holds of the world at each round of the values' draw. -/
structure Drawn (w W : World) (sb : Nat) (ad : Option Addr) (cap : Nat) (zs : List Int) (n : Nat) (g : Int) (rd : Option Addr) (rc : Nat) (vs : List Int) : Prop where
  t0 : Two W w.heap.size (.int .i64 0) (.slice none 0 0)
  t1 : Two W (w.heap.size + 1 + 1) (.int .i64 g) (.slice rd vs.length rc)
  o : Own W (w.heap.size + 1) rd rc vs
  ne : ∀ a, rd = some a → a.block ≠ w.heap.size + 1 + 1
  v : ∀ z ∈ vs, -20 ≤ z ∧ z ≤ 39
  s : SrcAt W sb ad cap zs n
  k : w.grownBy W (some sb)
theorem Drawn.more {w W : World} {sb : Nat} {ad : Option Addr} {cap : Nat} {zs : List Int} {n m : Nat} {g : Int} {rd : Option Addr} {rc : Nat} {vs : List Int} (h : Drawn w W sb ad cap zs n g rd rc vs) (hm : n ≤ m) : Drawn w W sb ad cap zs m g rd rc vs :=
  ⟨h.t0, h.t1, h.o, h.ne, h.v, h.s.more hm, h.k⟩
theorem Drawn.pick {w W W' : World} {sb : Nat} {ad : Option Addr} {cap : Nat} {zs : List Int} {n m : Nat} {g : Int} {rd : Option Addr} {rc : Nat} {vs : List Int} (h : Drawn w W sb ad cap zs n g rd rc vs)
    (hsb : sb < w.heap.size) (s : SrcAt W' sb ad cap zs m) (gr : W.grownBy W' (some sb)) : Drawn w W' sb ad cap zs m g rd rc vs :=
  ⟨h.t0.grown gr (by simp; omega), h.t1.grown gr (by simp; omega), h.o.beside gr (by omega), h.ne, h.v, s, grownBy_trans h.k gr⟩
theorem Drawn.keep {w W W' : World} {sb : Nat} {ad : Option Addr} {cap : Nat} {zs : List Int} {n : Nat} {g : Int} {rd : Option Addr} {rc : Nat} {vs : List Int} (h : Drawn w W sb ad cap zs n g rd rc vs)
    (k : Keep W W') : Drawn w W' sb ad cap zs n g rd rc vs :=
  ⟨h.t0.keep k h.t0.lt, h.t1.keep k h.t1.lt, h.o.keep k, h.ne, h.v, h.s.keep k h.s.lt, grownBy_trans h.k (keep_grown k _)⟩
theorem Drawn.app {w W W' : World} {sb : Nat} {ad : Option Addr} {cap : Nat} {zs : List Int} {n : Nat} {g : Int} {rd : Option Addr} {rc : Nat} {vs : List Int} {g' cap' : Nat} {y : Int} (h : Drawn w W sb ad cap zs n g rd rc vs) (hsb : sb < w.heap.size)
    (o : Own W' (w.heap.size + 1) (some ⟨g', 0, none⟩) cap' (vs ++ [y])) (gr : W.grownBy W' (Value.slice rd vs.length rc).ownBlock) (hat : rd = some ⟨g', 0, none⟩ ∨ W.heap.size ≤ g') (hy : -20 ≤ y ∧ y ≤ 39) :
    Two W' (w.heap.size + 1 + 1) (.int .i64 g) (.slice rd vs.length rc) ∧ Drawn w (W'.setCell ⟨w.heap.size + 1 + 1, 1, none⟩ (.slice (some ⟨g', 0, none⟩) (vs.length + 1) cap')) sb ad cap zs n g (some ⟨g', 0, none⟩) cap' (vs ++ [y]) := by
  have l1 := h.t1.lt
  have k1 : Below (w.heap.size + 1) W W' := below_own (Below.refl _ _) h.o gr (by omega) (Nat.le_refl _)
  have hr : some (w.heap.size + 1 + 1) ≠ (Value.slice rd vs.length rc).ownBlock := by
    intro e
    rcases own_block h.o.1 with ⟨rfl, _⟩ | ⟨k, rfl, _⟩
    · simp [Value.ownBlock] at e
    · simp [Value.ownBlock] at e; exact h.ne _ rfl e.symm
  have t1 := h.t1.grown gr hr
  have hne : g' ≠ w.heap.size + 1 + 1 := by
    rcases hat with e | e
    · exact h.ne _ e
    · omega
  refine ⟨t1, ?_⟩
  have k2 : Below (w.heap.size + 1) W (W'.setCell ⟨w.heap.size + 1 + 1, 1, none⟩ (.slice (some ⟨g', 0, none⟩) (vs.length + 1) cap')) := k1.setCell (by show w.heap.size + 1 ≤ w.heap.size + 1 + 1; omega) _
  refine ⟨h.t0.keep k2 (by omega), ⟨?_, ?_, by simpa using t1.f0, by simpa using t1.f1⟩, o.set (by show w.heap.size + 1 + 1 ≠ g'; omega) _, fun a e => by simp at e; subst e; exact hne, ?_, h.s.keep k2 (by omega), ⟨k2.os.trans h.k.os, k2.tape.trans h.k.tape, k2.output.trans h.k.output, Nat.le_trans h.k.size k2.size, fun j hj hr => (k2.block j (by omega)).trans (h.k.block j hj hr)⟩⟩
  · rw [World.cell?_setCell_other _ _ _ _ (by simp)]; exact t1.c0
  · rw [List.length_append]; exact World.cell?_setCell_same _ _ _ t1.c1
  · intro z hz
    rcases List.mem_append.1 hz with e | e
    · exact h.v z e
    · simp at e; subst e; exact hy
set_option maxHeartbeats 3200000 in
set_option maxRecDepth 100000 in
theorem l01DrawOk_any (sb : Nat) (ad : Option Addr) (cap : Nat) (zs : List Int) (w : World) (S0 : SrcAt w sb ad cap zs 0) (hz : Bytes w ad zs) (HA : Hid (∀ a o, ad = some ⟨a, o, none⟩ → zs ≠ [] → a ≠ sb)) :
    Calls Tryz.prog 31 #[.pointer (some ⟨sb, 0, none⟩)] w fun e w' => ∃ (g : Int) (vs : List Int) (rd : Option Addr) (rc : Nat), e = .returned (valV g rd vs.length rc) ∧ Own w' w.heap.size rd rc vs ∧ 1 ≤ g ∧ g ≤ 12 ∧ vs.length ≤ 40 ∧ (∀ z ∈ vs, -20 ≤ z ∧ z ≤ 39) ∧ Below sb w w' := by
  have hsb := S0.lt
  have k0 : Below w.heap.size w (w.alloc (.cells #[.int .i64 0, .slice none 0 0] 26)) := by go_grown
  have T0 : Two (w.alloc (.cells #[.int .i64 0, .slice none 0 0] 26)) w.heap.size (.int .i64 0) (.slice none 0 0) := ⟨by simp, by simp, by simp, by simp⟩
  have hz0 : (w.alloc (.cells #[.int .i64 0, .slice none 0 0] 26)).heap.size = w.heap.size + 1 := by simp
  have S1 := S0.keep k0 hsb
  have z1 := hz.keep k0 (Nat.le_refl _)
  go_enter Tryz.func31, Tryz.ntmps31
  go_wp2_with fail
  generalize w.alloc (.cells #[.int .i64 0, .slice none 0 0] 26) = w0 at *
  refine (pick_any sb ad cap zs 0 12 _ S1 z1 (by omega) (by omega) (by omega)).mono ?_
  rintro e w1 ⟨r, r0, r1, rfl, s1, g1, e1⟩
  go_wp2_with fail
  have hE : ((w1.alloc (.cells #[] 2)).alloc (.cells #[.int .i64 (1 + r), .slice (some ⟨w.heap.size + 1, 0, none⟩) 0 0] 26)).heap.size = w.heap.size + 3 := by simp; omega
  have D0 : Drawn w ((w1.alloc (.cells #[] 2)).alloc (.cells #[.int .i64 (1 + r), .slice (some ⟨w.heap.size + 1, 0, none⟩) 0 0] 26)) sb ad cap zs 1 (1 + r) (some ⟨w.heap.size + 1, 0, none⟩) 0 [] := by
    have kk : Keep w1 ((w1.alloc (.cells #[] 2)).alloc (.cells #[.int .i64 (1 + r), .slice (some ⟨w.heap.size + 1, 0, none⟩) 0 0] 26)) := by go_grown
    have hw1 : w1.heap.size = w.heap.size + 1 := by omega
    have t0 := T0.grown g1 (by simp; omega)
    refine ⟨t0.keep kk t0.lt, two_fresh w1 _ _ _ _ _ hw1, ?_, fun a h => by simp at h; subst h; simp, fun z h => by simp at h, s1.keep kk s1.lt, grownBy_trans (keep_grown k0 _) (grownBy_trans g1 (keep_grown kk _))⟩
    have := World.ownsRow_lit (base := w.heap.size + 1) (e := 2) (size := 1) w1 #[] 0 (by omega) (by simp) rfl
    rw [hw1] at this
    have o : Own (w1.alloc (.cells #[] 2)) (w.heap.size + 1) (some ⟨w.heap.size + 1, 0, none⟩) 0 [] := ⟨by simpa using this, by simp, by simp⟩
    exact o.keep (by go_grown)
  generalize (w1.alloc (.cells #[] 2)).alloc (.cells #[.int .i64 (1 + r), .slice (some ⟨w.heap.size + 1, 0, none⟩) 0 0] 26) = w2 at *
  clear T0 S1 z1 s1 g1 e1 hz0 k0 S0
  refine (one_any sb ad cap zs 1 6 _ D0.s (hz.grown D0.k HA.out) (by omega) (by omega) (by omega)).mono ?_
  rintro e w3 ⟨b1, rfl, s3, g3, e3⟩
  have D3 := Lib.hid (D0.pick hsb s3 g3)
  clear s3 g3 D0
  have hs3 : w3.heap.size = w.heap.size + 3 := by omega
  clear e3 hE
  cases b1
  all_goals
    go_wp2_with fail
    refine (pick_any sb ad cap zs 2 8 _ D3.out.s (hz.grown D3.out.k HA.out) (by omega) (by omega) (by omega)).mono ?_
    rintro e w4 ⟨c, c0, c1, rfl, s4, g4, e4⟩
    have D4 := Lib.hid (D3.out.pick hsb s4 g4)
    have hs4 : w4.heap.size = w.heap.size + 3 := by omega
    clear s4 g4 e4 hs3 D3
    obtain ⟨c, rfl⟩ : ∃ j : Nat, c = j := ⟨c.toNat, by omega⟩
    go_wp2_with fail
    refine (one_any sb ad cap zs 3 24 _ D4.out.s (hz.grown D4.out.k HA.out) (by omega) (by omega) (by omega)).mono ?_
    rintro e w5 ⟨b2, rfl, s5, g5, e5⟩
    have D5 := Lib.hid (D4.out.pick hsb s5 g5)
    have hs5 : w5.heap.size = w.heap.size + 3 := by omega
    clear s5 g5 e5 hs4 D4
    cases b2
    case' false =>
      obtain ⟨m, hm⟩ : ∃ m : Nat, m = c := ⟨_, rfl⟩
      have HM : Hid (m ≤ 40 ∧ Value.int .i64 (c : Int) = .int .i64 (m : Int)) := Lib.hid ⟨by omega, by rw [hm]⟩
    case' true =>
      obtain ⟨m, hm⟩ : ∃ m : Nat, m = 40 := ⟨_, rfl⟩
      have HM : Hid (m ≤ 40 ∧ Value.int .i64 40 = .int .i64 (m : Int)) := Lib.hid ⟨by omega, by rw [hm]; rfl⟩
    all_goals
      clear hm
      go_wp2
      go_loopg [5] m (fun k nn wr => ∃ (vs : List Int) (rd : Option Addr) (rc : Nat), k ≤ 40 ∧ nn = .int .i64 k ∧ vs.length + k ≤ 40 ∧ Hid (Drawn w wr sb ad cap zs (44 - k) (1 + r) rd rc vs) ∧ w.heap.size + 3 ≤ wr.heap.size)
      case atStart =>
        have hm := HM.out.1
        exact ⟨[], _, _, hm, HM.out.2, by simp; omega, Lib.hid (D5.out.more (by omega)), by omega⟩
      case round =>
        obtain ⟨vs, rd, rc, hk4, rfl, hvl, HD, hsz⟩ := hrel
        by_cases hpos : 0 < gk
        · have hp0 : (0 : Int) < gk := by omega
          obtain ⟨c0, c1, f0, f1⟩ := HD.out.t1
          go_wp2
          go_region_law
            (first
              | (refine at_func 55 _ _ rfl ?_; go_simp
                 refine (pick_any sb ad cap zs (44 - gk) 40 _ (HD.out.keep (by go_grown)).s (hz.grown (HD.out.keep (by go_grown)).k HA.out) (by omega) (by omega) (by omega)).mono ?_; rintro e w7 ⟨x, x0, x1, rfl, s7, g7, e7⟩
                 have D7 := Lib.hid ((HD.out.keep (by go_grown)).pick hsb s7 g7)
                 have c7 := D7.out.t1.c1
                 have c7a : ∀ X, (w7.alloc X).cell? ⟨w.heap.size + 1 + 1, 1, none⟩ = some (.slice rd vs.length rc) := fun X => (D7.out.keep (by go_grown)).t1.c1
                 have hs7 : w.heap.size + 3 ≤ w7.heap.size := by rw [e7]; simpa using hsz
                 clear s7 g7 e7
                 have HW := Lib.hid (IntWalk.i64_in x (by omega))
                 have HW2 := Lib.hid (IntWalk.i64_in (x - 20) (by omega)))
              | (first
                  | (refine step_app2 (by rfl) _ _ (by rfl) (w.heap.size + 1) rd rc vs.length vs x (by rfl) (D7.out.keep (by go_grown)).o rfl w7.heap.size (by rfl) (cell_wrapped HW.out) ⟨by omega, by omega⟩ (by omega) (by simp; omega) ?_)
                  | (refine step_app2 (by rfl) _ _ (by rfl) (w.heap.size + 1) rd rc vs.length vs (x - 20) (by rfl) (D7.out.keep (by go_grown)).o rfl w7.heap.size (by rfl) (cell_wrapped HW2.out) ⟨by omega, by omega⟩ (by omega) (by simp; omega) ?_)
                 intro g8 cap8 w8 hown8 hgr8 hat8
                 have D8 := Lib.hid ((D7.out.keep (by go_grown)).app hsb hown8 hgr8 hat8 ⟨by omega, by omega⟩)
                 have c8 := D8.out.1.c1; have f8 := D8.out.1.f1
                 clear hown8 hgr8 hat8))
          all_goals go_wp2
          all_goals
            go_roundg (gk - 1)
            case measure => omega
            case rel =>
              have hs8 := D8.out.2.k.size
              exact ⟨_, _, _, by omega, by go_num, by simp; omega, Lib.hid (D8.out.2.more (by omega)), by have := D8.out.1.lt; simp; omega⟩
        · have h0 : gk = 0 := by omega
          subst h0
          obtain ⟨c0, c1, f0, f1⟩ := HD.out.t1
          obtain ⟨d0, d1, e0, e1⟩ := HD.out.t0
          have q := Two.set (Two.mk d0 d1 e0 e1) (.int .i64 (1 + r)) (.slice rd vs.length rc)
          have HQ0 := Lib.hid q.1; have HQ1 := Lib.hid q.2
          have HO := Lib.hid (HD.out.o)
          go_wp2
          refine bodyPost_ret (v := valV (1 + r) rd vs.length rc) (by simp [results, Tryz.results31, go_sem, HQ0.out, HQ1.out]) rfl ?_
          refine ⟨1 + r, vs, rd, rc, rfl, ?_, by omega, by omega, by omega, HD.out.v, (((below_beside (Below.refl sb w) HD.out.k (by omega) (Nat.le_refl _)).setCell (by show sb ≤ w.heap.size; omega) _).setCell (by show sb ≤ w.heap.size; omega) _)⟩
          rcases own_block HO.out.1 with ⟨rfl, e0, rfl⟩ | ⟨k, rfl, hk, _⟩
          · rw [List.eq_nil_of_length_eq_zero e0]; exact Own.nil _ _
          · exact ((HO.out.set (by show w.heap.size ≠ k; omega) _).set (by show w.heap.size ≠ k; omega) _).mono (by omega)
set_option maxHeartbeats 1600000 in
theorem B10Values_any (ad : Option Addr) (cap : Nat) (zs : List Int) (w : World) (hz : Bytes w ad zs) :
    Calls Tryz.prog 7 #[.slice ad zs.length cap] w fun e w' => ∃ (g : Int) (vs : List Int) (rd : Option Addr) (rc : Nat), e = .returned (valV g rd vs.length rc) ∧ Own w' w.heap.size rd rc vs ∧ 1 ≤ g ∧ g ≤ 12 ∧ vs.length ≤ 40 ∧ (∀ z ∈ vs, -20 ≤ z ∧ z ≤ 39) ∧ Keep w w' := by
  have k0 : Keep w (w.alloc (.cells #[.int .i64 0, .slice none 0 0] 26)) := by go_grown
  have T0 : Two (w.alloc (.cells #[.int .i64 0, .slice none 0 0] 26)) w.heap.size (.int .i64 0) (.slice none 0 0) := ⟨by simp, by simp, by simp, by simp⟩
  have hz0 : (w.alloc (.cells #[.int .i64 0, .slice none 0 0] 26)).heap.size = w.heap.size + 1 := by simp
  go_enter Tryz.func7, Tryz.ntmps7
  go_wp2_with fail
  generalize w.alloc (.cells #[.int .i64 0, .slice none 0 0] 26) = wa at *
  have za := hz.keep k0 (Nat.le_refl _)
  have k1 : Keep wa (wa.alloc (.cells #[.slice ad zs.length cap, .int .i64 0, .int .u64 0] 76)) := by go_grown
  have S0 : SrcAt (wa.alloc (.cells #[.slice ad zs.length cap, .int .i64 0, .int .u64 0] 76)) wa.heap.size ad cap zs 0 :=
    ⟨by simp, ⟨0, Nat.le_refl _, by simp⟩, ⟨0, by omega, by omega, by simp⟩, by simp, by simp⟩
  have z0 := za.keep k1 (Nat.le_refl _)
  have hs1 : (wa.alloc (.cells #[.slice ad zs.length cap, .int .i64 0, .int .u64 0] 76)).heap.size = wa.heap.size + 1 := by simp
  have HA : Hid (∀ a o, ad = some ⟨a, o, none⟩ → zs ≠ [] → a ≠ wa.heap.size) := Lib.hid (fun a o h hne => by
    rcases za.at_ with h1 | ⟨a', o', h1, h2, _⟩
    · exact absurd h1 hne
    · rw [h1] at h; simp at h; omega)
  have HD := Lib.hid (l01DrawOk_any wa.heap.size ad cap zs _ S0 z0 HA)
  have HZ0 := Lib.hid hz0; have HZ1 := Lib.hid hs1; have HK1 := Lib.hid k1; have HK0 := Lib.hid k0; have HT := Lib.hid T0
  clear S0 z0 hz0 k0 k1 T0 za HA hs1
  refine (l00From_any ad cap zs.length wa).mono ?_
  rintro e w0 ⟨rfl, rfl⟩
  go_wp2_with fail
  refine HD.out.mono ?_
  rintro e w1 ⟨g, vs, rd, rc, rfl, ho, g0, g1, hl, hv, k1⟩
  have HO := Lib.hid ho; have HV := Lib.hid hv; have HK := Lib.hid (HK1.out.trans k1)
  have hw0 := HZ0.out
  obtain ⟨d0, d1, e0, e1⟩ := HT.out.keep HK.out HT.out.lt
  have q := Two.set (Two.mk d0 d1 e0 e1) (.int .i64 g) (.slice rd vs.length rc)
  have HQ0 := Lib.hid q.1; have HQ1 := Lib.hid q.2
  have HW0 := Lib.hid hw0
  clear ho hv k1 HD q hw0
  go_wp2
  refine bodyPost_ret (v := valV g rd vs.length rc) (by simp [results, Tryz.results7, go_sem, HQ0.out, HQ1.out]) rfl ?_
  have hw0 := HW0.out
  refine ⟨g, vs, rd, rc, rfl, ?_, g0, g1, hl, HV.out, (((Keep.next HK0.out HK.out).setCell (Nat.le_refl _) _).setCell (Nat.le_refl _) _)⟩
  have h := HO.out
  have hs1 := HZ1.out
  rcases own_block h.1 with ⟨rfl, e0, rfl⟩ | ⟨k, rfl, hk, _⟩
  · rw [List.eq_nil_of_length_eq_zero e0]; exact Own.nil _ _
  · exact ((h.set (by show w.heap.size ≠ k; omega) _).set (by show w.heap.size ≠ k; omega) _).mono (by omega)
end Go.Proofs.YtpdcmhnaedhkdaaGreatDoor
