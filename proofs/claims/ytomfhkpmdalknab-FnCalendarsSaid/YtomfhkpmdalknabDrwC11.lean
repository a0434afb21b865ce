/- What the laws draw: a valid calendar. -/
import Derived.Test.YtomfhkpmdalknabSrc
import Derived.Test.YtomfhkpmdalknabEvS11
import Derived.Test.YtomfhkpmdalknabEvP11
namespace Go.Proofs.Ytomfhkpmdalknab
open Go.ChangeShapes Go.WideShapes Go.ChangeAt Go.RowKit Go.Deep
set_option linter.unusedVariables false
set_option maxHeartbeats 800000 in
theorem pickX_any (b : Nat) (ad : Option Addr) (cap : Nat) (zs : List Int) (n : Nat) (m : Int) (w : World) (h : SrcAt w b ad cap zs n) (hz : Bytes w ad zs) (hz2 : ∀ w', w.grownBy w' (some b) → Bytes w' ad zs) (hn : n ≤ 1000000) (hm : 1 ≤ m) (hm2 : m ≤ 1000) :
    Calls Try.prog 41 #[.pointer (some ⟨b, 0, none⟩), .int .i64 m] w fun e w' =>
      ∃ r : Int, (0 ≤ r ∧ r < m) ∧ e = .returned (.int .i64 r) ∧ SrcAt w' b ad cap zs (n + 2) ∧ w.grownBy w' (some b) ∧ w'.heap.size = w.heap.size := by
  by_cases h1 : m ≤ 200
  · exact (pick_any b ad cap zs n m w h hz (by omega) hm h1).mono fun e w' ⟨r, r0, r1, he, hs, hg, hsz⟩ => ⟨r, ⟨r0, r1⟩, he, hs.more (by omega), hg, hsz⟩
  · go_enter Try.func41, Try.ntmps41
    go_wp2_with fail
    refine (next_any b ad cap zs n w h hz (by omega)).mono ?_
    rintro e w1 ⟨r, r0, r1, rfl, hs, hg, hsz⟩
    have hz1 := hz2 w1 hg
    go_wp2_with fail
    refine (next_any b ad cap zs (n + 1) w1 hs hz1 (by omega)).mono ?_
    rintro e w2 ⟨q, q0, q1, rfl, hs2, hg2, hsz2⟩
    have HS := Lib.hid hs2; have HG := Lib.hid (grownBy_trans hg hg2); have HZ := Lib.hid (hsz2.trans hsz)
    clear hs hg hsz hs2 hg2 hsz2
    have h2 := Int.emod_nonneg (r * 256 + q) (show m ≠ 0 by omega)
    have h3 := Int.emod_lt_of_pos (r * 256 + q) (show 0 < m by omega)
    have HT : Hid ((r * 256 + q).tmod m = (r * 256 + q) % m) := Lib.hid (Int.tmod_eq_emod_of_nonneg (by omega))
    have hm0 : m ≠ 0 := by omega
    go_wp2
    go_ret
    exact ⟨(r * 256 + q) % m, ⟨h2, h3⟩, by first | rfl | (rw [← HT.out]; rfl), HS.out, HG.out, HZ.out⟩
theorem oneX_any (b : Nat) (ad : Option Addr) (cap : Nat) (zs : List Int) (n : Nat) (m : Int) (w : World) (h : SrcAt w b ad cap zs n) (hz : Bytes w ad zs) (hn : n ≤ 1000000) (hm : 1 ≤ m) (hm2 : m ≤ 200) :
    Calls Try.prog 42 #[.pointer (some ⟨b, 0, none⟩), .int .i64 m] w fun e w' =>
      ∃ r : Bool, e = .returned (.bool r) ∧ SrcAt w' b ad cap zs (n + 1) ∧ w.grownBy w' (some b) ∧ w'.heap.size = w.heap.size := by
  go_enter Try.func42, Try.ntmps42
  go_wp2_with fail
  refine (pick_any b ad cap zs n m w h hz (by omega) hm hm2).mono ?_
  rintro e w1 ⟨r, r0, r1, rfl, hs, hg, hsz⟩
  have HS := Lib.hid hs; have HG := Lib.hid hg; have HZ := Lib.hid hsz
  clear hs hg hsz
  by_cases h0 : r = 0
  · subst h0
    go_wp2
    go_ret
    exact ⟨true, rfl, HS.out, HG.out, HZ.out⟩
  · go_wp2
    go_ret
    exact ⟨false, ret_bool (by simp [h0]), HS.out, HG.out, HZ.out⟩
theorem Own.besideX {w w' : World} {B b : Nat} {ad : Option Addr} {cap : Nat} {zs : List Int} (h : Own w B ad cap zs) (g : w.grownBy w' (some b)) (hb : b < B) : Own w' B ad cap zs := by
  refine ⟨h.1.kept g ?_, h.2⟩
  rcases own_block h.1 with ⟨rfl, _⟩ | ⟨k, rfl, h1, _⟩
  · exact .inl rfl
  · right; simp [Value.ownBlock]; omega
theorem ResC.grown {W W' : World} {b s : Nat} {u0 u1 u2 : Value} (h : ResC W b u0 u1 u2) (g : W.grownBy W' (some s)) (hb : b ≠ s) : ResC W' b u0 u1 u2 := by
  have e := g.block b h.lt (by simpa using hb)
  exact ⟨(World.cell?_of_block (a := ⟨b, 0, none⟩) e).trans h.c0, (World.cell?_of_block (a := ⟨b, 1, none⟩) e).trans h.c1, (World.cell?_of_block (a := ⟨b, 2, none⟩) e).trans h.c2, (World.frozen?_of_block (a := ⟨b, 0, none⟩) e).trans h.f0, (World.frozen?_of_block (a := ⟨b, 1, none⟩) e).trans h.f1, (World.frozen?_of_block (a := ⟨b, 2, none⟩) e).trans h.f2⟩
/-- What holds of the world while a calendar is drawn: the source at sb, the result's box at R, both below lo. -/
structure DrC (wb W : World) (sb R lo : Nat) (ad : Option Addr) (cap : Nat) (zs : List Int) (n : Nat) : Prop where
  s : SrcAt W sb ad cap zs n
  r : ResC W R (.int .i64 0) (.int .i64 0) (.slice none 0 0)
  k : Keep wb W
  sg : wb.heap.size ≤ sb
  sR : sb < R
  Rl : R < lo
  ll : lo ≤ W.heap.size
theorem DrC.pick {wb W W' : World} {sb R lo : Nat} {ad : Option Addr} {cap : Nat} {zs : List Int} {n m : Nat} (h : DrC wb W sb R lo ad cap zs n) (s : SrcAt W' sb ad cap zs m) (g : W.grownBy W' (some sb)) : DrC wb W' sb R lo ad cap zs m :=
  ⟨s, h.r.grown g (by have := h.sR; omega), h.k.grown g h.k.size (fun k hk => by simp at hk; have := h.sg; omega), h.sg, h.sR, h.Rl, Nat.le_trans h.ll g.size⟩
theorem DrC.low {wb W W' : World} {sb R lo : Nat} {ad : Option Addr} {cap : Nat} {zs : List Int} {n : Nat} (h : DrC wb W sb R lo ad cap zs n) (k : Below lo W W') : DrC wb W' sb R lo ad cap zs n :=
  ⟨h.s.keep k (by have := h.sR; have := h.Rl; omega), h.r.keep k h.Rl, h.k.trans (k.mono (by have := h.sg; have := h.sR; have := h.Rl; omega)), h.sg, h.sR, h.Rl, Nat.le_trans h.ll k.size⟩
theorem DrC.keep {wb W W' : World} {sb R lo : Nat} {ad : Option Addr} {cap : Nat} {zs : List Int} {n : Nat} (h : DrC wb W sb R lo ad cap zs n) (k : Keep W W') : DrC wb W' sb R lo ad cap zs n := h.low (k.mono h.ll)
theorem DrC.more {wb W : World} {sb R lo : Nat} {ad : Option Addr} {cap : Nat} {zs : List Int} {n m : Nat} (h : DrC wb W sb R lo ad cap zs n) (hm : n ≤ m) : DrC wb W sb R lo ad cap zs m := ⟨h.s.more hm, h.r, h.k, h.sg, h.sR, h.Rl, h.ll⟩
/-- .. and the calendar's box at b, its list from lo on. -/
structure DrD (wb W : World) (sb R lo : Nat) (ad : Option Addr) (cap : Nat) (zs : List Int) (n : Nat) (b : Nat) (g gh : Int) (rd : Option Addr) (rc : Nat) (vs : List Int) : Prop where
  d : DrC wb W sb R lo ad cap zs n
  q : ResC W b (.int .i64 g) (.int .i64 gh) (.slice rd vs.length rc)
  o : Own W lo rd rc vs
  le : lo ≤ b
  ne : ∀ a, rd = some a → a.block ≠ b
theorem DrD.pick {wb W W' : World} {sb R lo : Nat} {ad : Option Addr} {cap : Nat} {zs : List Int} {n m b : Nat} {g gh : Int} {rd : Option Addr} {rc : Nat} {vs : List Int} (h : DrD wb W sb R lo ad cap zs n b g gh rd rc vs) (s : SrcAt W' sb ad cap zs m) (gr : W.grownBy W' (some sb)) : DrD wb W' sb R lo ad cap zs m b g gh rd rc vs := by
  have h1 := h.d.sR; have h2 := h.d.Rl; have h3 := h.le
  exact ⟨h.d.pick s gr, h.q.grown gr (by omega), h.o.besideX gr (by omega), h.le, h.ne⟩
theorem DrD.keep {wb W W' : World} {sb R lo : Nat} {ad : Option Addr} {cap : Nat} {zs : List Int} {n b : Nat} {g gh : Int} {rd : Option Addr} {rc : Nat} {vs : List Int} (h : DrD wb W sb R lo ad cap zs n b g gh rd rc vs) (k : Keep W W') : DrD wb W' sb R lo ad cap zs n b g gh rd rc vs :=
  ⟨h.d.keep k, h.q.keep k h.q.lt, h.o.keep k, h.le, h.ne⟩
theorem DrD.more {wb W : World} {sb R lo : Nat} {ad : Option Addr} {cap : Nat} {zs : List Int} {n m b : Nat} {g gh : Int} {rd : Option Addr} {rc : Nat} {vs : List Int} (h : DrD wb W sb R lo ad cap zs n b g gh rd rc vs) (hm : n ≤ m) : DrD wb W sb R lo ad cap zs m b g gh rd rc vs := ⟨h.d.more hm, h.q, h.o, h.le, h.ne⟩
theorem ResC.put2 {W : World} {b : Nat} {u0 u1 u2 : Value} (h : ResC W b u0 u1 u2) (v : Value) : ResC (W.setCell ⟨b, 2, none⟩ v) b u0 u1 v := by
  refine ⟨?_, ?_, World.cell?_setCell_same _ _ _ h.c2, by simpa using h.f0, by simpa using h.f1, by simpa using h.f2⟩
  · rw [World.cell?_setCell_other _ _ _ _ (by simp)]; exact h.c0
  · rw [World.cell?_setCell_other _ _ _ _ (by simp)]; exact h.c1
theorem DrD.app {wb W W' : World} {sb R lo : Nat} {ad : Option Addr} {cap : Nat} {zs : List Int} {n b : Nat} {g gh : Int} {rd : Option Addr} {rc : Nat} {vs : List Int} {g' cap' : Nat} {y : Int} (h : DrD wb W sb R lo ad cap zs n b g gh rd rc vs)
    (o : Own W' lo (some ⟨g', 0, none⟩) cap' (vs ++ [y])) (gr : W.grownBy W' (Value.slice rd vs.length rc).ownBlock) (hat : rd = some ⟨g', 0, none⟩ ∨ W.heap.size ≤ g') :
    (W'.cell? ⟨b, 2, none⟩ = some (.slice rd vs.length rc) ∧ W'.frozen? ⟨b, 2, none⟩ = false) ∧ DrD wb (W'.setCell ⟨b, 2, none⟩ (.slice (some ⟨g', 0, none⟩) (vs.length + 1) cap')) sb R lo ad cap zs n b g gh (some ⟨g', 0, none⟩) cap' (vs ++ [y]) := by
  have l1 := h.q.lt
  have k1 : Below lo W W' := below_own (Below.refl _ _) h.o gr h.d.ll (Nat.le_refl _)
  have hr : some b ≠ (Value.slice rd vs.length rc).ownBlock := by
    intro e
    rcases own_block h.o.1 with ⟨rfl, _⟩ | ⟨k, rfl, _⟩
    · simp [Value.ownBlock] at e
    · simp [Value.ownBlock] at e; exact h.ne _ rfl e.symm
  have e := gr.block b l1 hr
  have hq : ResC W' b (.int .i64 g) (.int .i64 gh) (.slice rd vs.length rc) := ⟨(World.cell?_of_block (a := ⟨b, 0, none⟩) e).trans h.q.c0, (World.cell?_of_block (a := ⟨b, 1, none⟩) e).trans h.q.c1, (World.cell?_of_block (a := ⟨b, 2, none⟩) e).trans h.q.c2, (World.frozen?_of_block (a := ⟨b, 0, none⟩) e).trans h.q.f0, (World.frozen?_of_block (a := ⟨b, 1, none⟩) e).trans h.q.f1, (World.frozen?_of_block (a := ⟨b, 2, none⟩) e).trans h.q.f2⟩
  have hne : g' ≠ b := by
    rcases hat with e | e
    · exact h.ne _ e
    · omega
  have hle := h.le
  refine ⟨⟨hq.c2, hq.f2⟩, (h.d.low (k1.setCell (p := ⟨b, 2, none⟩) hle _)), ?_, o.set (by show b ≠ g'; omega) _, hle, fun a e => by simp at e; subst e; exact hne⟩
  rw [List.length_append]; exact hq.put2 _
theorem DrD.reset {wb W : World} {sb R lo : Nat} {ad : Option Addr} {cap : Nat} {zs : List Int} {n b : Nat} {g gh : Int} {rd : Option Addr} {rc : Nat} {vs : List Int} (h : DrD wb W sb R lo ad cap zs n b g gh rd rc vs) :
    DrD wb ((W.setCell ⟨b, 2, none⟩ (.slice (some ⟨W.heap.size, 0, none⟩) 0 0)).alloc (.cells #[] 2)) sb R lo ad cap zs n b g gh (some ⟨W.heap.size, 0, none⟩) 0 [] := by
  have hlt := h.q.lt
  obtain ⟨W1, hW1⟩ : ∃ x, x = W.setCell ⟨b, 2, none⟩ (.slice (some ⟨W.heap.size, 0, none⟩) 0 0) := ⟨_, rfl⟩
  have k1 : Below lo W W1 := by rw [hW1]; exact (Below.refl lo W).setCell (p := ⟨b, 2, none⟩) h.le _
  have hq : ResC W1 b (.int .i64 g) (.int .i64 gh) (.slice (some ⟨W.heap.size, 0, none⟩) 0 0) := by rw [hW1]; exact h.q.put2 _
  have hsz : W1.heap.size = W.heap.size := by rw [hW1]; simp
  rw [← hW1]
  have k2 : Keep W1 (W1.alloc (.cells #[] 2)) := by go_grown
  have hd := h.d.low k1
  have o := World.ownsRow_lit (base := lo) (e := 2) (size := 1) W1 #[] 0 hd.ll (by simp) rfl
  rw [hsz] at o
  have o2 : Own (W1.alloc (.cells #[] 2)) lo (some ⟨W.heap.size, 0, none⟩) 0 [] := ⟨by simpa using o, by simp, by simp⟩
  exact ⟨hd.keep k2, hq.keep k2 hq.lt, o2, h.le, fun a e => by simp at e; subst e; show W.heap.size ≠ b; omega⟩
/-- Behind the store of the result. -/
theorem DrD.fin {wb W : World} {sb R lo : Nat} {ad : Option Addr} {cap : Nat} {zs : List Int} {n b : Nat} {g gh : Int} {rd : Option Addr} {rc : Nat} {vs : List Int} (h : DrD wb W sb R lo ad cap zs n b g gh rd rc vs) (v0 v1 v2 : Value) :
    ResC (((W.setCell ⟨R, 0, none⟩ v0).setCell ⟨R, 1, none⟩ v1).setCell ⟨R, 2, none⟩ v2) R v0 v1 v2 ∧ Own (((W.setCell ⟨R, 0, none⟩ v0).setCell ⟨R, 1, none⟩ v1).setCell ⟨R, 2, none⟩ v2) wb.heap.size rd rc vs ∧ Keep wb (((W.setCell ⟨R, 0, none⟩ v0).setCell ⟨R, 1, none⟩ v1).setCell ⟨R, 2, none⟩ v2) := by
  have h1 := h.d.sR; have h2 := h.d.Rl; have h3 := h.d.sg
  exact ⟨h.d.r.put v0 v1 v2, (h.o.set3 h2 v0 v1 v2).mono (by omega), keep_put3 h.d.k (by omega) v0 v1 v2⟩
end Go.Proofs.Ytomfhkpmdalknab
