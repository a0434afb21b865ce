/- What the laws draw: a valid system of at most 6 points. -/
import Derived.Test.YtaockgegghmphabDraw8v
import Derived.Test.YtaockgegghmphabDis10
namespace Go.Proofs.Ytaockgegghmphab
open Go.ChangeShapes Go.WideShapes Go.ChangeAt Go.RowKit
set_option linter.unusedVariables false
/-- What holds of the world at each round of a system's draw. -/
structure DrawnS (wb w W : World) (sb : Nat) (ad : Option Addr) (cap : Nat) (zs : List Int) (n : Nat) (g : Int) (rd : Option Addr) (rc : Nat) (vs : List Int) : Prop where
  t0 : TwoC W w.heap.size (.int .i64 0) (.slice none 0 0)
  t1 : TwoC W (w.heap.size + 2) (.int .i64 g) (.slice rd vs.length rc)
  o : Own W (w.heap.size + 1) rd rc vs
  ne : ∀ a, rd = some a → a.block ≠ w.heap.size + 2
  v : ∀ z ∈ vs, 0 ≤ z ∧ z ≤ topS g
  s : SrcAt W sb ad cap zs n
  k : Keep wb W
  sl : sb < w.heap.size
  sg : wb.heap.size ≤ sb
  wl : wb.heap.size ≤ w.heap.size
theorem DrawnS.more {wb w W : World} {sb : Nat} {ad : Option Addr} {cap : Nat} {zs : List Int} {n m : Nat} {g : Int} {rd : Option Addr} {rc : Nat} {vs : List Int} (h : DrawnS wb w W sb ad cap zs n g rd rc vs) (hm : n ≤ m) : DrawnS wb w W sb ad cap zs m g rd rc vs :=
  ⟨h.t0, h.t1, h.o, h.ne, h.v, h.s.more hm, h.k, h.sl, h.sg, h.wl⟩
theorem DrawnS.pick {wb w W W' : World} {sb : Nat} {ad : Option Addr} {cap : Nat} {zs : List Int} {n m : Nat} {g : Int} {rd : Option Addr} {rc : Nat} {vs : List Int} (h : DrawnS wb w W sb ad cap zs n g rd rc vs)
    (s : SrcAt W' sb ad cap zs m) (gr : W.grownBy W' (some sb)) : DrawnS wb w W' sb ad cap zs m g rd rc vs :=
  ⟨h.t0.grown gr (by have := h.sl; simp; omega), h.t1.grown gr (by have := h.sl; simp; omega), h.o.beside gr (by have := h.sl; omega), h.ne, h.v, s, below_beside h.k gr h.k.size h.sg, h.sl, h.sg, h.wl⟩
theorem DrawnS.keep {wb w W W' : World} {sb : Nat} {ad : Option Addr} {cap : Nat} {zs : List Int} {n : Nat} {g : Int} {rd : Option Addr} {rc : Nat} {vs : List Int} (h : DrawnS wb w W sb ad cap zs n g rd rc vs)
    (k : Keep W W') : DrawnS wb w W' sb ad cap zs n g rd rc vs :=
  ⟨h.t0.keep k h.t0.lt, h.t1.keep k h.t1.lt, h.o.keep k, h.ne, h.v, h.s.keep k h.s.lt, Keep.next h.k k, h.sl, h.sg, h.wl⟩
theorem DrawnS.app {wb w W W' : World} {sb : Nat} {ad : Option Addr} {cap : Nat} {zs : List Int} {n : Nat} {g : Int} {rd : Option Addr} {rc : Nat} {vs : List Int} {g' cap' : Nat} {y : Int} (h : DrawnS wb w W sb ad cap zs n g rd rc vs)
    (o : Own W' (w.heap.size + 1) (some ⟨g', 0, none⟩) cap' (vs ++ [y])) (gr : W.grownBy W' (Value.slice rd vs.length rc).ownBlock) (hat : rd = some ⟨g', 0, none⟩ ∨ W.heap.size ≤ g') (hy : 0 ≤ y ∧ y ≤ topS g) :
    TwoC W' (w.heap.size + 2) (.int .i64 g) (.slice rd vs.length rc) ∧ DrawnS wb w (W'.setCell ⟨w.heap.size + 2, 1, none⟩ (.slice (some ⟨g', 0, none⟩) (vs.length + 1) cap')) sb ad cap zs n g (some ⟨g', 0, none⟩) cap' (vs ++ [y]) := by
  have l1 := h.t1.lt
  have k1 : Below (w.heap.size + 1) W W' := below_own (Below.refl _ _) h.o gr (by omega) (Nat.le_refl _)
  have hr : some (w.heap.size + 2) ≠ (Value.slice rd vs.length rc).ownBlock := by
    intro e
    rcases own_block h.o.1 with ⟨rfl, _⟩ | ⟨k, rfl, _⟩
    · simp [Value.ownBlock] at e
    · simp [Value.ownBlock] at e; exact h.ne _ rfl e.symm
  have t1 := h.t1.grown gr hr
  have hne : g' ≠ w.heap.size + 2 := by
    rcases hat with e | e
    · exact h.ne _ e
    · omega
  refine ⟨t1, ?_⟩
  have k2 : Below (w.heap.size + 1) W (W'.setCell ⟨w.heap.size + 2, 1, none⟩ (.slice (some ⟨g', 0, none⟩) (vs.length + 1) cap')) := k1.setCell (by show w.heap.size + 1 ≤ w.heap.size + 2; omega) _
  refine ⟨h.t0.keep k2 (by omega), ⟨?_, ?_, by simpa using t1.f0, by simpa using t1.f1⟩, o.set (by show w.heap.size + 2 ≠ g'; omega) _, fun a e => by simp at e; subst e; exact hne, ?_, h.s.keep k2 (by have := h.sl; omega), h.k.trans (k2.mono (by have := h.wl; omega)), h.sl, h.sg, h.wl⟩
  · rw [World.cell?_setCell_other _ _ _ _ (by simp)]; exact t1.c0
  · rw [List.length_append]; exact World.cell?_setCell_same _ _ _ t1.c1
  · intro z hz
    rcases List.mem_append.1 hz with e | e
    · exact h.v z e
    · simp at e; subst e; exact hy
theorem drawnS_start (wb w w1 : World) (sb : Nat) (ad : Option Addr) (cap : Nat) (zs : List Int) (g : Int) (n : Nat) (T0 : TwoC w1 w.heap.size (.int .i64 0) (.slice none 0 0)) (h1 : w1.heap.size = w.heap.size + 1)
    (s1 : SrcAt w1 sb ad cap zs n) (k1 : Keep wb w1) (sl : sb < w.heap.size) (sg : wb.heap.size ≤ sb) (wl : wb.heap.size ≤ w.heap.size) :
    ∃ W, W = (w1.alloc (.cells #[] 2)).alloc (.cells #[.int .i64 g, .slice (some ⟨w1.heap.size, 0, none⟩) 0 0] 26) ∧ W.heap.size = w.heap.size + 3 ∧ DrawnS wb w W sb ad cap zs n g (some ⟨w.heap.size + 1, 0, none⟩) 0 [] := by
  have kk : Keep w1 ((w1.alloc (.cells #[] 2)).alloc (.cells #[.int .i64 g, .slice (some ⟨w1.heap.size, 0, none⟩) 0 0] 26)) := by go_grown
  refine ⟨_, rfl, by simp; omega, T0.keep kk T0.lt, ?_, ?_, fun a h => by simp at h; subst h; simp, fun z h => by simp at h, s1.keep kk s1.lt, Keep.next k1 kk, sl, sg, wl⟩
  · have e : w.heap.size + 2 = (w1.alloc (.cells #[] 2)).heap.size := by simp; omega
    rw [e, h1]
    exact ⟨by simp, by simp, by simp, by simp⟩
  · have := World.ownsRow_lit (base := w.heap.size + 1) (e := 2) (size := 1) w1 #[] 0 (by omega) (by simp) rfl
    rw [h1] at this
    have o : Own (w1.alloc (.cells #[] 2)) (w.heap.size + 1) (some ⟨w.heap.size + 1, 0, none⟩) 0 [] := ⟨by simpa using this, by simp, by simp⟩
    exact o.keep (by go_grown)
theorem shl6 {g : Int} (h0 : 0 ≤ g) (h1 : g ≤ 6) : IntKind.i64.wrap (2 ^ min (IntKind.u64.wrap g).toNat 64) = topS g + 1 ∧ 1 ≤ topS g + 1 ∧ topS g + 1 ≤ 64 := by
  rcases (by omega : g = 0 ∨ g = 1 ∨ g = 2 ∨ g = 3 ∨ g = 4 ∨ g = 5 ∨ g = 6) with rfl | rfl | rfl | rfl | rfl | rfl | rfl <;> decide
set_option maxHeartbeats 3200000 in
set_option maxRecDepth 100000 in
theorem l10DrawOk_any (wb : World) (sb : Nat) (ad : Option Addr) (cap : Nat) (zs : List Int) (w : World) (hz : Bytes wb ad zs) (kb : Keep wb w) (S0 : SrcAt w sb ad cap zs 0) (sg : wb.heap.size ≤ sb) (HA : ∀ a o, ad = some ⟨a, o, none⟩ → zs ≠ [] → a ≠ sb) :
    Calls Try.prog 47 #[.pointer (some ⟨sb, 0, none⟩), .int .i64 6] w fun e w' => ∃ (g : Int) (vs : List Int) (rd : Option Addr) (rc : Nat), e = .returned (valV g rd vs.length rc) ∧ Own w' wb.heap.size rd rc vs ∧ 0 ≤ g ∧ g ≤ 6 ∧ vs.length ≤ 5 ∧ (∀ z ∈ vs, 0 ≤ z ∧ z ≤ topS g) ∧ Keep wb w' := by
  have k0 : Keep w (w.alloc (.cells #[.int .i64 0, .slice none 0 0] 26)) := by go_grown
  have T0 : TwoC (w.alloc (.cells #[.int .i64 0, .slice none 0 0] 26)) w.heap.size (.int .i64 0) (.slice none 0 0) := ⟨by simp, by simp, by simp, by simp⟩
  have hz0 : (w.alloc (.cells #[.int .i64 0, .slice none 0 0] 26)).heap.size = w.heap.size + 1 := by simp
  have s0 := S0.keep k0 S0.lt
  have sl : sb < w.heap.size := S0.lt
  have kb0 := Keep.next kb k0
  go_enter Try.func47, Try.ntmps47
  go_wp2_with fail
  generalize w.alloc (.cells #[.int .i64 0, .slice none 0 0] 26) = w0 at *
  refine (pick_any sb ad cap zs 0 7 _ s0 (hz.keep kb0 (Nat.le_refl _)) (by omega) (by omega) (by omega)).mono ?_
  rintro e w1 ⟨g, g0, g1, rfl, s1, gr1, e1⟩
  have T1 := T0.grown gr1 (by simp; omega)
  have kb1 : Keep wb w1 := below_beside kb0 gr1 kb0.size sg
  obtain ⟨W, hW, hWs, D0⟩ := drawnS_start wb w w1 sb ad cap zs g 1 T1 (by omega) s1 kb1 sl sg kb.size
  clear T0 T1 s0 s1 gr1 kb1 kb0 k0
  have HD0 := Lib.hid D0; have HW := Lib.hid hW; have HWS := Lib.hid hWs
  have hw1 : w1.heap.size + 1 = w.heap.size + 2 := by omega
  clear D0 hW hWs e1 hz0
  go_wp2_with fail
  rw [← HW.out]
  refine (pick_any sb ad cap zs 1 6 _ HD0.out.s (hz.keep HD0.out.k (Nat.le_refl _)) (by omega) (by omega) (by omega)).mono ?_
  rintro e w4 ⟨c, c0, c1, rfl, s4, g4, e4⟩
  have D4 := Lib.hid (HD0.out.pick s4 g4)
  have hs4 : w4.heap.size = w.heap.size + 3 := by rw [e4]; exact HWS.out
  clear s4 g4 e4 HD0 HW HWS
  obtain ⟨m, rfl⟩ : ∃ j : Nat, c = j := ⟨c.toNat, by omega⟩
  have HT := Lib.hid (shl6 g0 (by omega : g ≤ 6)).1
  have ht1 := (shl6 g0 (by omega : g ≤ 6)).2.1
  have ht2 := (shl6 g0 (by omega : g ≤ 6)).2.2
  go_wp2
  go_loopg [6] m (fun k nn wr => ∃ (vs : List Int) (rd : Option Addr) (rc : Nat), k ≤ 5 ∧ nn = .int .i64 k ∧ vs.length + k ≤ 5 ∧ Hid (DrawnS wb w wr sb ad cap zs (7 - k) g rd rc vs) ∧ w.heap.size + 3 ≤ wr.heap.size)
  case atStart => exact ⟨[], _, _, by omega, rfl, by simp; omega, Lib.hid (D4.out.more (by omega)), by omega⟩
  case round =>
    obtain ⟨vs, rd, rc, hk4, rfl, hvl, HD, hsz⟩ := hrel
    by_cases hpos : 0 < gk
    · have hp0 : (0 : Int) < gk := by omega
      obtain ⟨c0, c1, f0, f1⟩ := HD.out.t1
      have hp := pick_any sb ad cap zs (7 - gk) (topS g + 1) wr.drew (HD.out.keep (by go_grown)).s (hz.keep (HD.out.keep (by go_grown)).k (Nat.le_refl _)) (by omega) (by omega) (by omega)
      have HP := Lib.hid hp
      clear hp
      go_wp2
      go_region_law
        (first
          | (refine atV_func 100 _ _ rfl ?_; go_simp
             rw [HT.out]
             refine HP.out.mono ?_; rintro e w7 ⟨x, x0, x1, rfl, s7, g7, e7⟩
             have D7 := Lib.hid ((HD.out.keep (by go_grown)).pick s7 g7)
             have c7 := D7.out.t1.c1
             have c7a : ∀ X, (w7.alloc X).cell? ⟨w.heap.size + 2, 1, none⟩ = some (.slice rd vs.length rc) := fun X => (D7.out.keep (by go_grown)).t1.c1
             have hs7 : w.heap.size + 3 ≤ w7.heap.size := by rw [e7]; simpa using hsz
             clear s7 g7 e7)
          | (refine stepV_app2 (by rfl) _ _ (by rfl) (w.heap.size + 1) rd rc vs.length vs x (by rfl) (D7.out.keep (by go_grown)).o rfl w7.heap.size (by rfl) (by simp) ⟨by omega, by omega⟩ (by omega) (by simp; omega) ?_
             intro g8 cap8 w8 hown8 hgr8 hat8
             have D8 := Lib.hid ((D7.out.keep (by go_grown)).app hown8 hgr8 hat8 ⟨by omega, by omega⟩)
             have c8 := D8.out.1.c1; have f8 := D8.out.1.f1
             clear hown8 hgr8 hat8))
      all_goals go_wp2
      all_goals
        go_roundg (gk - 1)
        case measure => omega
        case rel =>
          have hs8 := D8.out.2.k.size
          exact ⟨_, _, _, by omega, by go_num, by simp; omega, Lib.hid (D8.out.2.more (by omega)), by have := D8.out.1.lt; simp; omega⟩
    · have h0 : gk = 0 := by omega
      subst h0
      obtain ⟨c0, c1, f0, f1⟩ := HD.out.t1
      obtain ⟨d0, d1, e0, e1⟩ := HD.out.t0
      have q := TwoC.set (TwoC.mk d0 d1 e0 e1) (.int .i64 g) (.slice rd vs.length rc)
      have HQ0 := Lib.hid q.1; have HQ1 := Lib.hid q.2
      have HO := Lib.hid (HD.out.o)
      go_wp2
      refine bodyPost_ret (v := valV g rd vs.length rc) (by simp [results, Try.results47, go_sem, HQ0.out, HQ1.out]) rfl ?_
      have hwl := HD.out.wl
      refine ⟨g, vs, rd, rc, rfl, ?_, by omega, by omega, by omega, HD.out.v, ((HD.out.k.setCell hwl _).setCell hwl _)⟩
      rcases own_block HO.out.1 with ⟨rfl, e0, rfl⟩ | ⟨k, rfl, hk, _⟩
      · rw [List.eq_nil_of_length_eq_zero e0]; exact Own.nil _ _
      · exact ((HO.out.set (by show w.heap.size ≠ k; omega) _).set (by show w.heap.size ≠ k; omega) _).mono (by omega)
set_option maxHeartbeats 3200000 in
set_option maxRecDepth 100000 in
theorem R8System_any (ad : Option Addr) (cap : Nat) (zs : List Int) (w : World) (hz : Bytes w ad zs) :
    Calls Try.prog 11 #[.slice ad zs.length cap] w fun e w' => ∃ (g : Int) (vs : List Int) (rd : Option Addr) (rc : Nat), e = .returned (valV g rd vs.length rc) ∧ Own w' w.heap.size rd rc vs ∧ 0 ≤ g ∧ g ≤ 6 ∧ vs.length ≤ 5 ∧ (∀ z ∈ vs, 0 ≤ z ∧ z ≤ topS g) ∧ Keep w w' := by
  have k0 : Keep w (w.alloc (.cells #[.int .i64 0, .slice none 0 0] 26)) := by go_grown
  have T0 : TwoC (w.alloc (.cells #[.int .i64 0, .slice none 0 0] 26)) w.heap.size (.int .i64 0) (.slice none 0 0) := ⟨by simp, by simp, by simp, by simp⟩
  have hz0 : (w.alloc (.cells #[.int .i64 0, .slice none 0 0] 26)).heap.size = w.heap.size + 1 := by simp
  go_enter Try.func11, Try.ntmps11
  go_wp2_with fail
  generalize w.alloc (.cells #[.int .i64 0, .slice none 0 0] 26) = wa at *
  have za := hz.keep k0 (Nat.le_refl _)
  have k1 : Keep wa (wa.alloc (.cells #[.slice ad zs.length cap, .int .i64 0, .int .u64 0] 128)) := by go_grown
  have S0 : SrcAt (wa.alloc (.cells #[.slice ad zs.length cap, .int .i64 0, .int .u64 0] 128)) wa.heap.size ad cap zs 0 :=
    ⟨by simp, ⟨0, Nat.le_refl _, by simp⟩, ⟨0, by omega, by omega, by simp⟩, by simp, by simp⟩
  have HA : ∀ a o, ad = some ⟨a, o, none⟩ → zs ≠ [] → a ≠ wa.heap.size := (fun a o h hne => by
    rcases za.at_ with h1 | ⟨a', o', h1, h2, _⟩
    · exact absurd h1 hne
    · rw [h1] at h; simp at h; omega)
  refine (l00From_any ad cap zs.length wa).mono ?_
  rintro e w0 ⟨rfl, rfl⟩
  generalize wa.alloc (.cells #[.slice ad zs.length cap, .int .i64 0, .int .u64 0] 128) = w0 at *
  rw [hz0] at S0 HA ⊢
  have HT0 := Lib.hid T0
  clear T0
  have HP := Lib.hid (l10DrawOk_any wa (w.heap.size + 1) ad cap zs w0 za k1 S0 (by omega) HA)
  have HK0 := Lib.hid k0
  clear k1 S0 HA za k0
  go_wp2_with fail
  refine HP.out.mono ?_
  rintro e w1 ⟨g, vs, rd, rc, rfl, O1, g0, g6, hl, hv, kk1⟩
  obtain ⟨d0, d1, e0, e1⟩ := HT0.out.keep kk1 HT0.out.lt
  have q := TwoC.set (TwoC.mk d0 d1 e0 e1) (.int .i64 g) (.slice rd vs.length rc)
  have HQ0 := Lib.hid q.1; have HQ1 := Lib.hid q.2
  have HO := Lib.hid O1; have HV := Lib.hid hv
  have kk2 := Lib.hid (Keep.next HK0.out kk1)
  clear O1 hv kk1 HT0 HP HK0 q
  go_wp2
  refine bodyPost_ret (v := valV g rd vs.length rc) (by simp [results, Try.results11, go_sem, HQ0.out, HQ1.out]) rfl ?_
  refine ⟨g, vs, rd, rc, rfl, ?_, by omega, by omega, by omega, HV.out, ((kk2.out.setCell (Nat.le_refl _) _).setCell (Nat.le_refl _) _)⟩
  rcases own_block HO.out.1 with ⟨rfl, e0, rfl⟩ | ⟨k, rfl, hk, _⟩
  · rw [List.eq_nil_of_length_eq_zero e0]; exact Own.nil _ _
  · exact ((HO.out.set (by show w.heap.size ≠ k; omega) _).set (by show w.heap.size ≠ k; omega) _).mono (by omega)
end Go.Proofs.Ytaockgegghmphab
