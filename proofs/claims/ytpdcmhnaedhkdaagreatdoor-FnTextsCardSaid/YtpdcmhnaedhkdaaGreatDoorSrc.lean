/- The models' source of choices: what next and pick return, and what they write. -/
import Derived.Test.YtpdcmhnaedhkdaaGreatDoorMem
namespace Go.Proofs.YtpdcmhnaedhkdaaGreatDoor
open Go.ChangeShapes Go.WideShapes Go.ChangeAt Go.RowKit
set_option linter.unusedVariables false
/-- A source lies in the block b: its bytes, how many choices it has made (at most n), its seed. -/
structure SrcAt (w : World) (b : Nat) (ad : Option Addr) (cap : Nat) (zs : List Int) (n : Nat) : Prop where
  c0 : w.cell? ⟨b, 0, none⟩ = some (.slice ad zs.length cap)
  c1 : ∃ t : Nat, t ≤ n ∧ w.cell? ⟨b, 1, none⟩ = some (.int .i64 t)
  c2 : ∃ u : Int, 0 ≤ u ∧ u ≤ 18446744073709551615 ∧ w.cell? ⟨b, 2, none⟩ = some (.int .u64 u)
  f1 : w.frozen? ⟨b, 1, none⟩ = false
  f2 : w.frozen? ⟨b, 2, none⟩ = false
theorem SrcAt.lt {w : World} {b : Nat} {ad : Option Addr} {cap : Nat} {zs : List Int} {n : Nat} (h : SrcAt w b ad cap zs n) : b < w.heap.size := World.block_lt_of_cell? _ _ h.c0
theorem SrcAt.keep {w w' : World} {b B : Nat} {ad : Option Addr} {cap : Nat} {zs : List Int} {n : Nat} (h : SrcAt w b ad cap zs n) (k : Below B w w') (hb : b < B) : SrcAt w' b ad cap zs n := by
  obtain ⟨c0, ⟨t, ht, c1⟩, ⟨u, hu, hu2, c2⟩, f1, f2⟩ := h
  exact ⟨(k.cell (p := ⟨b, 0, none⟩) hb).trans c0, ⟨t, ht, (k.cell (p := ⟨b, 1, none⟩) hb).trans c1⟩, ⟨u, hu, hu2, (k.cell (p := ⟨b, 2, none⟩) hb).trans c2⟩, (k.frozen (p := ⟨b, 1, none⟩) hb).trans f1, (k.frozen (p := ⟨b, 2, none⟩) hb).trans f2⟩
theorem SrcAt.more {w : World} {b : Nat} {ad : Option Addr} {cap : Nat} {zs : List Int} {n m : Nat} (h : SrcAt w b ad cap zs n) (hm : n ≤ m) : SrcAt w b ad cap zs m := by
  obtain ⟨c0, ⟨t, ht, c1⟩, c2, f1, f2⟩ := h
  exact ⟨c0, ⟨t, by omega, c1⟩, c2, f1, f2⟩
theorem Bytes.grown {w w' : World} {b : Nat} {ad : Option Addr} {zs : List Int} (h : Bytes w ad zs) (g : w.grownBy w' (some b)) (hb : ∀ a o, ad = some ⟨a, o, none⟩ → zs ≠ [] → a ≠ b) : Bytes w' ad zs := by
  refine ⟨h.small, h.wf, ?_⟩
  by_cases h0 : zs = []
  · exact .inl h0
  rcases h.at_ with h1 | ⟨a, off, h1, h2, h3⟩
  · exact .inl h1
  · refine .inr ⟨a, off, h1, Nat.lt_of_lt_of_le h2 g.size, fun i hi => ?_⟩
    rw [World.cell?_of_block (w := w) (g.block a h2 (by have := hb a off h1 h0; simpa using this))]
    exact h3 i hi
theorem code_wp_gen {P : Program} {c : Code} {Q : Exit → Act → World → Prop} {a : Act} {W : World} (h : ∀ W2, W2 = W → Code.wp P c Q a W2) : Code.wp P c Q a W := h W rfl
/-- The two stores of next. -/
theorem src_step {w W2 : World} {b : Nat} {ad : Option Addr} {cap : Nat} {zs : List Int} {n t q : Nat} {u0 : Value} {S : Int} (c0 : w.cell? ⟨b, 0, none⟩ = some (.slice ad zs.length cap)) (c1 : w.cell? ⟨b, 1, none⟩ = some u0) {u1 : Value} (c2 : w.cell? ⟨b, 2, none⟩ = some u1)
    (f1 : w.frozen? ⟨b, 1, none⟩ = false) (f2 : w.frozen? ⟨b, 2, none⟩ = false) (ht : t ≤ n) (h0 : 0 ≤ S) (h1 : S ≤ 18446744073709551615)
    (hW : W2 = ((w.drewN q).setCell ⟨b, 1, none⟩ (.int .i64 ((t : Int) + 1))).setCell ⟨b, 2, none⟩ (.int .u64 S)) :
    SrcAt W2 b ad cap zs (n + 1) ∧ w.grownBy W2 (some b) ∧ W2.heap.size = w.heap.size ∧ W2.cell? ⟨b, 0, none⟩ = some (.slice ad zs.length cap) ∧ W2.cell? ⟨b, 1, none⟩ = some (.int .i64 ((t : Int) + 1)) ∧ W2.cell? ⟨b, 2, none⟩ = some (.int .u64 S) := by
  have e0 : W2.cell? ⟨b, 0, none⟩ = some (.slice ad zs.length cap) := by
    rw [hW, World.cell?_setCell_other _ _ _ _ (by simp), World.cell?_setCell_other _ _ _ _ (by simp), World.cell?_drewN]; exact c0
  have e1 : W2.cell? ⟨b, 1, none⟩ = some (.int .i64 ((t : Int) + 1)) := by
    rw [hW, World.cell?_setCell_other _ _ _ _ (by simp)]; exact World.cell?_setCell_same _ _ _ (by rw [World.cell?_drewN]; exact c1)
  have e2 : W2.cell? ⟨b, 2, none⟩ = some (.int .u64 S) := by
    rw [hW]; exact World.cell?_setCell_same _ _ _ (by rw [World.cell?_setCell_other _ _ _ _ (by simp), World.cell?_drewN]; exact c2)
  refine ⟨⟨e0, ⟨t + 1, by omega, e1⟩, ⟨S, h0, h1, e2⟩, by rw [hW]; simpa using f1, by rw [hW]; simpa using f2⟩, ⟨by rw [hW]; rfl, by rw [hW]; rfl, by rw [hW]; rfl, by rw [hW]; simp, fun j hj hr => ?_⟩, by rw [hW]; simp, e0, e1, e2⟩
  have hjb : j ≠ b := fun e => hr (by rw [e])
  rw [hW, Below.heap_setCell _ _ _ _ (by exact hjb), Below.heap_setCell _ _ _ _ (by exact hjb)]; rfl
theorem wraps63 (n : Int) (h₀ : 0 ≤ n) (h₁ : n < 2 ^ 63) : IntKind.u64.wrap n = n := by rw [IntKind.wrap_u64]; omega
theorem u64_wrap_in (n : Int) : 0 ≤ IntKind.u64.wrap n ∧ IntKind.u64.wrap n ≤ 18446744073709551615 := by
  rw [IntKind.wrap_u64]; omega
set_option maxHeartbeats 3200000 in
theorem next_any (b : Nat) (ad : Option Addr) (cap : Nat) (zs : List Int) (n : Nat) (w : World) (h : SrcAt w b ad cap zs n) (hz : Bytes w ad zs) (hn : n ≤ 1099511627776) :
    Calls Tryz.prog 69 #[.pointer (some ⟨b, 0, none⟩)] w fun e w' =>
      ∃ r : Int, 0 ≤ r ∧ r ≤ 255 ∧ e = .returned (.int .i64 r) ∧ SrcAt w' b ad cap zs (n + 1) ∧ w.grownBy w' (some b) ∧ w'.heap.size = w.heap.size := by
  obtain ⟨c0, ⟨t, ht, c1⟩, ⟨u, hu, hu2, c2⟩, f1, f2⟩ := h
  have hlen := hz.small
  by_cases hlt : t < zs.length
  · rcases hz.at_ with h | ⟨a, off, rfl, hb, hc⟩
    · subst h; simp at hlt
    have hcx := hc t hlt
    have hx := hz.wf _ (getD_mem zs t hlt)
    clear hc
    generalize zs.getD t 0 = x at hcx hx
    go_enter Tryz.func69, Tryz.ntmps69
    go_wp2
    go_quiet (fail)
    go_wp2
    go_quiet (fail)
    go_wp2
    refine code_wp_gen fun W2 hW2 => ?_
    have hS := u64_wrap_in (IntKind.u64.wrap (IntKind.u64.wrap (u * 6364136223846793005) + x) + 1442695040888963407)
    obtain ⟨hsrc, hgr, hsz, e0, e1, e2⟩ := src_step (n := n) c0 c1 c2 f1 f2 ht hS.1 hS.2 hW2
    have HS := Lib.hid hsrc; have HG := Lib.hid hgr; have HZ := Lib.hid hsz
    clear hW2 hsrc hgr hsz c0 c1 c2 f1 f2 hS
    generalize IntKind.u64.wrap (IntKind.u64.wrap (IntKind.u64.wrap (u * 6364136223846793005) + x) + 1442695040888963407) = S at *
    go_quiet (fail)
    go_wp2
    go_ret
    have kd : Below W2.heap.size W2 (W2.drewN nq) := below_drewN (Below.refl _ _) nq
    exact ⟨x, by omega, by omega, rfl, HS.out.keep kd HS.out.lt, grownBy_trans HG.out (keep_grown kd _), HZ.out⟩
  · go_enter Tryz.func69, Tryz.ntmps69
    go_wp2
    go_quiet (fail)
    go_wp2
    refine code_wp_gen fun W2 hW2 => ?_
    have hS := u64_wrap_in (IntKind.u64.wrap (IntKind.u64.wrap (u * 6364136223846793005)) + 1442695040888963407)
    obtain ⟨hsrc, hgr, hsz, e0, e1, e2⟩ := src_step (n := n) c0 c1 c2 f1 f2 ht hS.1 hS.2 hW2
    have HS := Lib.hid hsrc; have HG := Lib.hid hgr; have HZ := Lib.hid hsz
    clear hW2 hsrc hgr hsz c0 c1 c2 f1 f2
    generalize IntKind.u64.wrap (IntKind.u64.wrap (IntKind.u64.wrap (u * 6364136223846793005)) + 1442695040888963407) = S at *
    go_quiet (fail)
    go_wp2
    go_ret
    have kd : Below W2.heap.size W2 (W2.drewN nq) := below_drewN (Below.refl _ _) nq
    have hm := bits_mask .u64 63 (by decide) wraps63 8 (by decide) (S / 1099511627776) (by omega) (by omega)
    have e : ((2 : Int) ^ 8 - 1) = 255 := by decide
    have e2 : ((2 : Int) ^ 8) = 256 := by decide
    rw [e, e2] at hm
    refine ⟨(S / 1099511627776) % 256, by omega, by omega, ?_, HS.out.keep kd HS.out.lt, grownBy_trans HG.out (keep_grown kd _), HZ.out⟩
    show Ending.returned (.int .i64 (wrap64 (bits .and .u64 (S / 1099511627776) 255))) = _
    rw [hm, IntWalk.wrap64_in _ (by omega)]
theorem pick_any (b : Nat) (ad : Option Addr) (cap : Nat) (zs : List Int) (n : Nat) (m : Int) (w : World) (h : SrcAt w b ad cap zs n) (hz : Bytes w ad zs) (hn : n ≤ 1099511627776) (hm : 1 ≤ m) (hm2 : m ≤ 200) :
    Calls Tryz.prog 55 #[.pointer (some ⟨b, 0, none⟩), .int .i64 m] w fun e w' =>
      ∃ r : Int, 0 ≤ r ∧ r < m ∧ e = .returned (.int .i64 r) ∧ SrcAt w' b ad cap zs (n + 1) ∧ w.grownBy w' (some b) ∧ w'.heap.size = w.heap.size := by
  by_cases h1 : m ≤ 1
  · go_enter Tryz.func55, Tryz.ntmps55
    go_wp2
    go_ret
    exact ⟨0, by omega, by omega, rfl, h.more (by omega), World.grownBy.refl _ _, rfl⟩
  · go_enter Tryz.func55, Tryz.ntmps55
    go_wp2_with fail
    refine (next_any b ad cap zs n w h hz hn).mono ?_
    rintro e w1 ⟨r, r0, r1, rfl, hs, hg, hsz⟩
    have HS := Lib.hid hs; have HG := Lib.hid hg; have HZ := Lib.hid hsz
    clear hs hg hsz
    have h2 := Int.emod_nonneg r (show m ≠ 0 by omega)
    have h3 := Int.emod_lt_of_pos r (show 0 < m by omega)
    go_wp2
    go_ret
    exact ⟨r % m, h2, h3, by rw [← Int.tmod_eq_emod_of_nonneg r0]; rfl, HS.out, HG.out, HZ.out⟩
theorem l00From_any (ad : Option Addr) (cap n : Nat) (w : World) :
    Calls Tryz.prog 30 #[.slice ad n cap] w fun e w' => e = .returned (.pointer (some ⟨w.heap.size, 0, none⟩)) ∧ w' = w.alloc (.cells #[.slice ad n cap, .int .i64 0, .int .u64 0] 76) := by
  go_enter Tryz.func30, Tryz.ntmps30
  go_wp2
  go_ret
  exact ⟨rfl, rfl⟩
end Go.Proofs.YtpdcmhnaedhkdaaGreatDoor
