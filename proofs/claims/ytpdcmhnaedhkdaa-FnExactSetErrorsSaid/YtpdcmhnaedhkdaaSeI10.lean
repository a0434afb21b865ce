/- Errors of sets for a rounding: the program's. -/
import Derived.Test.YtpdcmhnaedhkdaaSeP10
import Derived.Test.YtpdcmhnaedhkdaaSysI
import Derived.Test.YtpdcmhnaedhkdaaFam4
import Derived.Test.YtpdcmhnaedhkdaaMap10
import Derived.Test.YtpdcmhnaedhkdaaHold
import Derived.Deep.LoopGhost
import Derived.Deep.QuietTactic
import Derived.BigQuiet
namespace Go.Proofs.Ytpdcmhnaedhkdaa
open Go.ChangeShapes Go.WideShapes Go.ChangeAt Go.RowKit Go.Deep
set_option linter.unusedVariables false
/-- A system and values, as one struct. -/
abbrev vlV (g : Int) (ad : Option Addr) (n cap : Nat) (d : Int) (vd : Option Addr) (m vc : Nat) : Value := .agg #[.int .i64 g, .slice ad n cap, .int .i64 d, .slice vd m vc]
theorem put4 {W : World} {R : Nat} {u0 u1 u2 u3 : Value} (a b c e : Value) (r0 : W.cell? ⟨R, 0, none⟩ = some u0) (r1 : W.cell? ⟨R, 1, none⟩ = some u1) (r2 : W.cell? ⟨R, 2, none⟩ = some u2) (r3 : W.cell? ⟨R, 3, none⟩ = some u3) :
    ((((W.setCell ⟨R, 0, none⟩ a).setCell ⟨R, 1, none⟩ b).setCell ⟨R, 2, none⟩ c).setCell ⟨R, 3, none⟩ e).cell? ⟨R, 0, none⟩ = some a ∧ ((((W.setCell ⟨R, 0, none⟩ a).setCell ⟨R, 1, none⟩ b).setCell ⟨R, 2, none⟩ c).setCell ⟨R, 3, none⟩ e).cell? ⟨R, 1, none⟩ = some b ∧
    ((((W.setCell ⟨R, 0, none⟩ a).setCell ⟨R, 1, none⟩ b).setCell ⟨R, 2, none⟩ c).setCell ⟨R, 3, none⟩ e).cell? ⟨R, 2, none⟩ = some c ∧ ((((W.setCell ⟨R, 0, none⟩ a).setCell ⟨R, 1, none⟩ b).setCell ⟨R, 2, none⟩ c).setCell ⟨R, 3, none⟩ e).cell? ⟨R, 3, none⟩ = some e := by
  have s1 : (W.setCell ⟨R, 0, none⟩ a).cell? ⟨R, 1, none⟩ = some u1 := by rw [World.cell?_setCell_other _ _ _ _ (by simp)]; exact r1
  have s2 : ((W.setCell ⟨R, 0, none⟩ a).setCell ⟨R, 1, none⟩ b).cell? ⟨R, 2, none⟩ = some u2 := by rw [World.cell?_setCell_other _ _ _ _ (by simp), World.cell?_setCell_other _ _ _ _ (by simp)]; exact r2
  have s3 : (((W.setCell ⟨R, 0, none⟩ a).setCell ⟨R, 1, none⟩ b).setCell ⟨R, 2, none⟩ c).cell? ⟨R, 3, none⟩ = some u3 := by rw [World.cell?_setCell_other _ _ _ _ (by simp), World.cell?_setCell_other _ _ _ _ (by simp), World.cell?_setCell_other _ _ _ _ (by simp)]; exact r3
  refine ⟨?_, ?_, ?_, World.cell?_setCell_same _ _ _ s3⟩
  · rw [World.cell?_setCell_other _ _ _ _ (by simp), World.cell?_setCell_other _ _ _ _ (by simp), World.cell?_setCell_other _ _ _ _ (by simp)]; exact World.cell?_setCell_same _ _ _ r0
  · rw [World.cell?_setCell_other _ _ _ _ (by simp), World.cell?_setCell_other _ _ _ _ (by simp)]; exact World.cell?_setCell_same _ _ _ s1
  · rw [World.cell?_setCell_other _ _ _ _ (by simp)]; exact World.cell?_setCell_same _ _ _ s2
theorem seC_any (z : Int) (eb : Nat) (ed : Option Addr) (ec : Nat) (E : List Int) (w : World) (hz : 0 ≤ z ∧ z < 4096) (c0 : w.cell? ⟨eb, 0, none⟩ = some (.slice ed E.length ec)) (hE : Ints w ed E) (hl : E.length ≤ 40) (hb : ∀ x ∈ E, -1000 ≤ x ∧ x ≤ 1000) :
    Calls Try.prog 114 #[.int .i64 z, .pointer (some ⟨eb, 0, none⟩)] w fun e w' => e = .returned (.int .i64 (selS E z.toNat E.length)) ∧ w = w' := by
  obtain ⟨m, rfl⟩ : ∃ m : Nat, z = m := ⟨z.toNat, by omega⟩
  rw [Int.toNat_natCast]
  have e0 : IntKind.u64.wrap (m : Int) = (m : Int) := by rw [IntKind.wrap_u64]; omega
  have HQ := Lib.hid (fun W (h : Ints W ed E) => sumOf_any m (by omega) ed ec E W h hl (fun x hx => by have := hb x hx; omega))
  go_enter Try.func114, Try.ntmps114
  go_wp2_with (go_at_call 115; refine (HQ.out _ hE).mono ?_; rintro e w' ⟨rfl, rfl⟩)
  go_ret
  exact ⟨rfl, rfl⟩
set_option maxHeartbeats 3200000 in
set_option maxRecDepth 100000 in
theorem valuedOf_any (g : Int) (ad : Option Addr) (cap : Nat) (zs : List Int) (d : Int) (vd : Option Addr) (vc : Nat) (ns : List Int) (w : World) (hz : Ints w ad zs) (hn : Ints w vd ns) :
    Calls Try.prog 70 #[valV g ad zs.length cap, valV d vd ns.length vc] w fun e w' => e = .returned (.tuple #[vlV g ad zs.length cap d vd ns.length vc, .bool (bothB g zs d ns)]) ∧ Keep w w' := by
  have hnl := hn.small
  obtain ⟨W0, hW0⟩ : ∃ W0, W0 = ((w.alloc (.cells #[.int .i64 g, .slice ad zs.length cap] 55)).alloc (.cells #[.int .i64 d, .slice vd ns.length vc] 57)).alloc (.cells #[.int .i64 0, .slice none 0 0, .int .i64 0, .slice none 0 0] 109) := ⟨_, rfl⟩
  have K0 : Keep w W0 := by rw [hW0]; go_grown
  have hsz : W0.heap.size = w.heap.size + 3 := by rw [hW0]; simp
  have HX0 : Hid ((W0.cell? ⟨w.heap.size, 0, none⟩ = some (.int .i64 g) ∧ W0.cell? ⟨w.heap.size, 1, none⟩ = some (.slice ad zs.length cap)) ∧ W0.cell? ⟨w.heap.size + 1, 0, none⟩ = some (.int .i64 d) ∧ W0.cell? ⟨w.heap.size + 1, 1, none⟩ = some (.slice vd ns.length vc)) := Lib.hid (by rw [hW0]; exact ⟨⟨by simp [go_sem], by simp [go_sem]⟩, by simp [go_sem], by simp [go_sem]⟩)
  have HR0 : Hid (W0.cell? ⟨w.heap.size + 1 + 1, 0, none⟩ = some (.int .i64 0) ∧ W0.cell? ⟨w.heap.size + 1 + 1, 1, none⟩ = some (.slice none 0 0) ∧ W0.cell? ⟨w.heap.size + 1 + 1, 2, none⟩ = some (.int .i64 0) ∧ W0.cell? ⟨w.heap.size + 1 + 1, 3, none⟩ = some (.slice none 0 0) ∧ W0.frozen? ⟨w.heap.size + 1 + 1, 0, none⟩ = false ∧ W0.frozen? ⟨w.heap.size + 1 + 1, 1, none⟩ = false ∧ W0.frozen? ⟨w.heap.size + 1 + 1, 2, none⟩ = false ∧ W0.frozen? ⟨w.heap.size + 1 + 1, 3, none⟩ = false) := Lib.hid (by
    rw [hW0]; exact ⟨by simp [go_sem], by simp [go_sem], by simp [go_sem], by simp [go_sem], by simp [go_sem], by simp [go_sem], by simp [go_sem], by simp [go_sem]⟩)
  have HW0 := Lib.hid hW0
  clear hW0
  obtain ⟨BB, hBB⟩ : ∃ BB, bothB g zs d ns = BB := ⟨_, rfl⟩
  rw [hBB]
  have HBB := Lib.hid hBB
  clear hBB
  go_enter Try.func70, Try.ntmps70
  go_wp2_with fail
  rw [← HW0.out]
  generalize hX : w.heap.size = X at *
  have HR : Hid (∀ W, Keep W0 W → W.cell? ⟨X + 1 + 1, 0, none⟩ = some (.int .i64 0) ∧ W.cell? ⟨X + 1 + 1, 1, none⟩ = some (.slice none 0 0) ∧ W.cell? ⟨X + 1 + 1, 2, none⟩ = some (.int .i64 0) ∧ W.cell? ⟨X + 1 + 1, 3, none⟩ = some (.slice none 0 0) ∧ W.frozen? ⟨X + 1 + 1, 0, none⟩ = false ∧ W.frozen? ⟨X + 1 + 1, 1, none⟩ = false ∧ W.frozen? ⟨X + 1 + 1, 2, none⟩ = false ∧ W.frozen? ⟨X + 1 + 1, 3, none⟩ = false) := Lib.hid (fun W k => by
    obtain ⟨hc, hf⟩ := bcell k
    rw [hc _ _ (by omega), hc _ _ (by omega), hc _ _ (by omega), hc _ _ (by omega), hf _ _ (by omega), hf _ _ (by omega), hf _ _ (by omega), hf _ _ (by omega)]
    exact HR0.out)
  have HS : Hid (∀ W, Keep W0 W → (fun W => (((W.cell? ⟨X, 0, none⟩ = some (.int .i64 g) ∧ W.cell? ⟨X, 1, none⟩ = some (.slice ad zs.length cap)) ∧ W.cell? ⟨X + 1, 0, none⟩ = some (.int .i64 d) ∧ W.cell? ⟨X + 1, 1, none⟩ = some (.slice vd ns.length vc)) ∧ Keep w W)) W) := Lib.hid (fun W k => by
    obtain ⟨hc, hf⟩ := bcell k
    refine ⟨?_, K0.next k⟩
    rw [hc _ _ (by omega), hc _ _ (by omega), hc _ _ (by omega), hc _ _ (by omega)]
    exact HX0.out)
  have HSW : Hid (∀ W a b c e, (fun W => (((W.cell? ⟨X, 0, none⟩ = some (.int .i64 g) ∧ W.cell? ⟨X, 1, none⟩ = some (.slice ad zs.length cap)) ∧ W.cell? ⟨X + 1, 0, none⟩ = some (.int .i64 d) ∧ W.cell? ⟨X + 1, 1, none⟩ = some (.slice vd ns.length vc)) ∧ Keep w W)) W → (fun W => (((W.cell? ⟨X, 0, none⟩ = some (.int .i64 g) ∧ W.cell? ⟨X, 1, none⟩ = some (.slice ad zs.length cap)) ∧ W.cell? ⟨X + 1, 0, none⟩ = some (.int .i64 d) ∧ W.cell? ⟨X + 1, 1, none⟩ = some (.slice vd ns.length vc)) ∧ Keep w W)) ((((W.setCell ⟨X + 1 + 1, 0, none⟩ a).setCell ⟨X + 1 + 1, 1, none⟩ b).setCell ⟨X + 1 + 1, 2, none⟩ c).setCell ⟨X + 1 + 1, 3, none⟩ e)) := Lib.hid (fun W a b c e s => by
    obtain ⟨⟨⟨s0, s1⟩, s2, s3⟩, s4⟩ := s
    refine ⟨⟨⟨?_, ?_⟩, ?_, ?_⟩, (((s4.setCell (p := ⟨X + 1 + 1, 0, none⟩) (by rw [hX]; simp; omega) _).setCell (p := ⟨X + 1 + 1, 1, none⟩) (by rw [hX]; simp; omega) _).setCell (p := ⟨X + 1 + 1, 2, none⟩) (by rw [hX]; simp; omega) _).setCell (p := ⟨X + 1 + 1, 3, none⟩) (by rw [hX]; simp; omega) _⟩
    · rw [World.cell?_setCell_other _ _ _ _ (by simp), World.cell?_setCell_other _ _ _ _ (by simp), World.cell?_setCell_other _ _ _ _ (by simp), World.cell?_setCell_other _ _ _ _ (by simp)]; exact s0
    · rw [World.cell?_setCell_other _ _ _ _ (by simp), World.cell?_setCell_other _ _ _ _ (by simp), World.cell?_setCell_other _ _ _ _ (by simp), World.cell?_setCell_other _ _ _ _ (by simp)]; exact s1
    · rw [World.cell?_setCell_other _ _ _ _ (by simp), World.cell?_setCell_other _ _ _ _ (by simp), World.cell?_setCell_other _ _ _ _ (by simp), World.cell?_setCell_other _ _ _ _ (by simp)]; exact s2
    · rw [World.cell?_setCell_other _ _ _ _ (by simp), World.cell?_setCell_other _ _ _ _ (by simp), World.cell?_setCell_other _ _ _ _ (by simp), World.cell?_setCell_other _ _ _ _ (by simp)]; exact s3)
  have HVS := Lib.hid (fun W (k : Keep W0 W) => ValidSystem_any g ad cap zs W (hz.keep (K0.next k) (by omega)))
  have HVV := Lib.hid (fun W (k : Keep W0 W) => ValidValues_any d vd vc ns W (hn.keep (K0.next k) (by omega)))
  clear hz hn HX0 HR0 HW0 K0
  cases h1 : okS g zs
  case false =>
    rw [h1] at HVS
    refine wp_region_held_drew (S := (fun W => (((W.cell? ⟨X, 0, none⟩ = some (.int .i64 g) ∧ W.cell? ⟨X, 1, none⟩ = some (.slice ad zs.length cap)) ∧ W.cell? ⟨X + 1, 0, none⟩ = some (.int .i64 d) ∧ W.cell? ⟨X + 1, 1, none⟩ = some (.slice vd ns.length vc)) ∧ Keep w W))) (by kernel_rfl) ?_ (fun hHeld => ?_)
    · first | exact HS.out _ (by go_grown) | exact HS.out _ (Keep.next (by go_grown) k1)
    refine takeH (v := ?_) 0 6 rfl rfl (by kernel_rfl) (by kernel_rfl) (by kernel_rfl) (fun _ _ _ h => h) (by rfl) (by assumption) ?_ ?_
    rotate_left 1
    · (intro W_ hSw; (try dsimp only at hSw); go_simp; try with_reducible rfl)
    try simp only [Act.put, List.setIfInBounds_toArray, List.set_cons_zero, List.set_cons_succ]
    refine takeH (v := ?_) 1 7 rfl rfl (by kernel_rfl) (by kernel_rfl) (by kernel_rfl) (fun _ _ _ h => h) (by rfl) (by assumption) ?_ ?_
    rotate_left 1
    · (intro W_ hSw; (try dsimp only at hSw); go_simp; try with_reducible rfl)
    try simp only [Act.put, List.setIfInBounds_toArray, List.set_cons_zero, List.set_cons_succ]
    refine takeH (v := ?_) 2 8 rfl rfl (by kernel_rfl) (by kernel_rfl) (by kernel_rfl) (fun _ _ _ h => h) (by rfl) (by assumption) ?_ ?_
    rotate_left 1
    · (intro W_ hSw; (try dsimp only at hSw); go_simp; try with_reducible rfl)
    try simp only [Act.put, List.setIfInBounds_toArray, List.set_cons_zero, List.set_cons_succ]
    refine takeH (v := ?_) 3 9 rfl rfl (by kernel_rfl) (by kernel_rfl) (by kernel_rfl) (fun _ _ _ h => h) (by rfl) (by assumption) ?_ ?_
    rotate_left 1
    · (intro W_ hSw; (try dsimp only at hSw); go_simp; try with_reducible rfl)
    try simp only [Act.put, List.setIfInBounds_toArray, List.set_cons_zero, List.set_cons_succ]
    refine wpAnyH_ready (rs := [4]) (by kernel_rfl) (by simp) ?_
    refine AllReadyH.cons rfl (fun K hK => ?_) AllReadyH.nil
    first | (first | (go_at_call 109; refine (HVS.out _ (by go_grown)).mono ?_; rintro e w1 ⟨rfl, k1⟩) | (go_at_call 82; refine (HVV.out _ (Keep.next (by go_grown) k1)).mono ?_; rintro e w2 ⟨rfl, k2⟩)) | (go_simp; first | (go_at_call 109; refine (HVS.out _ (by go_grown)).mono ?_; rintro e w1 ⟨rfl, k1⟩) | (go_at_call 82; refine (HVV.out _ (Keep.next (by go_grown) k1)).mono ?_; rintro e w2 ⟨rfl, k2⟩))
    try (go_wp2_with fail)
    refine hK.out _ _ ?_ (fun hHeld => ?_)
    · first | exact HS.out _ (Keep.next (by go_grown) k1) | exact HS.out _ (by assumption) | exact HS.out _ (by go_grown)
    clear hK K
    try simp only [Act.put, List.setIfInBounds_toArray, List.set_cons_zero, List.set_cons_succ]
    refine takeH (v := ?_) 5 11 rfl rfl (by kernel_rfl) (by kernel_rfl) (by kernel_rfl) (fun _ _ _ h => h) (by rfl) (by assumption) ?_ ?_
    rotate_left 1
    · (intro W_ hSw; (try dsimp only at hSw); go_simp; try with_reducible rfl)
    try simp only [Act.put, List.setIfInBounds_toArray, List.set_cons_zero, List.set_cons_succ]
    refine skipH 6 12 rfl rfl (by kernel_rfl) (by kernel_rfl) (by kernel_rfl) (fun _ _ _ h => h) (by rfl) (by assumption) ?_
    try simp only [Act.put, List.setIfInBounds_toArray, List.set_cons_zero, List.set_cons_succ]
    refine skipH 7 13 rfl rfl (by kernel_rfl) (by kernel_rfl) (by kernel_rfl) (fun _ _ _ h => h) (by rfl) (by assumption) ?_
    try simp only [Act.put, List.setIfInBounds_toArray, List.set_cons_zero, List.set_cons_succ]
    refine takeH (v := ?_) 8 14 rfl rfl (by kernel_rfl) (by kernel_rfl) (by kernel_rfl) (fun _ _ _ h => h) (by rfl) (by assumption) ?_ ?_
    rotate_left 1
    · (intro W_ hSw; (try dsimp only at hSw); go_simp; try with_reducible rfl)
    try simp only [Act.put, List.setIfInBounds_toArray, List.set_cons_zero, List.set_cons_succ]
    refine takeH (v := ?_) 9 15 rfl rfl (by kernel_rfl) (by kernel_rfl) (by kernel_rfl) (fun _ _ _ h => h) (by rfl) (by assumption) ?_ ?_
    rotate_left 1
    · (intro W_ hSw; (try dsimp only at hSw); go_simp; try with_reducible rfl)
    try simp only [Act.put, List.setIfInBounds_toArray, List.set_cons_zero, List.set_cons_succ]
    refine skipH 10 16 rfl rfl (by kernel_rfl) (by kernel_rfl) (by kernel_rfl) (fun _ _ _ h => h) (by rfl) (by assumption) ?_
    try simp only [Act.put, List.setIfInBounds_toArray, List.set_cons_zero, List.set_cons_succ]
    refine skipH 11 17 rfl rfl (by kernel_rfl) (by kernel_rfl) (by kernel_rfl) (fun _ _ _ h => h) (by rfl) (by assumption) ?_
    try simp only [Act.put, List.setIfInBounds_toArray, List.set_cons_zero, List.set_cons_succ]
    refine skipH 12 18 rfl rfl (by kernel_rfl) (by kernel_rfl) (by kernel_rfl) (fun _ _ _ h => h) (by rfl) (by assumption) ?_
    try simp only [Act.put, List.setIfInBounds_toArray, List.set_cons_zero, List.set_cons_succ]
    refine skipH 13 19 rfl rfl (by kernel_rfl) (by kernel_rfl) (by kernel_rfl) (fun _ _ _ h => h) (by rfl) (by assumption) ?_
    try simp only [Act.put, List.setIfInBounds_toArray, List.set_cons_zero, List.set_cons_succ]
    refine skipH 14 20 rfl rfl (by kernel_rfl) (by kernel_rfl) (by kernel_rfl) (fun _ _ _ h => h) (by rfl) (by assumption) ?_
    try simp only [Act.put, List.setIfInBounds_toArray, List.set_cons_zero, List.set_cons_succ]
    refine skipH 15 21 rfl rfl (by kernel_rfl) (by kernel_rfl) (by kernel_rfl) (fun _ _ _ h => h) (by rfl) (by assumption) ?_
    try simp only [Act.put, List.setIfInBounds_toArray, List.set_cons_zero, List.set_cons_succ]
    refine takeH (v := ?_) 16 22 rfl rfl (by kernel_rfl) (by kernel_rfl) (by kernel_rfl) (fun _ _ _ h => h) (by rfl) (by assumption) ?_ ?_
    rotate_left 1
    · (intro W_ hSw; (try dsimp only at hSw); go_simp; try with_reducible rfl)
    try simp only [Act.put, List.setIfInBounds_toArray, List.set_cons_zero, List.set_cons_succ]
    refine wpAnyH_ready (rs := [17]) (by kernel_rfl) (by simp) ?_
    refine AllReadyH.cons rfl (fun K hK => ?_) AllReadyH.nil
    obtain ⟨r0, r1, r2, r3, f0, f1, f2, f3⟩ := HR.out _ (Keep.next (by go_grown) k1)
    go_simp
    refine hK.out _ _ ?_ (fun hHeld => ?_)
    · exact HSW.out _ _ _ _ _ hHeld
    clear hK K
    try simp only [Act.put, List.setIfInBounds_toArray, List.set_cons_zero, List.set_cons_succ]
    refine takeH (v := ?_) 18 5 rfl rfl (by kernel_rfl) (by kernel_rfl) (by kernel_rfl) (fun _ _ _ h => h) (by rfl) (by assumption) ?_ ?_
    rotate_left 1
    · (intro W_ hSw; (try dsimp only at hSw); go_simp; try with_reducible rfl)
    try simp only [Act.put, List.setIfInBounds_toArray, List.set_cons_zero, List.set_cons_succ]
    refine wpAnyH_done (by kernel_rfl) ?_ _
    have PP := put4 (.int .i64 g) (.slice ad zs.length cap) (.int .i64 d) (.slice vd ns.length vc) r0 r1 r2 r3
    clear r0 r1 r2 r3 f0 f1 f2 f3
    generalize (((w1.setCell ⟨X + 1 + 1, 0, none⟩ (.int .i64 g)).setCell ⟨X + 1 + 1, 1, none⟩ (.slice ad zs.length cap)).setCell ⟨X + 1 + 1, 2, none⟩ (.int .i64 d)).setCell ⟨X + 1 + 1, 3, none⟩ (.slice vd ns.length vc) = Wf at *
    obtain ⟨e0, e1, e2, e3⟩ := PP
    go_wp2 
    refine bodyPost_ret (v := .tuple #[vlV g ad zs.length cap d vd ns.length vc, .bool false]) (by simp [results, Try.results70, go_sem, e0, e1, e2, e3]) rfl ?_
    exact ⟨by rw [show BB = false from by rw [← HBB.out]; unfold bothB; rw [h1]; rfl], hHeld.2⟩
  rw [h1] at HVS
  cases h2 : okV d ns
  case false =>
    rw [h2] at HVV
    refine wp_region_held_drew (S := (fun W => (((W.cell? ⟨X, 0, none⟩ = some (.int .i64 g) ∧ W.cell? ⟨X, 1, none⟩ = some (.slice ad zs.length cap)) ∧ W.cell? ⟨X + 1, 0, none⟩ = some (.int .i64 d) ∧ W.cell? ⟨X + 1, 1, none⟩ = some (.slice vd ns.length vc)) ∧ Keep w W))) (by kernel_rfl) ?_ (fun hHeld => ?_)
    · first | exact HS.out _ (by go_grown) | exact HS.out _ (Keep.next (Keep.next (by go_grown) k1) k2) | exact HS.out _ (Keep.next (by go_grown) k1)
    refine takeH (v := ?_) 0 6 rfl rfl (by kernel_rfl) (by kernel_rfl) (by kernel_rfl) (fun _ _ _ h => h) (by rfl) (by assumption) ?_ ?_
    rotate_left 1
    · (intro W_ hSw; (try dsimp only at hSw); go_simp; try with_reducible rfl)
    try simp only [Act.put, List.setIfInBounds_toArray, List.set_cons_zero, List.set_cons_succ]
    refine takeH (v := ?_) 1 7 rfl rfl (by kernel_rfl) (by kernel_rfl) (by kernel_rfl) (fun _ _ _ h => h) (by rfl) (by assumption) ?_ ?_
    rotate_left 1
    · (intro W_ hSw; (try dsimp only at hSw); go_simp; try with_reducible rfl)
    try simp only [Act.put, List.setIfInBounds_toArray, List.set_cons_zero, List.set_cons_succ]
    refine takeH (v := ?_) 2 8 rfl rfl (by kernel_rfl) (by kernel_rfl) (by kernel_rfl) (fun _ _ _ h => h) (by rfl) (by assumption) ?_ ?_
    rotate_left 1
    · (intro W_ hSw; (try dsimp only at hSw); go_simp; try with_reducible rfl)
    try simp only [Act.put, List.setIfInBounds_toArray, List.set_cons_zero, List.set_cons_succ]
    refine takeH (v := ?_) 3 9 rfl rfl (by kernel_rfl) (by kernel_rfl) (by kernel_rfl) (fun _ _ _ h => h) (by rfl) (by assumption) ?_ ?_
    rotate_left 1
    · (intro W_ hSw; (try dsimp only at hSw); go_simp; try with_reducible rfl)
    try simp only [Act.put, List.setIfInBounds_toArray, List.set_cons_zero, List.set_cons_succ]
    refine wpAnyH_ready (rs := [4]) (by kernel_rfl) (by simp) ?_
    refine AllReadyH.cons rfl (fun K hK => ?_) AllReadyH.nil
    first | (first | (go_at_call 109; refine (HVS.out _ (by go_grown)).mono ?_; rintro e w1 ⟨rfl, k1⟩) | (go_at_call 82; refine (HVV.out _ (Keep.next (by go_grown) k1)).mono ?_; rintro e w2 ⟨rfl, k2⟩)) | (go_simp; first | (go_at_call 109; refine (HVS.out _ (by go_grown)).mono ?_; rintro e w1 ⟨rfl, k1⟩) | (go_at_call 82; refine (HVV.out _ (Keep.next (by go_grown) k1)).mono ?_; rintro e w2 ⟨rfl, k2⟩))
    try (go_wp2_with fail)
    refine hK.out _ _ ?_ (fun hHeld => ?_)
    · first | exact HS.out _ (Keep.next (Keep.next (by go_grown) k1) k2) | exact HS.out _ (Keep.next (by go_grown) k1) | exact HS.out _ (by assumption) | exact HS.out _ (by go_grown)
    clear hK K
    try simp only [Act.put, List.setIfInBounds_toArray, List.set_cons_zero, List.set_cons_succ]
    refine takeH (v := ?_) 5 11 rfl rfl (by kernel_rfl) (by kernel_rfl) (by kernel_rfl) (fun _ _ _ h => h) (by rfl) (by assumption) ?_ ?_
    rotate_left 1
    · (intro W_ hSw; (try dsimp only at hSw); go_simp; try with_reducible rfl)
    try simp only [Act.put, List.setIfInBounds_toArray, List.set_cons_zero, List.set_cons_succ]
    refine takeH (v := ?_) 6 12 rfl rfl (by kernel_rfl) (by kernel_rfl) (by kernel_rfl) (fun _ _ _ h => h) (by rfl) (by assumption) ?_ ?_
    rotate_left 1
    · (intro W_ hSw; (try dsimp only at hSw); go_simp; try with_reducible rfl)
    try simp only [Act.put, List.setIfInBounds_toArray, List.set_cons_zero, List.set_cons_succ]
    refine wpAnyH_ready (rs := [7]) (by kernel_rfl) (by simp) ?_
    refine AllReadyH.cons rfl (fun K hK => ?_) AllReadyH.nil
    first | (first | (go_at_call 109; refine (HVS.out _ (by go_grown)).mono ?_; rintro e w1 ⟨rfl, k1⟩) | (go_at_call 82; refine (HVV.out _ (Keep.next (by go_grown) k1)).mono ?_; rintro e w2 ⟨rfl, k2⟩)) | (go_simp; first | (go_at_call 109; refine (HVS.out _ (by go_grown)).mono ?_; rintro e w1 ⟨rfl, k1⟩) | (go_at_call 82; refine (HVV.out _ (Keep.next (by go_grown) k1)).mono ?_; rintro e w2 ⟨rfl, k2⟩))
    try (go_wp2_with fail)
    refine hK.out _ _ ?_ (fun hHeld => ?_)
    · first | exact HS.out _ (Keep.next (Keep.next (by go_grown) k1) k2) | exact HS.out _ (Keep.next (by go_grown) k1) | exact HS.out _ (by assumption) | exact HS.out _ (by go_grown)
    clear hK K
    try simp only [Act.put, List.setIfInBounds_toArray, List.set_cons_zero, List.set_cons_succ]
    refine takeH (v := ?_) 8 14 rfl rfl (by kernel_rfl) (by kernel_rfl) (by kernel_rfl) (fun _ _ _ h => h) (by rfl) (by assumption) ?_ ?_
    rotate_left 1
    · (intro W_ hSw; (try dsimp only at hSw); go_simp; try with_reducible rfl)
    try simp only [Act.put, List.setIfInBounds_toArray, List.set_cons_zero, List.set_cons_succ]
    refine takeH (v := ?_) 9 15 rfl rfl (by kernel_rfl) (by kernel_rfl) (by kernel_rfl) (fun _ _ _ h => h) (by rfl) (by assumption) ?_ ?_
    rotate_left 1
    · (intro W_ hSw; (try dsimp only at hSw); go_simp; try with_reducible rfl)
    try simp only [Act.put, List.setIfInBounds_toArray, List.set_cons_zero, List.set_cons_succ]
    refine skipH 10 16 rfl rfl (by kernel_rfl) (by kernel_rfl) (by kernel_rfl) (fun _ _ _ h => h) (by rfl) (by assumption) ?_
    try simp only [Act.put, List.setIfInBounds_toArray, List.set_cons_zero, List.set_cons_succ]
    refine skipH 11 17 rfl rfl (by kernel_rfl) (by kernel_rfl) (by kernel_rfl) (fun _ _ _ h => h) (by rfl) (by assumption) ?_
    try simp only [Act.put, List.setIfInBounds_toArray, List.set_cons_zero, List.set_cons_succ]
    refine skipH 12 18 rfl rfl (by kernel_rfl) (by kernel_rfl) (by kernel_rfl) (fun _ _ _ h => h) (by rfl) (by assumption) ?_
    try simp only [Act.put, List.setIfInBounds_toArray, List.set_cons_zero, List.set_cons_succ]
    refine skipH 13 19 rfl rfl (by kernel_rfl) (by kernel_rfl) (by kernel_rfl) (fun _ _ _ h => h) (by rfl) (by assumption) ?_
    try simp only [Act.put, List.setIfInBounds_toArray, List.set_cons_zero, List.set_cons_succ]
    refine skipH 14 20 rfl rfl (by kernel_rfl) (by kernel_rfl) (by kernel_rfl) (fun _ _ _ h => h) (by rfl) (by assumption) ?_
    try simp only [Act.put, List.setIfInBounds_toArray, List.set_cons_zero, List.set_cons_succ]
    refine skipH 15 21 rfl rfl (by kernel_rfl) (by kernel_rfl) (by kernel_rfl) (fun _ _ _ h => h) (by rfl) (by assumption) ?_
    try simp only [Act.put, List.setIfInBounds_toArray, List.set_cons_zero, List.set_cons_succ]
    refine takeH (v := ?_) 16 22 rfl rfl (by kernel_rfl) (by kernel_rfl) (by kernel_rfl) (fun _ _ _ h => h) (by rfl) (by assumption) ?_ ?_
    rotate_left 1
    · (intro W_ hSw; (try dsimp only at hSw); go_simp; try with_reducible rfl)
    try simp only [Act.put, List.setIfInBounds_toArray, List.set_cons_zero, List.set_cons_succ]
    refine wpAnyH_ready (rs := [17]) (by kernel_rfl) (by simp) ?_
    refine AllReadyH.cons rfl (fun K hK => ?_) AllReadyH.nil
    obtain ⟨r0, r1, r2, r3, f0, f1, f2, f3⟩ := HR.out _ (Keep.next (Keep.next (by go_grown) k1) k2)
    go_simp
    refine hK.out _ _ ?_ (fun hHeld => ?_)
    · exact HSW.out _ _ _ _ _ hHeld
    clear hK K
    try simp only [Act.put, List.setIfInBounds_toArray, List.set_cons_zero, List.set_cons_succ]
    refine takeH (v := ?_) 18 5 rfl rfl (by kernel_rfl) (by kernel_rfl) (by kernel_rfl) (fun _ _ _ h => h) (by rfl) (by assumption) ?_ ?_
    rotate_left 1
    · (intro W_ hSw; (try dsimp only at hSw); go_simp; try with_reducible rfl)
    try simp only [Act.put, List.setIfInBounds_toArray, List.set_cons_zero, List.set_cons_succ]
    refine wpAnyH_done (by kernel_rfl) ?_ _
    have PP := put4 (.int .i64 g) (.slice ad zs.length cap) (.int .i64 d) (.slice vd ns.length vc) r0 r1 r2 r3
    clear r0 r1 r2 r3 f0 f1 f2 f3
    generalize (((w2.setCell ⟨X + 1 + 1, 0, none⟩ (.int .i64 g)).setCell ⟨X + 1 + 1, 1, none⟩ (.slice ad zs.length cap)).setCell ⟨X + 1 + 1, 2, none⟩ (.int .i64 d)).setCell ⟨X + 1 + 1, 3, none⟩ (.slice vd ns.length vc) = Wf at *
    obtain ⟨e0, e1, e2, e3⟩ := PP
    go_wp2 
    refine bodyPost_ret (v := .tuple #[vlV g ad zs.length cap d vd ns.length vc, .bool false]) (by simp [results, Try.results70, go_sem, e0, e1, e2, e3]) rfl ?_
    exact ⟨by rw [show BB = false from by rw [← HBB.out]; unfold bothB; rw [h1, h2]; rfl], hHeld.2⟩
  rw [h2] at HVV
  cases h3 : decide ((ns.length : Int) = g)
  case false =>
    have h3b : ((ns.length : Int) == g) = false := h3
    refine wp_region_held_drew (S := (fun W => (((W.cell? ⟨X, 0, none⟩ = some (.int .i64 g) ∧ W.cell? ⟨X, 1, none⟩ = some (.slice ad zs.length cap)) ∧ W.cell? ⟨X + 1, 0, none⟩ = some (.int .i64 d) ∧ W.cell? ⟨X + 1, 1, none⟩ = some (.slice vd ns.length vc)) ∧ Keep w W))) (by kernel_rfl) ?_ (fun hHeld => ?_)
    · first | exact HS.out _ (by go_grown) | exact HS.out _ (Keep.next (Keep.next (by go_grown) k1) k2) | exact HS.out _ (Keep.next (by go_grown) k1)
    refine takeH (v := ?_) 0 6 rfl rfl (by kernel_rfl) (by kernel_rfl) (by kernel_rfl) (fun _ _ _ h => h) (by rfl) (by assumption) ?_ ?_
    rotate_left 1
    · (intro W_ hSw; (try dsimp only at hSw); go_simp; try with_reducible rfl)
    try simp only [Act.put, List.setIfInBounds_toArray, List.set_cons_zero, List.set_cons_succ]
    refine takeH (v := ?_) 1 7 rfl rfl (by kernel_rfl) (by kernel_rfl) (by kernel_rfl) (fun _ _ _ h => h) (by rfl) (by assumption) ?_ ?_
    rotate_left 1
    · (intro W_ hSw; (try dsimp only at hSw); go_simp; try with_reducible rfl)
    try simp only [Act.put, List.setIfInBounds_toArray, List.set_cons_zero, List.set_cons_succ]
    refine takeH (v := ?_) 2 8 rfl rfl (by kernel_rfl) (by kernel_rfl) (by kernel_rfl) (fun _ _ _ h => h) (by rfl) (by assumption) ?_ ?_
    rotate_left 1
    · (intro W_ hSw; (try dsimp only at hSw); go_simp; try with_reducible rfl)
    try simp only [Act.put, List.setIfInBounds_toArray, List.set_cons_zero, List.set_cons_succ]
    refine takeH (v := ?_) 3 9 rfl rfl (by kernel_rfl) (by kernel_rfl) (by kernel_rfl) (fun _ _ _ h => h) (by rfl) (by assumption) ?_ ?_
    rotate_left 1
    · (intro W_ hSw; (try dsimp only at hSw); go_simp; try with_reducible rfl)
    try simp only [Act.put, List.setIfInBounds_toArray, List.set_cons_zero, List.set_cons_succ]
    refine wpAnyH_ready (rs := [4]) (by kernel_rfl) (by simp) ?_
    refine AllReadyH.cons rfl (fun K hK => ?_) AllReadyH.nil
    first | (first | (go_at_call 109; refine (HVS.out _ (by go_grown)).mono ?_; rintro e w1 ⟨rfl, k1⟩) | (go_at_call 82; refine (HVV.out _ (Keep.next (by go_grown) k1)).mono ?_; rintro e w2 ⟨rfl, k2⟩)) | (go_simp; first | (go_at_call 109; refine (HVS.out _ (by go_grown)).mono ?_; rintro e w1 ⟨rfl, k1⟩) | (go_at_call 82; refine (HVV.out _ (Keep.next (by go_grown) k1)).mono ?_; rintro e w2 ⟨rfl, k2⟩))
    try (go_wp2_with fail)
    refine hK.out _ _ ?_ (fun hHeld => ?_)
    · first | exact HS.out _ (Keep.next (Keep.next (by go_grown) k1) k2) | exact HS.out _ (Keep.next (by go_grown) k1) | exact HS.out _ (by assumption) | exact HS.out _ (by go_grown)
    clear hK K
    try simp only [Act.put, List.setIfInBounds_toArray, List.set_cons_zero, List.set_cons_succ]
    refine takeH (v := ?_) 5 11 rfl rfl (by kernel_rfl) (by kernel_rfl) (by kernel_rfl) (fun _ _ _ h => h) (by rfl) (by assumption) ?_ ?_
    rotate_left 1
    · (intro W_ hSw; (try dsimp only at hSw); go_simp; try with_reducible rfl)
    try simp only [Act.put, List.setIfInBounds_toArray, List.set_cons_zero, List.set_cons_succ]
    refine takeH (v := ?_) 6 12 rfl rfl (by kernel_rfl) (by kernel_rfl) (by kernel_rfl) (fun _ _ _ h => h) (by rfl) (by assumption) ?_ ?_
    rotate_left 1
    · (intro W_ hSw; (try dsimp only at hSw); go_simp; try with_reducible rfl)
    try simp only [Act.put, List.setIfInBounds_toArray, List.set_cons_zero, List.set_cons_succ]
    refine wpAnyH_ready (rs := [7]) (by kernel_rfl) (by simp) ?_
    refine AllReadyH.cons rfl (fun K hK => ?_) AllReadyH.nil
    first | (first | (go_at_call 109; refine (HVS.out _ (by go_grown)).mono ?_; rintro e w1 ⟨rfl, k1⟩) | (go_at_call 82; refine (HVV.out _ (Keep.next (by go_grown) k1)).mono ?_; rintro e w2 ⟨rfl, k2⟩)) | (go_simp; first | (go_at_call 109; refine (HVS.out _ (by go_grown)).mono ?_; rintro e w1 ⟨rfl, k1⟩) | (go_at_call 82; refine (HVV.out _ (Keep.next (by go_grown) k1)).mono ?_; rintro e w2 ⟨rfl, k2⟩))
    try (go_wp2_with fail)
    refine hK.out _ _ ?_ (fun hHeld => ?_)
    · first | exact HS.out _ (Keep.next (Keep.next (by go_grown) k1) k2) | exact HS.out _ (Keep.next (by go_grown) k1) | exact HS.out _ (by assumption) | exact HS.out _ (by go_grown)
    clear hK K
    try simp only [Act.put, List.setIfInBounds_toArray, List.set_cons_zero, List.set_cons_succ]
    refine takeH (v := ?_) 8 14 rfl rfl (by kernel_rfl) (by kernel_rfl) (by kernel_rfl) (fun _ _ _ h => h) (by rfl) (by assumption) ?_ ?_
    rotate_left 1
    · (intro W_ hSw; (try dsimp only at hSw); go_simp; try with_reducible rfl)
    try simp only [Act.put, List.setIfInBounds_toArray, List.set_cons_zero, List.set_cons_succ]
    refine takeH (v := ?_) 9 15 rfl rfl (by kernel_rfl) (by kernel_rfl) (by kernel_rfl) (fun _ _ _ h => h) (by rfl) (by assumption) ?_ ?_
    rotate_left 1
    · (intro W_ hSw; (try dsimp only at hSw); go_simp; try with_reducible rfl)
    try simp only [Act.put, List.setIfInBounds_toArray, List.set_cons_zero, List.set_cons_succ]
    refine takeH (v := ?_) 10 16 rfl rfl (by kernel_rfl) (by kernel_rfl) (by kernel_rfl) (fun _ _ _ h => h) (by rfl) (by assumption) ?_ ?_
    rotate_left 1
    · (intro W_ hSw; (try dsimp only at hSw); go_simp; try with_reducible rfl)
    try simp only [Act.put, List.setIfInBounds_toArray, List.set_cons_zero, List.set_cons_succ]
    refine takeH (v := ?_) 11 17 rfl rfl (by kernel_rfl) (by kernel_rfl) (by kernel_rfl) (fun _ _ _ h => h) (by rfl) (by assumption) ?_ ?_
    rotate_left 1
    · (intro W_ hSw; (try dsimp only at hSw); go_simp; try with_reducible rfl)
    try simp only [Act.put, List.setIfInBounds_toArray, List.set_cons_zero, List.set_cons_succ]
    refine takeH (v := ?_) 12 18 rfl rfl (by kernel_rfl) (by kernel_rfl) (by kernel_rfl) (fun _ _ _ h => h) (by rfl) (by assumption) ?_ ?_
    rotate_left 1
    · (intro W_ hSw; (try dsimp only at hSw); go_simp; try with_reducible rfl)
    try simp only [Act.put, List.setIfInBounds_toArray, List.set_cons_zero, List.set_cons_succ]
    refine takeH (v := ?_) 13 19 rfl rfl (by kernel_rfl) (by kernel_rfl) (by kernel_rfl) (fun _ _ _ h => h) (by rfl) (by assumption) ?_ ?_
    rotate_left 1
    · (intro W_ hSw; (try dsimp only at hSw); go_simp; try with_reducible rfl)
    try simp only [Act.put, List.setIfInBounds_toArray, List.set_cons_zero, List.set_cons_succ]
    refine takeH (v := ?_) 14 20 rfl rfl (by kernel_rfl) (by kernel_rfl) (by kernel_rfl) (fun _ _ _ h => h) (by rfl) (by assumption) ?_ ?_
    rotate_left 1
    · (intro W_ hSw; (try dsimp only at hSw); go_simp; try with_reducible rfl)
    try simp only [Act.put, List.setIfInBounds_toArray, List.set_cons_zero, List.set_cons_succ]
    refine takeH (v := ?_) 15 21 rfl rfl (by kernel_rfl) (by kernel_rfl) (by kernel_rfl) (fun _ _ _ h => h) (by rfl) (by assumption) ?_ ?_
    rotate_left 1
    · (intro W_ hSw; (try dsimp only at hSw); go_simp; try with_reducible rfl)
    try simp only [Act.put, List.setIfInBounds_toArray, List.set_cons_zero, List.set_cons_succ]
    refine takeH (v := ?_) 16 22 rfl rfl (by kernel_rfl) (by kernel_rfl) (by kernel_rfl) (fun _ _ _ h => h) (by rfl) (by assumption) ?_ ?_
    rotate_left 1
    · (intro W_ hSw; (try dsimp only at hSw); go_simp; try with_reducible rfl)
    try simp only [Act.put, List.setIfInBounds_toArray, List.set_cons_zero, List.set_cons_succ]
    refine wpAnyH_ready (rs := [17]) (by kernel_rfl) (by simp) ?_
    refine AllReadyH.cons rfl (fun K hK => ?_) AllReadyH.nil
    obtain ⟨r0, r1, r2, r3, f0, f1, f2, f3⟩ := HR.out _ (Keep.next (Keep.next (by go_grown) k1) k2)
    go_simp
    refine hK.out _ _ ?_ (fun hHeld => ?_)
    · exact HSW.out _ _ _ _ _ hHeld
    clear hK K
    try simp only [Act.put, List.setIfInBounds_toArray, List.set_cons_zero, List.set_cons_succ]
    refine takeH (v := ?_) 18 5 rfl rfl (by kernel_rfl) (by kernel_rfl) (by kernel_rfl) (fun _ _ _ h => h) (by rfl) (by assumption) ?_ ?_
    rotate_left 1
    · (intro W_ hSw; (try dsimp only at hSw); go_simp; try with_reducible rfl)
    try simp only [Act.put, List.setIfInBounds_toArray, List.set_cons_zero, List.set_cons_succ]
    refine wpAnyH_done (by kernel_rfl) ?_ _
    have PP := put4 (.int .i64 g) (.slice ad zs.length cap) (.int .i64 d) (.slice vd ns.length vc) r0 r1 r2 r3
    clear r0 r1 r2 r3 f0 f1 f2 f3
    generalize (((w2.setCell ⟨X + 1 + 1, 0, none⟩ (.int .i64 g)).setCell ⟨X + 1 + 1, 1, none⟩ (.slice ad zs.length cap)).setCell ⟨X + 1 + 1, 2, none⟩ (.int .i64 d)).setCell ⟨X + 1 + 1, 3, none⟩ (.slice vd ns.length vc) = Wf at *
    obtain ⟨e0, e1, e2, e3⟩ := PP
    go_wp2 
    refine bodyPost_ret (v := .tuple #[vlV g ad zs.length cap d vd ns.length vc, .bool false]) (by simp [results, Try.results70, go_sem, e0, e1, e2, e3]) rfl ?_
    exact ⟨by rw [show BB = false from by rw [← HBB.out]; unfold bothB; rw [h1, h2, h3]; rfl], hHeld.2⟩
  case true =>
    have h3b : ((ns.length : Int) == g) = true := h3
    refine wp_region_held_drew (S := (fun W => (((W.cell? ⟨X, 0, none⟩ = some (.int .i64 g) ∧ W.cell? ⟨X, 1, none⟩ = some (.slice ad zs.length cap)) ∧ W.cell? ⟨X + 1, 0, none⟩ = some (.int .i64 d) ∧ W.cell? ⟨X + 1, 1, none⟩ = some (.slice vd ns.length vc)) ∧ Keep w W))) (by kernel_rfl) ?_ (fun hHeld => ?_)
    · first | exact HS.out _ (by go_grown) | exact HS.out _ (Keep.next (Keep.next (by go_grown) k1) k2) | exact HS.out _ (Keep.next (by go_grown) k1)
    refine takeH (v := ?_) 0 6 rfl rfl (by kernel_rfl) (by kernel_rfl) (by kernel_rfl) (fun _ _ _ h => h) (by rfl) (by assumption) ?_ ?_
    rotate_left 1
    · (intro W_ hSw; (try dsimp only at hSw); go_simp; try with_reducible rfl)
    try simp only [Act.put, List.setIfInBounds_toArray, List.set_cons_zero, List.set_cons_succ]
    refine takeH (v := ?_) 1 7 rfl rfl (by kernel_rfl) (by kernel_rfl) (by kernel_rfl) (fun _ _ _ h => h) (by rfl) (by assumption) ?_ ?_
    rotate_left 1
    · (intro W_ hSw; (try dsimp only at hSw); go_simp; try with_reducible rfl)
    try simp only [Act.put, List.setIfInBounds_toArray, List.set_cons_zero, List.set_cons_succ]
    refine takeH (v := ?_) 2 8 rfl rfl (by kernel_rfl) (by kernel_rfl) (by kernel_rfl) (fun _ _ _ h => h) (by rfl) (by assumption) ?_ ?_
    rotate_left 1
    · (intro W_ hSw; (try dsimp only at hSw); go_simp; try with_reducible rfl)
    try simp only [Act.put, List.setIfInBounds_toArray, List.set_cons_zero, List.set_cons_succ]
    refine takeH (v := ?_) 3 9 rfl rfl (by kernel_rfl) (by kernel_rfl) (by kernel_rfl) (fun _ _ _ h => h) (by rfl) (by assumption) ?_ ?_
    rotate_left 1
    · (intro W_ hSw; (try dsimp only at hSw); go_simp; try with_reducible rfl)
    try simp only [Act.put, List.setIfInBounds_toArray, List.set_cons_zero, List.set_cons_succ]
    refine wpAnyH_ready (rs := [4]) (by kernel_rfl) (by simp) ?_
    refine AllReadyH.cons rfl (fun K hK => ?_) AllReadyH.nil
    first | (first | (go_at_call 109; refine (HVS.out _ (by go_grown)).mono ?_; rintro e w1 ⟨rfl, k1⟩) | (go_at_call 82; refine (HVV.out _ (Keep.next (by go_grown) k1)).mono ?_; rintro e w2 ⟨rfl, k2⟩)) | (go_simp; first | (go_at_call 109; refine (HVS.out _ (by go_grown)).mono ?_; rintro e w1 ⟨rfl, k1⟩) | (go_at_call 82; refine (HVV.out _ (Keep.next (by go_grown) k1)).mono ?_; rintro e w2 ⟨rfl, k2⟩))
    try (go_wp2_with fail)
    refine hK.out _ _ ?_ (fun hHeld => ?_)
    · first | exact HS.out _ (Keep.next (Keep.next (by go_grown) k1) k2) | exact HS.out _ (Keep.next (by go_grown) k1) | exact HS.out _ (by assumption) | exact HS.out _ (by go_grown)
    clear hK K
    try simp only [Act.put, List.setIfInBounds_toArray, List.set_cons_zero, List.set_cons_succ]
    refine takeH (v := ?_) 5 11 rfl rfl (by kernel_rfl) (by kernel_rfl) (by kernel_rfl) (fun _ _ _ h => h) (by rfl) (by assumption) ?_ ?_
    rotate_left 1
    · (intro W_ hSw; (try dsimp only at hSw); go_simp; try with_reducible rfl)
    try simp only [Act.put, List.setIfInBounds_toArray, List.set_cons_zero, List.set_cons_succ]
    refine takeH (v := ?_) 6 12 rfl rfl (by kernel_rfl) (by kernel_rfl) (by kernel_rfl) (fun _ _ _ h => h) (by rfl) (by assumption) ?_ ?_
    rotate_left 1
    · (intro W_ hSw; (try dsimp only at hSw); go_simp; try with_reducible rfl)
    try simp only [Act.put, List.setIfInBounds_toArray, List.set_cons_zero, List.set_cons_succ]
    refine wpAnyH_ready (rs := [7]) (by kernel_rfl) (by simp) ?_
    refine AllReadyH.cons rfl (fun K hK => ?_) AllReadyH.nil
    first | (first | (go_at_call 109; refine (HVS.out _ (by go_grown)).mono ?_; rintro e w1 ⟨rfl, k1⟩) | (go_at_call 82; refine (HVV.out _ (Keep.next (by go_grown) k1)).mono ?_; rintro e w2 ⟨rfl, k2⟩)) | (go_simp; first | (go_at_call 109; refine (HVS.out _ (by go_grown)).mono ?_; rintro e w1 ⟨rfl, k1⟩) | (go_at_call 82; refine (HVV.out _ (Keep.next (by go_grown) k1)).mono ?_; rintro e w2 ⟨rfl, k2⟩))
    try (go_wp2_with fail)
    refine hK.out _ _ ?_ (fun hHeld => ?_)
    · first | exact HS.out _ (Keep.next (Keep.next (by go_grown) k1) k2) | exact HS.out _ (Keep.next (by go_grown) k1) | exact HS.out _ (by assumption) | exact HS.out _ (by go_grown)
    clear hK K
    try simp only [Act.put, List.setIfInBounds_toArray, List.set_cons_zero, List.set_cons_succ]
    refine takeH (v := ?_) 8 14 rfl rfl (by kernel_rfl) (by kernel_rfl) (by kernel_rfl) (fun _ _ _ h => h) (by rfl) (by assumption) ?_ ?_
    rotate_left 1
    · (intro W_ hSw; (try dsimp only at hSw); go_simp; try with_reducible rfl)
    try simp only [Act.put, List.setIfInBounds_toArray, List.set_cons_zero, List.set_cons_succ]
    refine takeH (v := ?_) 9 15 rfl rfl (by kernel_rfl) (by kernel_rfl) (by kernel_rfl) (fun _ _ _ h => h) (by rfl) (by assumption) ?_ ?_
    rotate_left 1
    · (intro W_ hSw; (try dsimp only at hSw); go_simp; try with_reducible rfl)
    try simp only [Act.put, List.setIfInBounds_toArray, List.set_cons_zero, List.set_cons_succ]
    refine takeH (v := ?_) 10 16 rfl rfl (by kernel_rfl) (by kernel_rfl) (by kernel_rfl) (fun _ _ _ h => h) (by rfl) (by assumption) ?_ ?_
    rotate_left 1
    · (intro W_ hSw; (try dsimp only at hSw); go_simp; try with_reducible rfl)
    try simp only [Act.put, List.setIfInBounds_toArray, List.set_cons_zero, List.set_cons_succ]
    refine takeH (v := ?_) 11 17 rfl rfl (by kernel_rfl) (by kernel_rfl) (by kernel_rfl) (fun _ _ _ h => h) (by rfl) (by assumption) ?_ ?_
    rotate_left 1
    · (intro W_ hSw; (try dsimp only at hSw); go_simp; try with_reducible rfl)
    try simp only [Act.put, List.setIfInBounds_toArray, List.set_cons_zero, List.set_cons_succ]
    refine takeH (v := ?_) 12 18 rfl rfl (by kernel_rfl) (by kernel_rfl) (by kernel_rfl) (fun _ _ _ h => h) (by rfl) (by assumption) ?_ ?_
    rotate_left 1
    · (intro W_ hSw; (try dsimp only at hSw); go_simp; try with_reducible rfl)
    try simp only [Act.put, List.setIfInBounds_toArray, List.set_cons_zero, List.set_cons_succ]
    refine takeH (v := ?_) 13 19 rfl rfl (by kernel_rfl) (by kernel_rfl) (by kernel_rfl) (fun _ _ _ h => h) (by rfl) (by assumption) ?_ ?_
    rotate_left 1
    · (intro W_ hSw; (try dsimp only at hSw); go_simp; try with_reducible rfl)
    try simp only [Act.put, List.setIfInBounds_toArray, List.set_cons_zero, List.set_cons_succ]
    refine takeH (v := ?_) 14 20 rfl rfl (by kernel_rfl) (by kernel_rfl) (by kernel_rfl) (fun _ _ _ h => h) (by rfl) (by assumption) ?_ ?_
    rotate_left 1
    · (intro W_ hSw; (try dsimp only at hSw); go_simp; try with_reducible rfl)
    try simp only [Act.put, List.setIfInBounds_toArray, List.set_cons_zero, List.set_cons_succ]
    refine takeH (v := ?_) 15 21 rfl rfl (by kernel_rfl) (by kernel_rfl) (by kernel_rfl) (fun _ _ _ h => h) (by rfl) (by assumption) ?_ ?_
    rotate_left 1
    · (intro W_ hSw; (try dsimp only at hSw); go_simp; try with_reducible rfl)
    try simp only [Act.put, List.setIfInBounds_toArray, List.set_cons_zero, List.set_cons_succ]
    refine takeH (v := ?_) 16 22 rfl rfl (by kernel_rfl) (by kernel_rfl) (by kernel_rfl) (fun _ _ _ h => h) (by rfl) (by assumption) ?_ ?_
    rotate_left 1
    · (intro W_ hSw; (try dsimp only at hSw); go_simp; try with_reducible rfl)
    try simp only [Act.put, List.setIfInBounds_toArray, List.set_cons_zero, List.set_cons_succ]
    refine wpAnyH_ready (rs := [17]) (by kernel_rfl) (by simp) ?_
    refine AllReadyH.cons rfl (fun K hK => ?_) AllReadyH.nil
    obtain ⟨r0, r1, r2, r3, f0, f1, f2, f3⟩ := HR.out _ (Keep.next (Keep.next (by go_grown) k1) k2)
    go_simp
    refine hK.out _ _ ?_ (fun hHeld => ?_)
    · exact HSW.out _ _ _ _ _ hHeld
    clear hK K
    try simp only [Act.put, List.setIfInBounds_toArray, List.set_cons_zero, List.set_cons_succ]
    refine takeH (v := ?_) 18 5 rfl rfl (by kernel_rfl) (by kernel_rfl) (by kernel_rfl) (fun _ _ _ h => h) (by rfl) (by assumption) ?_ ?_
    rotate_left 1
    · (intro W_ hSw; (try dsimp only at hSw); go_simp; try with_reducible rfl)
    try simp only [Act.put, List.setIfInBounds_toArray, List.set_cons_zero, List.set_cons_succ]
    refine wpAnyH_done (by kernel_rfl) ?_ _
    have PP := put4 (.int .i64 g) (.slice ad zs.length cap) (.int .i64 d) (.slice vd ns.length vc) r0 r1 r2 r3
    clear r0 r1 r2 r3 f0 f1 f2 f3
    generalize (((w2.setCell ⟨X + 1 + 1, 0, none⟩ (.int .i64 g)).setCell ⟨X + 1 + 1, 1, none⟩ (.slice ad zs.length cap)).setCell ⟨X + 1 + 1, 2, none⟩ (.int .i64 d)).setCell ⟨X + 1 + 1, 3, none⟩ (.slice vd ns.length vc) = Wf at *
    obtain ⟨e0, e1, e2, e3⟩ := PP
    go_wp2 
    refine bodyPost_ret (v := .tuple #[vlV g ad zs.length cap d vd ns.length vc, .bool true]) (by simp [results, Try.results70, go_sem, e0, e1, e2, e3]) rfl ?_
    exact ⟨by rw [show BB = true from by rw [← HBB.out]; unfold bothB; rw [h1, h2, h3]; rfl], hHeld.2⟩
set_option maxHeartbeats 1600000 in
set_option maxRecDepth 100000 in
theorem errorsOf_any (g : Int) (ad : Option Addr) (cap : Nat) (zs : List Int) (d : Int) (vd : Option Addr) (vc : Nat) (ns : List Int) (ld : Option Addr) (lc : Nat) (ls : List Int) (w : World) (hz : Ints w ad zs) (hn : Ints w vd ns) (hl : Ints w ld ls)
    (hR : rndB d ns ls = true) (h12 : ns.length ≤ 12) (hzl : zs.length ≤ 12) (hzb : ∀ z ∈ zs, 0 ≤ z ∧ z < 4096) :
    Calls Try.prog 72 #[vlV g ad zs.length cap d vd ns.length vc, .slice ld ls.length lc] w fun e w' => ∃ rd rc, e = .returned (.slice rd (seL d ns ls zs).length rc) ∧ Own w' w.heap.size rd rc (seL d ns ls zs) ∧ Keep w w' := by
  obtain ⟨hok, hln, _⟩ := rndB_iff.1 hR
  have hzs := hz.small
  have HV : Hid (errsV d ns ls = errsL d ns ls) := Lib.hid (by unfold errsV; rw [rnd_ok hR]; rfl)
  have HE := Lib.hid (fun W (k : Keep w W) => ErrorsOf_any d vd vc ns ld lc ls W (hn.keep k (Nat.le_refl _)) (hl.keep k (Nat.le_refl _)))
  rw [rnd_ok hR, HV.out] at HE
  have HEL := Lib.hid (errsL_len d ns ls hln)
  have HEB := Lib.hid (rnd_errs hR)
  have HIN := Lib.hid (seL_in hR (by omega) zs)
  have HZ := Lib.hid hz
  have HZB := Lib.hid hzb
  have HLE : Hid (ls.length ≤ 40) := Lib.hid (by omega)
  have HSE : Hid (seL d ns ls zs = zs.map fun z => selS (errsL d ns ls) z.toNat (errsL d ns ls).length) := Lib.hid (by unfold seL; rw [HEL.out])
  obtain ⟨W0, hW0⟩ : ∃ W0, W0 = w.alloc (.cells #[.int .i64 g, .slice ad zs.length cap, .int .i64 d, .slice vd ns.length vc] 109) := ⟨_, rfl⟩
  have K0 : Keep w W0 := by rw [hW0]; go_grown
  have hsz : W0.heap.size = w.heap.size + 1 := by rw [hW0]; simp
  have HX0 : Hid (W0.cell? ⟨w.heap.size, 1, none⟩ = some (.slice ad zs.length cap)) := Lib.hid (by rw [hW0]; simp [go_sem])
  have HW0 := Lib.hid hW0
  clear hW0 hz hn hl hR hok hln hzb
  go_enter Try.func72, Try.ntmps72
  go_wp2_with fail
  rw [← HW0.out]
  refine (HE.out _ K0).mono ?_
  rintro e w1 ⟨ed, ec, rfl, o1, k1⟩
  have x1 : w1.cell? ⟨w.heap.size, 1, none⟩ = some (.slice ad zs.length cap) := (k1.cell (p := ⟨w.heap.size, 1, none⟩) (by show w.heap.size < W0.heap.size; omega)).trans HX0.out
  have HO1 := Lib.hid o1
  have HK1 := Lib.hid (K0.next k1)
  have hs1 := k1.size
  have hlt1 : w.heap.size < w1.heap.size := by omega
  clear o1 k1 K0 HX0 HW0
  generalize hEE : errsL d ns ls = E at *
  clear hEE
  have x2 : ∀ o : Obj, (w1.alloc o).cell? ⟨w.heap.size, 1, none⟩ = some (.slice ad zs.length cap) := fun o => (Below.cell ((Below.refl w1.heap.size w1).alloc (Nat.le_refl _) o) (p := ⟨w.heap.size, 1, none⟩) (by exact hlt1)).trans x1
  go_wp2_with fail
  refine (mappedEro_any (fun z => selS E z.toNat E.length) (.pointer (some ⟨w1.heap.size, 0, none⟩)) (.pointer none) ad cap zs _ ((HZ.out.keep HK1.out (Nat.le_refl _)).keep (B := _) (by go_grown) (Nat.le_refl _)) (by omega) ?_ ?_).mono ?_
  · intro z hz
    have := HIN.out (selS E z.toNat E.length) (by rw [HSE.out]; exact List.mem_map.2 ⟨z, hz, rfl⟩)
    exact ⟨by omega, by omega⟩
  · intro x hx W kW
    refine seC_any x w1.heap.size ed ec E W (HZB.out x hx) ?_ (HO1.out.ints.keep (B := w1.heap.size) ?_ (Nat.le_refl _)) (by rw [HEL.out]; exact HLE.out) HEB.out
    · refine (kW.cell (by first | (simp; done) | (simp; omega))).trans ?_; simp [go_sem]
    · exact Below.trans (by go_grown) (kW.mono (by simp))
  · rintro e w2 ⟨rd, rc, rfl, o2, k2⟩
    have g2 : Keep w w2 := Keep.next HK1.out (Keep.next (by go_grown) k2)
    have o3 := o2.mono (B' := w.heap.size) (by simp; omega)
    go_wp2
    go_ret
    exact ⟨rd, rc, by rw [seL_len]; rfl, by rw [HSE.out]; exact o3, g2⟩
set_option maxHeartbeats 1600000 in
set_option maxRecDepth 100000 in
theorem SetErrors_any (g : Int) (ad : Option Addr) (cap : Nat) (zs : List Int) (d : Int) (vd : Option Addr) (vc : Nat) (ns : List Int) (ld : Option Addr) (lc : Nat) (ls : List Int) (w : World) (hz : Ints w ad zs) (hn : Ints w vd ns) (hl : Ints w ld ls) :
    Calls Try.prog 35 #[valV g ad zs.length cap, valV d vd ns.length vc, .slice ld ls.length lc] w fun e w' => ∃ rd rc, e = .returned (.tuple #[.slice rd (seV g zs d ns ls).length rc, .bool (seB g zs d ns ls)]) ∧ Own w' w.heap.size rd rc (seV g zs d ns ls) ∧ Keep w w' := by
  have HVO := Lib.hid (fun W (k : Keep w W) => valuedOf_any g ad cap zs d vd vc ns W (hz.keep k (Nat.le_refl _)) (hn.keep k (Nat.le_refl _)))
  have HIR := Lib.hid (fun W (k : Keep w W) => IsRounding_any d vd vc ns ld lc ls W (hn.keep k (Nat.le_refl _)) (hl.keep k (Nat.le_refl _)))
  have HEO := Lib.hid (fun W (k : Keep w W) => errorsOf_any g ad cap zs d vd vc ns ld lc ls W (hz.keep k (Nat.le_refl _)) (hn.keep k (Nat.le_refl _)) (hl.keep k (Nat.le_refl _)))
  obtain ⟨W0, hW0⟩ : ∃ W0, W0 = (w.alloc (.cells #[.int .i64 g, .slice ad zs.length cap] 55)).alloc (.cells #[.int .i64 d, .slice vd ns.length vc] 57) := ⟨_, rfl⟩
  have K0 : Keep w W0 := by rw [hW0]; go_grown
  have hsz : W0.heap.size = w.heap.size + 2 := by rw [hW0]; simp
  have HX0 : Hid (W0.cell? ⟨w.heap.size + 1, 0, none⟩ = some (.int .i64 d) ∧ W0.cell? ⟨w.heap.size + 1, 1, none⟩ = some (.slice vd ns.length vc)) := Lib.hid (by rw [hW0]; exact ⟨by simp [go_sem], by simp [go_sem]⟩)
  have HW0 := Lib.hid hW0
  clear hW0 hz hn hl
  cases h1 : bothB g zs d ns
  · rw [show seB g zs d ns ls = false from by simp [seB, h1], show seV g zs d ns ls = [] from by simp [seV, seB, h1]]
    rw [h1] at HVO
    go_enter Try.func35, Try.ntmps35
    go_wp2_with fail
    rw [← HW0.out]
    refine (HVO.out _ K0).mono ?_
    rintro e w1 ⟨rfl, k1⟩
    have g1 := K0.next k1
    go_wp2
    go_ret2
    exact ⟨none, 0, rfl, Own.nil _ _, Keep.next g1 (by go_grown)⟩
  obtain ⟨b1, b2, b3⟩ := bothB_parts h1
  obtain ⟨q0, q1, q2, q3⟩ := okS_parts b1
  have hsb := okS_sets b1
  rw [h1] at HVO
  cases h2 : rndB d ns ls
  · rw [show seB g zs d ns ls = false from by simp [seB, h2], show seV g zs d ns ls = [] from by simp [seV, seB, h2]]
    rw [h2] at HIR
    go_enter Try.func35, Try.ntmps35
    go_wp2_with fail
    rw [← HW0.out]
    refine (HVO.out _ K0).mono ?_
    rintro e w1 ⟨rfl, k1⟩
    have g1 := K0.next k1
    obtain ⟨hc, _⟩ := bcell k1
    have v0 := (hc (w.heap.size + 1) 0 (by omega)).trans HX0.out.1
    have v1 := (hc (w.heap.size + 1) 1 (by omega)).trans HX0.out.2
    have hs1 := k1.size
    have hlt1 : w.heap.size + 1 < w1.heap.size := by omega
    have v2 : ∀ o : Obj, (w1.alloc o).cell? ⟨w.heap.size + 1, 0, none⟩ = some (.int .i64 d) := fun o => (Below.cell ((Below.refl w1.heap.size w1).alloc (Nat.le_refl _) o) (p := ⟨w.heap.size + 1, 0, none⟩) (by exact hlt1)).trans v0
    have v3 : ∀ o : Obj, (w1.alloc o).cell? ⟨w.heap.size + 1, 1, none⟩ = some (.slice vd ns.length vc) := fun o => (Below.cell ((Below.refl w1.heap.size w1).alloc (Nat.le_refl _) o) (p := ⟨w.heap.size + 1, 1, none⟩) (by exact hlt1)).trans v1
    clear hc k1 HW0 HX0
    go_wp2_with fail
    refine (HIR.out _ (Keep.next g1 (by go_grown))).mono ?_
    rintro e w2 ⟨rfl, k2⟩
    go_wp2
    go_ret2
    exact ⟨none, 0, rfl, Own.nil _ _, Keep.next (Keep.next g1 (by go_grown)) k2⟩
  · rw [show seB g zs d ns ls = true from by simp [seB, h1, h2], show seV g zs d ns ls = seL d ns ls zs from by simp [seV, seB, h1, h2]]
    rw [h2] at HIR
    have HEO2 := Lib.hid (fun W (k : Keep w W) => HEO.out W k h2 (by omega) q2 hsb)
    clear HEO hsb q3 b1 b2
    go_enter Try.func35, Try.ntmps35
    go_wp2_with fail
    rw [← HW0.out]
    refine (HVO.out _ K0).mono ?_
    rintro e w1 ⟨rfl, k1⟩
    have g1 := K0.next k1
    obtain ⟨hc, _⟩ := bcell k1
    have v0 := (hc (w.heap.size + 1) 0 (by omega)).trans HX0.out.1
    have v1 := (hc (w.heap.size + 1) 1 (by omega)).trans HX0.out.2
    have hs1 := k1.size
    have hlt1 : w.heap.size + 1 < w1.heap.size := by omega
    have v2 : ∀ o : Obj, (w1.alloc o).cell? ⟨w.heap.size + 1, 0, none⟩ = some (.int .i64 d) := fun o => (Below.cell ((Below.refl w1.heap.size w1).alloc (Nat.le_refl _) o) (p := ⟨w.heap.size + 1, 0, none⟩) (by exact hlt1)).trans v0
    have v3 : ∀ o : Obj, (w1.alloc o).cell? ⟨w.heap.size + 1, 1, none⟩ = some (.slice vd ns.length vc) := fun o => (Below.cell ((Below.refl w1.heap.size w1).alloc (Nat.le_refl _) o) (p := ⟨w.heap.size + 1, 1, none⟩) (by exact hlt1)).trans v1
    clear hc k1 HW0 HX0
    go_wp2_with fail
    refine (HIR.out _ (Keep.next g1 (by go_grown))).mono ?_
    rintro e w2 ⟨rfl, k2⟩
    have g2 : Keep w w2 := Keep.next (Keep.next g1 (by go_grown)) k2
    have c0 : w2.cell? ⟨w1.heap.size, 0, none⟩ = some (.int .i64 g) := (k2.cell (by simp)).trans (by simp [go_sem])
    have c1 : w2.cell? ⟨w1.heap.size, 1, none⟩ = some (.slice ad zs.length cap) := (k2.cell (by simp)).trans (by simp [go_sem])
    have c2 : w2.cell? ⟨w1.heap.size, 2, none⟩ = some (.int .i64 d) := (k2.cell (by simp)).trans (by simp [go_sem])
    have c3 : w2.cell? ⟨w1.heap.size, 3, none⟩ = some (.slice vd ns.length vc) := (k2.cell (by simp)).trans (by simp [go_sem])
    have hs2 := g2.size
    clear k2 v0 v1 v2 v3
    go_wp2_with fail
    refine (HEO2.out _ g2).mono ?_
    rintro e w3 ⟨rd, rc, rfl, o3, k3⟩
    go_wp2
    go_ret2
    exact ⟨rd, rc, rfl, o3.mono hs2, g2.next k3⟩
end Go.Proofs.Ytpdcmhnaedhkdaa
