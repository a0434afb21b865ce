/- Errors of sets for a rounding: the model's. -/
import Derived.Test.YtpdcmhnaedhkdaaSeP10
import Derived.Test.YtpdcmhnaedhkdaaSysI
import Derived.Test.YtpdcmhnaedhkdaaCopyL
import Derived.Test.YtpdcmhnaedhkdaaHold
import Derived.Deep.LoopGhost
import Derived.Deep.QuietTactic
import Derived.BigQuiet
namespace Go.Proofs.Ytpdcmhnaedhkdaa
open Go.ChangeShapes Go.WideShapes Go.ChangeAt Go.RowKit Go.Deep
set_option linter.unusedVariables false
theorem bit_ofE {z : Int} (t : Nat) (h0 : 0 ≤ z) : bits .and .i64 (z / 2 ^ t) 1 = bitI z t := by
  have h := i64_bitX z.toNat t
  rw [show ((z.toNat : Nat) : Int) = z from by omega] at h
  exact h
set_option maxHeartbeats 3200000 in
set_option maxRecDepth 100000 in
theorem l10Both_any (X V : Nat) (g : Int) (ad : Option Addr) (cap : Nat) (zs : List Int) (d : Int) (vd : Option Addr) (vc : Nat) (ns : List Int) (w : World) (hz : Ints w ad zs) (hn : Ints w vd ns)
    (x0 : w.cell? ⟨X, 0, none⟩ = some (.int .i64 g)) (x1 : w.cell? ⟨X, 1, none⟩ = some (.slice ad zs.length cap)) (v0 : w.cell? ⟨V, 0, none⟩ = some (.int .i64 d)) (v1 : w.cell? ⟨V, 1, none⟩ = some (.slice vd ns.length vc)) :
    Calls Try.prog 67 #[.pointer (some ⟨X, 0, none⟩), .pointer (some ⟨V, 0, none⟩)] w fun e w' => e = .returned (.bool (bothB g zs d ns)) ∧ Keep w w' := by
  have lx := World.block_lt_of_cell? _ _ x0
  have lv := World.block_lt_of_cell? _ _ v0
  have hnl := hn.small
  have HS : Hid (∀ W, Keep w W → (fun W => (W.cell? ⟨X, 0, none⟩ = some (.int .i64 g) ∧ W.cell? ⟨V, 1, none⟩ = some (.slice vd ns.length vc)) ∧ Keep w W) W) := Lib.hid (fun W k => ⟨⟨(k.cell (p := ⟨X, 0, none⟩) (by exact lx)).trans x0, (k.cell (p := ⟨V, 1, none⟩) (by exact lv)).trans v1⟩, k⟩)
  have HIS := Lib.hid (fun W (k : Keep w W) => l10Is_any X g ad cap zs W (hz.keep k (Nat.le_refl _)) ((k.cell (p := ⟨X, 0, none⟩) (by exact lx)).trans x0) ((k.cell (p := ⟨X, 1, none⟩) (by exact lx)).trans x1))
  have HIV := Lib.hid (fun W (k : Keep w W) => l01Is_any V d vd vc ns W (hn.keep k (Nat.le_refl _)) ((k.cell (p := ⟨V, 0, none⟩) (by exact lv)).trans v0) ((k.cell (p := ⟨V, 1, none⟩) (by exact lv)).trans v1))
  clear hz hn x0 x1 v0 v1
  unfold bothB
  cases h1 : okS g zs
  case false =>
    rw [h1] at HIS
    rw [Bool.false_and]
    go_enter Try.func67, Try.ntmps67
    go_wp2_with fail
    refine wp_region_held_drew (S := (fun W => (W.cell? ⟨X, 0, none⟩ = some (.int .i64 g) ∧ W.cell? ⟨V, 1, none⟩ = some (.slice vd ns.length vc)) ∧ Keep w W)) (by kernel_rfl) ?_ (fun hHeld => ?_)
    · first | exact HS.out _ (by go_grown) | exact HS.out _ (Keep.next (by go_grown) k1)
    refine takeH (v := ?_) 0 5 rfl rfl (by kernel_rfl) (by kernel_rfl) (by kernel_rfl) (fun _ _ _ h => h) (by rfl) (by assumption) ?_ ?_
    rotate_left 1
    · (intro W_ hSw; (try dsimp only at hSw); go_simp; try with_reducible rfl)
    try simp only [Act.put, List.setIfInBounds_toArray, List.set_cons_zero, List.set_cons_succ]
    refine wpAnyH_ready (rs := [1]) (by kernel_rfl) (by simp) ?_
    refine AllReadyH.cons rfl (fun K hK => ?_) AllReadyH.nil
    first | (first | (go_at_call 105; refine (HIS.out _ (by go_grown)).mono ?_; rintro e w1 ⟨rfl, k1⟩)) | (go_simp; first | (go_at_call 105; refine (HIS.out _ (by go_grown)).mono ?_; rintro e w1 ⟨rfl, k1⟩))
    try (go_wp2_with fail)
    refine hK.out _ _ ?_ (fun hHeld => ?_)
    · first | exact HS.out _ (Keep.next (by go_grown) k1) | exact HS.out _ (by assumption) | exact HS.out _ (by go_grown)
    clear hK K
    try simp only [Act.put, List.setIfInBounds_toArray, List.set_cons_zero, List.set_cons_succ]
    refine takeH (v := ?_) 2 7 rfl rfl (by kernel_rfl) (by kernel_rfl) (by kernel_rfl) (fun _ _ _ h => h) (by rfl) (by assumption) ?_ ?_
    rotate_left 1
    · (intro W_ hSw; (try dsimp only at hSw); go_simp; try with_reducible rfl)
    try simp only [Act.put, List.setIfInBounds_toArray, List.set_cons_zero, List.set_cons_succ]
    refine skipH 3 8 rfl rfl (by kernel_rfl) (by kernel_rfl) (by kernel_rfl) (fun _ _ _ h => h) (by rfl) (by assumption) ?_
    try simp only [Act.put, List.setIfInBounds_toArray, List.set_cons_zero, List.set_cons_succ]
    refine skipH 4 9 rfl rfl (by kernel_rfl) (by kernel_rfl) (by kernel_rfl) (fun _ _ _ h => h) (by rfl) (by assumption) ?_
    try simp only [Act.put, List.setIfInBounds_toArray, List.set_cons_zero, List.set_cons_succ]
    refine takeH (v := ?_) 5 10 rfl rfl (by kernel_rfl) (by kernel_rfl) (by kernel_rfl) (fun _ _ _ h => h) (by rfl) (by assumption) ?_ ?_
    rotate_left 1
    · (intro W_ hSw; (try dsimp only at hSw); go_simp; try with_reducible rfl)
    try simp only [Act.put, List.setIfInBounds_toArray, List.set_cons_zero, List.set_cons_succ]
    refine takeH (v := ?_) 6 11 rfl rfl (by kernel_rfl) (by kernel_rfl) (by kernel_rfl) (fun _ _ _ h => h) (by rfl) (by assumption) ?_ ?_
    rotate_left 1
    · (intro W_ hSw; (try dsimp only at hSw); go_simp; try with_reducible rfl)
    try simp only [Act.put, List.setIfInBounds_toArray, List.set_cons_zero, List.set_cons_succ]
    refine skipH 7 12 rfl rfl (by kernel_rfl) (by kernel_rfl) (by kernel_rfl) (fun _ _ _ h => h) (by rfl) (by assumption) ?_
    try simp only [Act.put, List.setIfInBounds_toArray, List.set_cons_zero, List.set_cons_succ]
    refine skipH 8 13 rfl rfl (by kernel_rfl) (by kernel_rfl) (by kernel_rfl) (fun _ _ _ h => h) (by rfl) (by assumption) ?_
    try simp only [Act.put, List.setIfInBounds_toArray, List.set_cons_zero, List.set_cons_succ]
    refine skipH 9 14 rfl rfl (by kernel_rfl) (by kernel_rfl) (by kernel_rfl) (fun _ _ _ h => h) (by rfl) (by assumption) ?_
    try simp only [Act.put, List.setIfInBounds_toArray, List.set_cons_zero, List.set_cons_succ]
    refine skipH 10 15 rfl rfl (by kernel_rfl) (by kernel_rfl) (by kernel_rfl) (fun _ _ _ h => h) (by rfl) (by assumption) ?_
    try simp only [Act.put, List.setIfInBounds_toArray, List.set_cons_zero, List.set_cons_succ]
    refine skipH 11 16 rfl rfl (by kernel_rfl) (by kernel_rfl) (by kernel_rfl) (fun _ _ _ h => h) (by rfl) (by assumption) ?_
    try simp only [Act.put, List.setIfInBounds_toArray, List.set_cons_zero, List.set_cons_succ]
    refine skipH 12 17 rfl rfl (by kernel_rfl) (by kernel_rfl) (by kernel_rfl) (fun _ _ _ h => h) (by rfl) (by assumption) ?_
    try simp only [Act.put, List.setIfInBounds_toArray, List.set_cons_zero, List.set_cons_succ]
    refine skipH 13 18 rfl rfl (by kernel_rfl) (by kernel_rfl) (by kernel_rfl) (fun _ _ _ h => h) (by rfl) (by assumption) ?_
    try simp only [Act.put, List.setIfInBounds_toArray, List.set_cons_zero, List.set_cons_succ]
    refine skipH 14 19 rfl rfl (by kernel_rfl) (by kernel_rfl) (by kernel_rfl) (fun _ _ _ h => h) (by rfl) (by assumption) ?_
    try simp only [Act.put, List.setIfInBounds_toArray, List.set_cons_zero, List.set_cons_succ]
    refine skipH 15 20 rfl rfl (by kernel_rfl) (by kernel_rfl) (by kernel_rfl) (fun _ _ _ h => h) (by rfl) (by assumption) ?_
    try simp only [Act.put, List.setIfInBounds_toArray, List.set_cons_zero, List.set_cons_succ]
    refine skipH 16 21 rfl rfl (by kernel_rfl) (by kernel_rfl) (by kernel_rfl) (fun _ _ _ h => h) (by rfl) (by assumption) ?_
    try simp only [Act.put, List.setIfInBounds_toArray, List.set_cons_zero, List.set_cons_succ]
    refine takeH (v := ?_) 17 22 rfl rfl (by kernel_rfl) (by kernel_rfl) (by kernel_rfl) (fun _ _ _ h => h) (by rfl) (by assumption) ?_ ?_
    rotate_left 1
    · (intro W_ hSw; (try dsimp only at hSw); go_simp; try with_reducible rfl)
    try simp only [Act.put, List.setIfInBounds_toArray, List.set_cons_zero, List.set_cons_succ]
    refine takeH (v := ?_) 18 4 rfl rfl (by kernel_rfl) (by kernel_rfl) (by kernel_rfl) (fun _ _ _ h => h) (by rfl) (by assumption) ?_ ?_
    rotate_left 1
    · (intro W_ hSw; (try dsimp only at hSw); go_simp; try with_reducible rfl)
    try simp only [Act.put, List.setIfInBounds_toArray, List.set_cons_zero, List.set_cons_succ]
    refine wpAnyH_done (by kernel_rfl) ?_ _
    go_wp2
    go_ret
    exact ⟨rfl, hHeld.2⟩
  rw [h1] at HIS
  rw [Bool.true_and]
  cases h2 : okV d ns
  case false =>
    rw [h2] at HIV
    rw [Bool.false_and]
    go_enter Try.func67, Try.ntmps67
    go_wp2_with fail
    refine wp_region_held_drew (S := (fun W => (W.cell? ⟨X, 0, none⟩ = some (.int .i64 g) ∧ W.cell? ⟨V, 1, none⟩ = some (.slice vd ns.length vc)) ∧ Keep w W)) (by kernel_rfl) ?_ (fun hHeld => ?_)
    · first | exact HS.out _ (by go_grown) | exact HS.out _ (Keep.next (by go_grown) k1)
    refine takeH (v := ?_) 0 5 rfl rfl (by kernel_rfl) (by kernel_rfl) (by kernel_rfl) (fun _ _ _ h => h) (by rfl) (by assumption) ?_ ?_
    rotate_left 1
    · (intro W_ hSw; (try dsimp only at hSw); go_simp; try with_reducible rfl)
    try simp only [Act.put, List.setIfInBounds_toArray, List.set_cons_zero, List.set_cons_succ]
    refine wpAnyH_ready (rs := [1]) (by kernel_rfl) (by simp) ?_
    refine AllReadyH.cons rfl (fun K hK => ?_) AllReadyH.nil
    first | (first | (go_at_call 105; refine (HIS.out _ (by go_grown)).mono ?_; rintro e w1 ⟨rfl, k1⟩) | (go_at_call 106; refine (HIV.out _ (And.right (by assumption))).mono ?_; rintro e w2 ⟨rfl, rfl⟩)) | (go_simp; first | (go_at_call 105; refine (HIS.out _ (by go_grown)).mono ?_; rintro e w1 ⟨rfl, k1⟩) | (go_at_call 106; refine (HIV.out _ (And.right (by assumption))).mono ?_; rintro e w2 ⟨rfl, rfl⟩))
    try (go_wp2_with fail)
    refine hK.out _ _ ?_ (fun hHeld => ?_)
    · first | exact HS.out _ (Keep.next (by go_grown) k1) | exact HS.out _ (by assumption) | exact HS.out _ (by go_grown)
    clear hK K
    try simp only [Act.put, List.setIfInBounds_toArray, List.set_cons_zero, List.set_cons_succ]
    refine takeH (v := ?_) 2 7 rfl rfl (by kernel_rfl) (by kernel_rfl) (by kernel_rfl) (fun _ _ _ h => h) (by rfl) (by assumption) ?_ ?_
    rotate_left 1
    · (intro W_ hSw; (try dsimp only at hSw); go_simp; try with_reducible rfl)
    try simp only [Act.put, List.setIfInBounds_toArray, List.set_cons_zero, List.set_cons_succ]
    refine takeH (v := ?_) 3 8 rfl rfl (by kernel_rfl) (by kernel_rfl) (by kernel_rfl) (fun _ _ _ h => h) (by rfl) (by assumption) ?_ ?_
    rotate_left 1
    · (intro W_ hSw; (try dsimp only at hSw); go_simp; try with_reducible rfl)
    try simp only [Act.put, List.setIfInBounds_toArray, List.set_cons_zero, List.set_cons_succ]
    refine wpAnyH_ready (rs := [4]) (by kernel_rfl) (by simp) ?_
    refine AllReadyH.cons rfl (fun K hK => ?_) AllReadyH.nil
    first | (first | (go_at_call 105; refine (HIS.out _ (by go_grown)).mono ?_; rintro e w1 ⟨rfl, k1⟩) | (go_at_call 106; refine (HIV.out _ (And.right (by assumption))).mono ?_; rintro e w2 ⟨rfl, rfl⟩)) | (go_simp; first | (go_at_call 105; refine (HIS.out _ (by go_grown)).mono ?_; rintro e w1 ⟨rfl, k1⟩) | (go_at_call 106; refine (HIV.out _ (And.right (by assumption))).mono ?_; rintro e w2 ⟨rfl, rfl⟩))
    try (go_wp2_with fail)
    refine hK.out _ _ ?_ (fun hHeld => ?_)
    · first | exact HS.out _ (Keep.next (by go_grown) k1) | exact HS.out _ (by assumption) | exact HS.out _ (by go_grown)
    clear hK K
    try simp only [Act.put, List.setIfInBounds_toArray, List.set_cons_zero, List.set_cons_succ]
    refine takeH (v := ?_) 5 10 rfl rfl (by kernel_rfl) (by kernel_rfl) (by kernel_rfl) (fun _ _ _ h => h) (by rfl) (by assumption) ?_ ?_
    rotate_left 1
    · (intro W_ hSw; (try dsimp only at hSw); go_simp; try with_reducible rfl)
    try simp only [Act.put, List.setIfInBounds_toArray, List.set_cons_zero, List.set_cons_succ]
    refine takeH (v := ?_) 6 11 rfl rfl (by kernel_rfl) (by kernel_rfl) (by kernel_rfl) (fun _ _ _ h => h) (by rfl) (by assumption) ?_ ?_
    rotate_left 1
    · (intro W_ hSw; (try dsimp only at hSw); go_simp; try with_reducible rfl)
    try simp only [Act.put, List.setIfInBounds_toArray, List.set_cons_zero, List.set_cons_succ]
    refine skipH 7 12 rfl rfl (by kernel_rfl) (by kernel_rfl) (by kernel_rfl) (fun _ _ _ h => h) (by rfl) (by assumption) ?_
    try simp only [Act.put, List.setIfInBounds_toArray, List.set_cons_zero, List.set_cons_succ]
    refine skipH 8 13 rfl rfl (by kernel_rfl) (by kernel_rfl) (by kernel_rfl) (fun _ _ _ h => h) (by rfl) (by assumption) ?_
    try simp only [Act.put, List.setIfInBounds_toArray, List.set_cons_zero, List.set_cons_succ]
    refine skipH 9 14 rfl rfl (by kernel_rfl) (by kernel_rfl) (by kernel_rfl) (fun _ _ _ h => h) (by rfl) (by assumption) ?_
    try simp only [Act.put, List.setIfInBounds_toArray, List.set_cons_zero, List.set_cons_succ]
    refine skipH 10 15 rfl rfl (by kernel_rfl) (by kernel_rfl) (by kernel_rfl) (fun _ _ _ h => h) (by rfl) (by assumption) ?_
    try simp only [Act.put, List.setIfInBounds_toArray, List.set_cons_zero, List.set_cons_succ]
    refine skipH 11 16 rfl rfl (by kernel_rfl) (by kernel_rfl) (by kernel_rfl) (fun _ _ _ h => h) (by rfl) (by assumption) ?_
    try simp only [Act.put, List.setIfInBounds_toArray, List.set_cons_zero, List.set_cons_succ]
    refine skipH 12 17 rfl rfl (by kernel_rfl) (by kernel_rfl) (by kernel_rfl) (fun _ _ _ h => h) (by rfl) (by assumption) ?_
    try simp only [Act.put, List.setIfInBounds_toArray, List.set_cons_zero, List.set_cons_succ]
    refine skipH 13 18 rfl rfl (by kernel_rfl) (by kernel_rfl) (by kernel_rfl) (fun _ _ _ h => h) (by rfl) (by assumption) ?_
    try simp only [Act.put, List.setIfInBounds_toArray, List.set_cons_zero, List.set_cons_succ]
    refine skipH 14 19 rfl rfl (by kernel_rfl) (by kernel_rfl) (by kernel_rfl) (fun _ _ _ h => h) (by rfl) (by assumption) ?_
    try simp only [Act.put, List.setIfInBounds_toArray, List.set_cons_zero, List.set_cons_succ]
    refine skipH 15 20 rfl rfl (by kernel_rfl) (by kernel_rfl) (by kernel_rfl) (fun _ _ _ h => h) (by rfl) (by assumption) ?_
    try simp only [Act.put, List.setIfInBounds_toArray, List.set_cons_zero, List.set_cons_succ]
    refine skipH 16 21 rfl rfl (by kernel_rfl) (by kernel_rfl) (by kernel_rfl) (fun _ _ _ h => h) (by rfl) (by assumption) ?_
    try simp only [Act.put, List.setIfInBounds_toArray, List.set_cons_zero, List.set_cons_succ]
    refine takeH (v := ?_) 17 22 rfl rfl (by kernel_rfl) (by kernel_rfl) (by kernel_rfl) (fun _ _ _ h => h) (by rfl) (by assumption) ?_ ?_
    rotate_left 1
    · (intro W_ hSw; (try dsimp only at hSw); go_simp; try with_reducible rfl)
    try simp only [Act.put, List.setIfInBounds_toArray, List.set_cons_zero, List.set_cons_succ]
    refine takeH (v := ?_) 18 4 rfl rfl (by kernel_rfl) (by kernel_rfl) (by kernel_rfl) (fun _ _ _ h => h) (by rfl) (by assumption) ?_ ?_
    rotate_left 1
    · (intro W_ hSw; (try dsimp only at hSw); go_simp; try with_reducible rfl)
    try simp only [Act.put, List.setIfInBounds_toArray, List.set_cons_zero, List.set_cons_succ]
    refine wpAnyH_done (by kernel_rfl) ?_ _
    go_wp2
    go_ret
    exact ⟨rfl, hHeld.2⟩
  rw [h2] at HIV
  rw [Bool.true_and]
  cases h3 : decide ((ns.length : Int) = g)
  all_goals
    have h3b : ((ns.length : Int) == g) = decide ((ns.length : Int) = g) := rfl
    rw [h3] at h3b
    go_enter Try.func67, Try.ntmps67
    go_wp2_with fail
    refine wp_region_held_drew (S := (fun W => (W.cell? ⟨X, 0, none⟩ = some (.int .i64 g) ∧ W.cell? ⟨V, 1, none⟩ = some (.slice vd ns.length vc)) ∧ Keep w W)) (by kernel_rfl) ?_ (fun hHeld => ?_)
    · first | exact HS.out _ (by go_grown) | exact HS.out _ (Keep.next (by go_grown) k1)
    refine takeH (v := ?_) 0 5 rfl rfl (by kernel_rfl) (by kernel_rfl) (by kernel_rfl) (fun _ _ _ h => h) (by rfl) (by assumption) ?_ ?_
    rotate_left 1
    · (intro W_ hSw; (try dsimp only at hSw); go_simp; try with_reducible rfl)
    try simp only [Act.put, List.setIfInBounds_toArray, List.set_cons_zero, List.set_cons_succ]
    refine wpAnyH_ready (rs := [1]) (by kernel_rfl) (by simp) ?_
    refine AllReadyH.cons rfl (fun K hK => ?_) AllReadyH.nil
    first | (first | (go_at_call 105; refine (HIS.out _ (by go_grown)).mono ?_; rintro e w1 ⟨rfl, k1⟩) | (go_at_call 106; refine (HIV.out _ (And.right (by assumption))).mono ?_; rintro e w2 ⟨rfl, rfl⟩)) | (go_simp; first | (go_at_call 105; refine (HIS.out _ (by go_grown)).mono ?_; rintro e w1 ⟨rfl, k1⟩) | (go_at_call 106; refine (HIV.out _ (And.right (by assumption))).mono ?_; rintro e w2 ⟨rfl, rfl⟩))
    try (go_wp2_with fail)
    refine hK.out _ _ ?_ (fun hHeld => ?_)
    · first | exact HS.out _ (Keep.next (by go_grown) k1) | exact HS.out _ (by assumption) | exact HS.out _ (by go_grown)
    clear hK K
    try simp only [Act.put, List.setIfInBounds_toArray, List.set_cons_zero, List.set_cons_succ]
    refine takeH (v := ?_) 2 7 rfl rfl (by kernel_rfl) (by kernel_rfl) (by kernel_rfl) (fun _ _ _ h => h) (by rfl) (by assumption) ?_ ?_
    rotate_left 1
    · (intro W_ hSw; (try dsimp only at hSw); go_simp; try with_reducible rfl)
    try simp only [Act.put, List.setIfInBounds_toArray, List.set_cons_zero, List.set_cons_succ]
    refine takeH (v := ?_) 3 8 rfl rfl (by kernel_rfl) (by kernel_rfl) (by kernel_rfl) (fun _ _ _ h => h) (by rfl) (by assumption) ?_ ?_
    rotate_left 1
    · (intro W_ hSw; (try dsimp only at hSw); go_simp; try with_reducible rfl)
    try simp only [Act.put, List.setIfInBounds_toArray, List.set_cons_zero, List.set_cons_succ]
    refine wpAnyH_ready (rs := [4]) (by kernel_rfl) (by simp) ?_
    refine AllReadyH.cons rfl (fun K hK => ?_) AllReadyH.nil
    first | (first | (go_at_call 105; refine (HIS.out _ (by go_grown)).mono ?_; rintro e w1 ⟨rfl, k1⟩) | (go_at_call 106; refine (HIV.out _ (And.right (by assumption))).mono ?_; rintro e w2 ⟨rfl, rfl⟩)) | (go_simp; first | (go_at_call 105; refine (HIS.out _ (by go_grown)).mono ?_; rintro e w1 ⟨rfl, k1⟩) | (go_at_call 106; refine (HIV.out _ (And.right (by assumption))).mono ?_; rintro e w2 ⟨rfl, rfl⟩))
    try (go_wp2_with fail)
    refine hK.out _ _ ?_ (fun hHeld => ?_)
    · first | exact HS.out _ (Keep.next (by go_grown) k1) | exact HS.out _ (by assumption) | exact HS.out _ (by go_grown)
    clear hK K
    try simp only [Act.put, List.setIfInBounds_toArray, List.set_cons_zero, List.set_cons_succ]
    refine takeH (v := ?_) 5 10 rfl rfl (by kernel_rfl) (by kernel_rfl) (by kernel_rfl) (fun _ _ _ h => h) (by rfl) (by assumption) ?_ ?_
    rotate_left 1
    · (intro W_ hSw; (try dsimp only at hSw); go_simp; try with_reducible rfl)
    try simp only [Act.put, List.setIfInBounds_toArray, List.set_cons_zero, List.set_cons_succ]
    refine takeH (v := ?_) 6 11 rfl rfl (by kernel_rfl) (by kernel_rfl) (by kernel_rfl) (fun _ _ _ h => h) (by rfl) (by assumption) ?_ ?_
    rotate_left 1
    · (intro W_ hSw; (try dsimp only at hSw); go_simp; try with_reducible rfl)
    try simp only [Act.put, List.setIfInBounds_toArray, List.set_cons_zero, List.set_cons_succ]
    refine takeH (v := ?_) 7 12 rfl rfl (by kernel_rfl) (by kernel_rfl) (by kernel_rfl) (fun _ _ _ h => h) (by rfl) (by assumption) ?_ ?_
    rotate_left 1
    · (intro W_ hSw; (try dsimp only at hSw); go_simp; try with_reducible rfl)
    try simp only [Act.put, List.setIfInBounds_toArray, List.set_cons_zero, List.set_cons_succ]
    refine takeH (v := ?_) 8 13 rfl rfl (by kernel_rfl) (by kernel_rfl) (by kernel_rfl) (fun _ _ _ h => h) (by rfl) (by assumption) ?_ ?_
    rotate_left 1
    · (intro W_ hSw; (try dsimp only at hSw); go_simp; try with_reducible rfl)
    try simp only [Act.put, List.setIfInBounds_toArray, List.set_cons_zero, List.set_cons_succ]
    refine takeH (v := ?_) 9 14 rfl rfl (by kernel_rfl) (by kernel_rfl) (by kernel_rfl) (fun _ _ _ h => h) (by rfl) (by assumption) ?_ ?_
    rotate_left 1
    · (intro W_ hSw; (try dsimp only at hSw); go_simp; try with_reducible rfl)
    try simp only [Act.put, List.setIfInBounds_toArray, List.set_cons_zero, List.set_cons_succ]
    refine takeH (v := ?_) 10 15 rfl rfl (by kernel_rfl) (by kernel_rfl) (by kernel_rfl) (fun _ _ _ h => h) (by rfl) (by assumption) ?_ ?_
    rotate_left 1
    · (intro W_ hSw; (try dsimp only at hSw); go_simp; try with_reducible rfl)
    try simp only [Act.put, List.setIfInBounds_toArray, List.set_cons_zero, List.set_cons_succ]
    refine takeH (v := ?_) 11 16 rfl rfl (by kernel_rfl) (by kernel_rfl) (by kernel_rfl) (fun _ _ _ h => h) (by rfl) (by assumption) ?_ ?_
    rotate_left 1
    · (intro W_ hSw; (try dsimp only at hSw); go_simp; try with_reducible rfl)
    try simp only [Act.put, List.setIfInBounds_toArray, List.set_cons_zero, List.set_cons_succ]
    refine takeH (v := ?_) 12 17 rfl rfl (by kernel_rfl) (by kernel_rfl) (by kernel_rfl) (fun _ _ _ h => h) (by rfl) (by assumption) ?_ ?_
    rotate_left 1
    · (intro W_ hSw; (try dsimp only at hSw); go_simp; try with_reducible rfl)
    try simp only [Act.put, List.setIfInBounds_toArray, List.set_cons_zero, List.set_cons_succ]
    refine takeH (v := ?_) 13 18 rfl rfl (by kernel_rfl) (by kernel_rfl) (by kernel_rfl) (fun _ _ _ h => h) (by rfl) (by assumption) ?_ ?_
    rotate_left 1
    · (intro W_ hSw; (try dsimp only at hSw); go_simp; try with_reducible rfl)
    try simp only [Act.put, List.setIfInBounds_toArray, List.set_cons_zero, List.set_cons_succ]
    refine takeH (v := ?_) 14 19 rfl rfl (by kernel_rfl) (by kernel_rfl) (by kernel_rfl) (fun _ _ _ h => h) (by rfl) (by assumption) ?_ ?_
    rotate_left 1
    · (intro W_ hSw; (try dsimp only at hSw); go_simp; try with_reducible rfl)
    try simp only [Act.put, List.setIfInBounds_toArray, List.set_cons_zero, List.set_cons_succ]
    refine takeH (v := ?_) 15 20 rfl rfl (by kernel_rfl) (by kernel_rfl) (by kernel_rfl) (fun _ _ _ h => h) (by rfl) (by assumption) ?_ ?_
    rotate_left 1
    · (intro W_ hSw; (try dsimp only at hSw); go_simp; try with_reducible rfl)
    try simp only [Act.put, List.setIfInBounds_toArray, List.set_cons_zero, List.set_cons_succ]
    refine takeH (v := ?_) 16 21 rfl rfl (by kernel_rfl) (by kernel_rfl) (by kernel_rfl) (fun _ _ _ h => h) (by rfl) (by assumption) ?_ ?_
    rotate_left 1
    · (intro W_ hSw; (try dsimp only at hSw); go_simp; try with_reducible rfl)
    try simp only [Act.put, List.setIfInBounds_toArray, List.set_cons_zero, List.set_cons_succ]
    refine takeH (v := ?_) 17 22 rfl rfl (by kernel_rfl) (by kernel_rfl) (by kernel_rfl) (fun _ _ _ h => h) (by rfl) (by assumption) ?_ ?_
    rotate_left 1
    · (intro W_ hSw; (try dsimp only at hSw); go_simp; try with_reducible rfl)
    try simp only [Act.put, List.setIfInBounds_toArray, List.set_cons_zero, List.set_cons_succ]
    refine takeH (v := ?_) 18 4 rfl rfl (by kernel_rfl) (by kernel_rfl) (by kernel_rfl) (fun _ _ _ h => h) (by rfl) (by assumption) ?_ ?_
    rotate_left 1
    · (intro W_ hSw; (try dsimp only at hSw); go_simp; try with_reducible rfl)
    try simp only [Act.put, List.setIfInBounds_toArray, List.set_cons_zero, List.set_cons_succ]
    refine wpAnyH_done (by kernel_rfl) ?_ _
    go_wp2
    go_ret
    exact ⟨rfl, hHeld.2⟩
set_option maxHeartbeats 3200000 in
set_option maxRecDepth 100000 in
theorem l10Errors_any (X V : Nat) (g : Int) (ad : Option Addr) (cap : Nat) (zs : List Int) (d : Int) (vd : Option Addr) (vc : Nat) (ns : List Int) (ld : Option Addr) (lc : Nat) (ls : List Int) (w : World) (hz : Ints w ad zs) (hn : Ints w vd ns) (hl : Ints w ld ls)
    (x1 : w.cell? ⟨X, 1, none⟩ = some (.slice ad zs.length cap)) (v0 : w.cell? ⟨V, 0, none⟩ = some (.int .i64 d)) (v1 : w.cell? ⟨V, 1, none⟩ = some (.slice vd ns.length vc)) (hR : rndB d ns ls = true) (h12 : ns.length ≤ 12) (hzl : zs.length ≤ 12) (hzb : ∀ z ∈ zs, 0 ≤ z ∧ z < 4096) :
    Calls Try.prog 69 #[.pointer (some ⟨X, 0, none⟩), .pointer (some ⟨V, 0, none⟩), .slice ld ls.length lc] w fun e w' => ∃ rd rc, e = .returned (.slice rd (seL d ns ls zs).length rc) ∧ Own w' w.heap.size rd rc (seL d ns ls zs) ∧ Keep w w' := by
  have lx := World.block_lt_of_cell? _ _ x1
  have lv := World.block_lt_of_cell? _ _ v0
  obtain ⟨hok, hln, hRT⟩ := rndB_iff.1 hR
  have hd := okV_den hok
  have hl12 : ls.length ≤ 12 := by omega
  have HC := Lib.hid (fun W (k : Keep w W) => And.intro ((k.cell (p := ⟨X, 1, none⟩) (by exact lx)).trans x1) (And.intro ((k.cell (p := ⟨V, 0, none⟩) (by exact lv)).trans v0) ((k.cell (p := ⟨V, 1, none⟩) (by exact lv)).trans v1)))
  have HZ := Lib.hid hz
  have HNS := Lib.hid hn
  have HLS := Lib.hid hl
  have HSL := Lib.hid (fun k => seL_len d ns ls (zs.take k))
  have HST := Lib.hid (fun k (h : k < zs.length) => seL_take_succ d ns ls zs k h)
  have HIN := Lib.hid (fun k => seL_in hR hl12 (zs.take k))
  have HBT := Lib.hid (fun k (h : k < zs.length) t => bit_ofE t (hzb _ (getD_mem zs k h)).1)
  have HSB := Lib.hid (fun m t (h : t ≤ ls.length) => selS_bd 1000 (by omega) (errsL d ns ls) (rnd_errs hR) m t (by rw [errsL_len d ns ls hln]; exact h))
  have HEG := Lib.hid (fun t (h : t < ls.length) => errsL_get d ns ls hln t h)
  have HEB := Lib.hid (fun t (h : t < ls.length) => by
    have h1 := rnd_errs hR _ (getD_mem (errsL d ns ls) t (by rw [errsL_len d ns ls hln]; exact h))
    rw [errsL_get d ns ls hln t h] at h1; exact h1)
  have HNB := Lib.hid (fun t (h : t < ls.length) => okV_num hok _ (getD_mem ns t (by omega)))
  have HOUT : Hid (seL d ns ls (zs.take zs.length) = seL d ns ls zs) := Lib.hid (by rw [List.take_length])
  have HLEN := Lib.hid hln
  have HSEL := Lib.hid (fun m t => selS_bits (errsL d ns ls) m t)
  have HSL0 := Lib.hid (seL_len d ns ls zs)
  clear hz hn hl hR hRT hok hzb hln lx lv x1 v0 v1
  generalize hE : errsL d ns ls = E at *
  clear hE
  obtain ⟨q0, q1, q2⟩ := HC.out w (Below.refl _ _)
  go_enter Try.func69, Try.ntmps69
  go_wp2
  go_loopg [7, 8, 9, 10] zs.length (fun kk v i _ _ wr => ∃ (k : Nat) (rd : Option Addr) (rc : Nat), k ≤ zs.length ∧ kk = zs.length - k ∧ i = .int .i64 k ∧ v = .slice rd k rc ∧ Hid (Own wr w.heap.size rd rc (seL d ns ls (zs.take k))) ∧ Hid (Keep w wr))
  case atStart =>
    refine ⟨0, _, _, Nat.zero_le _, rfl, rfl, rfl, Lib.hid ?_, Lib.hid (by go_grown)⟩
    have := World.ownsRow_lit (base := w.heap.size) (e := 2) (size := 1) w #[] 0 (Nat.le_refl _) (by simp) rfl
    exact ⟨by simpa [seL] using this, by simp [seL], by simp [seL]⟩
  case round =>
    obtain ⟨k, rd, rc, hk, rfl, rfl, rfl, HO, HK⟩ := hrel
    obtain ⟨q0, q1, q2⟩ := HC.out wr HK.out
    have hws : w.heap.size ≤ wr.heap.size := HK.out.size
    obtain ⟨wo, rfl⟩ : ∃ x, x = wr := ⟨_, rfl⟩
    by_cases hlt : k < zs.length
    · rcases (HZ.out.keep HK.out (Nat.le_refl _)).at_ with h | ⟨b, off, rfl, hb, hc⟩
      · subst h; simp at hlt
      have hcx := hc k hlt
      have HCX := Lib.hid (fun W (kk : Keep wo W) => (kk.cell (p := ⟨b, off + k, none⟩) (by exact hb)).trans hcx)
      have HBTk := Lib.hid (HBT.out k hlt)
      have HS := Lib.hid (HST.out k hlt)
      have HLK : Hid ((seL d ns ls (zs.take k)).length = k) := Lib.hid (by rw [HSL.out, List.length_take]; omega)
      have HSBk := Lib.hid (HSB.out (zs.getD k 0).toNat)
      have HSELk := Lib.hid (HSEL.out (zs.getD k 0).toNat)
      have HBI : Hid (∀ t, bitI (zs.getD k 0) t = if (zs.getD k 0).toNat.testBit t then 1 else 0) := Lib.hid (fun t => rfl)
      clear hc
      generalize (zs.getD k 0).toNat = m at *
      generalize zs.getD k 0 = z at *
      generalize seL d ns ls (zs.take k) = L at *
      have HS0 : Hid (selS E m 0 = 0) := Lib.hid rfl
      go_wp2
      go_loopg [9, 10] ls.length (fun kk s i wi => ∃ t : Nat, t ≤ ls.length ∧ kk = ls.length - t ∧ i = .int .i64 t ∧ s = .int .i64 (selS E m t) ∧ Hid (Keep wo wi))
      case atStart => exact ⟨0, Nat.zero_le _, rfl, rfl, by rw [HS0.out], Lib.hid (Below.refl _ _)⟩
      case round =>
        obtain ⟨t, ht, rfl, rfl, rfl, HK2⟩ := hrel
        obtain ⟨p0, p1, p2⟩ := HC.out wr (HK.out.next HK2.out)
        have hcz := HCX.out wr HK2.out
        by_cases htl : t < ls.length
        · have hbt := HBTk.out t
          rw [HBI.out t] at hbt
          have HSE := Lib.hid (HSELk.out t)
          have hsb := HSBk.out t ht
          have htn : t < ns.length := by have := HLEN.out; omega
          rcases ((HLS.out.keep HK.out (Nat.le_refl _)).keep HK2.out (Nat.le_refl _)).at_ with h | ⟨b2, off2, rfl, hb2, hc2⟩
          · rw [h] at htl; simp at htl
          rcases ((HNS.out.keep HK.out (Nat.le_refl _)).keep HK2.out (Nat.le_refl _)).at_ with h | ⟨b3, off3, rfl, hb3, hc3⟩
          · rw [h] at htn; simp at htn
          have y2 := hc2 t htl
          have y3 := hc3 t htn
          have heg := HEG.out t htl
          have heb := HEB.out t htl
          have hnb := HNB.out t htl
          clear hc2 hc3
          generalize ls.getD t 0 = l at *
          generalize ns.getD t 0 = n at *
          generalize selS E m t = s at *
          have hmb : -1000000000 ≤ d * l ∧ d * l ≤ 1000000000 := by omega
          have hw1 : IntKind.i64.wrap (d * l) = d * l := IntWalk.i64_in _ (by omega)
          have hw2 : IntKind.i64.wrap (d * l - n) = d * l - n := IntWalk.i64_in _ (by omega)
          have hw3 : IntKind.i64.wrap (s + (d * l - n)) = s + (d * l - n) := IntWalk.i64_in _ (by omega)
          cases hb : m.testBit t
          · rw [hb] at hbt
            have HS2 : Hid (selS E m (t + 1) = s) := Lib.hid (by rw [HSE.out, hb]; simp)
            clear heg heb hmb hw1 hw2 hw3
            go_wp2
            go_roundg (ls.length - (t + 1))
            case measure => omega
            case rel => exact ⟨t + 1, by omega, rfl, by go_num, by rw [HS2.out], HK2⟩
          · rw [hb] at hbt
            have HS2 : Hid (selS E m (t + 1) = s + (d * l - n)) := Lib.hid (by rw [HSE.out, hb, heg]; simp)
            clear heg
            go_wp2
            go_quiet (fail)
            go_wp2
            go_roundg (ls.length - (t + 1))
            case measure => omega
            case rel => exact ⟨t + 1, by omega, rfl, by go_num, by rw [HS2.out], Lib.hid (below_drewN HK2.out _)⟩
        · have HE2 := Lib.hid (show t = ls.length by omega)
          have hsb := HSBk.out t ht
          have HS3 : Hid (selS E m t = selS E m ls.length) := Lib.hid (by rw [HE2.out])
          have HOW := Lib.hid (HO.out.keep HK2.out)
          have HKW := Lib.hid (HK.out.next HK2.out)
          have hww : w.heap.size ≤ wr.heap.size := HKW.out.size
          generalize selS E m t = y at *
          go_wp2_with (refine list_app1 (by rfl) _ _ (by rfl) w.heap.size rd rc k L y (by rfl) (HOW.out.keep (by go_grown)) HLK.out.symm wr.heap.size (by rfl) (by simp) ⟨by omega, by omega⟩ (by rw [HLK.out]; omega) (by simp; omega) ?_; intro ad' cap' w3 hown3 hgr3; have hbel3 : Below w.heap.size w w3 := HKW.out.trans (below_own (by go_grown) (HOW.out.keep (w' := wr.alloc _) (by go_grown)) hgr3 (by simp; omega) (Nat.le_refl _)))
          go_roundg (zs.length - (k + 1))
          case measure => omega
          case rel => exact ⟨k + 1, ad', cap', by omega, rfl, by go_num, rfl, Lib.hid (by rw [HS.out, ← HS3.out]; exact hown3), Lib.hid hbel3⟩
    · have HE := Lib.hid (show k = zs.length by omega)
      go_wp2
      go_ret
      have o := HO.out
      rw [HE.out, HOUT.out] at o
      exact ⟨rd, rc, by rw [HSL0.out, ← HE.out]; rfl, o, HK.out⟩
set_option maxHeartbeats 1600000 in
set_option maxRecDepth 100000 in
theorem specSetErrors_any (g : Int) (ad : Option Addr) (cap : Nat) (zs : List Int) (d : Int) (vd : Option Addr) (vc : Nat) (ns : List Int) (ld : Option Addr) (lc : Nat) (ls : List Int) (w : World) (hz : Ints w ad zs) (hn : Ints w vd ns) (hl : Ints w ld ls) :
    Calls Try.prog 32 #[valV g ad zs.length cap, valV d vd ns.length vc, .slice ld ls.length lc] w fun e w' => ∃ rd rc, e = .returned (.tuple #[.slice rd (seV g zs d ns ls).length rc, .bool (seB g zs d ns ls)]) ∧ Own w' w.heap.size rd rc (seV g zs d ns ls) ∧ Keep w w' := by
  obtain ⟨W0, hW0⟩ : ∃ W0, W0 = (w.alloc (.cells #[.int .i64 g, .slice ad zs.length cap] 55)).alloc (.cells #[.int .i64 d, .slice vd ns.length vc] 57) := ⟨_, rfl⟩
  have K0 : Keep w W0 := by rw [hW0]; go_grown
  have hsz : W0.heap.size = w.heap.size + 2 := by rw [hW0]; simp
  have HX : Hid (∀ W, Keep W0 W → (W.cell? ⟨w.heap.size, 0, none⟩ = some (.int .i64 g) ∧ W.cell? ⟨w.heap.size, 1, none⟩ = some (.slice ad zs.length cap)) ∧ W.cell? ⟨w.heap.size + 1, 0, none⟩ = some (.int .i64 d) ∧ W.cell? ⟨w.heap.size + 1, 1, none⟩ = some (.slice vd ns.length vc)) := Lib.hid (fun W k => by
    obtain ⟨hc, _⟩ := bcell k
    rw [hc _ _ (by omega), hc _ _ (by omega), hc _ _ (by omega), hc _ _ (by omega), hW0]
    exact ⟨⟨by simp [go_sem], by simp [go_sem]⟩, by simp [go_sem], by simp [go_sem]⟩)
  have HW0 := Lib.hid hW0
  have HB := Lib.hid (fun W (k : Keep W0 W) => l10Both_any w.heap.size (w.heap.size + 1) g ad cap zs d vd vc ns W (hz.keep (K0.next k) (Nat.le_refl _)) (hn.keep (K0.next k) (Nat.le_refl _)) (HX.out W k).1.1 (HX.out W k).1.2 (HX.out W k).2.1 (HX.out W k).2.2)
  have HR := Lib.hid (fun W (k : Keep W0 W) (h : okV d ns = true) => l01Rounds_any (w.heap.size + 1) d vd vc ns ld lc ls W (hn.keep (K0.next k) (Nat.le_refl _)) (hl.keep (K0.next k) (Nat.le_refl _)) h (HX.out W k).2.1 (HX.out W k).2.2)
  have HE := Lib.hid (fun W (k : Keep W0 W) => l10Errors_any w.heap.size (w.heap.size + 1) g ad cap zs d vd vc ns ld lc ls W (hz.keep (K0.next k) (Nat.le_refl _)) (hn.keep (K0.next k) (Nat.le_refl _)) (hl.keep (K0.next k) (Nat.le_refl _)) (HX.out W k).1.2 (HX.out W k).2.1 (HX.out W k).2.2)
  clear hW0 hz hn hl
  cases h1 : bothB g zs d ns
  · rw [show seB g zs d ns ls = false from by simp [seB, h1], show seV g zs d ns ls = [] from by simp [seV, seB, h1]]
    rw [h1] at HB
    go_enter Try.func32, Try.ntmps32
    go_wp2_with fail
    rw [← HW0.out]
    refine (HB.out _ (Below.refl _ _)).mono ?_
    rintro e w1 ⟨rfl, k1⟩
    go_wp2
    go_ret2
    exact ⟨none, 0, rfl, Own.nil _ _, K0.next k1⟩
  obtain ⟨b1, b2, b3⟩ := bothB_parts h1
  obtain ⟨q0, q1, q2, q3⟩ := okS_parts b1
  have hsb := okS_sets b1
  have HR2 := Lib.hid (fun W (k : Keep W0 W) => HR.out W k b2)
  rw [h1] at HB
  clear HR
  cases h2 : rndB d ns ls
  · rw [show seB g zs d ns ls = false from by simp [seB, h2], show seV g zs d ns ls = [] from by simp [seV, seB, h2]]
    rw [h2] at HR2
    go_enter Try.func32, Try.ntmps32
    go_wp2_with fail
    rw [← HW0.out]
    refine (HB.out _ (Below.refl _ _)).mono ?_
    rintro e w1 ⟨rfl, k1⟩
    go_wp2_with fail
    refine (HR2.out _ k1).mono ?_
    rintro e w2 ⟨rfl, k2⟩
    go_wp2
    go_ret2
    exact ⟨none, 0, rfl, Own.nil _ _, K0.next (k1.next k2)⟩
  · rw [show seB g zs d ns ls = true from by simp [seB, h1, h2], show seV g zs d ns ls = seL d ns ls zs from by simp [seV, seB, h1, h2]]
    rw [h2] at HR2
    have HE2 := Lib.hid (fun W (k : Keep W0 W) => HE.out W k h2 (by omega) q2 hsb)
    clear HE hsb q3 b1 b2
    go_enter Try.func32, Try.ntmps32
    go_wp2_with fail
    rw [← HW0.out]
    refine (HB.out _ (Below.refl _ _)).mono ?_
    rintro e w1 ⟨rfl, k1⟩
    go_wp2_with fail
    refine (HR2.out _ k1).mono ?_
    rintro e w2 ⟨rfl, k2⟩
    have k12 := k1.next k2
    have hs2 := (K0.next k12).size
    go_wp2_with fail
    refine (HE2.out _ k12).mono ?_
    rintro e w3 ⟨rd, rc, rfl, o3, k3⟩
    go_wp2
    go_ret2
    exact ⟨rd, rc, rfl, o3.mono hs2, (K0.next k12).next k3⟩
end Go.Proofs.Ytpdcmhnaedhkdaa
