/- IsPath: the program's look. -/
import Derived.Test.YtjoanfgchapbaaaPth9
import Derived.Test.YtjoanfgchapbaaaTaps
import Derived.Test.YtjoanfgchapbaaaHold
import Derived.Deep.RegionHeld3
import Derived.Deep.DeepCutAuto
import Derived.Deep.RegionLaw
import Derived.BigRegion
import Derived.Deep.QuietTactic
import Derived.BigQuiet
import Derived.StillTailTactics
namespace Go.Proofs.Ytjoanfgchapbaaa
open Go.ChangeShapes Go.WideShapes Go.ChangeAt Go.RowKit Go.Deep
set_option linter.unusedVariables false
theorem within_is {n lo hi : Int} {x : Bool} {W : World} (h : inB n lo hi = x) : Calls Try.prog 63 #[.int .i64 n, .int .i64 lo, .int .i64 hi] W fun e w' => e = .returned (.bool x) ∧ w' = W := by
  subst h; exact (within_any n lo hi W).mono fun _ _ h => ⟨h.1, h.2.symm⟩
/-- A block of 12 rows of 12 marks. -/
def Seen12 (w : World) (G : Nat) (f : Nat → Nat → Bool) : Prop :=
  ∃ cs t, w.heap[G]? = some (.cells cs t (0, 0)) ∧ cs.size = 144 ∧ ∀ a b, a < 12 → b < 12 → cs[a * 12 + b]? = some (.bool (f a b))
theorem Seen12.cell {w : World} {G : Nat} {f : Nat → Nat → Bool} (h : Seen12 w G f) (a b : Nat) (ha : a < 12) (hb : b < 12) : w.cell? ⟨G, a * 12 + b, none⟩ = some (.bool (f a b)) := by
  obtain ⟨cs, t, h1, _, h3⟩ := h
  rw [cell_of_row w G (a * 12 + b) _ _ _ h1, h3 a b ha hb]
theorem Seen12.frozen {w : World} {G : Nat} {f : Nat → Nat → Bool} (h : Seen12 w G f) (i : Nat) : w.frozen? ⟨G, i, none⟩ = false := by
  obtain ⟨cs, t, h1, _⟩ := h
  exact frozen_of_row w G i _ _ h1
theorem Seen12.lt {w : World} {G : Nat} {f : Nat → Nat → Bool} (h : Seen12 w G f) : G < w.heap.size := by
  obtain ⟨cs, t, h1, _⟩ := h
  exact (Array.getElem?_eq_some_iff.1 h1).1
theorem Seen12.same {w w' : World} {G : Nat} {f : Nat → Nat → Bool} (h : Seen12 w G f) (e : w'.heap[G]? = w.heap[G]?) : Seen12 w' G f := by
  obtain ⟨cs, t, h1, h2⟩ := h
  exact ⟨cs, t, e.trans h1, h2⟩
theorem Seen12.keep {w w' : World} {G : Nat} {f : Nat → Nat → Bool} (h : Seen12 w G f) (k : Keep w w') : Seen12 w' G f := h.same (k.block G h.lt)
theorem Seen12.mark {w : World} {G : Nat} {f g : Nat → Nat → Bool} (h : Seen12 w G f) (a b : Nat) (ha : a < 12) (hb : b < 12) (e : ∀ x y, g x y = (f x y || (decide (a = x) && decide (b = y)))) : Seen12 (w.setCell ⟨G, a * 12 + b, none⟩ (.bool true)) G g := by
  obtain ⟨cs, t, h1, h2, h3⟩ := h
  refine ⟨_, t, heap_setCell_same w G (a * 12 + b) cs t _ h1, by simpa using h2, fun x y hx hy => ?_⟩
  rw [e x y, Array.getElem?_setIfInBounds]
  by_cases c : a * 12 + b = x * 12 + y
  · have e1 : a = x := by omega
    have e2 : b = y := by omega
    rw [if_pos c, if_pos (by omega), decide_eq_true e1, decide_eq_true e2]; simp
  · rw [if_neg c, h3 x y hx hy]
    have : (decide (a = x) && decide (b = y)) = false := by
      rw [Bool.and_eq_false_iff]
      by_cases e1 : a = x
      · right; exact decide_eq_false (fun e2 => c (by rw [e1, e2]))
      · left; exact decide_eq_false e1
    rw [this, Bool.or_false]
attribute [local irreducible] inB
theorem zero12 : Try.zeroCells142 = Array.replicate 144 (.bool false) := by kernel_rfl
theorem Try.infoSp : (Try.prog.info? 82).map (fun i => (i.zero, i.size, i.bytes)) = some (some (.agg #[.int .i64 0, .int .i64 0]), 2, 16) := by kernel_rfl
local macro "tk" i:num d:num : tactic => `(tactic| (refine takeH (v := ?_) $i $d rfl rfl (by kernel_rfl) (by kernel_rfl) (by kernel_rfl) (fun _ _ _ h => h) (by first | kernel_rfl | rfl) trivial ?_ ?_; rotate_left 1; focus (intro W_ hSw; go_simp; try with_reducible rfl); try simp only [Act.put, List.setIfInBounds_toArray, List.set_cons_zero, List.set_cons_succ]))
set_option maxHeartbeats 6400000 in
set_option maxRecDepth 100000 in
theorem spotsOf_any (ad : Option Addr) (cap : Nat) (zss : List (List Int)) (pd : Option Addr) (pc : Nat) (pss : List (List Int)) (w : World) (hz : Intss w ad zss) (hp : Intss w pd pss) :
    Calls Try.prog 91 #[.agg #[.slice ad zss.length cap], .slice pd pss.length pc] w fun e w' => ∃ v, e = .returned (.tuple #[v, .bool (pathB zss pss)]) ∧ Keep w w' := by
  have HVP := Lib.hid (fun W (k : Keep w W) => ValidPicture_any ad cap zss W (hz.keep k (Nat.le_refl _)))
  cases hg : picB zss
  · rw [show pathB zss pss = false from by unfold pathB; rw [hg]; rfl]
    rw [hg] at HVP
    obtain ⟨W0, hW0⟩ : ∃ W0, W0 = w.alloc (.cells #[.slice ad zss.length cap] 27) := ⟨_, rfl⟩
    have hK0 : Keep w W0 := by rw [hW0]; go_grown
    have q0 : W0.cell? ⟨w.heap.size, 0, none⟩ = some (.slice ad zss.length cap) := by rw [hW0]; simp
    have hs0 : w.heap.size < W0.heap.size := by rw [hW0]; simp
    go_enter Try.func91, Try.ntmps91
    go_upto_region 1 with fail
    rw [← hW0]
    clear hW0
    have HS : Hid (∀ W, Keep W0 W → W.cell? ⟨w.heap.size, 0, none⟩ = some (.slice ad zss.length cap) ∧ Keep W0 W) := Lib.hid (fun W k => ⟨(k.cell (p := ⟨w.heap.size, 0, none⟩) (by exact hs0)).trans q0, k⟩)
    refine wp_region_held_drew (S := (fun W => W.cell? ⟨w.heap.size, 0, none⟩ = some (.slice ad zss.length cap) ∧ Keep W0 W)) (by kernel_rfl) ?_ (fun hHeld => ?_)
    · exact HS.out _ (by go_grown)
    refine takeH (v := ?_) 0 10 rfl rfl (by kernel_rfl) (by kernel_rfl) (by kernel_rfl) (fun _ _ _ h => h) (by first | kernel_rfl | rfl) (by assumption) ?_ ?_
    rotate_left 1
    · (intro W_ hSw; (try dsimp only at hSw); go_simp; try with_reducible rfl)
    try simp only [Act.put, List.setIfInBounds_toArray, List.set_cons_zero, List.set_cons_succ]
    refine wpAnyH_ready (rs := [1]) (by kernel_rfl) (by simp) ?_
    refine AllReadyH.cons rfl (fun K hK => ?_) AllReadyH.nil
    first | (go_at_call 18; refine (HVP.out _ (hK0.next (by go_grown))).mono ?_; rintro e w3 ⟨rfl, k3⟩) | (go_simp; go_at_call 18; refine (HVP.out _ (hK0.next (by go_grown))).mono ?_; rintro e w3 ⟨rfl, k3⟩)
    try (go_wp2_with fail)
    refine hK.out _ _ ?_ (fun hHeld => ?_)
    · exact HS.out _ (Keep.next (by go_grown) k3)
    have kk3 : Keep W0 w3 := Keep.next (by go_grown) k3
    clear hK K
    try simp only [Act.put, List.setIfInBounds_toArray, List.set_cons_zero, List.set_cons_succ]
    refine takeH (v := ?_) 2 12 rfl rfl (by kernel_rfl) (by kernel_rfl) (by kernel_rfl) (fun _ _ _ h => h) (by first | kernel_rfl | rfl) (by assumption) ?_ ?_
    rotate_left 1
    · (intro W_ hSw; (try dsimp only at hSw); go_simp; try with_reducible rfl)
    try simp only [Act.put, List.setIfInBounds_toArray, List.set_cons_zero, List.set_cons_succ]
    refine takeH (v := ?_) 3 13 rfl rfl (by kernel_rfl) (by kernel_rfl) (by kernel_rfl) (fun _ _ _ h => h) (by first | kernel_rfl | rfl) (by assumption) ?_ ?_
    rotate_left 1
    · (intro W_ hSw; (try dsimp only at hSw); go_simp; try with_reducible rfl)
    try simp only [Act.put, List.setIfInBounds_toArray, List.set_cons_zero, List.set_cons_succ]
    refine skipH 4 14 rfl rfl (by kernel_rfl) (by kernel_rfl) (by kernel_rfl) (fun _ _ _ h => h) (by first | kernel_rfl | rfl) (by assumption) ?_
    try simp only [Act.put, List.setIfInBounds_toArray, List.set_cons_zero, List.set_cons_succ]
    refine skipH 5 15 rfl rfl (by kernel_rfl) (by kernel_rfl) (by kernel_rfl) (fun _ _ _ h => h) (by first | kernel_rfl | rfl) (by assumption) ?_
    try simp only [Act.put, List.setIfInBounds_toArray, List.set_cons_zero, List.set_cons_succ]
    refine skipH 6 16 rfl rfl (by kernel_rfl) (by kernel_rfl) (by kernel_rfl) (fun _ _ _ h => h) (by first | kernel_rfl | rfl) (by assumption) ?_
    try simp only [Act.put, List.setIfInBounds_toArray, List.set_cons_zero, List.set_cons_succ]
    refine skipH 7 17 rfl rfl (by kernel_rfl) (by kernel_rfl) (by kernel_rfl) (fun _ _ _ h => h) (by first | kernel_rfl | rfl) (by assumption) ?_
    try simp only [Act.put, List.setIfInBounds_toArray, List.set_cons_zero, List.set_cons_succ]
    refine skipH 8 18 rfl rfl (by kernel_rfl) (by kernel_rfl) (by kernel_rfl) (fun _ _ _ h => h) (by first | kernel_rfl | rfl) (by assumption) ?_
    try simp only [Act.put, List.setIfInBounds_toArray, List.set_cons_zero, List.set_cons_succ]
    refine skipH 9 19 rfl rfl (by kernel_rfl) (by kernel_rfl) (by kernel_rfl) (fun _ _ _ h => h) (by first | kernel_rfl | rfl) (by assumption) ?_
    try simp only [Act.put, List.setIfInBounds_toArray, List.set_cons_zero, List.set_cons_succ]
    refine skipH 10 20 rfl rfl (by kernel_rfl) (by kernel_rfl) (by kernel_rfl) (fun _ _ _ h => h) (by first | kernel_rfl | rfl) (by assumption) ?_
    try simp only [Act.put, List.setIfInBounds_toArray, List.set_cons_zero, List.set_cons_succ]
    refine skipH 11 21 rfl rfl (by kernel_rfl) (by kernel_rfl) (by kernel_rfl) (fun _ _ _ h => h) (by first | kernel_rfl | rfl) (by assumption) ?_
    try simp only [Act.put, List.setIfInBounds_toArray, List.set_cons_zero, List.set_cons_succ]
    refine skipH 12 22 rfl rfl (by kernel_rfl) (by kernel_rfl) (by kernel_rfl) (fun _ _ _ h => h) (by first | kernel_rfl | rfl) (by assumption) ?_
    try simp only [Act.put, List.setIfInBounds_toArray, List.set_cons_zero, List.set_cons_succ]
    refine skipH 13 23 rfl rfl (by kernel_rfl) (by kernel_rfl) (by kernel_rfl) (fun _ _ _ h => h) (by first | kernel_rfl | rfl) (by assumption) ?_
    try simp only [Act.put, List.setIfInBounds_toArray, List.set_cons_zero, List.set_cons_succ]
    refine skipH 14 24 rfl rfl (by kernel_rfl) (by kernel_rfl) (by kernel_rfl) (fun _ _ _ h => h) (by first | kernel_rfl | rfl) (by assumption) ?_
    try simp only [Act.put, List.setIfInBounds_toArray, List.set_cons_zero, List.set_cons_succ]
    refine skipH 15 25 rfl rfl (by kernel_rfl) (by kernel_rfl) (by kernel_rfl) (fun _ _ _ h => h) (by first | kernel_rfl | rfl) (by assumption) ?_
    try simp only [Act.put, List.setIfInBounds_toArray, List.set_cons_zero, List.set_cons_succ]
    refine takeH (v := ?_) 16 26 rfl rfl (by kernel_rfl) (by kernel_rfl) (by kernel_rfl) (fun _ _ _ h => h) (by first | kernel_rfl | rfl) (by assumption) ?_ ?_
    rotate_left 1
    · (intro W_ hSw; (try dsimp only at hSw); go_simp; try with_reducible rfl)
    try simp only [Act.put, List.setIfInBounds_toArray, List.set_cons_zero, List.set_cons_succ]
    refine wpAnyH_done (by kernel_rfl) ?_ _
    go_wp2
    go_ret2
    exact ⟨_, rfl, hK0.next kk3⟩
  · rw [show pathB zss pss = goB zss.length (zss.getD 0 []).length pss from by unfold pathB; rw [hg]; rfl]
    rw [hg] at HVP
    have gs := grid_size (show gridB 12 255 zss = true from hg)
    have hpl := hp.small
    rcases hz.at_ with h | ⟨zb, zo, rfl, hzb, hzc⟩
    · rw [h] at gs; simp at gs
    obtain ⟨z0, zd, x0, _, _⟩ := hzc 0 (by omega)
    rw [Nat.add_zero] at x0
    have HNO := Lib.hid (fun (k : Nat) (h : k < pss.length) (e : okP zss.length (zss.getD 0 []).length pss k = false) => go_no h e)
    have HYES := Lib.hid (fun (hl : pss.length = zss.length * (zss.getD 0 []).length) h => go_yes hl h)
    have HLN : Hid (¬ pss.length = zss.length * (zss.getD 0 []).length → goB zss.length (zss.getD 0 []).length pss = false) := Lib.hid (fun h => by unfold goB; rw [decide_eq_false h]; rfl)
    have HP := Lib.hid hp
    have HVZ := Lib.hid (fun a b => visB_zero pss a b)
    clear hz hp hzc hg
    generalize goB zss.length (zss.getD 0 []).length pss = V at *
    generalize (zss.getD 0 []).length = C at *
    generalize zss.length = R at *
    obtain ⟨⟨g1, g2⟩, g3, g4⟩ := gs
    have hRC : R * C ≤ 144 := Nat.le_trans (Nat.mul_le_mul (show R ≤ 12 by omega) (show C ≤ 12 by omega)) (by omega)
    have hRC1 : 1 ≤ R * C := Nat.mul_pos (by omega) (by omega)
    have b1 : (0 : Int) < (R : Int) := by omega
    have b1n : 0 < R := by omega
    have m1 : IntKind.i64.wrap ((R : Int) * (C : Int)) = ((R * C : Nat) : Int) := by rw [← Int.natCast_mul]; exact IntWalk.i64_in _ (by omega)
    have m2 : IntKind.i64.wrap ((R : Int) - 1) = (R : Int) - 1 := IntWalk.i64_in _ (by omega)
    have m3 : IntKind.i64.wrap ((C : Int) - 1) = (C : Int) - 1 := IntWalk.i64_in _ (by omega)
    obtain ⟨W0, hW0⟩ : ∃ W0, W0 = w.alloc (.cells #[.slice (some ⟨zb, zo, none⟩) R cap] 27) := ⟨_, rfl⟩
    have hK0 : Keep w W0 := by rw [hW0]; go_grown
    have hs0 : w.heap.size < W0.heap.size := by rw [hW0]; simp
    have q0 : W0.cell? ⟨w.heap.size, 0, none⟩ = some (.slice (some ⟨zb, zo, none⟩) R cap) := by rw [hW0]; simp
    have HS : Hid (∀ W, Keep W0 W → (W.cell? ⟨w.heap.size, 0, none⟩ = some (.slice (some ⟨zb, zo, none⟩) R cap) ∧ W.cell? ⟨zb, zo, none⟩ = some (.slice z0 C zd)) ∧ Keep W0 W) := Lib.hid (fun W k => ⟨⟨(k.cell (p := ⟨w.heap.size, 0, none⟩) (by exact hs0)).trans q0, ((hK0.next k).cell (p := ⟨zb, zo, none⟩) (by exact hzb)).trans x0⟩, k⟩)
    by_cases hlen : pss.length = R * C
    case neg =>
      have HV : Hid (V = false) := Lib.hid (HLN.out hlen)
      have hne : ((pss.length : Int) != ((R * C : Nat) : Int)) = true := by rw [bne_iff_ne]; omega
      generalize R * C = RC at *
      go_enter Try.func91, Try.ntmps91
      go_upto_region 1 with fail
      rw [← hW0]
      clear hW0
      go_region_held3 (fun W => (W.cell? ⟨w.heap.size, 0, none⟩ = some (.slice (some ⟨zb, zo, none⟩) R cap) ∧ W.cell? ⟨zb, zo, none⟩ = some (.slice z0 C zd)) ∧ Keep W0 W)
        (first | exact HS.out _ (Keep.next (by go_grown) k1) | exact HS.out _ (by go_grown))
        (first | (go_at_call 18; refine (HVP.out _ (hK0.next (by go_grown))).mono ?_; rintro e w1 ⟨rfl, k1⟩))
      have kk1 : Keep W0 w1 := Keep.next (by go_grown) k1
      go_wp2
      go_ret2
      exact ⟨_, by rw [HV.out]; rfl, hK0.next kk1⟩
    have hne : ((pss.length : Int) != ((R * C : Nat) : Int)) = false := by rw [hlen]; simp
    have HLE := Lib.hid hlen
    have hN : pss.length ≤ 144 := by omega
    have hN1 : 1 ≤ pss.length := by omega
    clear hlen
    generalize hNN : pss.length = N at *
    generalize R * C = RC at *
    go_enter Try.func91, Try.ntmps91
    go_upto_region 1 with fail
    rw [← hW0]
    clear hW0
    go_region_held3 (fun W => (W.cell? ⟨w.heap.size, 0, none⟩ = some (.slice (some ⟨zb, zo, none⟩) R cap) ∧ W.cell? ⟨zb, zo, none⟩ = some (.slice z0 C zd)) ∧ Keep W0 W)
      (first | exact HS.out _ (Keep.next (by go_grown) k1) | exact HS.out _ (by go_grown))
      (first | (go_at_call 18; refine (HVP.out _ (hK0.next (by go_grown))).mono ?_; rintro e w1 ⟨rfl, k1⟩))
    have kk1 : Keep W0 w1 := Keep.next (by go_grown) k1
    have HSN0 : Hid (Seen12 (w1.alloc (.cells Try.zeroCells142 142)) w1.heap.size (fun a b => visB pss 0 a b)) := Lib.hid (by
      refine ⟨_, _, heap_alloc_new w1 _, by rw [zero12]; simp, fun a b ha hb => ?_⟩
      rw [zero12, Array.getElem?_replicate, if_pos (by omega)]; rfl)
    have hG0 : W0.heap.size ≤ w1.heap.size := kk1.size
    obtain ⟨i0, hi, hz0, hz1, hz2⟩ := info_parts Try.infoSp
    have hb8 : i0.bytes * N ≤ 281474976710656 := by rw [hz2]; omega
    have hml : N ≤ maxLen := by unfold maxLen; omega
    go_upto_region 4 with fail
    refine code_gen9 (fun WA hWA => ?_)
    rw [← hWA] at HSN0
    have HKA : Hid (Keep W0 WA) := Lib.hid (by rw [hWA]; exact kk1.next (by go_grown))
    have hGA : w1.heap.size < WA.heap.size := by rw [hWA]; simp
    clear hWA kk1 k1
    generalize w1.heap.size = G at *
    go_wp2_with (at_make; refine wpList_make_full WA rfl _ _ 79 rfl WA.heap.size 82 i0 (.agg #[.int .i64 0, .int .i64 0]) 2 Try.underlying79 hi hz0 hz1 .i64 .i64 _ _ N rfl rfl rfl rfl hb8 hml (Nat.le_refl _) ?_)
    intro w2 hown2 hgrow2
    have HK2 : Hid (Keep W0 w2) := Lib.hid (HKA.out.grown hgrow2 HKA.out.size (fun k h => by cases h))
    have HSN2 : Hid (Seen12 w2 G (fun a b => visB pss 0 a b)) := Lib.hid (HSN0.out.same (hgrow2.block G hGA (by intro h; cases h)))
    have HRT2 : Hid (∃ sp : List Int, sp.length = 2 * N ∧ RowAt w2 WA.heap.size 0 sp) := Lib.hid (by
      refine ⟨List.replicate (2 * N) 0, by simp, ?_⟩
      rcases hown2.2 with ⟨e, _⟩ | ⟨g', q, cur, e, _, h3, _, _, h6, h7⟩
      · cases e
      · simp at e
        obtain ⟨rfl, rfl⟩ := e
        refine ⟨cur, _, h3, by simp; omega, fun i hi => ?_⟩
        simp only [List.length_replicate] at hi
        have e2 : (cur.toList.take (N * 2))[i]? = some (.int .i64 0) := by
          rw [h7]
          have hm3 : i % 2 = 0 ∨ i % 2 = 1 := by omega
          have hi3 : i < N * 2 := by omega
          simp only [madeCells, List.getElem?_map, Array.toList_map, Array.toList_range]
          rw [List.getElem?_range hi3]
          rcases hm3 with e | e <;> simp [e]
        rw [List.getElem?_take, if_pos (by omega)] at e2
        rw [Nat.zero_add]
        simp [List.getD_eq_getElem?_getD, hi]
        simpa using e2)
    clear hown2 hgrow2 HSN0 HKA
    have hSW : W0.heap.size ≤ WA.heap.size := by omega
    generalize WA.heap.size = SB at *
    go_wp2
    go_loopg [32] N (fun kk i wr => ∃ k : Nat, k ≤ N ∧ kk = N - k ∧ i = .int .i64 k ∧ Hid (∀ j, j < k → okP R C pss j = true) ∧ Hid (Seen12 wr G (fun a b => visB pss k a b)) ∧ Hid (∃ sp : List Int, sp.length = 2 * N ∧ RowAt wr SB 0 sp) ∧ Hid (Keep W0 wr))
    case atStart => exact ⟨0, Nat.zero_le _, rfl, rfl, Lib.hid (fun j h => absurd h (Nat.not_lt_zero _)), HSN2, HRT2, HK2⟩
    case round =>
      obtain ⟨k, hk, rfl, rfl, HA, HN, HR, HK⟩ := hrel
      obtain ⟨⟨y0, y1⟩, _⟩ := HS.out _ HK.out
      by_cases hlt : k < N
      · have hki : (k : Int) < (N : Int) := by omega
        have hk0 : (0 : Int) ≤ (k : Int) := by omega
        rcases HP.out.at_ with h | ⟨pb, po, rfl, hpb, hpc⟩
        · rw [h] at hNN; simp at hNN; omega
        obtain ⟨pp, pdd, hcx, _, hin⟩ := hpc k (by omega)
        have q := ((hK0.next HK.out).cell (p := ⟨pb, po + k, none⟩) (by exact hpb)).trans hcx
        have HIN := Lib.hid hin
        have HNk := Lib.hid (HNO.out k hlt)
        have HOKk : Hid (okP R C pss k = (ptB R C (pss.getD k []) && !visB pss k ((pss.getD k []).getD 0 0) ((pss.getD k []).getD 1 0))) := Lib.hid rfl
        have HVS := Lib.hid (fun a b => visB_succ pss k a b)
        clear hpc hcx hin
        have hPT : Hid (ptB R C (pss.getD k []) = (decide ((pss.getD k []).length = 2) && (inB ((pss.getD k []).getD 0 0) 0 ((R : Int) - 1) && inB ((pss.getD k []).getD 1 0) 0 ((C : Int) - 1)))) := Lib.hid rfl
        generalize pss.getD k [] = x at *
        by_cases h2 : x.length = 2
        case neg =>
          have HV : Hid (V = false) := Lib.hid (HNk.out (by rw [HOKk.out, hPT.out, decide_eq_false h2]; rfl))
          have h2b : ((x.length : Int) != 2) = true := by rw [bne_iff_ne]; omega
          go_wp2
          go_quiet (fail)
          go_wp2
          go_ret2
          exact ⟨_, by rw [HV.out]; rfl, hK0.next (HK.out.next (by first | exact below_drewN (Below.refl _ _) _ | go_grown))⟩
        rcases HIN.out.at_ with h | ⟨b2, off2, rfl, hb2, hc2⟩
        · rw [h] at h2; simp at h2
        have Q0 : Hid (wr.cell? ⟨pb, po + k, none⟩ = some (.slice (some ⟨b2, off2, none⟩) 2 pdd)) := Lib.hid (by have h := q; rw [h2] at h; exact h)
        have Q1 := Lib.hid (((hK0.next HK.out).cell (p := ⟨b2, off2 + 0, none⟩) (by exact hb2)).trans (hc2 0 (by omega)))
        have Q2 := Lib.hid (((hK0.next HK.out).cell (p := ⟨b2, off2 + 1, none⟩) (by exact hb2)).trans (hc2 1 (by omega)))
        rw [Nat.add_zero] at Q1
        rw [decide_eq_true h2, Bool.true_and] at hPT
        clear hc2 q
        generalize x.getD 0 0 = a at *
        generalize x.getD 1 0 = b at *
        have q := Q0.out; have c0 := Q1.out; have c1 := Q2.out
        have hpbr : pb < wr.heap.size := Nat.lt_of_lt_of_le hpb (hK0.next HK.out).size
        have hb2r : b2 < wr.heap.size := Nat.lt_of_lt_of_le hb2 (hK0.next HK.out).size
        have HFQ : Hid (∀ W, Keep w W → W.cell? ⟨b2, off2, none⟩ = some (.int .i64 a) ∧ W.cell? ⟨b2, off2 + 1, none⟩ = some (.int .i64 b)) := Lib.hid (fun W kk => ⟨(kk.cell (p := ⟨b2, off2, none⟩) (by exact hb2)).trans (((hK0.next HK.out).cell (p := ⟨b2, off2, none⟩) (by exact hb2)).symm.trans Q1.out), (kk.cell (p := ⟨b2, off2 + 1, none⟩) (by exact hb2)).trans (((hK0.next HK.out).cell (p := ⟨b2, off2 + 1, none⟩) (by exact hb2)).symm.trans Q2.out)⟩)
        cases f1 : inB a 0 ((R : Int) - 1)
        · have HV : Hid (V = false) := Lib.hid (HNk.out (by rw [HOKk.out, hPT.out, f1]; rfl))
          go_wp2
          go_quiet ((go_at_call 63; exact Calls.quiet_of_same (within_is (by exact f1))))
          go_wp2
          go_ret2
          exact ⟨_, by rw [HV.out]; rfl, hK0.next (HK.out.next (by first | exact below_drewN (Below.refl _ _) _ | go_grown))⟩
        cases f2 : inB b 0 ((C : Int) - 1)
        · have HV : Hid (V = false) := Lib.hid (HNk.out (by rw [HOKk.out, hPT.out, f1, f2]; rfl))
          go_wp2
          go_quiet ((go_at_call 63; exact Calls.quiet_of_same (within_is (by first | exact f1 | exact f2))))
          go_wp2
          go_ret2
          exact ⟨_, by rw [HV.out]; rfl, hK0.next (HK.out.next (by first | exact below_drewN (Below.refl _ _) _ | go_grown))⟩
        have fa := inB_iff.1 f1
        have fb := inB_iff.1 f2
        rw [f1, f2] at hPT
        obtain ⟨an, rfl⟩ : ∃ an : Nat, a = an := ⟨a.toNat, by omega⟩
        obtain ⟨bn, rfl⟩ : ∃ bn : Nat, b = bn := ⟨b.toNat, by omega⟩
        have han : an < 12 := by omega
        have hbn : bn < 12 := by omega
        have hai : (an : Int) < 12 := by omega
        have hbi : (bn : Int) < 12 := by omega
        have ha0 : (0 : Int) ≤ (an : Int) := by omega
        have hb0 : (0 : Int) ≤ (bn : Int) := by omega
        have HOK2 : Hid (okP R C pss k = !visB pss k an bn) := Lib.hid (by rw [HOKk.out, hPT.out]; rfl)
        go_wp2
        go_quiet ((go_at_call 63; exact Calls.quiet_of_same (within_is (by first | exact f1 | exact f2))))
        go_upto_region 10 with fail
        refine code_gen9 (fun X3 hX3 => ?_)
        have k3 : Keep wr X3 := by rw [hX3]; first | exact below_drewN (Below.refl _ _) _ | go_grown
        have HN3 : Hid (Seen12 X3 G (fun a b => visB pss k a b)) := Lib.hid (HN.out.keep k3)
        have HR3 : Hid (∃ sp : List Int, sp.length = 2 * N ∧ RowAt X3 SB 0 sp) := Lib.hid (by obtain ⟨sp, h1, h2⟩ := HR.out; exact ⟨sp, h1, h2.keep k3⟩)
        have HK3 : Hid (Keep W0 X3) := Lib.hid (HK.out.next k3)
        clear hX3 k3 y0 y1 q c0 c1
        obtain ⟨t1, t2⟩ := HFQ.out _ (hK0.next HK3.out)
        have s2 := HN3.out.cell an bn han hbn
        cases hv : visB pss k an bn
        · rw [hv] at s2
          have hok : okP R C pss k = true := by rw [HOK2.out, hv]; rfl
          go_quiet (fail)
          go_upto_region 12 with fail
          refine code_gen9 (fun X4 hX4 => ?_)
          have k4 : Keep X3 X4 := by rw [hX4]; first | exact below_drewN (Below.refl _ _) _ | go_grown
          have HN5 : Hid (Seen12 (World.drew X4) G (fun a b => visB pss k a b)) := Lib.hid ((HN3.out.keep k4).keep (by go_grown))
          have HR5 : Hid (∃ sp : List Int, sp.length = 2 * N ∧ RowAt (World.drew X4) SB 0 sp) := Lib.hid (by obtain ⟨sp, h1, h2⟩ := HR3.out; exact ⟨sp, h1, (h2.keep k4).keep (by go_grown)⟩)
          have HK4 : Hid (Keep W0 X4) := Lib.hid (HK3.out.next k4)
          have HK5 : Hid (Keep W0 (World.drew X4)) := Lib.hid (HK4.out.next (by go_grown))
          clear hX4 k4 t1 t2 s2
          obtain ⟨t1, t2⟩ := HFQ.out _ (hK0.next HK4.out)
          have s2 := HN5.out.cell an bn han hbn
          have s3 := HN5.out.frozen (an * 12 + bn)
          go_still_tail 8, (by kernel_rfl)
          change wpList _ _ _ _ _ (World.drew X4)
          clear t1 t2
          generalize World.drew X4 = X5 at *
          go_upto_region 13 with fail
          refine code_gen9 (fun X6 hX6 => ?_)
          have HN6 : Hid (Seen12 X6 G (fun a b => visB pss (k + 1) a b)) := Lib.hid (by
            rw [hX6]
            exact HN5.out.mark an bn han hbn (fun x y => by
              rw [HVS.out]
              have e1 : decide ((an : Int) = (x : Int)) = decide (an = x) := decide_eq_decide.2 (by omega)
              have e2 : decide ((bn : Int) = (y : Int)) = decide (bn = y) := decide_eq_decide.2 (by omega)
              rw [e1, e2]))
          have HR6 : Hid (∃ sp : List Int, sp.length = 2 * N ∧ RowAt X6 SB 0 sp) := Lib.hid (by
            obtain ⟨sp, h1, h2⟩ := HR5.out
            exact ⟨sp, h1, h2.same (by rw [hX6]; exact heap_setCell_other _ _ _ _ (by show SB ≠ G; omega))⟩)
          have HK6 : Hid (Keep W0 X6) := Lib.hid (by rw [hX6]; exact HK5.out.setCell (p := ⟨G, an * 12 + bn, none⟩) (by exact hG0) _)
          clear hX6 s2 s3
          obtain ⟨t1, t2⟩ := HFQ.out _ (hK0.next HK6.out)
          obtain ⟨sp, hsl, hsp⟩ := HR6.out
          have hsd : RowAt (World.drew X6) SB 0 sp := hsp.keep (by go_grown)
          have HN7 : Hid (Seen12 (World.drew X6) G (fun a b => visB pss (k + 1) a b)) := Lib.hid (HN6.out.keep (by go_grown))
          have HK7 : Hid (Keep W0 (World.drew X6)) := Lib.hid (HK6.out.next (by go_grown))
          have d0 := hsd.cell (k * 2) (by omega); have d1 := hsd.cell (k * 2 + 1) (by omega)
          rw [Nat.zero_add] at d0 d1
          have e0 := hsd.frozen (k * 2); have e1 := hsd.frozen (k * 2 + 1)
          have HR7 : Hid (RowAt (((World.drew X6).setCell ⟨SB, k * 2, none⟩ (.int .i64 an)).setCell ⟨SB, k * 2 + 1, none⟩ (.int .i64 bn)) SB 0 ((sp.set (k * 2) an).set (k * 2 + 1) bn)) := Lib.hid (by
            have s0 := hsd.set (k * 2) (by omega) an
            have s1 := s0.set (k * 2 + 1) (by simp; omega) bn
            simpa using s1)
          clear hsp hsd
          generalize sp.getD (k * 2) 0 = p0 at *
          generalize sp.getD (k * 2 + 1) 0 = p1 at *
          go_still_tail 10, (by kernel_rfl)
          change wpList _ _ _ _ _ (World.drew X6)
          clear t1 t2
          generalize World.drew X6 = X7 at *
          go_wp2
          go_roundg (N - (k + 1))
          case measure => omega
          case rel => exact ⟨k + 1, by omega, rfl, by go_num, Lib.hid (fun j h => if e : j < k then HA.out j e else (by rw [show j = k by omega]; exact hok)), Lib.hid (HN7.out.same ((heap_setCell_other _ _ _ _ (by show G ≠ SB; omega)).trans (heap_setCell_other _ _ _ _ (by show G ≠ SB; omega)))), Lib.hid ⟨_, by simp [hsl], HR7.out⟩, Lib.hid ((HK7.out.setCell (p := ⟨SB, k * 2, none⟩) (by exact hSW) _).setCell (p := ⟨SB, k * 2 + 1, none⟩) (by exact hSW) _)⟩
        · rw [hv] at s2
          have HV : Hid (V = false) := Lib.hid (HNk.out (by rw [HOK2.out, hv]; rfl))
          go_quiet (fail)
          go_wp2
          go_ret2
          exact ⟨_, by rw [HV.out]; rfl, hK0.next (HK3.out.next (by first | exact below_drewN (Below.refl _ _) _ | go_grown))⟩
      · have hE : k = N := by omega
        have HV : Hid (V = true) := Lib.hid (HYES.out HLE.out (fun j h => HA.out j (by omega)))
        go_wp2
        go_ret2
        exact ⟨_, by rw [HV.out]; rfl, hK0.next (HK.out.next (by go_grown))⟩
theorem IsPath_any (ad : Option Addr) (cap : Nat) (zss : List (List Int)) (pd : Option Addr) (pc : Nat) (pss : List (List Int)) (w : World) (hz : Intss w ad zss) (hp : Intss w pd pss) :
    Calls Try.prog 48 #[.agg #[.slice ad zss.length cap], .slice pd pss.length pc] w fun e w' => e = .returned (.bool (pathB zss pss)) ∧ Keep w w' := by
  have HR := Lib.hid (fun W (k : Keep w W) => spotsOf_any ad cap zss pd pc pss W (hz.keep k (Nat.le_refl _)) (hp.keep k (Nat.le_refl _)))
  generalize pathB zss pss = V at *
  clear hz hp
  go_enter Try.func48, Try.ntmps48
  go_wp2_with fail
  refine (HR.out _ (by go_grown)).mono ?_
  rintro e w' ⟨v, rfl, k1⟩
  have g1 : Keep w w' := Keep.next (by go_grown) k1
  go_wp2
  go_ret
  exact ⟨rfl, g1⟩
end Go.Proofs.Ytjoanfgchapbaaa
