/- Table roundings: the program's side. -/
import Derived.Test.YtjoanfgchapbaabRndE
import Derived.Test.YtjoanfgchapbaabReg
import Derived.Test.YtjoanfgchapbaabHold
import Derived.Deep.RegionHeld3
namespace Go.Proofs.Ytjoanfgchapbaab
open Go.ChangeShapes Go.WideShapes Go.ChangeAt Go.RowKit Go.Deep
set_option linter.unusedVariables false
/-- What the sums of a table and of rows give. -/
def sumsB (g : Int) (m : Nat) (zss rss : List (List Int)) : Bool :=
  rB g (sumsL rss).sum (sumsL zss).sum && (prB g (sumsL zss) (sumsL rss) && prB g (downL m zss) (downL m rss))
set_option maxHeartbeats 6400000 in
set_option maxRecDepth 100000 in
theorem areSumsRounded_any (g : Int) (ad : Option Addr) (cap : Nat) (zss : List (List Int)) (rd : Option Addr) (rc : Nat) (rss : List (List Int)) (m : Nat) (w : World) (hz : Intss w ad zss) (hr : Intss w rd rss) (hg : 1 ≤ g ∧ g ≤ 1000)
    (h51 : 1 ≤ zss.length) (h5 : zss.length ≤ 5) (hm5 : m ≤ 5) (hrl : rss.length = zss.length) (hm : ∀ k, k < zss.length → (zss.getD k []).length = m ∧ ∀ x ∈ zss.getD k [], 0 ≤ x ∧ x ≤ 100000) (hq : ∀ k, k < rss.length → (rss.getD k []).length = m ∧ ∀ x ∈ rss.getD k [], -1000000 ≤ x ∧ x ≤ 1000000) :
    Calls Try.prog 87 #[valV g ad zss.length cap, .slice rd rss.length rc] w fun e w' => e = .returned (.bool (sumsB g m zss rss)) ∧ Keep w w' := by
  have HM := Lib.hid hm; clear hm
  have HQ := Lib.hid hq; clear hq
  have HMB : Hid (∀ k, k < zss.length → (zss.getD k []).length = m ∧ ∀ x ∈ zss.getD k [], -1000000 ≤ x ∧ x ≤ 1000000) := Lib.hid (fun k hk => ⟨(HM.out k hk).1, fun x hx => by have := (HM.out k hk).2 x hx; omega⟩)
  have HRL := Lib.hid hrl; clear hrl
  have HBA : Hid (∀ z ∈ sumsL zss, -500000 ≤ z ∧ z ≤ 500000) := Lib.hid (fun z hz => by
    obtain ⟨y, hy, rfl⟩ := List.mem_map.1 hz
    obtain ⟨j, hj, rfl⟩ := List.getElem_of_mem hy
    have hq := HM.out j hj
    rw [getDD_get zss j hj] at hq
    have := sum_bd6 zss[j] 100000 (fun z hz => by have := hq.2 z hz; omega)
    omega)
  have HBC : Hid (∀ z ∈ downL m zss, -500000 ≤ z ∧ z ≤ 500000) := Lib.hid (fun z hz => by
    rw [← downL_cols] at hz
    obtain ⟨y, hy, rfl⟩ := List.mem_map.1 hz
    obtain ⟨j, hj, rfl⟩ := List.getElem_of_mem hy
    rw [colsL_len] at hj
    have e := colsL_get m zss j hj
    rw [getDD_get _ j (by rw [colsL_len]; exact hj)] at e
    rw [e]
    have := sum_bd6 (zss.map fun z => z.getD j 0) 100000 (fun x hx => by
      obtain ⟨z, hz, rfl⟩ := List.mem_map.1 hx
      obtain ⟨i, hi, rfl⟩ := List.getElem_of_mem hz
      have hq := HM.out i hi
      rw [getDD_get zss i hi] at hq
      have := hq.2 _ (getD_mem _ j (by omega))
      omega)
    rw [List.length_map] at this
    omega)
  have HR5 : Hid (∀ k, k < rss.length → (rss.getD k []).length ≤ 5 ∧ ∀ x ∈ rss.getD k [], -1000000 ≤ x ∧ x ≤ 1000000) := Lib.hid (fun k hk => ⟨by have := (HQ.out k hk).1; omega, (HQ.out k hk).2⟩)
  have HBB := Lib.hid (sums_bd HR5.out)
  have HLA : Hid ((sumsL zss).length = zss.length) := Lib.hid (sumsL_len zss)
  have HLB : Hid ((sumsL rss).length = zss.length) := Lib.hid (by rw [sumsL_len, HRL.out])
  have HLC : Hid ((downL m zss).length = m) := Lib.hid (by unfold downL; rw [downT_len])
  have HLD : Hid ((downL m rss).length = m) := Lib.hid (by unfold downL; rw [downT_len])
  have HOA : Hid (rndB g (sumsL zss) (sumsL rss) = prB g (sumsL zss) (sumsL rss)) := Lib.hid (rnd_pr (okV_of hg (by rw [HLA.out]; omega) (fun z hz => by have := HBA.out z hz; omega)) (by rw [HLA.out, HLB.out]))
  have HOC : Hid (rndB g (downL m zss) (downL m rss) = prB g (downL m zss) (downL m rss)) := Lib.hid (rnd_pr (okV_of hg (by rw [HLC.out]; omega) (fun z hz => by have := HBC.out z hz; omega)) (by rw [HLC.out, HLD.out]))
  have HSA := sum_bd6 (sumsL zss) 500000 HBA.out
  have hsA : -2500000 ≤ (sumsL zss).sum ∧ (sumsL zss).sum ≤ 2500000 := by have := HLA.out; omega
  have HIN : Hid (inB (sumsL rss).sum (fl (sumsL zss).sum g) (ce (sumsL zss).sum g) = rB g (sumsL rss).sum (sumsL zss).sum) := Lib.hid (in_rB hg.1)
  obtain ⟨V, hV⟩ : ∃ V, V = sumsB g m zss rss := ⟨_, rfl⟩
  rw [← hV]
  have HV : Hid (V = (rB g (sumsL rss).sum (sumsL zss).sum && (rndB g (sumsL zss) (sumsL rss) && rndB g (downL m zss) (downL m rss)))) := Lib.hid (by rw [hV, HOA.out, HOC.out]; rfl)
  clear hV HOA HOC HSA
  -- the calls, at any world that keeps what lay at first
  have C1 : Hid (∀ W, Keep w W → Calls Try.prog 81 #[.slice ad zss.length cap] W fun e w' => ∃ rd rc, e = .returned (.slice rd (sumsL zss).length rc) ∧ Ints w' rd (sumsL zss) ∧ Keep W w') := Lib.hid (fun W k => (rowSums_any ad cap zss W (hz.keep k (Nat.le_refl _)) (by omega) (fun k hk => ⟨by have := (HMB.out k hk).1; omega, (HMB.out k hk).2⟩)).mono fun _ _ ⟨a, b, c, d, e⟩ => ⟨a, b, c, d.ints, e⟩)
  have C2 : Hid (∀ W, Keep w W → Calls Try.prog 83 #[.slice ad zss.length cap] W fun e w' => ∃ rd rc, e = .returned (.slice rd (downL m zss).length rc) ∧ Ints w' rd (downL m zss) ∧ Keep W w') := Lib.hid (fun W k => (columnSums_any ad cap zss m W (hz.keep k (Nat.le_refl _)) h51 (by omega) (by omega) HMB.out).mono fun _ _ ⟨a, b, c, d, e⟩ => ⟨a, b, c, d.ints, e⟩)
  have C3 : Hid (∀ W, Keep w W → Calls Try.prog 81 #[.slice rd rss.length rc] W fun e w' => ∃ rd rc, e = .returned (.slice rd (sumsL rss).length rc) ∧ Ints w' rd (sumsL rss) ∧ Keep W w') := Lib.hid (fun W k => (rowSums_any rd rc rss W (hr.keep k (Nat.le_refl _)) (by have := HRL.out; omega) (fun k hk => ⟨by have := (HQ.out k hk).1; omega, (HQ.out k hk).2⟩)).mono fun _ _ ⟨a, b, c, d, e⟩ => ⟨a, b, c, d.ints, e⟩)
  have C4 : Hid (∀ W, Keep w W → Calls Try.prog 83 #[.slice rd rss.length rc] W fun e w' => ∃ rd rc, e = .returned (.slice rd (downL m rss).length rc) ∧ Ints w' rd (downL m rss) ∧ Keep W w') := Lib.hid (fun W k => (columnSums_any rd rc rss m W (hr.keep k (Nat.le_refl _)) (by have := HRL.out; omega) (by have := HRL.out; omega) (by omega) HQ.out).mono fun _ _ ⟨a, b, c, d, e⟩ => ⟨a, b, c, d.ints, e⟩)
  have hlA : (sumsL zss).length ≤ 5 := by rw [HLA.out]; exact h5
  have hlB : (sumsL rss).length ≤ 5 := by rw [HLB.out]; exact h5
  generalize sumsL zss = SA at *
  generalize sumsL rss = SB at *
  generalize downL m zss = SC at *
  generalize downL m rss = SD at *
  have B0 : Box (w.alloc (.cells #[.int .i64 g, .slice ad zss.length cap] 49)) w.heap.size g ad zss.length cap := ⟨by simp, by simp, by simp⟩
  go_enter Try.func87, Try.ntmps87
  go_upto_region 1 with fail
  have HS1 : Hid (∀ W, Keep w W → Keep (w.alloc (.cells #[.int .i64 g, .slice ad zss.length cap] 49)) W → (W.cell? ⟨w.heap.size, 0, none⟩ = some (.int .i64 g) ∧ W.cell? ⟨w.heap.size, 1, none⟩ = some (.slice ad zss.length cap)) ∧ Keep w W ∧ Keep (w.alloc (.cells #[.int .i64 g, .slice ad zss.length cap] 49)) W) := Lib.hid (fun W k0 k => ⟨⟨(B0.keep k).c0, (B0.keep k).c1⟩, k0, k⟩)
  have hkb : Keep w (w.alloc (.cells #[.int .i64 g, .slice ad zss.length cap] 49)) := by go_grown
  obtain ⟨b00, b01, b02⟩ := B0
  generalize w.alloc (.cells #[.int .i64 g, .slice ad zss.length cap] 49) = wb at *
  go_region_held3 (fun W => (W.cell? ⟨w.heap.size, 0, none⟩ = some (.int .i64 g) ∧ W.cell? ⟨w.heap.size, 1, none⟩ = some (.slice ad zss.length cap)) ∧ Keep w W ∧ Keep wb W)
    (first | exact HS1.out _ (Keep.next hkb (Keep.next (Keep.next (by go_grown) k1) k2)) (Keep.next (Keep.next (by go_grown) k1) k2) | exact HS1.out _ (Keep.next hkb (Keep.next (by go_grown) k1)) (Keep.next (by go_grown) k1) | exact HS1.out _ (Keep.next hkb (by go_grown)) (by go_grown))
    (first | (go_at_call 81; refine (C1.out _ (Keep.next hkb (by go_grown))).mono ?_; rintro e w1 ⟨ad2, ac2, rfl, i1, k1⟩) | (go_at_call 83; refine (C2.out _ (Keep.next hkb (Keep.next (Keep.next (by go_grown) k1) (by go_grown)))).mono ?_; rintro e w2 ⟨cd2, cc2, rfl, i2, k2⟩))
  have K1 := Lib.hid (Keep.next (Keep.next (show Keep wb wb.drew by go_grown) k1) k2)
  have BX2 := Lib.hid ((Box.mk b00 b01 b02).keep K1.out)
  have KW2 := Lib.hid (hkb.next K1.out)
  have A2 := Lib.hid (i1.keep k2 (Nat.le_refl _))
  have D2 := Lib.hid i2
  clear i1 i2 k1 k2 K1
  have CT : Hid (∀ W, Keep w2 W → Calls Try.prog 96 #[.slice ad2 SA.length ac2] W fun e w' => e = .returned (.int .i64 SA.sum) ∧ W = w') :=
    Lib.hid (fun W k => total_any ad2 ac2 SA W (A2.out.keep k (Nat.le_refl _)) (fun z hz => by have := HBA.out z hz; omega) (by omega))
  generalize SA.sum = sa at *
  have C5 : Hid (∀ W, Calls Try.prog 136 #[.int .i64 sa, .int .i64 g] W fun e w' => e = .returned (.agg #[.int .i64 (fl sa g), .int .i64 (ce sa g)]) ∧ Keep W w') :=
    Lib.hid (fun W => roundingsOf5_any sa g W (by omega) (by omega) (by omega) (by omega))
  have hx3 := fl_bd (a := sa) (b := g) (M := 1000000000) (by omega) (by omega) (by omega) (by omega)
  have hx4 := ce_bd (a := sa) (b := g) (M := 1000000000) (by omega) (by omega) (by omega) (by omega)
  clear b00 b01 b02
  obtain ⟨x0, x1, xl⟩ := BX2.out
  go_upto_region 2 with fail
  go_cut [7] (fun s7 wx => ∃ gb : Nat, s7 = .pointer (some ⟨gb, 0, none⟩) ∧ wx.cell? ⟨gb, 0, none⟩ = some (.int .i64 (fl sa g)) ∧ wx.cell? ⟨gb, 1, none⟩ = some (.int .i64 (ce sa g)) ∧ Keep w2 wx)
  case first =>
    go_region_law
      (first
        | (refine at_fn 96 _ _ rfl ?_; go_simp
           refine (CT.out _ (by go_grown)).mono ?_; rintro e w6 ⟨rfl, rfl⟩)
        | (refine at_fn 136 _ _ rfl ?_; go_simp
           refine (C5.out _).mono ?_; rintro e w7 ⟨rfl, k7⟩
           have d7 : Duo w7 w2.drew.heap.size (.int .i64 0) (.int .i64 0) := (Duo.new w2.drew (.int .i64 0) (.int .i64 0) 159).keep k7 (by simp)
           have e7 : w2.drew.heap.size = w2.heap.size := by simp
           rw [e7] at d7
           obtain ⟨d70, d71, d72, d73⟩ := d7
           clear e7
           have kk7 : Keep w2 w7 := Keep.next (by go_grown) k7
           have b7 := Lib.hid (BX2.out.keep kk7)
           have x7 := b7.out.c0; have y7 := b7.out.c1)
        | (refine at_fn 136 _ _ rfl ?_; go_simp
           refine (C5.out _).mono ?_; rintro e w7 ⟨rfl, k7⟩
           have kk7 : Keep w2 w7 := Keep.next (by go_grown) k7
           have b7 := Lib.hid (BX2.out.keep kk7)
           have x7 := b7.out.c0; have y7 := b7.out.c1))
    all_goals go_wp2_with fail
    all_goals go_meet
    all_goals first
      | (have q7 := (Duo.mk d70 d71 d72 d73).set (.int .i64 (fl sa g)) (.int .i64 (ce sa g))
         exact ⟨w2.heap.size, rfl, q7.c0, q7.c1, (kk7.setCell (by simp) _).setCell (by simp) _⟩)
      | (have q7 := Duo.new w7 (.int .i64 (fl sa g)) (.int .i64 (ce sa g)) 159
         exact ⟨w7.heap.size, rfl, q7.c0, q7.c1, Keep.next kk7 (by go_grown)⟩)
  case rest =>
    obtain ⟨gb, rfl, e0, e1, kx⟩ := hcut
    have KC := Lib.hid (KW2.out.next kx)
    have AC := Lib.hid (A2.out.keep kx (Nat.le_refl _))
    have DC := Lib.hid (D2.out.keep kx (Nat.le_refl _))
    have BC := Lib.hid (BX2.out.keep kx)
    have hgb : gb < wc.heap.size := World.block_lt_of_cell? _ _ e0
    have HS : Hid (∀ W, Keep wc W → ((W.cell? ⟨w.heap.size, 0, none⟩ = some (.int .i64 g) ∧ W.cell? ⟨w.heap.size, 1, none⟩ = some (.slice ad zss.length cap)) ∧ W.cell? ⟨gb, 0, none⟩ = some (.int .i64 (fl sa g)) ∧ W.cell? ⟨gb, 1, none⟩ = some (.int .i64 (ce sa g))) ∧ Keep wc W) :=
      Lib.hid (fun W k => ⟨⟨⟨(BC.out.keep k).c0, (BC.out.keep k).c1⟩, (k.cell (p := ⟨gb, 0, none⟩) (by exact hgb)).trans e0, (k.cell (p := ⟨gb, 1, none⟩) (by exact hgb)).trans e1⟩, k⟩)
    clear D2 A2 KW2 BX2 CT C5 x0 x1 xl
    have D1 : Hid (∀ W, Keep wc W → Calls Try.prog 81 #[.slice rd rss.length rc] W fun e w' => ∃ p c, e = .returned (.slice p SB.length c) ∧ Ints w' p SB ∧ Keep wc w') := Lib.hid (fun W k => (C3.out W (KC.out.next k)).mono fun _ _ ⟨a, b, c, d, e⟩ => ⟨a, b, c, d, k.next e⟩)
    have D4 : Hid (∀ W, Keep wc W → Calls Try.prog 83 #[.slice rd rss.length rc] W fun e w' => ∃ p c, e = .returned (.slice p SD.length c) ∧ Ints w' p SD ∧ Keep wc w') := Lib.hid (fun W k => (C4.out W (KC.out.next k)).mono fun _ _ ⟨a, b, c, d, e⟩ => ⟨a, b, c, d, k.next e⟩)
    have D2 : Hid (∀ W p c, Keep wc W → Ints W p SB → Calls Try.prog 96 #[.slice p SB.length c] W fun e w' => e = .returned (.int .i64 SB.sum) ∧ W = w') := Lib.hid (fun W p c k i => total_any p c SB W i (fun z hz => by have := HBB.out z hz; omega) (by omega))
    have D3 : Hid (∀ W p c, Keep wc W → Ints W p SB → Calls Try.prog 135 #[.agg #[.int .i64 g, .slice ad2 SA.length ac2], .slice p SB.length c] W fun e w' => e = .returned (.bool (rndB g SA SB)) ∧ Keep wc w') := Lib.hid (fun W p c k i => (IsRounding_any g ad2 ac2 SA p c SB W (AC.out.keep k (Nat.le_refl _)) i).mono fun _ _ ⟨a, b⟩ => ⟨a, k.next b⟩)
    have D5 : Hid (∀ W p c, Keep wc W → Ints W p SD → Calls Try.prog 135 #[.agg #[.int .i64 g, .slice cd2 SC.length cc2], .slice p SD.length c] W fun e w' => e = .returned (.bool (rndB g SC SD)) ∧ Keep wc w') := Lib.hid (fun W p c k i => (IsRounding_any g cd2 cc2 SC p c SD W (DC.out.keep k (Nat.le_refl _)) i).mono fun _ _ ⟨a, b⟩ => ⟨a, k.next b⟩)
    obtain ⟨⟨⟨z0, z1⟩, z2, z3⟩, _⟩ := HS.out wc (Below.refl _ _)
    clear e0 e1 kx
    generalize SB.sum = sb at *
    rw [HIN.out.symm] at HV
    cases hb : inB sb (fl sa g) (ce sa g)
    · go_upto_region 3 with fail
      refine wp_region_held_drew (S := (fun W => ((W.cell? ⟨w.heap.size, 0, none⟩ = some (.int .i64 g) ∧ W.cell? ⟨w.heap.size, 1, none⟩ = some (.slice ad zss.length cap)) ∧ W.cell? ⟨gb, 0, none⟩ = some (.int .i64 (fl sa g)) ∧ W.cell? ⟨gb, 1, none⟩ = some (.int .i64 (ce sa g))) ∧ Keep wc W)) (by kernel_rfl) ?_ (fun hHeld => ?_)
      · exact HS.out _ (by go_grown)
      refine takeH (v := ?_) 0 19 rfl rfl (by kernel_rfl) (by kernel_rfl) (by kernel_rfl) (fun _ _ _ h => h) (by rfl) (by assumption) ?_ ?_
      rotate_left 1
      · (intro W_ hSw; (try dsimp only at hSw); go_simp; try with_reducible rfl)
      try simp only [Act.put, List.setIfInBounds_toArray, List.set_cons_zero, List.set_cons_succ]
      refine takeH (v := ?_) 3 22 rfl rfl (by kernel_rfl) (by kernel_rfl) (by kernel_rfl) (fun _ _ _ h => h) (by rfl) (by assumption) ?_ ?_
      rotate_left 1
      · (intro W_ hSw; (try dsimp only at hSw); go_simp; try with_reducible rfl)
      try simp only [Act.put, List.setIfInBounds_toArray, List.set_cons_zero, List.set_cons_succ]
      refine takeH (v := ?_) 4 23 rfl rfl (by kernel_rfl) (by kernel_rfl) (by kernel_rfl) (fun _ _ _ h => h) (by rfl) (by assumption) ?_ ?_
      rotate_left 1
      · (intro W_ hSw; (try dsimp only at hSw); go_simp; try with_reducible rfl)
      try simp only [Act.put, List.setIfInBounds_toArray, List.set_cons_zero, List.set_cons_succ]
      refine takeH (v := ?_) 5 24 rfl rfl (by kernel_rfl) (by kernel_rfl) (by kernel_rfl) (fun _ _ _ h => h) (by rfl) (by assumption) ?_ ?_
      rotate_left 1
      · (intro W_ hSw; (try dsimp only at hSw); go_simp; try with_reducible rfl)
      try simp only [Act.put, List.setIfInBounds_toArray, List.set_cons_zero, List.set_cons_succ]
      refine takeH (v := ?_) 6 25 rfl rfl (by kernel_rfl) (by kernel_rfl) (by kernel_rfl) (fun _ _ _ h => h) (by rfl) (by assumption) ?_ ?_
      rotate_left 1
      · (intro W_ hSw; (try dsimp only at hSw); go_simp; try with_reducible rfl)
      try simp only [Act.put, List.setIfInBounds_toArray, List.set_cons_zero, List.set_cons_succ]
      refine wpAnyH_ready (rs := [1]) (by kernel_rfl) (by simp) ?_
      refine AllReadyH.cons rfl (fun K hK => ?_) AllReadyH.nil
      first | (go_at_call 81; refine (D1.out _ (by first | assumption | go_grown)).mono ?_; rintro e w3 ⟨p3, c3, rfl, i3, k3⟩) | (go_simp; go_at_call 81; refine (D1.out _ (by first | assumption | go_grown)).mono ?_; rintro e w3 ⟨p3, c3, rfl, i3, k3⟩)
      try (go_wp2_with fail)
      refine hK.out _ _ ?_ (fun hHeld => ?_)
      · first | exact HS.out _ (by assumption) | exact HS.out _ (by go_grown)
      clear hK K
      try simp only [Act.put, List.setIfInBounds_toArray, List.set_cons_zero, List.set_cons_succ]
      refine wpAnyH_ready (rs := [2]) (by kernel_rfl) (by simp) ?_
      refine AllReadyH.cons rfl (fun K hK => ?_) AllReadyH.nil
      first | (go_at_call 96; refine (D2.out _ _ _ (by assumption) (by assumption)).mono ?_; rintro e w4 ⟨rfl, rfl⟩) | (go_simp; go_at_call 96; refine (D2.out _ _ _ (by assumption) (by assumption)).mono ?_; rintro e w4 ⟨rfl, rfl⟩)
      try (go_wp2_with fail)
      refine hK.out _ _ ?_ (fun hHeld => ?_)
      · first | exact HS.out _ (by assumption) | exact HS.out _ (by go_grown)
      clear hK K
      try simp only [Act.put, List.setIfInBounds_toArray, List.set_cons_zero, List.set_cons_succ]
      refine wpAnyH_ready (rs := [7]) (by kernel_rfl) (by simp) ?_
      refine AllReadyH.cons rfl (fun K hK => ?_) AllReadyH.nil
      first | (go_at_call 59; refine (within_any _ _ _ _).mono ?_; rw [hb]; rintro e w4 ⟨rfl, rfl⟩) | (go_simp; go_at_call 59; refine (within_any _ _ _ _).mono ?_; rw [hb]; rintro e w4 ⟨rfl, rfl⟩)
      try (go_wp2_with fail)
      refine hK.out _ _ ?_ (fun hHeld => ?_)
      · first | exact HS.out _ (by assumption) | exact HS.out _ (by go_grown)
      clear hK K
      try simp only [Act.put, List.setIfInBounds_toArray, List.set_cons_zero, List.set_cons_succ]
      refine takeH (v := ?_) 8 27 rfl rfl (by kernel_rfl) (by kernel_rfl) (by kernel_rfl) (fun _ _ _ h => h) (by rfl) (by assumption) ?_ ?_
      rotate_left 1
      · (intro W_ hSw; (try dsimp only at hSw); go_simp; try with_reducible rfl)
      try simp only [Act.put, List.setIfInBounds_toArray, List.set_cons_zero, List.set_cons_succ]
      refine skipH 9 28 rfl rfl (by kernel_rfl) (by kernel_rfl) (by kernel_rfl) (fun _ _ _ h => h) (by rfl) (by assumption) ?_
      try simp only [Act.put, List.setIfInBounds_toArray, List.set_cons_zero, List.set_cons_succ]
      refine skipH 10 29 rfl rfl (by kernel_rfl) (by kernel_rfl) (by kernel_rfl) (fun _ _ _ h => h) (by rfl) (by assumption) ?_
      try simp only [Act.put, List.setIfInBounds_toArray, List.set_cons_zero, List.set_cons_succ]
      refine skipH 11 30 rfl rfl (by kernel_rfl) (by kernel_rfl) (by kernel_rfl) (fun _ _ _ h => h) (by rfl) (by assumption) ?_
      try simp only [Act.put, List.setIfInBounds_toArray, List.set_cons_zero, List.set_cons_succ]
      refine skipH 12 31 rfl rfl (by kernel_rfl) (by kernel_rfl) (by kernel_rfl) (fun _ _ _ h => h) (by rfl) (by assumption) ?_
      try simp only [Act.put, List.setIfInBounds_toArray, List.set_cons_zero, List.set_cons_succ]
      refine skipH 13 32 rfl rfl (by kernel_rfl) (by kernel_rfl) (by kernel_rfl) (fun _ _ _ h => h) (by rfl) (by assumption) ?_
      try simp only [Act.put, List.setIfInBounds_toArray, List.set_cons_zero, List.set_cons_succ]
      refine skipH 14 33 rfl rfl (by kernel_rfl) (by kernel_rfl) (by kernel_rfl) (fun _ _ _ h => h) (by rfl) (by assumption) ?_
      try simp only [Act.put, List.setIfInBounds_toArray, List.set_cons_zero, List.set_cons_succ]
      refine skipH 15 34 rfl rfl (by kernel_rfl) (by kernel_rfl) (by kernel_rfl) (fun _ _ _ h => h) (by rfl) (by assumption) ?_
      try simp only [Act.put, List.setIfInBounds_toArray, List.set_cons_zero, List.set_cons_succ]
      refine takeH (v := ?_) 16 35 rfl rfl (by kernel_rfl) (by kernel_rfl) (by kernel_rfl) (fun _ _ _ h => h) (by rfl) (by assumption) ?_ ?_
      rotate_left 1
      · (intro W_ hSw; (try dsimp only at hSw); go_simp; try with_reducible rfl)
      try simp only [Act.put, List.setIfInBounds_toArray, List.set_cons_zero, List.set_cons_succ]
      refine takeH (v := ?_) 17 36 rfl rfl (by kernel_rfl) (by kernel_rfl) (by kernel_rfl) (fun _ _ _ h => h) (by rfl) (by assumption) ?_ ?_
      rotate_left 1
      · (intro W_ hSw; (try dsimp only at hSw); go_simp; try with_reducible rfl)
      try simp only [Act.put, List.setIfInBounds_toArray, List.set_cons_zero, List.set_cons_succ]
      refine skipH 18 37 rfl rfl (by kernel_rfl) (by kernel_rfl) (by kernel_rfl) (fun _ _ _ h => h) (by rfl) (by assumption) ?_
      try simp only [Act.put, List.setIfInBounds_toArray, List.set_cons_zero, List.set_cons_succ]
      refine skipH 19 38 rfl rfl (by kernel_rfl) (by kernel_rfl) (by kernel_rfl) (fun _ _ _ h => h) (by rfl) (by assumption) ?_
      try simp only [Act.put, List.setIfInBounds_toArray, List.set_cons_zero, List.set_cons_succ]
      refine skipH 20 39 rfl rfl (by kernel_rfl) (by kernel_rfl) (by kernel_rfl) (fun _ _ _ h => h) (by rfl) (by assumption) ?_
      try simp only [Act.put, List.setIfInBounds_toArray, List.set_cons_zero, List.set_cons_succ]
      refine skipH 21 40 rfl rfl (by kernel_rfl) (by kernel_rfl) (by kernel_rfl) (fun _ _ _ h => h) (by rfl) (by assumption) ?_
      try simp only [Act.put, List.setIfInBounds_toArray, List.set_cons_zero, List.set_cons_succ]
      refine skipH 22 41 rfl rfl (by kernel_rfl) (by kernel_rfl) (by kernel_rfl) (fun _ _ _ h => h) (by rfl) (by assumption) ?_
      try simp only [Act.put, List.setIfInBounds_toArray, List.set_cons_zero, List.set_cons_succ]
      refine skipH 23 42 rfl rfl (by kernel_rfl) (by kernel_rfl) (by kernel_rfl) (fun _ _ _ h => h) (by rfl) (by assumption) ?_
      try simp only [Act.put, List.setIfInBounds_toArray, List.set_cons_zero, List.set_cons_succ]
      refine skipH 24 43 rfl rfl (by kernel_rfl) (by kernel_rfl) (by kernel_rfl) (fun _ _ _ h => h) (by rfl) (by assumption) ?_
      try simp only [Act.put, List.setIfInBounds_toArray, List.set_cons_zero, List.set_cons_succ]
      refine takeH (v := ?_) 25 44 rfl rfl (by kernel_rfl) (by kernel_rfl) (by kernel_rfl) (fun _ _ _ h => h) (by rfl) (by assumption) ?_ ?_
      rotate_left 1
      · (intro W_ hSw; (try dsimp only at hSw); go_simp; try with_reducible rfl)
      try simp only [Act.put, List.setIfInBounds_toArray, List.set_cons_zero, List.set_cons_succ]
      refine takeH (v := ?_) 26 4 rfl rfl (by kernel_rfl) (by kernel_rfl) (by kernel_rfl) (fun _ _ _ h => h) (by rfl) (by assumption) ?_ ?_
      rotate_left 1
      · (intro W_ hSw; (try dsimp only at hSw); go_simp; try with_reducible rfl)
      try simp only [Act.put, List.setIfInBounds_toArray, List.set_cons_zero, List.set_cons_succ]
      refine wpAnyH_done (by kernel_rfl) ?_ _
      go_wp2
      go_ret
      exact ⟨ret_bool (by rw [HV.out, hb]; rfl), KC.out.next (by first | assumption | go_grown)⟩
    cases hc : rndB g SA SB
    · go_upto_region 3 with fail
      refine wp_region_held_drew (S := (fun W => ((W.cell? ⟨w.heap.size, 0, none⟩ = some (.int .i64 g) ∧ W.cell? ⟨w.heap.size, 1, none⟩ = some (.slice ad zss.length cap)) ∧ W.cell? ⟨gb, 0, none⟩ = some (.int .i64 (fl sa g)) ∧ W.cell? ⟨gb, 1, none⟩ = some (.int .i64 (ce sa g))) ∧ Keep wc W)) (by kernel_rfl) ?_ (fun hHeld => ?_)
      · exact HS.out _ (by go_grown)
      refine takeH (v := ?_) 0 19 rfl rfl (by kernel_rfl) (by kernel_rfl) (by kernel_rfl) (fun _ _ _ h => h) (by rfl) (by assumption) ?_ ?_
      rotate_left 1
      · (intro W_ hSw; (try dsimp only at hSw); go_simp; try with_reducible rfl)
      try simp only [Act.put, List.setIfInBounds_toArray, List.set_cons_zero, List.set_cons_succ]
      refine takeH (v := ?_) 3 22 rfl rfl (by kernel_rfl) (by kernel_rfl) (by kernel_rfl) (fun _ _ _ h => h) (by rfl) (by assumption) ?_ ?_
      rotate_left 1
      · (intro W_ hSw; (try dsimp only at hSw); go_simp; try with_reducible rfl)
      try simp only [Act.put, List.setIfInBounds_toArray, List.set_cons_zero, List.set_cons_succ]
      refine takeH (v := ?_) 4 23 rfl rfl (by kernel_rfl) (by kernel_rfl) (by kernel_rfl) (fun _ _ _ h => h) (by rfl) (by assumption) ?_ ?_
      rotate_left 1
      · (intro W_ hSw; (try dsimp only at hSw); go_simp; try with_reducible rfl)
      try simp only [Act.put, List.setIfInBounds_toArray, List.set_cons_zero, List.set_cons_succ]
      refine takeH (v := ?_) 5 24 rfl rfl (by kernel_rfl) (by kernel_rfl) (by kernel_rfl) (fun _ _ _ h => h) (by rfl) (by assumption) ?_ ?_
      rotate_left 1
      · (intro W_ hSw; (try dsimp only at hSw); go_simp; try with_reducible rfl)
      try simp only [Act.put, List.setIfInBounds_toArray, List.set_cons_zero, List.set_cons_succ]
      refine takeH (v := ?_) 6 25 rfl rfl (by kernel_rfl) (by kernel_rfl) (by kernel_rfl) (fun _ _ _ h => h) (by rfl) (by assumption) ?_ ?_
      rotate_left 1
      · (intro W_ hSw; (try dsimp only at hSw); go_simp; try with_reducible rfl)
      try simp only [Act.put, List.setIfInBounds_toArray, List.set_cons_zero, List.set_cons_succ]
      refine wpAnyH_ready (rs := [1]) (by kernel_rfl) (by simp) ?_
      refine AllReadyH.cons rfl (fun K hK => ?_) AllReadyH.nil
      first | (go_at_call 81; refine (D1.out _ (by first | assumption | go_grown)).mono ?_; rintro e w3 ⟨p3, c3, rfl, i3, k3⟩) | (go_simp; go_at_call 81; refine (D1.out _ (by first | assumption | go_grown)).mono ?_; rintro e w3 ⟨p3, c3, rfl, i3, k3⟩)
      try (go_wp2_with fail)
      refine hK.out _ _ ?_ (fun hHeld => ?_)
      · first | exact HS.out _ (by assumption) | exact HS.out _ (by go_grown)
      clear hK K
      try simp only [Act.put, List.setIfInBounds_toArray, List.set_cons_zero, List.set_cons_succ]
      refine wpAnyH_ready (rs := [2]) (by kernel_rfl) (by simp) ?_
      refine AllReadyH.cons rfl (fun K hK => ?_) AllReadyH.nil
      first | (go_at_call 96; refine (D2.out _ _ _ (by assumption) (by assumption)).mono ?_; rintro e w4 ⟨rfl, rfl⟩) | (go_simp; go_at_call 96; refine (D2.out _ _ _ (by assumption) (by assumption)).mono ?_; rintro e w4 ⟨rfl, rfl⟩)
      try (go_wp2_with fail)
      refine hK.out _ _ ?_ (fun hHeld => ?_)
      · first | exact HS.out _ (by assumption) | exact HS.out _ (by go_grown)
      clear hK K
      try simp only [Act.put, List.setIfInBounds_toArray, List.set_cons_zero, List.set_cons_succ]
      refine wpAnyH_ready (rs := [7]) (by kernel_rfl) (by simp) ?_
      refine AllReadyH.cons rfl (fun K hK => ?_) AllReadyH.nil
      first | (go_at_call 59; refine (within_any _ _ _ _).mono ?_; rw [hb]; rintro e w4 ⟨rfl, rfl⟩) | (go_simp; go_at_call 59; refine (within_any _ _ _ _).mono ?_; rw [hb]; rintro e w4 ⟨rfl, rfl⟩)
      try (go_wp2_with fail)
      refine hK.out _ _ ?_ (fun hHeld => ?_)
      · first | exact HS.out _ (by assumption) | exact HS.out _ (by go_grown)
      clear hK K
      try simp only [Act.put, List.setIfInBounds_toArray, List.set_cons_zero, List.set_cons_succ]
      refine takeH (v := ?_) 8 27 rfl rfl (by kernel_rfl) (by kernel_rfl) (by kernel_rfl) (fun _ _ _ h => h) (by rfl) (by assumption) ?_ ?_
      rotate_left 1
      · (intro W_ hSw; (try dsimp only at hSw); go_simp; try with_reducible rfl)
      try simp only [Act.put, List.setIfInBounds_toArray, List.set_cons_zero, List.set_cons_succ]
      refine takeH (v := ?_) 9 28 rfl rfl (by kernel_rfl) (by kernel_rfl) (by kernel_rfl) (fun _ _ _ h => h) (by rfl) (by assumption) ?_ ?_
      rotate_left 1
      · (intro W_ hSw; (try dsimp only at hSw); go_simp; try with_reducible rfl)
      try simp only [Act.put, List.setIfInBounds_toArray, List.set_cons_zero, List.set_cons_succ]
      refine takeH (v := ?_) 10 29 rfl rfl (by kernel_rfl) (by kernel_rfl) (by kernel_rfl) (fun _ _ _ h => h) (by rfl) (by assumption) ?_ ?_
      rotate_left 1
      · (intro W_ hSw; (try dsimp only at hSw); go_simp; try with_reducible rfl)
      try simp only [Act.put, List.setIfInBounds_toArray, List.set_cons_zero, List.set_cons_succ]
      refine takeH (v := ?_) 11 30 rfl rfl (by kernel_rfl) (by kernel_rfl) (by kernel_rfl) (fun _ _ _ h => h) (by rfl) (by assumption) ?_ ?_
      rotate_left 1
      · (intro W_ hSw; (try dsimp only at hSw); go_simp; try with_reducible rfl)
      try simp only [Act.put, List.setIfInBounds_toArray, List.set_cons_zero, List.set_cons_succ]
      refine takeH (v := ?_) 12 31 rfl rfl (by kernel_rfl) (by kernel_rfl) (by kernel_rfl) (fun _ _ _ h => h) (by rfl) (by assumption) ?_ ?_
      rotate_left 1
      · (intro W_ hSw; (try dsimp only at hSw); go_simp; try with_reducible rfl)
      try simp only [Act.put, List.setIfInBounds_toArray, List.set_cons_zero, List.set_cons_succ]
      refine takeH (v := ?_) 13 32 rfl rfl (by kernel_rfl) (by kernel_rfl) (by kernel_rfl) (fun _ _ _ h => h) (by rfl) (by assumption) ?_ ?_
      rotate_left 1
      · (intro W_ hSw; (try dsimp only at hSw); go_simp; try with_reducible rfl)
      try simp only [Act.put, List.setIfInBounds_toArray, List.set_cons_zero, List.set_cons_succ]
      refine wpAnyH_ready (rs := [14]) (by kernel_rfl) (by simp) ?_
      refine AllReadyH.cons rfl (fun K hK => ?_) AllReadyH.nil
      first | (go_at_call 81; refine (D1.out _ (by first | assumption | go_grown)).mono ?_; rintro e w3 ⟨p3, c3, rfl, i3, k3⟩) | (go_simp; go_at_call 81; refine (D1.out _ (by first | assumption | go_grown)).mono ?_; rintro e w3 ⟨p3, c3, rfl, i3, k3⟩)
      try (go_wp2_with fail)
      refine hK.out _ _ ?_ (fun hHeld => ?_)
      · first | exact HS.out _ (by assumption) | exact HS.out _ (by go_grown)
      clear hK K
      try simp only [Act.put, List.setIfInBounds_toArray, List.set_cons_zero, List.set_cons_succ]
      refine wpAnyH_ready (rs := [15]) (by kernel_rfl) (by simp) ?_
      refine AllReadyH.cons rfl (fun K hK => ?_) AllReadyH.nil
      first | (go_at_call 135; with_reducible refine (D3.out _ _ _ (by assumption) (by assumption)).mono ?_; rw [hc]; rintro e w5 ⟨rfl, k5⟩) | (go_simp; go_at_call 135; with_reducible refine (D3.out _ _ _ (by assumption) (by assumption)).mono ?_; rw [hc]; rintro e w5 ⟨rfl, k5⟩)
      try (go_wp2_with fail)
      refine hK.out _ _ ?_ (fun hHeld => ?_)
      · first | exact HS.out _ (by assumption) | exact HS.out _ (by go_grown)
      clear hK K
      try simp only [Act.put, List.setIfInBounds_toArray, List.set_cons_zero, List.set_cons_succ]
      refine takeH (v := ?_) 16 35 rfl rfl (by kernel_rfl) (by kernel_rfl) (by kernel_rfl) (fun _ _ _ h => h) (by rfl) (by assumption) ?_ ?_
      rotate_left 1
      · (intro W_ hSw; (try dsimp only at hSw); go_simp; try with_reducible rfl)
      try simp only [Act.put, List.setIfInBounds_toArray, List.set_cons_zero, List.set_cons_succ]
      refine takeH (v := ?_) 17 36 rfl rfl (by kernel_rfl) (by kernel_rfl) (by kernel_rfl) (fun _ _ _ h => h) (by rfl) (by assumption) ?_ ?_
      rotate_left 1
      · (intro W_ hSw; (try dsimp only at hSw); go_simp; try with_reducible rfl)
      try simp only [Act.put, List.setIfInBounds_toArray, List.set_cons_zero, List.set_cons_succ]
      refine skipH 18 37 rfl rfl (by kernel_rfl) (by kernel_rfl) (by kernel_rfl) (fun _ _ _ h => h) (by rfl) (by assumption) ?_
      try simp only [Act.put, List.setIfInBounds_toArray, List.set_cons_zero, List.set_cons_succ]
      refine skipH 19 38 rfl rfl (by kernel_rfl) (by kernel_rfl) (by kernel_rfl) (fun _ _ _ h => h) (by rfl) (by assumption) ?_
      try simp only [Act.put, List.setIfInBounds_toArray, List.set_cons_zero, List.set_cons_succ]
      refine skipH 20 39 rfl rfl (by kernel_rfl) (by kernel_rfl) (by kernel_rfl) (fun _ _ _ h => h) (by rfl) (by assumption) ?_
      try simp only [Act.put, List.setIfInBounds_toArray, List.set_cons_zero, List.set_cons_succ]
      refine skipH 21 40 rfl rfl (by kernel_rfl) (by kernel_rfl) (by kernel_rfl) (fun _ _ _ h => h) (by rfl) (by assumption) ?_
      try simp only [Act.put, List.setIfInBounds_toArray, List.set_cons_zero, List.set_cons_succ]
      refine skipH 22 41 rfl rfl (by kernel_rfl) (by kernel_rfl) (by kernel_rfl) (fun _ _ _ h => h) (by rfl) (by assumption) ?_
      try simp only [Act.put, List.setIfInBounds_toArray, List.set_cons_zero, List.set_cons_succ]
      refine skipH 23 42 rfl rfl (by kernel_rfl) (by kernel_rfl) (by kernel_rfl) (fun _ _ _ h => h) (by rfl) (by assumption) ?_
      try simp only [Act.put, List.setIfInBounds_toArray, List.set_cons_zero, List.set_cons_succ]
      refine skipH 24 43 rfl rfl (by kernel_rfl) (by kernel_rfl) (by kernel_rfl) (fun _ _ _ h => h) (by rfl) (by assumption) ?_
      try simp only [Act.put, List.setIfInBounds_toArray, List.set_cons_zero, List.set_cons_succ]
      refine takeH (v := ?_) 25 44 rfl rfl (by kernel_rfl) (by kernel_rfl) (by kernel_rfl) (fun _ _ _ h => h) (by rfl) (by assumption) ?_ ?_
      rotate_left 1
      · (intro W_ hSw; (try dsimp only at hSw); go_simp; try with_reducible rfl)
      try simp only [Act.put, List.setIfInBounds_toArray, List.set_cons_zero, List.set_cons_succ]
      refine takeH (v := ?_) 26 4 rfl rfl (by kernel_rfl) (by kernel_rfl) (by kernel_rfl) (fun _ _ _ h => h) (by rfl) (by assumption) ?_ ?_
      rotate_left 1
      · (intro W_ hSw; (try dsimp only at hSw); go_simp; try with_reducible rfl)
      try simp only [Act.put, List.setIfInBounds_toArray, List.set_cons_zero, List.set_cons_succ]
      refine wpAnyH_done (by kernel_rfl) ?_ _
      go_wp2
      go_ret
      exact ⟨ret_bool (by rw [HV.out, hb, hc]; rfl), KC.out.next (by first | assumption | go_grown)⟩
    · go_upto_region 3 with fail
      go_region_held3 (fun W => ((W.cell? ⟨w.heap.size, 0, none⟩ = some (.int .i64 g) ∧ W.cell? ⟨w.heap.size, 1, none⟩ = some (.slice ad zss.length cap)) ∧ W.cell? ⟨gb, 0, none⟩ = some (.int .i64 (fl sa g)) ∧ W.cell? ⟨gb, 1, none⟩ = some (.int .i64 (ce sa g))) ∧ Keep wc W)
        (first | exact HS.out _ (by assumption) | exact HS.out _ (by go_grown))
        (first | (go_at_call 81; refine (D1.out _ (by first | assumption | go_grown)).mono ?_; rintro e w3 ⟨p3, c3, rfl, i3, k3⟩) | (go_at_call 96; refine (D2.out _ _ _ (by assumption) (by assumption)).mono ?_; rintro e w4 ⟨rfl, rfl⟩) | (go_at_call 59; refine (within_any _ _ _ _).mono ?_; rw [hb]; rintro e w4 ⟨rfl, rfl⟩) | (go_at_call 135; with_reducible refine (D3.out _ _ _ (by assumption) (by assumption)).mono ?_; rw [hc]; rintro e w5 ⟨rfl, k5⟩) | (go_at_call 83; refine (D4.out _ (by assumption)).mono ?_; rintro e w6 ⟨p6, c6, rfl, i6, k6⟩) | (go_at_call 135; with_reducible refine (D5.out _ _ _ (by assumption) (by assumption)).mono ?_; rintro e w7 ⟨rfl, k7⟩))
      go_wp2
      go_ret
      exact ⟨ret_bool (by rw [HV.out, hb, hc]; rfl), KC.out.next (by first | assumption | go_grown)⟩
end Go.Proofs.Ytjoanfgchapbaab
