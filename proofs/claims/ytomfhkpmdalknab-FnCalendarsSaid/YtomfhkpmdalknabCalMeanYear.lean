/- Calendars: the mean year: the program's look and the model's. -/
import Derived.Test.YtomfhkpmdalknabCalD11
import Derived.Test.YtomfhkpmdalknabGcd6
import Derived.Test.YtomfhkpmdalknabWd7
import Derived.Test.YtomfhkpmdalknabHold
import Derived.Test.YtomfhkpmdalknabDu11
import Derived.Deep.DeepCutAuto
namespace Go.Proofs.Ytomfhkpmdalknab
open Go.ChangeShapes Go.WideShapes Go.ChangeAt Go.RowKit Go.Deep
set_option linter.unusedVariables false
/-- A fraction. -/
abbrev frX (l d : Int) : Value := .agg #[.int .i64 l, .int .i64 d]
def myN (g gh : Int) (zs : List Int) : Int := if okC g gh zs then (bef g gh zs g).tdiv (Int.gcd (bef g gh zs g) g) else 0
def myD (g gh : Int) (zs : List Int) : Int := if okC g gh zs then g.tdiv (Int.gcd (bef g gh zs g) g) else 0
set_option maxHeartbeats 1600000 in
theorem lowestX_any (l d : Int) (w : World) (hl : 0 ≤ l ∧ l ≤ 1000000000) (hd : 1 ≤ d ∧ d ≤ 1000000000) :
    Calls Try.prog 26 #[frX l d] w fun e w' => e = .returned (frX (l.tdiv (Int.gcd l d)) (d.tdiv (Int.gcd l d))) ∧ Keep w w' := by
  have HG := Lib.hid (fun W => commonDivisor_any d l W (by omega) (by omega) (by omega) (by omega))
  rw [Int.gcd_comm] at HG
  have hg1 : 1 ≤ (Int.gcd l d : Int) := by
    have h1 : 0 < Int.gcd l d := Nat.gcd_pos_of_pos_right _ (by omega)
    omega
  have t1 := tdiv_in (x := l) (M := 1000000000) hg1 (by omega)
  have t2 := tdiv_in (x := d) (M := 1000000000) hg1 (by omega)
  generalize (Int.gcd l d : Int) = G at *
  go_enter Try.func26, Try.ntmps26
  go_wp2_with (go_at_call 39; refine (HG.out _).mono ?_; rintro e w' ⟨rfl, nd, rfl⟩)
  go_region
  go_wp2
  refine bodyPost_ret (v := .agg #[.int .i64 (l.tdiv G), .int .i64 (d.tdiv G)]) (by simp [results, Try.results26, go_sem]) rfl ?_
  refine ⟨rfl, ?_⟩
  refine Below.setCell (Below.setCell (below_drewN ?_ _) (by simp) _) (by simp) _
  show Keep w _
  go_grown
set_option maxHeartbeats 1600000 in
set_option maxRecDepth 100000 in
theorem MeanYear_any (g gh : Int) (ad : Option Addr) (cap : Nat) (zs : List Int) (w : World) (hz : Ints w ad zs) :
    Calls Try.prog 10 #[calV g gh ad zs.length cap] w fun e w' => e = .returned (.tuple #[.int .i64 (myN g gh zs), .int .i64 (myD g gh zs), .bool (okC g gh zs)]) ∧ Keep w w' := by
  have HV := Lib.hid (fun W (k : Keep w W) => ValidCalendar_any g gh ad cap zs W (hz.keep k (Nat.le_refl _)))
  have B0 : BoxC (w.alloc (.cells #[.int .i64 g, .int .i64 gh, .slice ad zs.length cap] 27)) w.heap.size g gh ad zs.length cap := ⟨by simp, by simp, by simp, by simp⟩
  have HB0 := Lib.hid B0
  clear B0
  cases h1 : okC g gh zs
  · rw [show myN g gh zs = 0 from by simp [myN, h1], show myD g gh zs = 0 from by simp [myD, h1]]
    rw [h1] at HV
    clear HB0
    go_enter Try.func10, Try.ntmps10
    go_wp2_with (go_at_call 9; refine (HV.out _ (by go_grown)).mono ?_; rintro e w1 ⟨rfl, k1⟩)
    refine bodyPost_ret (v := .tuple #[.int .i64 0, .int .i64 0, .bool false]) (by simp [results, Try.results10, go_sem]) rfl ?_
    exact ⟨rfl, Keep.next (by go_grown) k1⟩
  have hg := okC_g h1
  rw [h1] at HV
  have HD := Lib.hid (fun W (k : Keep w W) => daysBefore_any g gh ad cap zs g W (hz.keep k (Nat.le_refl _)) h1 (by omega) (by omega))
  have hb := bef_bd h1 (y := g) (by omega)
  rw [show myN g gh zs = (bef g gh zs g).tdiv (Int.gcd (bef g gh zs g) g) from by simp [myN, h1], show myD g gh zs = g.tdiv (Int.gcd (bef g gh zs g) g) from by simp [myD, h1]]
  generalize bef g gh zs g = R at *
  have HL := Lib.hid (fun W => lowestX_any R g W (by omega) (by omega))
  generalize R.tdiv (Int.gcd R g) = R1 at *
  generalize g.tdiv (Int.gcd R g) = R2 at *
  go_enter Try.func10, Try.ntmps10
  go_wp2_with fail
  refine (HV.out _ (by go_grown)).mono ?_
  rintro e w1 ⟨rfl, k1⟩
  have HK1 := Lib.hid (show Keep w w1 from Keep.next (by go_grown) k1)
  have B1 := HB0.out.keep k1
  clear k1 HB0
  have HS : Hid (∀ W, Keep w1 W → (W.cell? ⟨w.heap.size, 0, none⟩ = some (.int .i64 g) ∧ W.cell? ⟨w.heap.size, 1, none⟩ = some (.int .i64 gh) ∧ W.cell? ⟨w.heap.size, 2, none⟩ = some (.slice ad zs.length cap)) ∧ Keep w1 W) := Lib.hid (fun W k => ⟨⟨(B1.keep k).c0, (B1.keep k).c1, (B1.keep k).c2⟩, k⟩)
  obtain ⟨b0, b1, b2, b3⟩ := B1
  go_upto_region 3 with fail
  go_cut [5] (fun s5 wx => ∃ b5 : Nat, s5 = .pointer (some ⟨b5, 0, none⟩) ∧ DuY wx b5 (.int .i64 R1) (.int .i64 R2) ∧ Keep w1 wx)
  case first =>
    refine wp_region_held_drew (S := (fun W => (W.cell? ⟨w.heap.size, 0, none⟩ = some (.int .i64 g) ∧ W.cell? ⟨w.heap.size, 1, none⟩ = some (.int .i64 gh) ∧ W.cell? ⟨w.heap.size, 2, none⟩ = some (.slice ad zs.length cap)) ∧ Keep w1 W)) (by kernel_rfl) ?_ (fun hHeld => ?_)
    · exact HS.out _ (by go_grown)
    refine takeH (v := ?_) 0 9 rfl rfl (by kernel_rfl) (by kernel_rfl) (by kernel_rfl) (fun _ _ _ h => h) (by rfl) (by assumption) ?_ ?_
    rotate_left 1
    · (intro W_ hSw; (try dsimp only at hSw); go_simp; try with_reducible rfl)
    try simp only [Act.put, List.setIfInBounds_toArray, List.set_cons_zero, List.set_cons_succ]
    refine takeH (v := ?_) 1 10 rfl rfl (by kernel_rfl) (by kernel_rfl) (by kernel_rfl) (fun _ _ _ h => h) (by rfl) (by assumption) ?_ ?_
    rotate_left 1
    · (intro W_ hSw; (try dsimp only at hSw); go_simp; try with_reducible rfl)
    try simp only [Act.put, List.setIfInBounds_toArray, List.set_cons_zero, List.set_cons_succ]
    refine takeH (v := ?_) 2 11 rfl rfl (by kernel_rfl) (by kernel_rfl) (by kernel_rfl) (fun _ _ _ h => h) (by rfl) (by assumption) ?_ ?_
    rotate_left 1
    · (intro W_ hSw; (try dsimp only at hSw); go_simp; try with_reducible rfl)
    try simp only [Act.put, List.setIfInBounds_toArray, List.set_cons_zero, List.set_cons_succ]
    refine takeH (v := ?_) 4 13 rfl rfl (by kernel_rfl) (by kernel_rfl) (by kernel_rfl) (fun _ _ _ h => h) (by rfl) (by assumption) ?_ ?_
    rotate_left 1
    · (intro W_ hSw; (try dsimp only at hSw); go_simp; try with_reducible rfl)
    try simp only [Act.put, List.setIfInBounds_toArray, List.set_cons_zero, List.set_cons_succ]
    refine takeH (v := ?_) 5 14 rfl rfl (by kernel_rfl) (by kernel_rfl) (by kernel_rfl) (fun _ _ _ h => h) (by rfl) (by assumption) ?_ ?_
    rotate_left 1
    · (intro W_ hSw; (try dsimp only at hSw); go_simp; try with_reducible rfl)
    try simp only [Act.put, List.setIfInBounds_toArray, List.set_cons_zero, List.set_cons_succ]
    refine wpAnyH_ready (rs := [3, 8]) (by kernel_rfl) (by simp) ?_
    refine AllReadyH.cons rfl (fun K hK => ?_) (AllReadyH.cons rfl (fun K hK => ?_) AllReadyH.nil)
    · -- the days first
      first | (go_at_call 25; refine (HD.out _ (Keep.next HK1.out (by go_grown))).mono ?_; rintro e w2 ⟨rfl, k2⟩) | (go_simp; (go_at_call 25; refine (HD.out _ (Keep.next HK1.out (by go_grown))).mono ?_; rintro e w2 ⟨rfl, k2⟩))
      try (go_wp2_with fail)
      have HK2 := Lib.hid (show Keep w1 w2 from Keep.next (by go_grown) k2)
      have hs2 := HK2.out.size
      refine hK.out _ _ ?_ (fun hHeld => ?_)
      · exact HS.out _ HK2.out
      clear hK K k2
      try simp only [Act.put, List.setIfInBounds_toArray, List.set_cons_zero, List.set_cons_succ]
      refine takeH (v := ?_) 6 15 rfl rfl (by kernel_rfl) (by kernel_rfl) (by kernel_rfl) (fun _ _ _ h => h) (by rfl) (by assumption) ?_ ?_
      rotate_left 1
      · (intro W_ hSw; (try dsimp only at hSw); go_simp; try with_reducible rfl)
      try simp only [Act.put, List.setIfInBounds_toArray, List.set_cons_zero, List.set_cons_succ]
      refine wpAnyH_ready (rs := [7, 8]) (by kernel_rfl) (by simp) ?_
      refine AllReadyH.cons rfl (fun K hK => ?_) (AllReadyH.cons rfl (fun K hK => ?_) AllReadyH.nil)
      · -- then the lowest terms
        first | (go_at_call 26; refine (HL.out _).mono ?_; rintro e w3 ⟨rfl, k3⟩) | (go_simp; (go_at_call 26; refine (HL.out _).mono ?_; rintro e w3 ⟨rfl, k3⟩))
        try (go_wp2_with fail)
        have HK3 := Lib.hid (show Keep w1 w3 from Keep.next HK2.out (Keep.next (by first | exact Below.refl _ _ | go_grown) k3))
        have hs3 := HK3.out.size
        refine hK.out _ _ ?_ (fun hHeld => ?_)
        · exact HS.out _ HK3.out
        clear hK K k3
        try simp only [Act.put, List.setIfInBounds_toArray, List.set_cons_zero, List.set_cons_succ]
        refine wpAnyH_ready (rs := [8]) (by kernel_rfl) (by simp) ?_
        refine AllReadyH.cons rfl (fun K hK => ?_) AllReadyH.nil
        go_simp
        have DA := Lib.hid (DuY.new w3 (.int .i64 0) (.int .i64 0) 47)
        have KA := Lib.hid (show Keep w1 (w3.alloc (.cells #[.int .i64 0, .int .i64 0] 47)) from Keep.next HK3.out (by go_grown))
        refine hK.out _ _ ?_ (fun hHeld => ?_)
        · exact HS.out _ KA.out
        clear hK K
        try simp only [Act.put, List.setIfInBounds_toArray, List.set_cons_zero, List.set_cons_succ]
        refine wpAnyH_ready (rs := [9]) (by kernel_rfl) (by simp) ?_
        refine AllReadyH.cons rfl (fun K hK => ?_) AllReadyH.nil
        have a0 := (DA.out).c0; have a1 := (DA.out).c1; have a2 := (DA.out).f0; have a3 := (DA.out).f1
        go_simp
        have DE := Lib.hid (DuY.put (DA.out) (.int .i64 R1) (.int .i64 R2))
        have KE := Lib.hid (keep_put (b := w3.heap.size) (KA.out) (by first | (simp; done) | (simp; omega) | omega) (.int .i64 R1) (.int .i64 R2))
        refine hK.out _ _ ?_ (fun hHeld => ?_)
        · first | exact HS.out _ KE.out | exact HS.out _ (Keep.next HK3.out (by go_grown))
        clear hK K
        try simp only [Act.put, List.setIfInBounds_toArray, List.set_cons_zero, List.set_cons_succ]
        refine wpAnyH_done (by kernel_rfl) ?_ _
        go_wp2_with fail
        go_meet
        first | exact ⟨_, rfl, DE.out, KE.out⟩ | exact ⟨_, rfl, DuY.new _ _ _ _, Keep.next HK3.out (by go_grown)⟩
      · -- then the box
        go_simp
        refine hK.out _ _ ?_ (fun hHeld => ?_)
        · exact HS.out _ (Keep.next HK2.out (by go_grown))
        clear hK K
        try simp only [Act.put, List.setIfInBounds_toArray, List.set_cons_zero, List.set_cons_succ]
        refine wpAnyH_ready (rs := [7]) (by kernel_rfl) (by simp) ?_
        refine AllReadyH.cons rfl (fun K hK => ?_) AllReadyH.nil
        first | (go_at_call 26; refine (HL.out _).mono ?_; rintro e w3 ⟨rfl, k3⟩) | (go_simp; (go_at_call 26; refine (HL.out _).mono ?_; rintro e w3 ⟨rfl, k3⟩))
        try (go_wp2_with fail)
        have DA := Lib.hid (DuY.keep (DuY.new _ _ _ _) k3)
        have KA := Lib.hid (show Keep w1 w3 from Keep.next (Keep.next HK2.out (by go_grown)) k3)
        refine hK.out _ _ ?_ (fun hHeld => ?_)
        · exact HS.out _ KA.out
        clear hK K k3
        try simp only [Act.put, List.setIfInBounds_toArray, List.set_cons_zero, List.set_cons_succ]
        refine wpAnyH_ready (rs := [9]) (by kernel_rfl) (by simp) ?_
        refine AllReadyH.cons rfl (fun K hK => ?_) AllReadyH.nil
        have a0 := (DA.out).c0; have a1 := (DA.out).c1; have a2 := (DA.out).f0; have a3 := (DA.out).f1
        go_simp
        have DE := Lib.hid (DuY.put (DA.out) (.int .i64 R1) (.int .i64 R2))
        have KE := Lib.hid (keep_put (b := w2.heap.size) (KA.out) (by first | (simp; done) | (simp; omega) | omega) (.int .i64 R1) (.int .i64 R2))
        refine hK.out _ _ ?_ (fun hHeld => ?_)
        · exact HS.out _ KE.out
        clear hK K
        try simp only [Act.put, List.setIfInBounds_toArray, List.set_cons_zero, List.set_cons_succ]
        refine wpAnyH_done (by kernel_rfl) ?_ _
        go_wp2_with fail
        go_meet
        exact ⟨_, rfl, DE.out, KE.out⟩
    · -- the box first
      go_simp
      refine hK.out _ _ ?_ (fun hHeld => ?_)
      · exact HS.out _ (by go_grown)
      clear hK K
      try simp only [Act.put, List.setIfInBounds_toArray, List.set_cons_zero, List.set_cons_succ]
      refine wpAnyH_ready (rs := [3]) (by kernel_rfl) (by simp) ?_
      refine AllReadyH.cons rfl (fun K hK => ?_) AllReadyH.nil
      first | (go_at_call 25; refine (HD.out _ (Keep.next HK1.out (by go_grown))).mono ?_; rintro e w2 ⟨rfl, k2⟩) | (go_simp; (go_at_call 25; refine (HD.out _ (Keep.next HK1.out (by go_grown))).mono ?_; rintro e w2 ⟨rfl, k2⟩))
      try (go_wp2_with fail)
      have D2 := Lib.hid (DuY.keep (DuY.new w1 (.int .i64 0) (.int .i64 0) 47) (Keep.next (by go_grown) k2))
      have K2 := Lib.hid (show Keep w1 w2 from Keep.next (by go_grown) k2)
      have hs2 := K2.out.size
      refine hK.out _ _ ?_ (fun hHeld => ?_)
      · exact HS.out _ K2.out
      clear hK K k2
      try simp only [Act.put, List.setIfInBounds_toArray, List.set_cons_zero, List.set_cons_succ]
      refine takeH (v := ?_) 6 15 rfl rfl (by kernel_rfl) (by kernel_rfl) (by kernel_rfl) (fun _ _ _ h => h) (by rfl) (by assumption) ?_ ?_
      rotate_left 1
      · (intro W_ hSw; (try dsimp only at hSw); go_simp; try with_reducible rfl)
      try simp only [Act.put, List.setIfInBounds_toArray, List.set_cons_zero, List.set_cons_succ]
      refine wpAnyH_ready (rs := [7]) (by kernel_rfl) (by simp) ?_
      refine AllReadyH.cons rfl (fun K hK => ?_) AllReadyH.nil
      first | (go_at_call 26; refine (HL.out _).mono ?_; rintro e w3 ⟨rfl, k3⟩) | (go_simp; (go_at_call 26; refine (HL.out _).mono ?_; rintro e w3 ⟨rfl, k3⟩))
      try (go_wp2_with fail)
      have DA := Lib.hid (DuY.keep D2.out (Keep.next (by first | exact Below.refl _ _ | go_grown) k3))
      have KA := Lib.hid (show Keep w1 w3 from Keep.next K2.out (Keep.next (by first | exact Below.refl _ _ | go_grown) k3))
      refine hK.out _ _ ?_ (fun hHeld => ?_)
      · exact HS.out _ KA.out
      clear hK K k3
      try simp only [Act.put, List.setIfInBounds_toArray, List.set_cons_zero, List.set_cons_succ]
      refine wpAnyH_ready (rs := [9]) (by kernel_rfl) (by simp) ?_
      refine AllReadyH.cons rfl (fun K hK => ?_) AllReadyH.nil
      have a0 := (DA.out).c0; have a1 := (DA.out).c1; have a2 := (DA.out).f0; have a3 := (DA.out).f1
      go_simp
      have DE := Lib.hid (DuY.put (DA.out) (.int .i64 R1) (.int .i64 R2))
      have KE := Lib.hid (keep_put (b := w1.heap.size) (KA.out) (by first | (simp; done) | (simp; omega) | omega) (.int .i64 R1) (.int .i64 R2))
      refine hK.out _ _ ?_ (fun hHeld => ?_)
      · exact HS.out _ KE.out
      clear hK K
      try simp only [Act.put, List.setIfInBounds_toArray, List.set_cons_zero, List.set_cons_succ]
      refine wpAnyH_done (by kernel_rfl) ?_ _
      go_wp2_with fail
      go_meet
      exact ⟨_, rfl, DE.out, KE.out⟩
  case rest =>
    obtain ⟨b5, rfl, ⟨a0, a1, a2, a3⟩, kx⟩ := hcut
    go_wp2
    go_quiet (fail)
    go_wp2
    refine bodyPost_ret (v := .tuple #[.int .i64 R1, .int .i64 R2, .bool true]) (by simp [results, Try.results10, go_sem]) rfl ?_
    exact ⟨rfl, below_drewN (Keep.next HK1.out kx) _⟩
end Go.Proofs.Ytomfhkpmdalknab
