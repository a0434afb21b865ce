/- The means of a mixture with their least denominator: the program's side. -/
import Derived.Test.YtgpnlnmljeahdaaDoorMean6
import Derived.Test.YtgpnlnmljeahdaaDoorMap4
import Derived.Test.YtgpnlnmljeahdaaDoorMixI
import Derived.Test.YtgpnlnmljeahdaaDoorReg
namespace Go.Proofs.YtgpnlnmljeahdaaDoor
open Go.ChangeShapes Go.WideShapes Go.ChangeAt Go.RowKit Go.Deep
set_option linter.unusedVariables false
theorem lowClos_any (x G : Int) (c : Nat) (w : World) (c0 : w.cell? ⟨c, 0, none⟩ = some (.int .i64 G)) (h1 : 1 ≤ G) (hx : -1000000000000 ≤ x ∧ x ≤ 1000000000000) :
    Calls Tryd.prog 128 #[.int .i64 x, .pointer (some ⟨c, 0, none⟩)] w fun e w' => e = .returned (.int .i64 (x.tdiv G)) ∧ w = w' := by
  have hd := tdiv_in h1 hx
  have W1 : IntKind.i64.wrap (x.tdiv G) = x.tdiv G := IntWalk.i64_in _ (by omega)
  have hG0 : ¬ G = 0 := by omega
  have hG1 : (G == 0) = false := by simp; omega
  clear hd
  go_enter Tryd.func128, Tryd.ntmps128
  go_wp2
  go_ret
  exact ⟨rfl, rfl⟩
set_option maxHeartbeats 800000 in
set_option maxRecDepth 100000 in
theorem inLowestTerms_any (g : Int) (rd : Option Addr) (rc : Nat) (S : List Int) (w : World) (hz : Ints w rd S) (hg : 1 ≤ g ∧ g ≤ 1000000) (hS : ∀ z ∈ S, -1000000000000 ≤ z ∧ z ≤ 1000000000000) (hl : S.length ≤ 40) :
    Calls Tryd.prog 82 #[valV g rd S.length rc] w fun e w' => ∃ ra ca, e = .returned (valV (g.tdiv (gcdT g S S.length)) ra (S.map fun x => x.tdiv (gcdT g S S.length)).length ca) ∧ Own w' w.heap.size ra ca (S.map fun x => x.tdiv (gcdT g S S.length)) ∧ Keep w w' := by
  have HSB := Lib.hid hS; clear hS
  have HGB := Lib.hid (gcdT_bd g S hg.1)
  have HGS := Lib.hid (gcdT_succ g S)
  have HG0 := Lib.hid (gcdT_zero g S)
  have hls := hz.small
  have KX : Keep w ((w.alloc (.cells #[.int .i64 g, .slice rd S.length rc] 26)).alloc (.cells #[.int .i64 0, .slice none 0 0] 26)) := by go_grown
  have VX : Box ((w.alloc (.cells #[.int .i64 g, .slice rd S.length rc] 26)).alloc (.cells #[.int .i64 0, .slice none 0 0] 26)) w.heap.size g rd S.length rc := ⟨by simp, by simp, by simp; omega⟩
  have RX : TwoC ((w.alloc (.cells #[.int .i64 g, .slice rd S.length rc] 26)).alloc (.cells #[.int .i64 0, .slice none 0 0] 26)) (w.heap.size + 1) (.int .i64 0) (.slice none 0 0) := ⟨by simp, by simp, by simp, by simp⟩
  have SX : ((w.alloc (.cells #[.int .i64 g, .slice rd S.length rc] 26)).alloc (.cells #[.int .i64 0, .slice none 0 0] 26)).heap.size = w.heap.size + 2 := by simp
  have HX := Lib.hid (And.intro KX (And.intro VX (And.intro RX SX)))
  clear KX VX RX SX
  go_enter Tryd.func82, Tryd.ntmps82
  go_wp2_with fail
  generalize ((w.alloc (.cells #[.int .i64 g, .slice rd S.length rc] 26)).alloc (.cells #[.int .i64 0, .slice none 0 0] 26)) = W0 at *
  obtain ⟨KX, VX, RX, SX⟩ := HX.out
  have HVX := Lib.hid VX; have HRX := Lib.hid RX; have HKX := Lib.hid KX
  obtain ⟨c, hc⟩ : ∃ c, c = w.heap.size + 1 + 1 := ⟨_, rfl⟩
  rw [← hc]
  have hcw : c = W0.heap.size := by omega
  have HCW := Lib.hid hcw
  have HCS := Lib.hid hc
  have HZ0 := Lib.hid (hz.keep KX (Nat.le_refl _))
  have cc : (W0.alloc (.cells #[.int .i64 g] 2)).cell? ⟨c, 0, none⟩ = some (.int .i64 g) := by rw [hcw]; simp
  have cf : (W0.alloc (.cells #[.int .i64 g] 2)).frozen? ⟨c, 0, none⟩ = false := by rw [hcw]; simp
  have HC0 := Lib.hid (And.intro cc cf)
  clear KX VX RX SX HX hc hcw cc cf
  go_loopw [5, 11] (fun _ i wr => ∃ k : Nat, k ≤ S.length ∧ i = .int .i64 k ∧ wr.cell? ⟨c, 0, none⟩ = some (.int .i64 (gcdT g S k)) ∧ wr.frozen? ⟨c, 0, none⟩ = false ∧ Hid (Keep W0 wr)) (fun _ i _ => S.length - (intOf i).toNat)
  case atStart => exact ⟨0, Nat.zero_le _, rfl, by rw [HG0.out]; exact HC0.out.1, HC0.out.2, Lib.hid (by go_grown)⟩
  case round =>
    obtain ⟨k, hk, rfl, dc, df, HK⟩ := hrel
    have hgb := HGB.out k hk
    by_cases hlt : k < S.length
    · rcases (HZ0.out.keep HK.out (Nat.le_refl _)).at_ with h | ⟨b, off, rfl, hb, hcx⟩
      · rw [h] at hlt; simp at hlt
      have hx := hcx k hlt
      have hxb := HSB.out _ (getD_mem S k hlt)
      have HS := Lib.hid (HGS.out k hlt)
      have HCD := Lib.hid (commonDivisor_any (gcdT g S k) (S.getD k 0) wr (by omega) (by omega) (by omega) (by omega))
      rw [← HS.out] at HCD
      clear hcx
      generalize S.getD k 0 = x at *
      generalize gcdT g S k = T at *
      have HDC := Lib.hid dc; have HDF := Lib.hid df
      go_wp2_with (go_at_call 127; refine HCD.out.mono ?_; rintro e w' ⟨rfl, nq, rfl⟩; have HK2 := Lib.hid (below_drewN HK.out nq); have c2 : (wr.drewN nq).cell? ⟨c, 0, none⟩ = some (.int .i64 T) := HDC.out; have f2 : (wr.drewN nq).frozen? ⟨c, 0, none⟩ = false := HDF.out; generalize wr.drewN nq = wd at *)
      go_roundw
      case rel => exact ⟨k + 1, by omega, by go_num, World.cell?_setCell_same _ _ _ c2, by simpa using f2, Lib.hid (HK2.out.setCell (by show W0.heap.size ≤ c; rw [HCW.out]; exact Nat.le_refl _) _)⟩
      case measure => simp [intOf]; omega
    · have hkE : k = S.length := by omega
      rw [hkE] at hgb dc
      have hG0 : ¬ gcdT g S S.length = 0 := by omega
      have hG1 : (gcdT g S S.length == 0) = false := by simp; omega
      have hdb := tdiv_in (x := g) (M := 1000000) hgb.1 ⟨by omega, by omega⟩
      have HDE : Hid (g.tdiv (gcdT g S S.length) = g / gcdT g S S.length) := Lib.hid (Int.tdiv_eq_ediv_of_nonneg (by omega))
      rw [HDE.out] at hdb
      have hd1 := hdb.1; have hd2 := hdb.2
      have W1 : IntKind.i64.wrap (g / gcdT g S S.length) = g / gcdT g S S.length := IntWalk.i64_in _ (by omega)
      have HND := Lib.hid (fun z (hz : z ∈ S) => tdiv_in hgb.1 (HSB.out z hz))
      have HG1 := Lib.hid hgb.1
      clear hkE hdb HGS HG0 HGB
      generalize hGE : gcdT g S S.length = G at *
      have HGE := Lib.hid hGE; clear hGE
      have hcs : c < wr.heap.size := World.block_lt_of_cell? _ _ dc
      have HMA := Lib.hid (fun W (k : Keep wr W) => mappedLow_any (fun x => x.tdiv G) (.pointer (some ⟨c, 0, none⟩)) rd rc S W (HZ0.out.keep (HK.out.next k) (Nat.le_refl _)) (by omega) (fun z hz => by have := HND.out z hz; exact ⟨by omega, by omega⟩) (fun x hx W' k' => lowClos_any x G c W' (((k.next k').cell (p := ⟨c, 0, none⟩) (by exact hcs)).trans dc) HG1.out (HSB.out x hx)))
      obtain ⟨N, hN⟩ : ∃ N, N = S.map (fun x => x.tdiv G) := ⟨_, rfl⟩
      rw [← hN] at HMA
      have HNE := Lib.hid hN; clear hN hgb
      have hV := HVX.out.keep HK.out
      have hR := HRX.out.keep HK.out HRX.out.lt
      have HV := Lib.hid hV; have HR := Lib.hid hR
      obtain ⟨v0, v1, _⟩ := hV
      obtain ⟨r0, r1, r2, r3⟩ := hR
      have HDC := Lib.hid dc
      have HWR := Lib.hid (show w.heap.size ≤ wr.heap.size from (HKX.out.next HK.out).size)
      have HKW := Lib.hid (HKX.out.next HK.out)
      have HS : Hid (∀ W, Keep wr W → ((W.cell? ⟨w.heap.size, 0, none⟩ = some (.int .i64 g) ∧ W.cell? ⟨w.heap.size, 1, none⟩ = some (.slice rd S.length rc) ∧ W.cell? ⟨c, 0, none⟩ = some (.int .i64 G)) ∧ Keep w W)) := Lib.hid (fun W k => ⟨⟨(HV.out.keep k).c0, (HV.out.keep k).c1, (k.cell (p := ⟨c, 0, none⟩) (by exact hcs)).trans HDC.out⟩, HKW.out.next k⟩)
      have hcn : c ≠ w.heap.size + 1 := by have := HCS.out; omega
      have HS2 : Hid (∀ W u v, Keep wr W → ((((W.setCell ⟨w.heap.size + 1, 0, none⟩ u).setCell ⟨w.heap.size + 1, 1, none⟩ v).cell? ⟨w.heap.size, 0, none⟩ = some (.int .i64 g) ∧ ((W.setCell ⟨w.heap.size + 1, 0, none⟩ u).setCell ⟨w.heap.size + 1, 1, none⟩ v).cell? ⟨w.heap.size, 1, none⟩ = some (.slice rd S.length rc) ∧ ((W.setCell ⟨w.heap.size + 1, 0, none⟩ u).setCell ⟨w.heap.size + 1, 1, none⟩ v).cell? ⟨c, 0, none⟩ = some (.int .i64 G)) ∧ Keep w ((W.setCell ⟨w.heap.size + 1, 0, none⟩ u).setCell ⟨w.heap.size + 1, 1, none⟩ v))) := Lib.hid (fun W u v k => by
        obtain ⟨⟨a1, a2, a3⟩, a4⟩ := HS.out W k
        have g : ∀ (W : World) (p : Addr) (o : Nat) (u : Value) (x : Value), p.block ≠ w.heap.size + 1 → W.cell? p = some x → (W.setCell ⟨w.heap.size + 1, o, none⟩ u).cell? p = some x := fun W p o u x hp h => by
          rw [World.cell?_setCell_other _ _ _ _ (by intro e; exact hp (by have q := congrArg Addr.block e; first | exact q | exact q.symm))]; exact h
        exact ⟨⟨g _ _ _ _ _ (by simp) (g _ _ _ _ _ (by simp) a1), g _ _ _ _ _ (by simp) (g _ _ _ _ _ (by simp) a2), g _ _ _ _ _ hcn (g _ _ _ _ _ hcn a3)⟩, (a4.setCell (by show w.heap.size ≤ w.heap.size + 1; omega) _).setCell (by show w.heap.size ≤ w.heap.size + 1; omega) _⟩)
      go_wp2
      go_region_held3 (fun W => (W.cell? ⟨w.heap.size, 0, none⟩ = some (.int .i64 g) ∧ W.cell? ⟨w.heap.size, 1, none⟩ = some (.slice rd S.length rc) ∧ W.cell? ⟨c, 0, none⟩ = some (.int .i64 G)) ∧ Keep w W)
        (first | exact HS2.out _ _ _ (Keep.next (by go_grown) k7) | exact HS.out _ (Keep.next (by go_grown) k7) | exact HS.out _ (by go_grown))
        (first | (go_at_call 67; refine (HMA.out _ (by go_grown)).mono ?_; rintro e w7 ⟨ra, ca, rfl, o7, k7⟩
                  have K7 := Lib.hid (show Keep wr w7 from Keep.next (by go_grown) k7)
                  have R7 := HR.out.keep K7.out HR.out.lt
                  have HR7 := Lib.hid R7
                  obtain ⟨r70, r71, r72, r73⟩ := R7))
      have HQ7 := Lib.hid (HR7.out.set (.int .i64 (IntKind.i64.wrap (g.tdiv G))) (.slice ra N.length ca))
      have HWW : Hid (IntKind.i64.wrap (g.tdiv G) = g.tdiv G) := Lib.hid (by rw [HDE.out]; exact W1)
      have O7 := Lib.hid (o7.mono (B' := w.heap.size) (by simpa using HWR.out))
      have K7w := Lib.hid (HKW.out.next K7.out)
      have hsl : w.heap.size + 1 < wr.heap.size := HR.out.lt
      have HSL := Lib.hid hsl
      have HOB : Hid (∀ (W : World) (o : Nat) (v : Value), Own W wr.heap.size ra ca N → Own (W.setCell ⟨w.heap.size + 1, o, none⟩ v) wr.heap.size ra ca N) := Lib.hid (fun W o v h => by
        rcases own_block h.1 with ⟨rfl, e0, rfl⟩ | ⟨q, rfl, hq, _⟩
        · rw [List.eq_nil_of_length_eq_zero e0]; exact Own.nil _ _
        · exact h.set (by show w.heap.size + 1 ≠ q; have := HSL.out; omega) _)
      have O8 := Lib.hid (o7.mono (B' := wr.heap.size) (by simp))
      go_wp2
      refine bodyPost_ret (v := valV (IntKind.i64.wrap (g.tdiv G)) ra N.length ca) (by simp [results, Tryd.results82, go_sem, HQ7.out.1, HQ7.out.2]) rfl ?_
      rw [HGE.out, ← HNE.out]
      exact ⟨ra, ca, by rw [HWW.out], (HOB.out _ _ _ (HOB.out _ _ _ O8.out)).mono HWR.out, (K7w.out.setCell (by show w.heap.size ≤ w.heap.size + 1; omega) _).setCell (by show w.heap.size ≤ w.heap.size + 1; omega) _⟩
end Go.Proofs.YtgpnlnmljeahdaaDoor
