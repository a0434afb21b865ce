/- Discrepancies: the program's side. -/
import Derived.Test.YtaockgegghmphabImbI10
import Derived.Test.YtaockgegghmphabLst10
import Derived.Deep.RegionHeld3
namespace Go.Proofs.Ytaockgegghmphab
open Go.ChangeShapes Go.WideShapes Go.ChangeAt Go.RowKit Go.Deep
set_option linter.unusedVariables false
set_option maxHeartbeats 800000 in
theorem disC_any (g : Int) (ad : Option Addr) (cap : Nat) (zs : List Int) (p t xb pb : Nat) (w : World) (hz : Ints w ad zs) (hs : ∀ z ∈ zs, 0 ≤ z ∧ z < 4096) (hl : zs.length ≤ 12) (hp : p < 4096) (ht : t < 4096)
    (c0 : w.cell? ⟨xb, 0, none⟩ = some (.int .i64 g)) (c1 : w.cell? ⟨xb, 1, none⟩ = some (.slice ad zs.length cap)) (c2 : w.cell? ⟨pb, 0, none⟩ = some (.int .u64 (p : Nat))) :
    Calls Try.prog 104 #[.int .u64 (t : Nat), .pointer (some ⟨xb, 0, none⟩), .pointer (some ⟨pb, 0, none⟩)] w fun e w' => e = .returned (.int .i64 (mostS zs p t)) ∧ Keep w w' := by
  have HG := Lib.hid (mostS_grV (zs := zs) (by omega) p t)
  have HO := Lib.hid (imbL_ok (zs := zs) (by omega) p t)
  have HI := Lib.hid (imbalancesOn_any g ad cap zs p t w hz hs hl hp ht)
  generalize imbL zs p t = L at *
  generalize mostS zs p t = v at *
  go_enter Try.func104, Try.ntmps104
  go_wp2_with fail
  refine HI.out.mono ?_
  rintro e w1 ⟨rd, rc, rfl, o1, k1⟩
  have K1 := Lib.hid k1; clear k1
  go_wp2_with fail
  refine (GreatestOf_any rd rc L w1 o1.ints).mono ?_
  rw [HG.out]
  rintro e w2 ⟨rfl, k2⟩
  have K2 := Lib.hid k2; clear k2
  go_wp2
  go_ret
  exact ⟨rfl, Keep.next K1.out K2.out⟩
set_option maxHeartbeats 1600000 in
theorem discrepancyOn_any (g : Int) (ad : Option Addr) (cap : Nat) (zs : List Int) (p : Nat) (w : World) (hz : Ints w ad zs) (hs : ∀ z ∈ zs, 0 ≤ z ∧ z < 4096) (hl : zs.length ≤ 12) (hp : p < 4096) :
    Calls Try.prog 49 #[valV g ad zs.length cap, .int .u64 p] w fun e w' => e = .returned (.tuple #[.int .i64 (disV zs p).1, .int .u64 ((disV zs p).2 : Nat)]) ∧ Keep w w' := by
  have hlen := hz.small
  have B0 : Box ((w.alloc (.cells #[.int .i64 g, .slice ad zs.length cap] 26)).alloc (.cells #[.int .u64 (p : Nat)] 76)) w.heap.size g ad zs.length cap := ⟨by simp [go_sem], by simp [go_sem], by simp; omega⟩
  have P0 : ((w.alloc (.cells #[.int .i64 g, .slice ad zs.length cap] 26)).alloc (.cells #[.int .u64 (p : Nat)] 76)).cell? ⟨w.heap.size + 1, 0, none⟩ = some (.int .u64 (p : Nat)) := by simp [go_sem]
  have hbl : Keep w ((w.alloc (.cells #[.int .i64 g, .slice ad zs.length cap] 26)).alloc (.cells #[.int .u64 (p : Nat)] 76)) := by go_grown
  have hsz : ((w.alloc (.cells #[.int .i64 g, .slice ad zs.length cap] 26)).alloc (.cells #[.int .u64 (p : Nat)] 76)).heap.size = w.heap.size + 1 + 1 := by simp
  have HL := Lib.hid (leastOf_any p hp (mostS zs p) (mostS_bd zs p) w.heap.size (w.heap.size + 1) _ (fun t ht W kW => disC_any g ad cap zs p t w.heap.size (w.heap.size + 1) W ((hz.keep hbl (Nat.le_refl _)).keep kW (Nat.le_refl _)) hs hl hp (by omega)
    (B0.keep kW).c0 (B0.keep kW).c1 ((kW.cell (p := ⟨w.heap.size + 1, 0, none⟩) (by rw [hsz]; show w.heap.size + 1 < w.heap.size + 1 + 1; omega)).trans P0)))
  obtain ⟨l, e1, e2, e3⟩ := fnd_bst (m := p) (c := mostS zs p) (fun t => (mostS_bd zs p t).1) (p + 1) (by omega)
  have E1 := Lib.hid e1; have E2 := Lib.hid e2
  clear e1 e2 e3 B0 P0
  rw [show disV zs p = bstT (mostS zs p) p (p + 1) from rfl]
  generalize bstT (mostS zs p) p (p + 1) = D at *
  have HBL := Lib.hid hbl
  go_enter Try.func49, Try.ntmps49
  go_wp2_with fail
  refine HL.out.mono ?_
  rw [E2.out]
  rintro e w1 ⟨rd, rc, rfl, o1, k1⟩
  have K1 := Lib.hid k1; clear k1
  have o2 := o1.1
  rw [E1.out] at o2
  obtain ⟨gg, cp, hrd⟩ := ownsRow_succ (k := l.length) (by have h := o2; rw [List.length_cons] at h; exact h)
  obtain ⟨rfl, _⟩ : rd = some ⟨gg, 0, none⟩ ∧ rc = cp := by simpa using hrd
  have hcell := o2.cellAt 0 (by simp)
  simp only [valsS, List.map_cons, List.getElem?_cons_zero] at hcell
  have hlen1 : (fndT (mostS zs p) p (p + 1)).1.length = l.length + 1 := by rw [E1.out]; rfl
  rw [hlen1]
  have hll : l.length + 1 ≤ p + 1 := by rw [← hlen1]; exact fnd_len _ _ _
  clear o1 o2 HL hlen1
  go_wp2
  go_quiet (fail)
  go_wp2
  go_ret2
  exact ⟨rfl, below_drewN (Keep.next HBL.out K1.out) _⟩
def disR (g : Int) (zs : List Int) : Int × Nat := if okS g zs then disV zs (2 ^ g.toNat - 1) else (0, 0)
theorem disR_yes {n : Nat} {zs : List Int} (h : okS n zs = true) : disR n zs = disV zs (2 ^ n - 1) := by unfold disR; rw [h, Int.toNat_natCast]; rfl
theorem disR_no {g : Int} {zs : List Int} (h : okS g zs = false) : disR g zs = (0, 0) := by unfold disR; rw [h]; rfl
set_option maxHeartbeats 1600000 in
theorem DiscrepancyOf_any (g : Int) (ad : Option Addr) (cap : Nat) (zs : List Int) (w : World) (hz : Ints w ad zs) :
    Calls Try.prog 12 #[valV g ad zs.length cap] w fun e w' => e = .returned (.tuple #[.int .i64 (disR g zs).1, .int .i64 ((disR g zs).2 : Nat), .bool (okS g zs)]) ∧ Keep w w' := by
  have hlen := hz.small
  have B0 : Box (w.alloc (.cells #[.int .i64 g, .slice ad zs.length cap] 26)) w.heap.size g ad zs.length cap := ⟨by simp, by simp, by simp⟩
  cases h1 : okS g zs
  · rw [disR_no h1]
    go_enter Try.func12, Try.ntmps12
    go_wp2_with fail
    refine (ValidSystem_any g ad cap zs _ (hz.keep (B := _) (by go_grown) (Nat.le_refl _))).mono ?_
    rw [h1]
    rintro e w1 ⟨rfl, k1⟩
    have g1 : Keep w w1 := Keep.next (by go_grown) k1
    go_wp2
    refine bodyPost_ret (v := .tuple #[.int .i64 0, .int .i64 0, .bool false]) (by simp [results, Try.results12, go_sem]) rfl ?_
    exact ⟨rfl, g1⟩
  obtain ⟨q0, q1, q2, q3⟩ := okS_parts h1
  have hs := okS_sets h1
  obtain ⟨n, rfl⟩ : ∃ n : Nat, g = n := ⟨g.toNat, by omega⟩
  have hn : n ≤ 12 := by omega
  obtain ⟨p1, p2, p3, p4⟩ := shl12 hn
  rw [disR_yes h1]
  have hbd := disV_bd zs (2 ^ n - 1)
  have HD := Lib.hid (fun W (k : Keep w W) => discrepancyOn_any n ad cap zs (2 ^ n - 1) W (hz.keep k (Nat.le_refl _)) hs q2 (by omega))
  have HA := Lib.hid (fun W => allPoints_any n ad zs.length cap W hn)
  generalize disV zs (2 ^ n - 1) = D at *
  have hw : IntKind.i64.wrap ((D.2 : Nat) : Int) = ((D.2 : Nat) : Int) := IntWalk.i64_in _ (by omega)
  clear q3 hs p1 p4 p2 p3 hbd
  generalize 2 ^ n - 1 = m at *
  go_enter Try.func12, Try.ntmps12
  go_wp2_with fail
  refine (ValidSystem_any n ad cap zs _ (hz.keep (B := _) (by go_grown) (Nat.le_refl _))).mono ?_
  rw [h1]
  rintro e w1 ⟨rfl, k1⟩
  have g1 : Keep w w1 := Keep.next (by go_grown) k1
  have B1 := B0.keep k1
  have HS : Hid (∀ W, Keep w1 W → (W.cell? ⟨w.heap.size, 0, none⟩ = some (.int .i64 n) ∧ W.cell? ⟨w.heap.size, 1, none⟩ = some (.slice ad zs.length cap)) ∧ Keep w1 W) := Lib.hid (fun W k => ⟨⟨(B1.keep k).c0, (B1.keep k).c1⟩, k⟩)
  have G1 := Lib.hid g1
  obtain ⟨b0, b1, b2⟩ := B1
  clear B0 k1 g1
  go_wp2_with fail
  go_region_held3 (fun W => (W.cell? ⟨w.heap.size, 0, none⟩ = some (.int .i64 n) ∧ W.cell? ⟨w.heap.size, 1, none⟩ = some (.slice ad zs.length cap)) ∧ Keep w1 W)
    (first | exact HS.out _ (Keep.next (Keep.next (by go_grown) k2) k3) | exact HS.out _ (Keep.next (by go_grown) k2) | exact HS.out _ (by go_grown))
    (first | (go_at_call 50; refine (HA.out _).mono ?_; rintro e w2 ⟨rfl, k2⟩) | (go_at_call 49; refine (HD.out _ (Keep.next (G1.out.next (by go_grown)) k2)).mono ?_; rintro e w3 ⟨rfl, k3⟩))
  go_wp2
  refine bodyPost_ret (v := .tuple #[.int .i64 D.1, .int .i64 ((D.2 : Nat) : Int), .bool true]) (by simp [results, Try.results12, go_sem]) rfl ?_
  exact ⟨rfl, Keep.next (Keep.next (G1.out.next (by go_grown)) k2) k3⟩
end Go.Proofs.Ytaockgegghmphab
