/- Margin roundings: the program's side. -/
import Derived.Test.YtjoanfgchapbaabRndE
import Derived.Test.YtjoanfgchapbaabMar5
namespace Go.Proofs.Ytjoanfgchapbaab
open Go.ChangeShapes Go.WideShapes Go.ChangeAt Go.RowKit Go.Deep
set_option linter.unusedVariables false
theorem mars_cases {g : Int} {zss : List (List Int)} {us ds : List Int} : marsB g zss us ds = (tabB g zss && (decide (us.length = zss.length) && (decide (ds.length = (zss.getD 0 []).length) && (numsB us && numsB ds)))) := by
  unfold marsB marB
  cases tabB g zss <;> cases decide (us.length = zss.length) <;> cases decide (ds.length = (zss.getD 0 []).length) <;> cases numsB us <;> cases numsB ds <;> rfl
set_option maxHeartbeats 1600000 in
theorem haveMargins_any (g : Int) (ad : Option Addr) (cap : Nat) (zss : List (List Int)) (bd : Option Addr) (bc : Nat) (us : List Int) (cd : Option Addr) (cc : Nat) (ds : List Int) (w : World) (hz : Intss w ad zss) (ha : Ints w bd us) (hd : Ints w cd ds) :
    Calls Try.prog 91 #[valV g ad zss.length cap, .slice bd us.length bc, .slice cd ds.length cc] w fun e w' => e = .returned (.bool (marsB g zss us ds)) ∧ Keep w w' := by
  have hlen := hz.small
  have hla := ha.small
  have hld := hd.small
  rw [mars_cases]
  have hbl : Keep w (w.alloc (.cells #[.int .i64 g, .slice ad zss.length cap] 49)) := by go_grown
  have B0 : Box (w.alloc (.cells #[.int .i64 g, .slice ad zss.length cap] 49)) w.heap.size g ad zss.length cap := ⟨by simp, by simp, by simp⟩
  have HT := Lib.hid (ValidTable_any g ad cap zss (w.alloc (.cells #[.int .i64 g, .slice ad zss.length cap] 49)) (hz.keep hbl (Nat.le_refl _)))
  have HBX := Lib.hid B0; clear B0
  have HBL := Lib.hid hbl; clear hbl
  cases h1 : tabB g zss
  · rw [h1] at HT
    go_enter Try.func91, Try.ntmps91
    go_wp2_with fail
    refine HT.out.mono ?_
    rintro e w1 ⟨rfl, k1⟩
    go_wp2
    go_ret
    exact ⟨rfl, HBL.out.next k1⟩
  rw [h1] at HT
  have hs := tab_size h1
  rcases hz.at_ with h | ⟨b, off, rfl, hb, hc⟩
  · subst h; simp at hs
  obtain ⟨p0, d0, hc0, hd0, hi0⟩ := hc 0 (by omega)
  rw [Nat.add_zero] at hc0
  have hs0 := hi0.small
  clear hc hi0
  generalize (zss.getD 0 []).length = m at *
  have q1 : ((us.length : Int) == (zss.length : Int)) = decide (us.length = zss.length) := by
    by_cases h : us.length = zss.length
    · simp [h]
    · simp [h]; omega
  have q2 : ((ds.length : Int) == (m : Int)) = decide (ds.length = m) := by
    by_cases h : ds.length = m
    · simp [h]
    · simp [h]; omega
  have HU := Lib.hid (fun W (k : Keep w W) => areUpTo_any 1000000 bd bc us W (ha.keep k (Nat.le_refl _)))
  have HW := Lib.hid (fun W (k : Keep w W) => areUpTo_any 1000000 cd cc ds W (hd.keep k (Nat.le_refl _)))
  have HN1 : Hid ((us.all fun x => inB x 0 1000000) = numsB us) := Lib.hid rfl
  have HN2 : Hid ((ds.all fun x => inB x 0 1000000) = numsB ds) := Lib.hid rfl
  rw [HN1.out] at HU
  rw [HN2.out] at HW
  generalize numsB us = n1 at *
  generalize numsB ds = n2 at *
  generalize decide (us.length = zss.length) = e1 at *
  generalize decide (ds.length = m) = e2 at *
  cases e1
  · go_enter Try.func91, Try.ntmps91
    go_wp2_with fail
    refine HT.out.mono ?_
    rintro e w1 ⟨rfl, k1⟩
    have r1 := (HBX.out.keep k1).c1
    go_wp2
    go_ret
    exact ⟨rfl, HBL.out.next k1⟩
  cases e2
  · go_enter Try.func91, Try.ntmps91
    go_wp2_with fail
    refine HT.out.mono ?_
    rintro e w1 ⟨rfl, k1⟩
    have r1 := (HBX.out.keep k1).c1
    have r2 := ((HBL.out.next k1).cell (p := ⟨b, off, none⟩) (by exact hb)).trans hc0
    go_wp2
    go_ret
    exact ⟨rfl, HBL.out.next k1⟩
  cases n1
  all_goals
    go_enter Try.func91, Try.ntmps91
    go_wp2_with fail
    refine HT.out.mono ?_
    rintro e w1 ⟨rfl, k1⟩
    have r1 := (HBX.out.keep k1).c1
    have r2 := ((HBL.out.next k1).cell (p := ⟨b, off, none⟩) (by exact hb)).trans hc0
    have K1 := Lib.hid (HBL.out.next k1); clear k1
    go_wp2_with fail
    refine (HU.out _ K1.out).mono ?_
    rintro e w2 ⟨rfl, k2⟩
    have K2 := Lib.hid (K1.out.next k2); clear k2
  · go_wp2
    go_ret
    exact ⟨rfl, K2.out⟩
  · go_wp2_with fail
    refine (HW.out _ K2.out).mono ?_
    rintro e w3 ⟨rfl, k3⟩
    have K3 := Lib.hid (K2.out.next k3); clear k3
    go_wp2
    go_ret
    exact ⟨rfl, K3.out⟩
set_option maxHeartbeats 1600000 in
set_option maxRecDepth 100000 in
theorem IsMarginRounding_any (g : Int) (ad : Option Addr) (cap : Nat) (zss : List (List Int)) (bd : Option Addr) (bc : Nat) (us : List Int) (cd : Option Addr) (cc : Nat) (ds : List Int) (rd : Option Addr) (rc : Nat) (rss : List (List Int)) (w : World) (hz : Intss w ad zss) (ha : Ints w bd us) (hd : Ints w cd ds) (hr : Intss w rd rss) :
    Calls Try.prog 50 #[valV g ad zss.length cap, .slice bd us.length bc, .slice cd ds.length cc, .slice rd rss.length rc] w fun e w' => e = .returned (.bool (isMB g zss us ds rss)) ∧ Keep w w' := by
  have hbl : Keep w (w.alloc (.cells #[.int .i64 g, .slice ad zss.length cap] 49)) := by go_grown
  have B0 : Box (w.alloc (.cells #[.int .i64 g, .slice ad zss.length cap] 49)) w.heap.size g ad zss.length cap := ⟨by simp, by simp, by simp⟩
  have HT := Lib.hid (haveMargins_any g ad cap zss bd bc us cd cc ds (w.alloc (.cells #[.int .i64 g, .slice ad zss.length cap] 49)) (hz.keep hbl (Nat.le_refl _)) (ha.keep hbl (Nat.le_refl _)) (hd.keep hbl (Nat.le_refl _)))
  have HBX := Lib.hid B0; clear B0
  have HBL := Lib.hid hbl; clear hbl
  cases h1 : marsB g zss us ds
  · rw [show isMB g zss us ds rss = false from by simp [isMB, h1]]
    rw [h1] at HT
    go_enter Try.func50, Try.ntmps50
    go_wp2_with fail
    refine HT.out.mono ?_
    rintro e w1 ⟨rfl, k1⟩
    go_wp2
    go_ret
    exact ⟨rfl, HBL.out.next k1⟩
  rw [h1] at HT
  have hv : tabB g zss = true := by unfold marsB at h1; simp only [Bool.and_eq_true] at h1; exact h1.1
  have hsz := tab_size hv
  have HE := Lib.hid (fun W (k : Keep (w.alloc (.cells #[.int .i64 g, .slice ad zss.length cap] 49)) W) => areElementsRounded_any g ad cap zss rd rc rss W (hz.keep (HBL.out.next k) (Nat.le_refl _)) (hr.keep (HBL.out.next k) (Nat.le_refl _)) hv)
  cases h2 : elB g zss rss
  · rw [show isMB g zss us ds rss = false from by simp [isMB, h2]]
    rw [h2] at HE
    go_enter Try.func50, Try.ntmps50
    go_wp2_with fail
    refine HT.out.mono ?_
    rintro e w1 ⟨rfl, k1⟩
    have q0 := (HBX.out.keep k1).c0; have q1 := (HBX.out.keep k1).c1
    go_wp2_with fail
    refine (HE.out _ k1).mono ?_
    rintro e w2 ⟨rfl, k2⟩
    go_wp2
    go_ret
    exact ⟨rfl, (HBL.out.next k1).next k2⟩
  rw [h2] at HE
  have hrl := elB_len h2
  have HQ := Lib.hid (elB_rows hv h2)
  obtain ⟨V, hV⟩ : ∃ V, V = isMB g zss us ds rss := ⟨_, rfl⟩
  rw [← hV]
  have HV : Hid (V = (eqB (sumsL rss) us && eqB (downL (zss.getD 0 []).length rss) ds)) := Lib.hid (by rw [hV]; simp [isMB, h1, h2])
  clear hV
  generalize (zss.getD 0 []).length = m at *
  have HRL := Lib.hid hrl; clear hrl
  have HA := Lib.hid (fun W (k : Keep w W) => rowSums_any rd rc rss W (hr.keep k (Nat.le_refl _)) (by have := HRL.out; omega) (fun k hk => ⟨by have := (HQ.out k hk).1; omega, (HQ.out k hk).2⟩))
  have HD := Lib.hid (fun W (k : Keep w W) => columnSums_any rd rc rss m W (hr.keep k (Nat.le_refl _)) (by have := HRL.out; omega) (by have := HRL.out; omega) (by omega) HQ.out)
  generalize sumsL rss = SA at *
  generalize downL m rss = SD at *
  have HS1 := Lib.hid (fun W p c (k : Keep w W) (i : Ints W p SA) => sEqual_any p bd c bc SA us W i (ha.keep k (Nat.le_refl _)))
  have HS2 := Lib.hid (fun W p c (k : Keep w W) (i : Ints W p SD) => sEqual_any p cd c cc SD ds W i (hd.keep k (Nat.le_refl _)))
  cases h3 : eqB SA us
  all_goals
    rw [h3] at HS1
    go_enter Try.func50, Try.ntmps50
    go_wp2_with fail
    refine HT.out.mono ?_
    rintro e w1 ⟨rfl, k1⟩
    have q0 := (HBX.out.keep k1).c0; have q1 := (HBX.out.keep k1).c1
    go_wp2_with fail
    refine (HE.out _ k1).mono ?_
    rintro e w2 ⟨rfl, k2⟩
    have K2 := Lib.hid ((HBL.out.next k1).next k2)
    clear k1 k2
    go_wp2_with fail
    refine (HA.out _ K2.out).mono ?_
    rintro e w3 ⟨p3, c3, rfl, o3, k3⟩
    have K3 := Lib.hid (K2.out.next k3)
    have I3 := Lib.hid o3.ints
    clear o3 k3
    go_wp2_with fail
    refine (HS1.out _ _ _ K3.out I3.out).mono ?_
    rintro e w4 ⟨rfl, k4⟩
    have K4 := Lib.hid (K3.out.next k4)
    clear k4
  · go_wp2
    go_ret
    exact ⟨ret_bool (by rw [HV.out, h3]; rfl), K4.out⟩
  · go_wp2_with fail
    refine (HD.out _ K4.out).mono ?_
    rintro e w5 ⟨p5, c5, rfl, o5, k5⟩
    have K5 := Lib.hid (K4.out.next k5)
    have I5 := Lib.hid o5.ints
    clear o5 k5
    go_wp2_with fail
    refine (HS2.out _ _ _ K5.out I5.out).mono ?_
    rintro e w6 ⟨rfl, k6⟩
    have K6 := Lib.hid (K5.out.next k6)
    clear k6
    go_wp2
    go_ret
    exact ⟨ret_bool (by rw [HV.out, h3]; rfl), K6.out⟩
end Go.Proofs.Ytjoanfgchapbaab
