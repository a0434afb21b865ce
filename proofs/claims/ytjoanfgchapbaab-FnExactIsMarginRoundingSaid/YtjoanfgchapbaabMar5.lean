/- Margins: what they are; the model's look at them. -/
import Derived.Test.YtjoanfgchapbaabRnd5
import Derived.Test.YtjoanfgchapbaabSame
namespace Go.Proofs.Ytjoanfgchapbaab
open Go.ChangeShapes Go.WideShapes Go.ChangeAt Go.RowKit Go.Deep
set_option linter.unusedVariables false
def numsB (xs : List Int) : Bool := xs.all fun x => inB x 0 1000000
def marB (n : Nat) (xs : List Int) : Bool := numsB xs && decide (xs.length = n)
/-- A valid table with margins. -/
def marsB (g : Int) (zss : List (List Int)) (us ds : List Int) : Bool := tabB g zss && (marB zss.length us && marB (zss.getD 0 []).length ds)
def isMB (g : Int) (zss : List (List Int)) (us ds : List Int) (rss : List (List Int)) : Bool :=
  marsB g zss us ds && (elB g zss rss && (eqB (sumsL rss) us && eqB (downL (zss.getD 0 []).length rss) ds))
theorem mar_len {n : Nat} {xs : List Int} (h : marB n xs = true) : xs.length = n := by
  unfold marB at h; simp only [Bool.and_eq_true, decide_eq_true_eq] at h; exact h.2
theorem mar_num {n : Nat} {xs : List Int} (h : marB n xs = true) : ∀ x ∈ xs, 0 ≤ x ∧ x ≤ 1000000 := by
  unfold marB numsB at h; simp only [Bool.and_eq_true, List.all_eq_true] at h
  exact fun x hx => inB_iff.1 (h.1 x hx)
theorem l05Margin_any (n : Nat) (ad : Option Addr) (cap : Nat) (zs : List Int) (w : World) (hz : Ints w ad zs) (hn : n ≤ 1000) :
    Calls Try.prog 137 #[.slice ad zs.length cap, .int .i64 n] w fun e w' => e = .returned (.bool (marB n zs)) ∧ w = w' := by
  have hs := hz.small
  go_enter Try.func137, Try.ntmps137
  go_wp2
  go_loop [5] (fun i => ∃ k : Nat, k ≤ zs.length ∧ i = .int .i64 k ∧ Hid (numsB (zs.take k) = true)) (fun i => zs.length - (intOf i).toNat)
  case atStart => exact ⟨0, Nat.zero_le _, rfl, Lib.hid (by simp [numsB])⟩
  case round =>
    obtain ⟨k, hk, rfl, HA⟩ := hrel
    by_cases hlt : k < zs.length
    · rcases hz.at_ with h | ⟨b, off, rfl, hb, hc⟩
      · subst h; simp at hlt
      have hcx := hc k hlt
      have HS := Lib.hid (all_take_succ (fun x => inB x 0 1000000) zs k 0 hlt)
      have HN := Lib.hid (fun h => all_no (p := fun x => inB x 0 1000000) (0 : Int) hlt h)
      clear hc
      generalize zs.getD k 0 = x at *
      cases hin : inB x 0 1000000
      · go_wp2_with (go_at_call 128; refine (l00In_any _ _ _ _).mono ?_; rw [hin]; rintro e w' ⟨rfl, rfl⟩)
        go_ret
        exact ⟨ret_bool (by unfold marB numsB; rw [HN.out hin]; rfl), rfl⟩
      · go_wp2_with (go_at_call 128; refine (l00In_any _ _ _ _).mono ?_; rw [hin]; rintro e w' ⟨rfl, rfl⟩)
        go_round
        case rel => exact ⟨k + 1, by omega, by go_num, Lib.hid (by have h := HA.out; unfold numsB at h ⊢; rw [HS.out, h, hin]; rfl)⟩
        case measure => simp [intOf]; omega
    · have HE := Lib.hid (show k = zs.length by omega)
      have hd : ((zs.length : Int) == (n : Int)) = decide (zs.length = n) := by
        by_cases h : zs.length = n
        · simp [h]
        · simp [h]; omega
      go_wp2
      go_ret
      have h := HA.out
      rw [HE.out, List.take_length] at h
      exact ⟨ret_bool (by unfold marB; rw [h, Bool.true_and]), rfl⟩
set_option maxHeartbeats 800000 in
theorem l05Margins_any (B : Nat) (g : Int) (ad : Option Addr) (cap : Nat) (zss : List (List Int)) (bd : Option Addr) (bc : Nat) (us : List Int) (cd : Option Addr) (cc : Nat) (ds : List Int) (w : World) (hz : Intss w ad zss) (ha : Ints w bd us) (hd : Ints w cd ds)
    (c0 : w.cell? ⟨B, 0, none⟩ = some (.int .i64 g)) (c1 : w.cell? ⟨B, 1, none⟩ = some (.slice ad zss.length cap)) :
    Calls Try.prog 88 #[.pointer (some ⟨B, 0, none⟩), .slice bd us.length bc, .slice cd ds.length cc] w fun e w' => e = .returned (.bool (marsB g zss us ds)) ∧ Keep w w' := by
  have hBs : B < w.heap.size := World.block_lt_of_cell? _ _ c0
  have HT := Lib.hid (l05Is_any B g ad cap zss w hz c0 c1)
  cases h1 : tabB g zss
  · rw [show marsB g zss us ds = false from by simp [marsB, h1]]
    rw [h1] at HT
    go_enter Try.func88, Try.ntmps88
    go_wp2_with fail
    refine HT.out.mono ?_
    rintro e w1 ⟨rfl, k1⟩
    go_wp2
    go_ret
    exact ⟨rfl, k1⟩
  rw [h1] at HT
  have hs := tab_size h1
  have HM := Lib.hid (fun W (k : Keep w W) => l05Margin_any zss.length bd bc us W (ha.keep k (Nat.le_refl _)) (by omega))
  cases h2 : marB zss.length us
  · rw [show marsB g zss us ds = false from by simp [marsB, h1, h2]]
    rw [h2] at HM
    go_enter Try.func88, Try.ntmps88
    go_wp2_with fail
    refine HT.out.mono ?_
    rintro e w1 ⟨rfl, k1⟩
    have e1 := (k1.cell (p := ⟨B, 1, none⟩) (by exact hBs)).trans c1
    go_wp2_with (go_at_call 137; refine (HM.out _ k1).mono ?_; rintro e w' ⟨rfl, rfl⟩)
    go_ret
    exact ⟨rfl, k1⟩
  rw [show marsB g zss us ds = marB (zss.getD 0 []).length ds from by simp [marsB, h1, h2]]
  rw [h2] at HM
  rcases hz.at_ with h | ⟨b, off, rfl, hb, hc⟩
  · subst h; simp at hs
  obtain ⟨p0, d0, hc0, hd0, hi0⟩ := hc 0 (by omega)
  rw [Nat.add_zero] at hc0
  have hs0 := hi0.small
  clear hc hi0
  generalize (zss.getD 0 []).length = m at *
  have HN := Lib.hid (fun W (k : Keep w W) => l05Margin_any m cd cc ds W (hd.keep k (Nat.le_refl _)) (by omega))
  go_enter Try.func88, Try.ntmps88
  go_wp2_with fail
  refine HT.out.mono ?_
  rintro e w1 ⟨rfl, k1⟩
  have K1 := Lib.hid k1; clear k1
  have e1 := (K1.out.cell (p := ⟨B, 1, none⟩) (by exact hBs)).trans c1
  have e2 := (K1.out.cell (p := ⟨b, off, none⟩) (by exact hb)).trans hc0
  have HM2 := Lib.hid (HM.out w1 K1.out); have HN2 := Lib.hid (HN.out w1 K1.out)
  go_wp2_with (first | (go_at_call 137; with_reducible refine HM2.out.mono ?_; rintro e w' ⟨rfl, rfl⟩) | (go_at_call 137; with_reducible refine HN2.out.mono ?_; rintro e w' ⟨rfl, rfl⟩))
  go_ret
  exact ⟨rfl, K1.out⟩
set_option maxHeartbeats 1600000 in
set_option maxRecDepth 100000 in
theorem specIsMarginRounding_any (g : Int) (ad : Option Addr) (cap : Nat) (zss : List (List Int)) (bd : Option Addr) (bc : Nat) (us : List Int) (cd : Option Addr) (cc : Nat) (ds : List Int) (rd : Option Addr) (rc : Nat) (rss : List (List Int)) (w : World) (hz : Intss w ad zss) (ha : Ints w bd us) (hd : Ints w cd ds) (hr : Intss w rd rss) :
    Calls Try.prog 48 #[valV g ad zss.length cap, .slice bd us.length bc, .slice cd ds.length cc, .slice rd rss.length rc] w fun e w' => e = .returned (.bool (isMB g zss us ds rss)) ∧ Keep w w' := by
  have hbl : Keep w (w.alloc (.cells #[.int .i64 g, .slice ad zss.length cap] 49)) := by go_grown
  have B0 : Box (w.alloc (.cells #[.int .i64 g, .slice ad zss.length cap] 49)) w.heap.size g ad zss.length cap := ⟨by simp, by simp, by simp⟩
  have HT := Lib.hid (l05Margins_any w.heap.size g ad cap zss bd bc us cd cc ds (w.alloc (.cells #[.int .i64 g, .slice ad zss.length cap] 49)) (hz.keep hbl (Nat.le_refl _)) (ha.keep hbl (Nat.le_refl _)) (hd.keep hbl (Nat.le_refl _)) B0.c0 B0.c1)
  have HBX := Lib.hid B0; clear B0
  have HBL := Lib.hid hbl; clear hbl
  cases h1 : marsB g zss us ds
  · rw [show isMB g zss us ds rss = false from by simp [isMB, h1]]
    rw [h1] at HT
    go_enter Try.func48, Try.ntmps48
    go_wp2_with fail
    refine HT.out.mono ?_
    rintro e w1 ⟨rfl, k1⟩
    go_wp2
    go_ret
    exact ⟨rfl, HBL.out.next k1⟩
  rw [h1] at HT
  have hv : tabB g zss = true := by unfold marsB at h1; simp only [Bool.and_eq_true] at h1; exact h1.1
  have hsz := tab_size hv
  have HE := Lib.hid (fun W (k : Keep (w.alloc (.cells #[.int .i64 g, .slice ad zss.length cap] 49)) W) => l05Elements_any w.heap.size g ad cap zss rd rc rss W (hz.keep (HBL.out.next k) (Nat.le_refl _)) (hr.keep (HBL.out.next k) (Nat.le_refl _)) hv (HBX.out.keep k).c0 (HBX.out.keep k).c1)
  cases h2 : elB g zss rss
  · rw [show isMB g zss us ds rss = false from by simp [isMB, h2]]
    rw [h2] at HE
    go_enter Try.func48, Try.ntmps48
    go_wp2_with fail
    refine HT.out.mono ?_
    rintro e w1 ⟨rfl, k1⟩
    go_wp2_with fail
    refine (HE.out _ k1).mono ?_
    rintro e w2 ⟨rfl, k2⟩
    go_wp2
    go_ret
    exact ⟨rfl, (HBL.out.next k1).next k2⟩
  rw [h2] at HE
  have hrl := elB_len h2
  have HQ := Lib.hid (elB_rows hv h2)
  obtain ⟨V, hV⟩ : ∃ V, V = isMB g zss us ds rss := ⟨_, rfl⟩
  rw [← hV]
  have HV : Hid (V = (eqB (sumsL rss) us && eqB (downL (zss.getD 0 []).length rss) ds)) := Lib.hid (by rw [hV]; simp [isMB, h1, h2])
  clear hV
  generalize (zss.getD 0 []).length = m at *
  have HRL := Lib.hid hrl; clear hrl
  have HA := Lib.hid (fun W (k : Keep w W) => l05Across_any rd rc rss W (hr.keep k (Nat.le_refl _)) (by have := HRL.out; omega) (fun k hk => ⟨by have := (HQ.out k hk).1; omega, (HQ.out k hk).2⟩))
  have HD := Lib.hid (fun W (k : Keep w W) => l05Down_any rd rc rss m W (hr.keep k (Nat.le_refl _)) (by have := HRL.out; omega) (by have := HRL.out; omega) (by omega) HQ.out)
  generalize sumsL rss = SA at *
  generalize downL m rss = SD at *
  have HS1 := Lib.hid (fun W p c (k : Keep w W) (i : Ints W p SA) => l00Same_any p bd c bc SA us W i (ha.keep k (Nat.le_refl _)))
  have HS2 := Lib.hid (fun W p c (k : Keep w W) (i : Ints W p SD) => l00Same_any p cd c cc SD ds W i (hd.keep k (Nat.le_refl _)))
  cases h3 : eqB SA us
  all_goals
    rw [h3] at HS1
    go_enter Try.func48, Try.ntmps48
    go_wp2_with fail
    refine HT.out.mono ?_
    rintro e w1 ⟨rfl, k1⟩
    go_wp2_with fail
    refine (HE.out _ k1).mono ?_
    rintro e w2 ⟨rfl, k2⟩
    have K2 := Lib.hid ((HBL.out.next k1).next k2)
    clear k1 k2
    go_wp2_with fail
    refine (HA.out _ K2.out).mono ?_
    rintro e w3 ⟨p3, c3, rfl, o3, k3⟩
    have K3 := Lib.hid (K2.out.next k3)
    have I3 := Lib.hid o3.ints
    clear o3 k3
    go_wp2_with fail
    refine (HS1.out _ _ _ K3.out I3.out).mono ?_
    rintro e w4 ⟨rfl, k4⟩
    have K4 := Lib.hid (K3.out.next k4)
    clear k4
  · go_wp2
    go_ret
    exact ⟨ret_bool (by rw [HV.out, h3]; rfl), K4.out⟩
  · go_wp2_with fail
    refine (HD.out _ K4.out).mono ?_
    rintro e w5 ⟨p5, c5, rfl, o5, k5⟩
    have K5 := Lib.hid (K4.out.next k5)
    have I5 := Lib.hid o5.ints
    clear o5 k5
    go_wp2_with fail
    refine (HS2.out _ _ _ K5.out I5.out).mono ?_
    rintro e w6 ⟨rfl, k6⟩
    have K6 := Lib.hid (K5.out.next k6)
    clear k6
    go_wp2
    go_ret
    exact ⟨ret_bool (by rw [HV.out, h3]; rfl), K6.out⟩
end Go.Proofs.Ytjoanfgchapbaab
