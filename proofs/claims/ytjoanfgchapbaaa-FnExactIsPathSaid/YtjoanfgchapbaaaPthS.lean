/- IsPath: the model's look. -/
import Derived.Test.YtjoanfgchapbaaaPth9
import Derived.Deep.RegionHeld3
import Derived.Deep.DeepCutAuto
import Derived.Deep.RegionLaw
import Derived.BigRegion
import Derived.Deep.QuietTactic
import Derived.BigQuiet
import Derived.StillTailTactics
namespace Go.Proofs.Ytjoanfgchapbaaa
open Go.ChangeShapes Go.WideShapes Go.ChangeAt Go.RowKit Go.Deep
set_option linter.unusedVariables false
theorem l00In_is {n lo hi : Int} {x : Bool} {W : World} (h : inB n lo hi = x) : Calls Try.prog 68 #[.int .i64 n, .int .i64 lo, .int .i64 hi] W fun e w' => e = .returned (.bool x) ∧ w' = W := by
  subst h; exact (l00In_any n lo hi W).mono fun _ _ h => ⟨h.1, h.2.symm⟩
attribute [local irreducible] inB
set_option maxHeartbeats 6400000 in
set_option maxRecDepth 100000 in
theorem l09Path_any (Bp : Nat) (ad : Option Addr) (cap : Nat) (zss : List (List Int)) (pd : Option Addr) (pc : Nat) (pss : List (List Int)) (w : World) (hz : Intss w ad zss) (hp : Intss w pd pss) (hBp : Bp < w.heap.size)
    (q0 : w.cell? ⟨Bp, 0, none⟩ = some (.slice ad zss.length cap)) (hg : picB zss = true) :
    Calls Try.prog 90 #[.pointer (some ⟨Bp, 0, none⟩), .slice pd pss.length pc] w fun e w' => e = .returned (.bool (goB zss.length (zss.getD 0 []).length pss)) ∧ Keep w w' := by
  have gs := grid_size (show gridB 12 255 zss = true from hg)
  have hpl := hp.small
  rcases hz.at_ with h | ⟨zb, zo, rfl, hzb, hzc⟩
  · rw [h] at gs; simp at gs
  obtain ⟨z0, zd, x0, _, _⟩ := hzc 0 (by omega)
  rw [Nat.add_zero] at x0
  have HNO := Lib.hid (fun (k : Nat) (h : k < pss.length) (e : okP zss.length (zss.getD 0 []).length pss k = false) => go_no h e)
  have HYES := Lib.hid (fun (hl : pss.length = zss.length * (zss.getD 0 []).length) h => go_yes hl h)
  have HLN : Hid (¬ pss.length = zss.length * (zss.getD 0 []).length → goB zss.length (zss.getD 0 []).length pss = false) := Lib.hid (fun h => by unfold goB; rw [decide_eq_false h]; rfl)
  have HP := Lib.hid hp
  have HVZ := Lib.hid (fun a b => visF_zero pss a b)
  clear hz hp hzc
  generalize goB zss.length (zss.getD 0 []).length pss = V at *
  generalize (zss.getD 0 []).length = C at *
  generalize zss.length = R at *
  obtain ⟨⟨g1, g2⟩, g3, g4⟩ := gs
  have hRC : R * C ≤ 144 := Nat.le_trans (Nat.mul_le_mul (show R ≤ 12 by omega) (show C ≤ 12 by omega)) (by omega)
  have HSQ := Lib.hid (fun W => l09Square_any R C W (by omega) (by omega))
  have HF : Hid (∀ W, Keep w W → (W.cell? ⟨Bp, 0, none⟩ = some (.slice (some ⟨zb, zo, none⟩) R cap) ∧ W.cell? ⟨zb, zo, none⟩ = some (.slice z0 C zd)) ∧ w.heap.size ≤ W.heap.size) := Lib.hid (fun W k => ⟨⟨(k.cell (p := ⟨Bp, 0, none⟩) (by exact hBp)).trans q0, (k.cell (p := ⟨zb, zo, none⟩) (by exact hzb)).trans x0⟩, k.size⟩)
  have b1 : (0 : Int) < (R : Int) := by omega
  have b1n : 0 < R := by omega
  have m1 : IntKind.i64.wrap ((R : Int) * (C : Int)) = ((R * C : Nat) : Int) := by rw [← Int.natCast_mul]; exact IntWalk.i64_in _ (by omega)
  have m2 : IntKind.i64.wrap ((R : Int) - 1) = (R : Int) - 1 := IntWalk.i64_in _ (by omega)
  have m3 : IntKind.i64.wrap ((C : Int) - 1) = (C : Int) - 1 := IntWalk.i64_in _ (by omega)
  by_cases hlen : pss.length = R * C
  case neg =>
    have HV : Hid (V = false) := Lib.hid (HLN.out hlen)
    have hne : ((pss.length : Int) != ((R * C : Nat) : Int)) = true := by rw [bne_iff_ne]; omega
    generalize R * C = RC at *
    go_enter Try.func90, Try.ntmps90
    go_wp2
    go_quiet (fail)
    go_wp2
    go_ret
    exact ⟨ret_bool HV.out.symm, by first | exact below_drewN (Below.refl _ _) _ | go_grown⟩
  have hne : ((pss.length : Int) != ((R * C : Nat) : Int)) = false := by rw [hlen]; simp
  have HLE := Lib.hid hlen
  have hN : pss.length ≤ 144 := by omega
  clear hlen
  generalize hNN : pss.length = N at *
  generalize R * C = RC at *
  go_enter Try.func90, Try.ntmps90
  go_wp2
  go_quiet (fail)
  go_upto_region 3 with fail
  refine code_gen9 (fun X1 hX1 => ?_)
  have hk1 : Keep w X1 := by rw [hX1]; first | exact below_drewN (Below.refl _ _) _ | go_grown
  clear hX1 q0 x0
  obtain ⟨⟨y0, y1⟩, _⟩ := HF.out _ hk1
  go_still_tail 12, (by kernel_rfl)
  change wpList _ _ _ _ _ (World.drew X1)
  have hk2 : Keep w (World.drew X1) := hk1.next (by go_grown)
  clear y0 y1 hk1
  generalize World.drew X1 = X2 at *
  go_wp2_with fail
  refine (HSQ.out _).mono ?_
  rintro e w1 ⟨rd, rc, rA, rC, rfl, o1, k1⟩
  obtain ⟨G, rfl, hG1, hG2⟩ := o1.block (by rw [sqF_len]; omega)
  have hlo : w.heap.size ≤ X2.heap.size := hk2.size
  have HO1 : Hid (OwnR w1 X2.heap.size (some ⟨G, 0, none⟩) rc rA rC (sqF R C (visF pss 0))) := Lib.hid (by
    rw [sqF_same _ _ (visF pss 0) (fun _ _ => 0) (fun i k _ _ => HVZ.out i k)]; exact o1)
  have HK1 : Hid (Keep w w1) := Lib.hid (hk2.next k1)
  clear o1 k1 hk2
  generalize X2.heap.size = lo at *
  go_wp2
  go_loopg [6] N (fun kk i wr => ∃ k : Nat, k ≤ N ∧ kk = N - k ∧ i = .int .i64 k ∧ Hid (∀ j, j < k → okP R C pss j = true) ∧ Hid (OwnR wr lo (some ⟨G, 0, none⟩) rc rA rC (sqF R C (visF pss k))) ∧ Hid (Keep w wr))
  case atStart => exact ⟨0, Nat.zero_le _, rfl, rfl, Lib.hid (fun j h => absurd h (Nat.not_lt_zero _)), HO1, HK1⟩
  case round =>
    obtain ⟨k, hk, rfl, rfl, HA, HO, HK⟩ := hrel
    obtain ⟨⟨y0, y1⟩, _⟩ := HF.out _ HK.out
    by_cases hlt : k < N
    · have hki : (k : Int) < (N : Int) := by omega
      have hk0 : (0 : Int) ≤ (k : Int) := by omega
      rcases HP.out.at_ with h | ⟨pb, po, rfl, hpb, hpc⟩
      · rw [h] at hNN; simp at hNN; omega
      obtain ⟨pp, pdd, hcx, _, hin⟩ := hpc k (by omega)
      have q := (HK.out.cell (p := ⟨pb, po + k, none⟩) (by exact hpb)).trans hcx
      have HIN := Lib.hid hin
      have HNk := Lib.hid (HNO.out k hlt)
      have HOKk : Hid (okP R C pss k = (ptB R C (pss.getD k []) && !visB pss k ((pss.getD k []).getD 0 0) ((pss.getD k []).getD 1 0))) := Lib.hid rfl
      have HSTk := Lib.hid (fun a b h1 h2 x y => visF_step pss k a b h1 h2 x y)
      have HVF : Hid (∀ a b, visF pss k a b = if visB pss k a b then 1 else 0) := Lib.hid (fun _ _ => rfl)
      have HCX := Lib.hid hcx
      clear hpc hcx hin
      have hPT : Hid (ptB R C (pss.getD k []) = (decide ((pss.getD k []).length = 2) && (inB ((pss.getD k []).getD 0 0) 0 ((R : Int) - 1) && inB ((pss.getD k []).getD 1 0) 0 ((C : Int) - 1)))) := Lib.hid rfl
      generalize pss.getD k [] = x at *
      by_cases h2 : x.length = 2
      case neg =>
        have HV : Hid (V = false) := Lib.hid (HNk.out (by rw [HOKk.out, hPT.out, decide_eq_false h2]; rfl))
        have h2b : ((x.length : Int) != 2) = true := by rw [bne_iff_ne]; omega
        go_wp2
        go_quiet (fail)
        go_wp2
        go_ret
        exact ⟨ret_bool HV.out.symm, HK.out.next (by first | exact below_drewN (Below.refl _ _) _ | go_grown)⟩
      rcases HIN.out.at_ with h | ⟨b2, off2, rfl, hb2, hc2⟩
      · rw [h] at h2; simp at h2
      have c0 := (HK.out.cell (p := ⟨b2, off2 + 0, none⟩) (by exact hb2)).trans (hc2 0 (by omega))
      have c1 := (HK.out.cell (p := ⟨b2, off2 + 1, none⟩) (by exact hb2)).trans (hc2 1 (by omega))
      rw [Nat.add_zero] at c0
      rw [h2] at q
      rw [decide_eq_true h2, Bool.true_and] at hPT
      have HC2 := Lib.hid hc2
      clear hc2
      have h2b : ((x.length : Int) != 2) = false := by rw [h2]; rfl
      have Q0 : Hid (w.cell? ⟨pb, po + k, none⟩ = some (.slice (some ⟨b2, off2, none⟩) 2 pdd)) := Lib.hid (by have h := HCX.out; rw [h2] at h; exact h)
      have Q1 := Lib.hid (HC2.out 0 (by omega))
      have Q2 := Lib.hid (HC2.out 1 (by omega))
      rw [Nat.add_zero] at Q1
      generalize x.getD 0 0 = a at *
      generalize x.getD 1 0 = b at *
      have HFQ : Hid (∀ W, Keep w W → (W.cell? ⟨pb, po + k, none⟩ = some (.slice (some ⟨b2, off2, none⟩) 2 pdd) ∧ W.cell? ⟨b2, off2, none⟩ = some (.int .i64 a) ∧ W.cell? ⟨b2, off2 + 1, none⟩ = some (.int .i64 b)) ∧ Keep w W) := Lib.hid (fun W kk => ⟨⟨(kk.cell (p := ⟨pb, po + k, none⟩) (by exact hpb)).trans Q0.out, (kk.cell (p := ⟨b2, off2, none⟩) (by exact hb2)).trans Q1.out, (kk.cell (p := ⟨b2, off2 + 1, none⟩) (by exact hb2)).trans Q2.out⟩, kk⟩)
      cases f1 : inB a 0 ((R : Int) - 1)
      · have HV : Hid (V = false) := Lib.hid (HNk.out (by rw [HOKk.out, hPT.out, f1]; rfl))
        go_wp2
        go_quiet ((go_at_call 68; exact Calls.quiet_of_same (l00In_is (by exact f1))))
        go_wp2
        go_ret
        exact ⟨ret_bool HV.out.symm, HK.out.next (by first | exact below_drewN (Below.refl _ _) _ | go_grown)⟩
      cases f2 : inB b 0 ((C : Int) - 1)
      · have HV : Hid (V = false) := Lib.hid (HNk.out (by rw [HOKk.out, hPT.out, f1, f2]; rfl))
        go_wp2
        go_quiet ((go_at_call 68; exact Calls.quiet_of_same (l00In_is (by first | exact f1 | exact f2))))
        go_wp2
        go_ret
        exact ⟨ret_bool HV.out.symm, HK.out.next (by first | exact below_drewN (Below.refl _ _) _ | go_grown)⟩
      have fa := inB_iff.1 f1
      have fb := inB_iff.1 f2
      rw [f1, f2] at hPT
      obtain ⟨an, rfl⟩ : ∃ an : Nat, a = an := ⟨a.toNat, by omega⟩
      obtain ⟨bn, rfl⟩ : ∃ bn : Nat, b = bn := ⟨b.toNat, by omega⟩
      have han : an < R := by omega
      have hbn : bn < C := by omega
      have hai : (an : Int) < (R : Int) := by omega
      have hbi : (bn : Int) < (C : Int) := by omega
      have ha0 : (0 : Int) ≤ (an : Int) := by omega
      have hb0 : (0 : Int) ≤ (bn : Int) := by omega
      have HST2 := Lib.hid (HSTk.out an bn rfl rfl)
      have HVab := Lib.hid (HVF.out an bn)
      have HOK2 : Hid (okP R C pss k = !visB pss k an bn) := Lib.hid (by rw [HOKk.out, hPT.out]; rfl)
      go_wp2
      go_quiet ((go_at_call 68; exact Calls.quiet_of_same (l00In_is (by first | exact f1 | exact f2))))
      go_upto_region 9 with fail
      refine code_gen9 (fun X3 hX3 => ?_)
      have k3 : Keep wr X3 := by rw [hX3]; first | exact below_drewN (Below.refl _ _) _ | go_grown
      have HO3 : Hid (OwnR X3 lo (some ⟨G, 0, none⟩) rc rA rC (sqF R C (visF pss k))) := Lib.hid (HO.out.keep k3)
      have HK3 : Hid (Keep w X3) := Lib.hid (HK.out.next k3)
      clear hX3 k3 y0 y1 q c0 c1
      obtain ⟨⟨t0, t1, t2⟩, _⟩ := HFQ.out _ HK3.out
      obtain ⟨g, s1, s2, s3, s4, s5⟩ := storeNM HO3.out an bn han hbn
      rw [HVab.out] at s2
      cases hv : visB pss k an bn
      · rw [hv] at s2
        have s2' : X3.cell? ⟨g, bn, none⟩ = some (.int .i64 0) := s2
        clear s2 s3 s5
        have hok : okP R C pss k = true := by rw [HOK2.out, hv]; rfl
        go_quiet (fail)
        go_upto_region 11 with fail
        refine code_gen9 (fun X4 hX4 => ?_)
        have k4 : Keep X3 X4 := by rw [hX4]; first | exact below_drewN (Below.refl _ _) _ | go_grown
        have HK4 : Hid (Keep w X4) := Lib.hid (HK3.out.next k4)
        have HO5 : OwnR (World.drew X4) lo (some ⟨G, 0, none⟩) rc rA rC (sqF R C (visF pss k)) := (HO3.out.keep k4).keep (by go_grown)
        clear hX4 k4 t0 t1 t2 s1 s2' s4
        obtain ⟨⟨t0, t1, t2⟩, _⟩ := HFQ.out _ HK4.out
        obtain ⟨g, s1, s2, s3, s4, s5⟩ := storeNM HO5 an bn han hbn
        have s1' : X4.cell? ⟨G, an, none⟩ = some (.slice (some ⟨g, 0, none⟩) C (rC an)) := s1
        have HK5 : Hid (Keep w (World.drew X4)) := Lib.hid (HK4.out.next (by go_grown))
        clear HO5
        go_still_tail 16, (by kernel_rfl)
        change wpList _ _ _ _ _ (World.drew X4)
        clear t0 t1 t2 s1'
        generalize World.drew X4 = X5 at *
        go_wp2
        go_roundg (N - (k + 1))
        case measure => omega
        case rel => exact ⟨k + 1, by omega, rfl, by go_num, Lib.hid (fun j h => if e : j < k then HA.out j e else (by rw [show j = k by omega]; exact hok)), Lib.hid (by rw [← sqF_same _ _ _ _ (fun x y _ _ => HST2.out x y)]; exact s5), Lib.hid (HK5.out.setCell (p := ⟨g, bn, none⟩) (by show w.heap.size ≤ g; omega) _)⟩
      · rw [hv] at s2
        have s2' : X3.cell? ⟨g, bn, none⟩ = some (.int .i64 1) := s2
        clear s2 s3 s5
        have HV : Hid (V = false) := Lib.hid (HNk.out (by rw [HOK2.out, hv]; rfl))
        go_quiet (fail)
        go_wp2
        go_ret
        exact ⟨ret_bool HV.out.symm, HK3.out.next (by first | exact below_drewN (Below.refl _ _) _ | go_grown)⟩
    · have hE : k = N := by omega
      have HV : Hid (V = true) := Lib.hid (HYES.out HLE.out (fun j h => HA.out j (by omega)))
      go_wp2
      go_ret
      exact ⟨ret_bool HV.out.symm, HK.out.next (by go_grown)⟩
theorem specIsPath_any (ad : Option Addr) (cap : Nat) (zss : List (List Int)) (pd : Option Addr) (pc : Nat) (pss : List (List Int)) (w : World) (hz : Intss w ad zss) (hp : Intss w pd pss) :
    Calls Try.prog 47 #[.agg #[.slice ad zss.length cap], .slice pd pss.length pc] w fun e w' => e = .returned (.bool (pathB zss pss)) ∧ Keep w w' := by
  have HI := Lib.hid (fun W (k : Keep w W) h => l09Is_any w.heap.size ad cap zss W (hz.keep k (Nat.le_refl _)) h)
  cases hg : picB zss
  · rw [show pathB zss pss = false from by unfold pathB; rw [hg]; rfl]
    rw [hg] at HI
    clear hz hp
    go_enter Try.func47, Try.ntmps47
    go_wp2_with fail
    refine (HI.out _ (by go_grown) (by simp)).mono ?_
    rintro e w1 ⟨rfl, k1⟩
    have kk : Keep w w1 := Keep.next (by go_grown) k1
    go_wp2
    go_ret
    exact ⟨rfl, kk⟩
  · rw [show pathB zss pss = goB zss.length (zss.getD 0 []).length pss from by unfold pathB; rw [hg]; rfl]
    have HP := Lib.hid (fun W (k : Keep w W) h1 h2 => l09Path_any w.heap.size ad cap zss pd pc pss W (hz.keep k (Nat.le_refl _)) (hp.keep k (Nat.le_refl _)) h1 h2 hg)
    rw [hg] at HI
    clear hz hp hg
    generalize goB zss.length (zss.getD 0 []).length pss = V at *
    go_enter Try.func47, Try.ntmps47
    go_wp2_with fail
    refine (HI.out _ (by go_grown) (by simp)).mono ?_
    rintro e w1 ⟨rfl, k1⟩
    have kk : Keep w w1 := Keep.next (by go_grown) k1
    have hlt : w.heap.size < w1.heap.size := by have := k1.size; simp at this; omega
    have c0 : w1.cell? ⟨w.heap.size, 0, none⟩ = some (.slice ad zss.length cap) := (k1.cell (by simp)).trans (by simp)
    go_wp2_with fail
    refine (HP.out _ kk hlt c0).mono ?_
    rintro e w2 ⟨rfl, k2⟩
    go_wp2
    go_ret
    exact ⟨rfl, kk.next k2⟩
end Go.Proofs.Ytjoanfgchapbaaa
