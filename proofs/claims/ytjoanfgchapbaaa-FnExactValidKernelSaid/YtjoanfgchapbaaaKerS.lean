/- ValidKernel: the model's look at a kernel. -/
import Derived.Test.YtjoanfgchapbaaaKer9
import Derived.Deep.RegionHeld3
import Derived.Deep.DeepCutAuto
import Derived.Deep.RegionLaw
import Derived.BigRegion
import Derived.Deep.QuietTactic
import Derived.BigQuiet
namespace Go.Proofs.Ytjoanfgchapbaaa
open Go.ChangeShapes Go.WideShapes Go.ChangeAt Go.RowKit Go.Deep Go.Maps Go.WideMaps
set_option linter.unusedVariables false
theorem tapB_parts (g d r p : Int) : tapB g d r p = (inB d 0 2 && (inB r (-2) 2 && (!(decide (d = 0) && decide (r < 1)) && inB p 1 g))) := by
  unfold tapB
  cases h1 : inB d 0 2
  · rfl
  · have := inB_iff.1 h1
    congr 2
    congr 1
    by_cases h2 : 1 ≤ d <;> by_cases h3 : 1 ≤ r <;> simp [h2, h3] <;> omega
theorem seenB_mono {zs : List Int} {k t : Nat} {d r : Int} (h : t < k) (h0 : zs.getD (t * 3) 0 = d) (h1 : zs.getD (t * 3 + 1) 0 = r) : seenB zs k d r = true := by
  unfold seenB
  rw [List.any_eq_true]
  exact ⟨t, List.mem_range.2 h, by simp only [h0, h1]; simp⟩
theorem l00In_eq {n lo hi : Int} {x : Bool} {W : World} (h : inB n lo hi = x) : Calls Try.prog 68 #[.int .i64 n, .int .i64 lo, .int .i64 hi] W fun e w' => e = .returned (.bool x) ∧ w' = W := by
  subst h; exact (l00In_any n lo hi W).mono fun _ _ h => ⟨h.1, h.2.symm⟩
attribute [local irreducible] inB
set_option maxHeartbeats 6400000 in
set_option maxRecDepth 100000 in
theorem l09Kernel_any (g : Int) (ad : Option Addr) (cap n : Nat) (zs : List Int) (B : Nat) (w : World) (hz : Ints w ad zs) (hl : zs.length = 3 * n) (hs : n ≤ 1048576) (hBl : B < w.heap.size)
    (q0 : w.cell? ⟨B, 0, none⟩ = some (.int .i64 g)) (q1 : w.cell? ⟨B, 1, none⟩ = some (.slice ad n cap)) :
    Calls Try.prog 78 #[.pointer (some ⟨B, 0, none⟩)] w fun e w' => e = .returned (.bool (krB g n zs)) ∧ Keep w w' := by
  have HW := Lib.hid (fun W => l00In_any g 1 64 W)
  cases hb : inB g 1 64
  · rw [show krB g n zs = false from by simp [krB, hb]]
    rw [hb] at HW
    go_enter Try.func78, Try.ntmps78
    go_wp2_with fail
    refine (HW.out _).mono ?_
    rintro e w1 ⟨rfl, rfl⟩
    go_wp2
    go_ret
    exact ⟨rfl, by go_grown⟩
  rw [hb] at HW
  by_cases h12 : n ≤ 12
  case neg =>
    rw [show krB g n zs = false from by simp [krB, h12]]
    go_enter Try.func78, Try.ntmps78
    go_wp2_with fail
    refine (HW.out _).mono ?_
    rintro e w1 ⟨rfl, rfl⟩
    go_wp2
    go_ret
    exact ⟨rfl, by go_grown⟩
  have hg := inB_iff.1 hb
  have HNO := Lib.hid (fun (k : Nat) (h : k < n) (e : okT g zs k = false) => kr_no (g := g) h e)
  have HYES := Lib.hid (fun h => kr_yes (n := n) (zs := zs) hb h12 h)
  have HBD := Lib.hid (fun k h => sumT_bd (g := g) (zs := zs) hg.2 k h)
  have HTRI := Lib.hid (fun k (h : k < n) => tri_in64 (k := k) hz.wf hl h)
  generalize krB g n zs = V at *
  have HZ := Lib.hid hz
  clear hz hb
  go_enter Try.func78, Try.ntmps78
  go_wp2_with fail
  refine (HW.out _).mono ?_
  rintro e w1 ⟨rfl, rfl⟩
  go_wp2
  go_loopg [3, 4] n (fun kk s i wr => ∃ k : Nat, k ≤ n ∧ kk = n - k ∧ i = .int .i64 k ∧ s = .int .i64 (sumT zs k) ∧ Hid (∀ j, j < k → okT g zs j = true) ∧ Hid (Keep w wr))
  case atStart => exact ⟨0, Nat.zero_le _, rfl, rfl, rfl, Lib.hid (fun j h => absurd h (Nat.not_lt_zero _)), Lib.hid (by go_grown)⟩
  case round =>
    obtain ⟨k, hk, rfl, rfl, rfl, HA, HK⟩ := hrel
    obtain ⟨wo, rfl⟩ : ∃ x, x = wr := ⟨wr, rfl⟩
    have r0 := (HK.out.cell (p := ⟨B, 0, none⟩) (by exact hBl)).trans q0
    have r1 := (HK.out.cell (p := ⟨B, 1, none⟩) (by exact hBl)).trans q1
    have hBl2 : B < wo.heap.size := Nat.lt_of_lt_of_le hBl HK.out.size
    by_cases hlt : k < n
    · rcases (HZ.out.keep HK.out (Nat.le_refl _)).at_ with h | ⟨b, off, rfl, hb1, hc⟩
      · rw [h] at hl; simp at hl; omega
      have HC := Lib.hid hc
      have x0 := hc (k * 3) (by omega); have x1 := hc (k * 3 + 1) (by omega); have x2 := hc (k * 3 + 2) (by omega)
      rw [← Nat.add_assoc] at x1 x2
      clear hc
      have HBk := HBD.out k HA.out
      have HNk := Lib.hid (HNO.out k hlt)
      have HOK : Hid (okT g zs k = (tapB g (zs.getD (k * 3) 0) (zs.getD (k * 3 + 1) 0) (zs.getD (k * 3 + 2) 0) && !seenB zs k (zs.getD (k * 3) 0) (zs.getD (k * 3 + 1) 0))) := Lib.hid rfl
      have HSM : Hid (sumT zs (k + 1) = sumT zs k + zs.getD (k * 3 + 2) 0) := Lib.hid rfl
      have HPT := Lib.hid (fun (h : okT g zs k = true) => okT_part h)
      have HSS := Lib.hid (fun t (h : t < k) h0 h1 => seenB_mono (zs := zs) (d := zs.getD (k * 3) 0) (r := zs.getD (k * 3 + 1) 0) h h0 h1)
      have HS1 := Lib.hid (fun t => seenB_succ zs t (zs.getD (k * 3) 0) (zs.getD (k * 3 + 1) 0))
      have HS0 := Lib.hid (seenB_zero zs (zs.getD (k * 3) 0) (zs.getD (k * 3 + 1) 0))
      generalize zs.getD (k * 3) 0 = z0 at *
      generalize zs.getD (k * 3 + 1) 0 = z1 at *
      generalize zs.getD (k * 3 + 2) 0 = z2 at *
      generalize sumT zs k = S at *
      have HTB := Lib.hid (tapB_parts g z0 z1 z2)
      generalize tapB g z0 z1 z2 = tb at *
      obtain ⟨W1, hW1⟩ : ∃ W1, W1 = wo.alloc (.cells #[.int .i64 z0, .int .i64 z1, .int .i64 z2] 97) := ⟨_, rfl⟩
      have t0 : W1.cell? ⟨wo.heap.size, 0, none⟩ = some (.int .i64 z0) := by rw [hW1]; simp [go_sem]
      have t1 : W1.cell? ⟨wo.heap.size, 1, none⟩ = some (.int .i64 z1) := by rw [hW1]; simp [go_sem]
      have t2 : W1.cell? ⟨wo.heap.size, 2, none⟩ = some (.int .i64 z2) := by rw [hW1]; simp [go_sem]
      have hK1 : Keep wo W1 := by rw [hW1]; go_grown
      have hs1 : wo.heap.size < W1.heap.size := by rw [hW1]; simp
      have s0 := (hK1.cell (p := ⟨B, 0, none⟩) (by exact hBl2)).trans r0
      have s1 := (hK1.cell (p := ⟨B, 1, none⟩) (by exact hBl2)).trans r1
      have HS : Hid (∀ W, Keep W1 W → ((W.cell? ⟨wo.heap.size, 0, none⟩ = some (.int .i64 z0) ∧ W.cell? ⟨wo.heap.size, 1, none⟩ = some (.int .i64 z1) ∧ W.cell? ⟨wo.heap.size, 2, none⟩ = some (.int .i64 z2)) ∧ (W.cell? ⟨B, 0, none⟩ = some (.int .i64 g) ∧ W.cell? ⟨B, 1, none⟩ = some (.slice (some ⟨b, off, none⟩) n cap))) ∧ Keep W1 W) := Lib.hid (fun W k =>
        ⟨⟨⟨(k.cell (by exact hs1)).trans t0, (k.cell (by exact hs1)).trans t1, (k.cell (by exact hs1)).trans t2⟩, (k.cell (p := ⟨B, 0, none⟩) (by show B < _; omega)).trans s0, (k.cell (p := ⟨B, 1, none⟩) (by show B < _; omega)).trans s1⟩, k⟩)
      go_upto_region 8 with fail
      rw [← hW1]
      clear hW1 x0 x1 x2 r0 r1
      cases f1 : inB z0 0 2
      · have HV : Hid (V = false) := Lib.hid (HNk.out (by rw [HOK.out, show tb = false from by rw [HTB.out]; rw [f1]; rfl]; rfl))
        go_quiet ((go_at_call 68; exact Calls.quiet_of_same (l00In_eq (by first | exact f1))))
        go_wp2
        go_ret
        exact ⟨ret_bool HV.out.symm, HK.out.next (hK1.next (by first | exact below_drewN (Below.refl _ _) _ | go_grown))⟩
      cases f2 : inB z1 (-2) 2
      · have HV : Hid (V = false) := Lib.hid (HNk.out (by rw [HOK.out, show tb = false from by rw [HTB.out]; rw [f1, f2]; rfl]; rfl))
        go_quiet ((go_at_call 68; exact Calls.quiet_of_same (l00In_eq (by first | exact f1 | exact f2))))
        go_wp2
        go_ret
        exact ⟨ret_bool HV.out.symm, HK.out.next (hK1.next (by first | exact below_drewN (Below.refl _ _) _ | go_grown))⟩
      by_cases e0 : z0 = 0
      · subst e0
        have e0b : ((0 : Int) == 0) = true := rfl
        by_cases e1 : z1 < 1
        · have e1b : decide (z1 < 1) = true := decide_eq_true e1
          have HV : Hid (V = false) := Lib.hid (HNk.out (by rw [HOK.out, show tb = false from by rw [HTB.out]; rw [f1, f2, show decide ((0 : Int) = 0) = true from rfl, decide_eq_true e1]; rfl]; rfl))
          go_quiet ((go_at_call 68; exact Calls.quiet_of_same (l00In_eq (by first | exact f1 | exact f2))))
          go_wp2
          go_ret
          exact ⟨ret_bool HV.out.symm, HK.out.next (hK1.next (by first | exact below_drewN (Below.refl _ _) _ | go_grown))⟩
        · have e1b : decide (z1 < 1) = false := decide_eq_false e1
          cases f3 : inB z2 1 g
          · have HV : Hid (V = false) := Lib.hid (HNk.out (by rw [HOK.out, show tb = false from by rw [HTB.out]; rw [f1, f2, f3, show decide ((0 : Int) = 0) = true from rfl, decide_eq_false e1]; rfl]; rfl))
            go_quiet ((go_at_call 68; exact Calls.quiet_of_same (l00In_eq (by first | exact f1 | exact f2 | exact f3))))
            go_wp2
            go_ret
            exact ⟨ret_bool HV.out.symm, HK.out.next (hK1.next (by first | exact below_drewN (Below.refl _ _) _ | go_grown))⟩
          · have HT1 : Hid (tb = true) := Lib.hid (by rw [HTB.out]; rw [f1, f2, f3, show decide ((0 : Int) = 0) = true from rfl, decide_eq_false e1]; rfl)
            go_quiet ((go_at_call 68; exact Calls.quiet_of_same (l00In_eq (by first | exact f1 | exact f2 | exact f3))))
            go_wp2
            go_loopg [6] k (fun kk j wi => ∃ t : Nat, t ≤ k ∧ kk = k - t ∧ j = .int .i64 t ∧ Hid (seenB zs t 0 z1 = false) ∧ Hid (Keep W1 wi))
            case atStart => exact ⟨0, Nat.zero_le _, rfl, rfl, HS0, Lib.hid (by first | exact below_drewN (Below.refl _ _) _ | go_grown)⟩
            case round =>
              obtain ⟨t, ht, rfl, rfl, HSN, HKI⟩ := hrel
              obtain ⟨⟨⟨i0, i1, i2⟩, i3, i4⟩, _⟩ := HS.out _ HKI.out
              by_cases htk : t < k
              · have c0 := ((hK1.next HKI.out).cell (p := ⟨b, off + t * 3, none⟩) (by show b < _; omega)).trans (HC.out (t * 3) (by omega))
                have c1 := ((hK1.next HKI.out).cell (p := ⟨b, off + (t * 3 + 1), none⟩) (by show b < _; omega)).trans (HC.out (t * 3 + 1) (by omega))
                rw [← Nat.add_assoc] at c1
                have HSt := Lib.hid (HS1.out t)
                have HSb := Lib.hid (HSS.out t htk)
                generalize zs.getD (t * 3) 0 = y0 at *
                generalize zs.getD (t * 3 + 1) 0 = y1 at *
                have htn : t < n := by omega
                have hti : (t : Int) < (n : Int) := by omega
                have ht0 : (0 : Int) ≤ (t : Int) := by omega
                by_cases e0 : y0 = 0
                · have y0b : (y0 == 0) = true := by simp [e0]
                  by_cases e1 : y1 = z1
                  · have y1b : (y1 == z1) = true := by simp [e1]
                    have HV : Hid (V = false) := Lib.hid (HNk.out (by rw [HOK.out, HSb.out e0 e1]; simp))
                    go_wp2
                    go_quiet (fail)
                    go_wp2
                    go_ret
                    exact ⟨ret_bool HV.out.symm, HK.out.next (hK1.next (HKI.out.next (by first | exact below_drewN (Below.refl _ _) _ | go_grown)))⟩
                  · have y1b : (y1 == z1) = false := by simp [e1]
                    go_wp2
                    go_quiet (fail)
                    go_wp2
                    go_roundg (k - (t + 1))
                    case measure => omega
                    case rel => exact ⟨t + 1, by omega, by omega, by go_num, Lib.hid (by rw [HSt.out, HSN.out, decide_eq_false e1]; simp), Lib.hid (HKI.out.next (by first | exact below_drewN (Below.refl _ _) _ | go_grown))⟩
                · have y0b : (y0 == 0) = false := by simp [e0]
                  go_wp2
                  go_quiet (fail)
                  go_wp2
                  go_roundg (k - (t + 1))
                  case measure => omega
                  case rel => exact ⟨t + 1, by omega, by omega, by go_num, Lib.hid (by rw [HSt.out, HSN.out, decide_eq_false e0]; simp), Lib.hid (HKI.out.next (by first | exact below_drewN (Below.refl _ _) _ | go_grown))⟩
              · have HE : Hid (t = k) := Lib.hid (by omega)
                have hok : okT g zs k = true := by have h := HSN.out; rw [HE.out] at h; rw [HOK.out, h, HT1.out]; rfl
                have hpt := HPT.out hok
                have V1 : IntKind.i64.wrap (S + z2) = S + z2 := IntWalk.i64_in _ (by omega)
                go_wp2
                go_roundg (n - (k + 1))
                case measure => omega
                case rel => exact ⟨k + 1, by omega, rfl, by go_num, by rw [HSM.out], Lib.hid (fun j h => if e : j < k then HA.out j e else (by rw [show j = k by omega]; exact hok)), Lib.hid (HK.out.next (hK1.next (HKI.out.next (by first | exact below_drewN (Below.refl _ _) _ | go_grown))))⟩
      · have e0b : (z0 == 0) = false := by simp [e0]
        cases f3 : inB z2 1 g
        · have HV : Hid (V = false) := Lib.hid (HNk.out (by rw [HOK.out, show tb = false from by rw [HTB.out]; rw [f1, f2, f3, decide_eq_false e0]; rfl]; rfl))
          go_quiet ((go_at_call 68; exact Calls.quiet_of_same (l00In_eq (by first | exact f1 | exact f2 | exact f3))))
          go_wp2
          go_ret
          exact ⟨ret_bool HV.out.symm, HK.out.next (hK1.next (by first | exact below_drewN (Below.refl _ _) _ | go_grown))⟩
        · have HT1 : Hid (tb = true) := Lib.hid (by rw [HTB.out]; rw [f1, f2, f3, decide_eq_false e0]; rfl)
          go_quiet ((go_at_call 68; exact Calls.quiet_of_same (l00In_eq (by first | exact f1 | exact f2 | exact f3))))
          go_wp2
          go_loopg [6] k (fun kk j wi => ∃ t : Nat, t ≤ k ∧ kk = k - t ∧ j = .int .i64 t ∧ Hid (seenB zs t z0 z1 = false) ∧ Hid (Keep W1 wi))
          case atStart => exact ⟨0, Nat.zero_le _, rfl, rfl, HS0, Lib.hid (by first | exact below_drewN (Below.refl _ _) _ | go_grown)⟩
          case round =>
            obtain ⟨t, ht, rfl, rfl, HSN, HKI⟩ := hrel
            obtain ⟨⟨⟨i0, i1, i2⟩, i3, i4⟩, _⟩ := HS.out _ HKI.out
            by_cases htk : t < k
            · have c0 := ((hK1.next HKI.out).cell (p := ⟨b, off + t * 3, none⟩) (by show b < _; omega)).trans (HC.out (t * 3) (by omega))
              have c1 := ((hK1.next HKI.out).cell (p := ⟨b, off + (t * 3 + 1), none⟩) (by show b < _; omega)).trans (HC.out (t * 3 + 1) (by omega))
              rw [← Nat.add_assoc] at c1
              have HSt := Lib.hid (HS1.out t)
              have HSb := Lib.hid (HSS.out t htk)
              generalize zs.getD (t * 3) 0 = y0 at *
              generalize zs.getD (t * 3 + 1) 0 = y1 at *
              have htn : t < n := by omega
              have hti : (t : Int) < (n : Int) := by omega
              have ht0 : (0 : Int) ≤ (t : Int) := by omega
              by_cases e0 : y0 = z0
              · have y0b : (y0 == z0) = true := by simp [e0]
                by_cases e1 : y1 = z1
                · have y1b : (y1 == z1) = true := by simp [e1]
                  have HV : Hid (V = false) := Lib.hid (HNk.out (by rw [HOK.out, HSb.out e0 e1]; simp))
                  go_wp2
                  go_quiet (fail)
                  go_wp2
                  go_ret
                  exact ⟨ret_bool HV.out.symm, HK.out.next (hK1.next (HKI.out.next (by first | exact below_drewN (Below.refl _ _) _ | go_grown)))⟩
                · have y1b : (y1 == z1) = false := by simp [e1]
                  go_wp2
                  go_quiet (fail)
                  go_wp2
                  go_roundg (k - (t + 1))
                  case measure => omega
                  case rel => exact ⟨t + 1, by omega, by omega, by go_num, Lib.hid (by rw [HSt.out, HSN.out, decide_eq_false e1]; simp), Lib.hid (HKI.out.next (by first | exact below_drewN (Below.refl _ _) _ | go_grown))⟩
              · have y0b : (y0 == z0) = false := by simp [e0]
                go_wp2
                go_quiet (fail)
                go_wp2
                go_roundg (k - (t + 1))
                case measure => omega
                case rel => exact ⟨t + 1, by omega, by omega, by go_num, Lib.hid (by rw [HSt.out, HSN.out, decide_eq_false e0]; simp), Lib.hid (HKI.out.next (by first | exact below_drewN (Below.refl _ _) _ | go_grown))⟩
            · have HE : Hid (t = k) := Lib.hid (by omega)
              have hok : okT g zs k = true := by have h := HSN.out; rw [HE.out] at h; rw [HOK.out, h, HT1.out]; rfl
              have hpt := HPT.out hok
              have V1 : IntKind.i64.wrap (S + z2) = S + z2 := IntWalk.i64_in _ (by omega)
              go_wp2
              go_roundg (n - (k + 1))
              case measure => omega
              case rel => exact ⟨k + 1, by omega, rfl, by go_num, by rw [HSM.out], Lib.hid (fun j h => if e : j < k then HA.out j e else (by rw [show j = k by omega]; exact hok)), Lib.hid (HK.out.next (hK1.next (HKI.out.next (by first | exact below_drewN (Below.refl _ _) _ | go_grown))))⟩
    · have hE : k = n := by omega
      subst hE
      have HV : Hid (V = decide (sumT zs k ≤ g)) := Lib.hid (HYES.out HA.out)
      generalize sumT zs k = S at *
      by_cases hle : S ≤ g
      · rw [decide_eq_true hle] at HV
        go_wp2
        go_ret
        exact ⟨ret_bool (by rw [HV.out]), HK.out.next (by go_grown)⟩
      · rw [decide_eq_false hle] at HV
        go_wp2
        go_ret
        exact ⟨ret_bool (by rw [HV.out]), HK.out.next (by go_grown)⟩
theorem specValidKernel_any (g : Int) (ad : Option Addr) (cap n : Nat) (zs : List Int) (w : World) (hz : Ints w ad zs) (hl : zs.length = 3 * n) (hs : n ≤ 1048576) :
    Calls Try.prog 35 #[valV g ad n cap] w fun e w' => e = .returned (.bool (krB g n zs)) ∧ Keep w w' := by
  unfold valV
  have HR := Lib.hid (fun W (k : Keep w W) h1 h2 h3 => l09Kernel_any g ad cap n zs w.heap.size W (hz.keep k (Nat.le_refl _)) hl hs h1 h2 h3)
  generalize krB g n zs = V at *
  clear hz
  go_enter Try.func35, Try.ntmps35
  go_wp2_with fail
  refine (HR.out _ (by go_grown) (by simp) (by simp) (by simp)).mono ?_
  rintro e w' ⟨rfl, k1⟩
  have g1 : Keep w w' := Keep.next (by go_grown) k1
  go_wp2
  go_ret
  exact ⟨rfl, g1⟩
end Go.Proofs.Ytjoanfgchapbaaa
