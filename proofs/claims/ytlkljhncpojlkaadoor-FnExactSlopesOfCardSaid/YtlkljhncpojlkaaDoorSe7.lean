/- The ends of possible slopes: the model's look. -/
import Derived.Test.YtlkljhncpojlkaaDoorSlo7
namespace Go.Proofs.YtlkljhncpojlkaaDoor
open Go.ChangeShapes Go.WideShapes Go.ChangeAt Go.RowKit Go.Deep
set_option linter.unusedVariables false
theorem mul_sl {a d l n : Int} (ha : -1 ≤ a ∧ a ≤ 121) (hd : 1 ≤ d ∧ d ≤ 120) : -120 ≤ a * d ∧ a * d ≤ 14520 := by
  have e1 : a * d ≤ 121 * 120 := by
    by_cases h : 0 ≤ a
    · exact Int.mul_le_mul ha.2 hd.2 (by omega) (by omega)
    · have : a * d ≤ 0 := Int.mul_nonpos_of_nonpos_of_nonneg (by omega) (by omega)
      omega
  have e2 : (-1) * d ≤ a * d := Int.mul_le_mul_of_nonneg_right ha.1 (by omega)
  omega
def sMod (i j : Nat) (a b : Nat) : Prop := a < i ∨ (a = i ∧ b < j)
set_option maxHeartbeats 6400000 in
set_option maxRecDepth 100000 in
theorem l07Ends_any (s : ByteArray) (w : World) (hw : wdB s = true) :
    Calls Tryd.prog 35 #[.string s] w fun e w' => ∃ l d h q : Int, e = .returned (.tuple #[.int .i64 l, .int .i64 d, .int .i64 h, .int .i64 q]) ∧ ILo s allP l d ∧ IHi s allP h q ∧ Keep w w' := by
  have hwd := wdB_iff.1 hw
  have h120 := hwd.1
  have HH := Lib.hid (l07Heights_any s w hw)
  have HGT := Lib.hid (fun j (h : j ≤ s.size) => hgtL_get s s.size j h)
  have HLEN := Lib.hid (hgtL_len s s.size)
  have HHB := Lib.hid (hgt_bd hw)
  have HIN := Lib.hid (fun i j (h : i < j) (h2 : j ≤ s.size) => hgt_inc hw h h2)
  have HL0 : Hid (ILo s (sMod 0 0) (-1) 1) := Lib.hid (ILo.start s _ (fun i j _ _ h => by unfold sMod at h; omega))
  have HU0 : Hid (IHi s (sMod 0 0) 2 1) := Lib.hid (IHi.start s _ (fun i j _ _ h => by unfold sMod at h; omega))
  have HBL := Lib.hid (fun (S : Nat → Nat → Prop) l d (h : ILo s S l d) => h.1.bd hw)
  have HBU := Lib.hid (fun (S : Nat → Nat → Prop) l d (h : IHi s S l d) => h.1.bd hw)
  have HLY := Lib.hid (fun (i j : Nat) (l d : Int) (h : ILo s (sMod i j) l d) (h1 : i < j) (h2 : j ≤ s.size) h3 => h.yes (S' := sMod i (j + 1)) hw h1 h2 (fun a b => by unfold sMod; omega) h3)
  have HLN := Lib.hid (fun (i j : Nat) (l d : Int) (h : ILo s (sMod i j) l d) (h1 : i < j) (h2 : j ≤ s.size) h3 => h.no (S' := sMod i (j + 1)) h1 h2 (fun a b => by unfold sMod; omega) h3)
  have HUY := Lib.hid (fun (i j : Nat) (l d : Int) (h : IHi s (sMod i j) l d) (h1 : i < j) (h2 : j ≤ s.size) h3 => h.yes (S' := sMod i (j + 1)) hw h1 h2 (fun a b => by unfold sMod; omega) h3)
  have HUN := Lib.hid (fun (i j : Nat) (l d : Int) (h : IHi s (sMod i j) l d) (h1 : i < j) (h2 : j ≤ s.size) h3 => h.no (S' := sMod i (j + 1)) h1 h2 (fun a b => by unfold sMod; omega) h3)
  have HMUL := Lib.hid (fun (a d : Int) (ha : -1 ≤ a ∧ a ≤ 121) (hd : 1 ≤ d ∧ d ≤ 120) => mul_sl (l := 0) (n := 0) ha hd)
  clear hwd hw
  generalize hgtL s s.size = L at *
  go_enter Tryd.func35, Tryd.ntmps35
  go_wp2_with fail
  refine HH.out.mono ?_
  rintro e w1 ⟨rd, rc, rfl, o1, k1⟩
  have I1 := Lib.hid o1.ints
  have K1 := Lib.hid k1
  clear o1 k1
  rcases I1.out.at_ with h | ⟨b, off, rfl, hb, hc⟩
  · have := HLEN.out; rw [h] at this; simp at this
  have HC : Hid (∀ W, Keep w1 W → ∀ j, j ≤ s.size → W.cell? ⟨b, off + j, none⟩ = some (.int .i64 (hgt s j))) := Lib.hid (fun W k j hj => by
    rw [(k.cell (p := ⟨b, off + j, none⟩) (by exact hb)).trans (hc j (by have := HLEN.out; omega)), HGT.out j hj])
  have hls : L.length ≤ 121 := by have := HLEN.out; omega
  have HLB := Lib.hid HLEN.out
  clear hc
  go_wp2
  go_loopg [7, 8, 9, 10, 11, 12, 13, 14, 15] (s.size + 1) (fun kk lo ld hi hd i _ _ _ _ wr => ∃ (i1 : Nat) (l d u q : Int), i1 ≤ s.size + 1 ∧ kk = s.size + 1 - i1 ∧ i = .int .i64 i1 ∧ lo = .int .i64 l ∧ ld = .int .i64 d ∧ hi = .int .i64 u ∧ hd = .int .i64 q ∧ Hid (ILo s (sMod i1 0) l d) ∧ Hid (IHi s (sMod i1 0) u q) ∧ Hid (Keep w1 wr))
  case atStart => exact ⟨0, -1, 1, 2, 1, Nat.zero_le _, rfl, rfl, rfl, rfl, rfl, rfl, HL0, HU0, Lib.hid (Below.refl _ _)⟩
  case round =>
    obtain ⟨i1, l0, d0, u0, q0, hi1, rfl, rfl, rfl, rfl, rfl, rfl, HL, HU, HK⟩ := hrel
    by_cases hlt : i1 < s.size + 1
    · have hii : (i1 : Int) < (L.length : Int) := by have := HLB.out; omega
      have HLI : Hid (ILo s (sMod i1 (i1 + 1)) l0 d0) := Lib.hid (HL.out.congr (fun a b h1 h2 => by unfold sMod; omega))
      have HUI : Hid (IHi s (sMod i1 (i1 + 1)) u0 q0) := Lib.hid (HU.out.congr (fun a b h1 h2 => by unfold sMod; omega))
      go_wp2
      go_loopg [7, 8, 9, 10, 12, 13, 14, 15] (s.size - i1) (fun kk lo ld hi hd j _ _ _ wq => ∃ (j1 : Nat) (l d u q : Int), i1 < j1 ∧ j1 ≤ s.size + 1 ∧ kk = s.size + 1 - j1 ∧ j = .int .i64 j1 ∧ lo = .int .i64 l ∧ ld = .int .i64 d ∧ hi = .int .i64 u ∧ hd = .int .i64 q ∧ Hid (ILo s (sMod i1 j1) l d) ∧ Hid (IHi s (sMod i1 j1) u q) ∧ Hid (Keep w1 wq))
      case atStart => exact ⟨i1 + 1, l0, d0, u0, q0, by omega, by omega, by omega, by go_num, rfl, rfl, rfl, rfl, HLI, HUI, HK⟩
      case round =>
        obtain ⟨j1, l, d, u, q, hj0, hj1, rfl, rfl, rfl, rfl, rfl, rfl, HLJ, HUJ, HKJ⟩ := hrel
        by_cases hjl : j1 < s.size + 1
        · have hji : (j1 : Int) < (L.length : Int) := by have := HLB.out; omega
          have qa := HC.out wr HKJ.out j1 (by omega)
          have qc := HC.out wr HKJ.out i1 (by omega)
          have ba := HHB.out j1 (by omega)
          have bc := HHB.out i1 (by omega)
          have hin := HIN.out i1 j1 hj0 (by omega)
          obtain ⟨bl1, bl2⟩ := HBL.out _ _ _ HLJ.out
          obtain ⟨bu1, bu2⟩ := HBU.out _ _ _ HUJ.out
          have LY := Lib.hid (HLY.out i1 j1 l d HLJ.out hj0 (by omega))
          have LN := Lib.hid (HLN.out i1 j1 l d HLJ.out hj0 (by omega))
          have UY := Lib.hid (HUY.out i1 j1 u q HUJ.out hj0 (by omega))
          have UN := Lib.hid (HUN.out i1 j1 u q HUJ.out hj0 (by omega))
          generalize hgt s j1 = A at *
          generalize hgt s i1 = C at *
          have W1 : IntKind.i64.wrap (A - C) = A - C := IntWalk.i64_in _ (by omega)
          have m1 := HMUL.out (A - C - 1) d (by omega) (by omega)
          have m2 := HMUL.out l ((j1 : Int) - i1) (by omega) (by omega)
          have m3 := HMUL.out (A - C + 1) q (by omega) (by omega)
          have m4 := HMUL.out u ((j1 : Int) - i1) (by omega) (by omega)
          have V1 : IntKind.i64.wrap ((A - C - 1) * d) = (A - C - 1) * d := IntWalk.i64_in _ (by omega)
          have V2 : IntKind.i64.wrap (l * ((j1 : Int) - i1)) = l * ((j1 : Int) - i1) := IntWalk.i64_in _ (by omega)
          have V3 : IntKind.i64.wrap ((A - C + 1) * q) = (A - C + 1) * q := IntWalk.i64_in _ (by omega)
          have V4 : IntKind.i64.wrap (u * ((j1 : Int) - i1)) = u * ((j1 : Int) - i1) := IntWalk.i64_in _ (by omega)
          clear m1 m2 m3 m4 bl1 bl2 bu1 bu2
          have HK3 := Lib.hid (HKJ.out.next (show Keep wr (wr.drew).drew from by go_grown))
          by_cases c1 : l * ((j1 : Int) - i1) < (A - C - 1) * d
          · have N1 := Lib.hid (LY.out c1)
            by_cases c2 : (A - C + 1) * q < u * ((j1 : Int) - i1)
            · have N2 := Lib.hid (UY.out c2)
              go_wp2
              go_region
              go_wp2
              go_region
              go_wp2
              go_roundg (s.size + 1 - (j1 + 1))
              case measure => omega
              case rel => exact ⟨j1 + 1, _, _, _, _, by omega, by omega, rfl, by go_num, rfl, rfl, rfl, rfl, N1, N2, Lib.hid (by first | exact HK3.out | exact HKJ.out)⟩
            · have N2 := Lib.hid (UN.out (by first | exact c2 | exact Int.not_lt.1 c2))
              go_wp2
              go_region
              go_wp2
              go_region
              go_wp2
              go_roundg (s.size + 1 - (j1 + 1))
              case measure => omega
              case rel => exact ⟨j1 + 1, _, _, _, _, by omega, by omega, rfl, by go_num, rfl, rfl, rfl, rfl, N1, N2, Lib.hid (by first | exact HK3.out | exact HKJ.out)⟩
          · have N1 := Lib.hid (LN.out (by first | exact c1 | exact Int.not_lt.1 c1))
            by_cases c2 : (A - C + 1) * q < u * ((j1 : Int) - i1)
            · have N2 := Lib.hid (UY.out c2)
              go_wp2
              go_region
              go_wp2
              go_region
              go_wp2
              go_roundg (s.size + 1 - (j1 + 1))
              case measure => omega
              case rel => exact ⟨j1 + 1, _, _, _, _, by omega, by omega, rfl, by go_num, rfl, rfl, rfl, rfl, N1, N2, Lib.hid (by first | exact HK3.out | exact HKJ.out)⟩
            · have N2 := Lib.hid (UN.out (by first | exact c2 | exact Int.not_lt.1 c2))
              go_wp2
              go_region
              go_wp2
              go_region
              go_wp2
              go_roundg (s.size + 1 - (j1 + 1))
              case measure => omega
              case rel => exact ⟨j1 + 1, _, _, _, _, by omega, by omega, rfl, by go_num, rfl, rfl, rfl, rfl, N1, N2, Lib.hid (by first | exact HK3.out | exact HKJ.out)⟩
        · have hji : ¬ (j1 : Int) < (L.length : Int) := by have := HLB.out; omega
          have HLE : Hid (ILo s (sMod (i1 + 1) 0) l d) := Lib.hid (HLJ.out.congr (fun a b h1 h2 => by unfold sMod; omega))
          have HUE : Hid (IHi s (sMod (i1 + 1) 0) u q) := Lib.hid (HUJ.out.congr (fun a b h1 h2 => by unfold sMod; omega))
          go_wp2
          go_roundg (s.size + 1 - (i1 + 1))
          case measure => omega
          case rel => exact ⟨i1 + 1, l, d, u, q, by omega, rfl, by go_num, rfl, rfl, rfl, rfl, HLE, HUE, HKJ⟩
    · have hii : ¬ (i1 : Int) < (L.length : Int) := by have := HLB.out; omega
      have HLE : Hid (ILo s allP l0 d0) := Lib.hid (HL.out.congr (fun a b h1 h2 => by unfold sMod allP; exact ⟨fun _ => trivial, fun _ => .inl (by omega)⟩))
      have HUE : Hid (IHi s allP u0 q0) := Lib.hid (HU.out.congr (fun a b h1 h2 => by unfold sMod allP; exact ⟨fun _ => trivial, fun _ => .inl (by omega)⟩))
      go_wp2
      refine bodyPost_ret (v := .tuple #[.int .i64 l0, .int .i64 d0, .int .i64 u0, .int .i64 q0]) (by simp [results, Tryd.results35, go_sem]) rfl ?_
      exact ⟨l0, d0, u0, q0, rfl, HLE.out, HUE.out, K1.out.next HK.out⟩
noncomputable def sl1 (s : ByteArray) : Int := if slB s then (loV s).1 else 0
noncomputable def sl2 (s : ByteArray) : Int := if slB s then (loV s).2 else 0
noncomputable def sl3 (s : ByteArray) : Int := if slB s then (hiV s).1 else 0
noncomputable def sl4 (s : ByteArray) : Int := if slB s then (hiV s).2 else 0
noncomputable def slR (s : ByteArray) : Value := .tuple #[.int .i64 (sl1 s), .int .i64 (sl2 s), .int .i64 (sl3 s), .int .i64 (sl4 s), .bool (slB s)]
theorem slR_no {s : ByteArray} (h : slB s = false) : slR s = .tuple #[.int .i64 0, .int .i64 0, .int .i64 0, .int .i64 0, .bool false] := by
  unfold slR sl1 sl2 sl3 sl4; rw [h]; rfl
theorem slR_yes {s : ByteArray} {l d u q : Int} (hw : wdB s = true) (h0 : s.size ≠ 0) (hl : ILo s allP l d) (hu : IHi s allP u q) (hp : l * q < u * d) :
    slR s = .tuple #[.int .i64 (rdN l d), .int .i64 (rdD l d), .int .i64 (rdN u q), .int .i64 (rdD u q), .bool true] := by
  have hb : slB s = true := by unfold slB; rw [hw, decide_eq_true h0, posB_eq hw hl hu, decide_eq_true hp]; rfl
  unfold slR sl1 sl2 sl3 sl4; rw [hb, if_pos rfl, if_pos rfl, if_pos rfl, if_pos rfl, loV_eq hw hl, hiV_eq hw hu]
theorem slR_imp {s : ByteArray} {l d u q : Int} (hw : wdB s = true) (hl : ILo s allP l d) (hu : IHi s allP u q) (hp : ¬ l * q < u * d) : slB s = false := by
  unfold slB; rw [hw, posB_eq hw hl hu, decide_eq_false hp]; simp
theorem slB_nw {s : ByteArray} (hw : wdB s = false) : slB s = false := by unfold slB; rw [hw]; rfl
theorem slB_empty {s : ByteArray} (h : s.size = 0) : slB s = false := by unfold slB; rw [h]; simp
theorem gcd_abs7 (l d : Int) : Int.gcd (mx l (-l)) d = Int.gcd l d := by
  have e : mx l (-l) = (l.natAbs : Int) := by unfold mx; split <;> omega
  rw [e]; unfold Int.gcd; simp
set_option maxHeartbeats 3200000 in
set_option maxRecDepth 100000 in
theorem specSlopesOf_any (s : ByteArray) (w : World) (hs : s.size ≤ 1048576) :
    Calls Tryd.prog 22 #[.string s] w fun e w' => e = .returned (slR s) ∧ Keep w w' := by
  cases hw : wdB s
  · rw [slR_no (slB_nw hw)]
    go_enter Tryd.func22, Tryd.ntmps22
    go_wp2_with (go_at_call 24; refine (l07Is_any s _ hs).mono ?_; rw [hw]; rintro e w' ⟨rfl, rfl⟩)
    refine bodyPost_ret (v := .tuple #[.int .i64 0, .int .i64 0, .int .i64 0, .int .i64 0, .bool false]) (by simp [results, Tryd.results22, go_sem]) rfl ?_
    exact ⟨rfl, Below.refl _ _⟩
  by_cases h0 : s.size = 0
  · rw [slR_no (slB_empty h0)]
    have h0b : ((s.size : Int) == 0) = true := by rw [h0]; rfl
    go_enter Tryd.func22, Tryd.ntmps22
    go_wp2_with (go_at_call 24; refine (l07Is_any s _ hs).mono ?_; rw [hw]; rintro e w' ⟨rfl, rfl⟩)
    refine bodyPost_ret (v := .tuple #[.int .i64 0, .int .i64 0, .int .i64 0, .int .i64 0, .bool false]) (by simp [results, Tryd.results22, go_sem]) rfl ?_
    exact ⟨rfl, Below.refl _ _⟩
  have h0b : ((s.size : Int) == 0) = false := by rw [beq_eq_false_iff_ne]; omega
  have HE := Lib.hid (l07Ends_any s w hw)
  have HY := Lib.hid (fun l d u q a b c => slR_yes (s := s) (l := l) (d := d) (u := u) (q := q) hw h0 a b c)
  have HN := Lib.hid (fun l d u q a b c => slR_no (slR_imp (s := s) (l := l) (d := d) (u := u) (q := q) hw a b c))
  have HBL := Lib.hid (fun l d (h : ILo s allP l d) => h.1.bd hw)
  have HBU := Lib.hid (fun l d (h : IHi s allP l d) => h.1.bd hw)
  generalize slR s = V at *
  go_enter Tryd.func22, Tryd.ntmps22
  go_wp2_with (go_at_call 24; refine (l07Is_any s _ hs).mono ?_; rw [hw]; rintro e w' ⟨rfl, rfl⟩)
  refine HE.out.mono ?_
  rintro e w1 ⟨l, d, u, q, rfl, hl, hu, k1⟩
  have HL := Lib.hid hl
  have HU := Lib.hid hu
  have K1 := Lib.hid k1
  have bl := HBL.out l d hl
  have bu := HBU.out u q hu
  clear hl hu k1
  have m1 := mul_sl (l := 0) (n := 0) (a := l) (d := q) (by omega) (by omega)
  have m2 := mul_sl (l := 0) (n := 0) (a := u) (d := d) (by omega) (by omega)
  have V1 : IntKind.i64.wrap (l * q) = l * q := IntWalk.i64_in _ (by omega)
  have V2 : IntKind.i64.wrap (u * d) = u * d := IntWalk.i64_in _ (by omega)
  by_cases hp : l * q < u * d
  · have HV := Lib.hid (HY.out l d u q HL.out HU.out hp)
    have hmx : 0 ≤ mx l (-l) ∧ mx l (-l) ≤ 121 := by unfold mx; split <;> omega
    have HG1 := Lib.hid (fun W => l07Gcd_any (mx l (-l)) d W (by omega) (by omega) (by omega) (by omega))
    have HG2 := Lib.hid (fun W => l07Gcd_any u q W (by omega) (by omega) (by omega) (by omega))
    rw [gcd_abs7] at HG1
    have hg1 : 1 ≤ (Int.gcd l d : Int) := gcd_pos7 bl.2.1
    have hg2 : 1 ≤ (Int.gcd u q : Int) := gcd_pos7 bu.2.1
    have HR1 : Hid (rdN l d = l.tdiv (Int.gcd l d) ∧ rdD l d = d.tdiv (Int.gcd l d)) := Lib.hid ⟨rfl, rfl⟩
    have HR2 : Hid (rdN u q = u.tdiv (Int.gcd u q) ∧ rdD u q = q.tdiv (Int.gcd u q)) := Lib.hid ⟨rfl, rfl⟩
    have t1 := tdiv_in (x := l) (M := 200) hg1 (by omega)
    have t2 := tdiv_in (x := d) (M := 200) hg1 (by omega)
    have t3 := tdiv_in (x := u) (M := 200) hg2 (by omega)
    have t4 := tdiv_in (x := q) (M := 200) hg2 (by omega)
    have hpn : ¬ u * d ≤ l * q := by omega
    clear m1 m2
    generalize (Int.gcd l d : Int) = G1 at *
    generalize (Int.gcd u q : Int) = G2 at *
    go_wp2_with (first | (go_at_call 36; refine (l00Max_any _ _ _).mono ?_; rintro e w' ⟨rfl, rfl⟩) | (go_at_call 31; first | (with_reducible refine (HG1.out _).mono ?_; rintro e w' ⟨rfl, rfl⟩) | (with_reducible refine (HG2.out _).mono ?_; rintro e w' ⟨rfl, rfl⟩)))
    go_region
    go_wp2
    refine bodyPost_ret (v := .tuple #[.int .i64 (l.tdiv G1), .int .i64 (d.tdiv G1), .int .i64 (u.tdiv G2), .int .i64 (q.tdiv G2), .bool true]) (by simp [results, Tryd.results22, go_sem]) rfl ?_
    exact ⟨by rw [HV.out, HR1.out.1, HR1.out.2, HR2.out.1, HR2.out.2], K1.out.next (by go_grown)⟩
  · have HV := Lib.hid (HN.out l d u q HL.out HU.out (by first | exact hp | exact Int.not_lt.1 hp))
    have hpn : u * d ≤ l * q := by omega
    clear m1 m2
    go_wp2
    refine bodyPost_ret (v := .tuple #[.int .i64 0, .int .i64 0, .int .i64 0, .int .i64 0, .bool false]) (by simp [results, Tryd.results22, go_sem]) rfl ?_
    exact ⟨by rw [HV.out], K1.out⟩
end Go.Proofs.YtlkljhncpojlkaaDoor
