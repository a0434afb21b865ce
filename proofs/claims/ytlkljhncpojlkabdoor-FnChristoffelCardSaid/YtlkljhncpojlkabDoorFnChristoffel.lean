/- FnChristoffel: a Christoffel word is balanced, has its length as its period, and is cut into two Christoffel words: at all bytes. -/
import Derived.Test.YtlkljhncpojlkabDoorCards
import Derived.Test.YtlkljhncpojlkabDoorTie
import Derived.Test.YtlkljhncpojlkabDoorChr7
import Derived.Test.YtlkljhncpojlkabDoorBi7
import Derived.Test.YtlkljhncpojlkabDoorBten
import Derived.Deep.RegionHeld3
import Derived.Deep.DeepHandedRow
import Derived.Deep.DeepWitnessRowRef
import Derived.LaidLaws
import Derived.LaidHandle
namespace Go.Proofs.YtlkljhncpojlkabDoor.fnChristoffel
open Go.ChangeShapes Go.WideShapes Go.ChangeAt Go.RowKit Go.Deep
open Go.ChangeMaps (open_string shut_string)
set_option linter.unusedVariables false
theorem chS_at {a b : Int} {n : Int} {m : Nat} (h : chB a b = true) (hn : a + b = n) (hm : (m : Int) = n) : chS a b = lnW b n 0 m := by
  unfold chS lnW; rw [h, if_pos rfl, hn, ← hm, Int.toNat_natCast]
theorem str_split (S : ByteArray) (i : Nat) (h : i ≤ S.size) : S.extract 0 i ++ S.extract i S.size = S := by
  rw [ByteArray.extract_append_extract]
  rw [show min 0 i = 0 by omega, show max i S.size = S.size by omega]
  exact ByteArray.extract_zero_size
set_option maxHeartbeats 3200000 in
set_option maxRecDepth 100000 in
theorem walk (w : World) (_hL : laidMetH Tryd.prog Rows.fnChristoffelRow.laid w) (a0 : Option Addr) (cap0 : Nat) (z0 : List Int) (w0 : Bytes w a0 z0) (a1 : Option Addr) (cap1 : Nat) (z1 : List Int) (w1 : Bytes w a1 z1) :
    Calls Tryd.prog 6 #[.slice a0 z0.length cap0, .slice a1 z1.length cap1] w fun e w' => e = .returned (.bool true) ∧ Below w.heap.size w w' := by
  have s0 := w0.small
  have s1 := w1.small
  cases hl : (decide (1048576 < z0.length) || decide (1048576 < z1.length))
  case true =>
    go_enter Tryd.func6, Tryd.ntmps6
    go_wp2_with (go_at_call 11; refine (b10Long_any _ _ _ _ _ _ _ s0 s1).mono ?_; rw [hl]; rintro e w' ⟨rfl, rfl⟩)
    go_ret
    exact ⟨rfl, Below.refl _ _⟩
  have p1 := pickB_bd z0 0 20
  have H1 := Lib.hid (fun W => b10At_any a0 cap0 z0 0 20 W)
  obtain ⟨x0, hx0⟩ : ∃ x0, x0 = pickB z0 0 20 := ⟨_, rfl⟩
  rw [← hx0] at p1 H1
  have hb0 := p1.2 (by omega)
  have p2 := pickB_bd z1 0 20
  have H2 := Lib.hid (fun W => b10At_any a1 cap1 z1 0 20 W)
  obtain ⟨x1, hx1⟩ : ∃ x1, x1 = pickB z1 0 20 := ⟨_, rfl⟩
  rw [← hx1] at p2 H2
  have hb1 := p2.2 (by omega)
  obtain ⟨x, hx⟩ : ∃ x, x = 1 + x0 := ⟨_, rfl⟩
  obtain ⟨y, hy⟩ : ∃ y, y = 1 + x1 := ⟨_, rfl⟩
  have V1 : IntKind.i64.wrap (1 + x0) = x := by rw [hx]; exact IntWalk.i64_in _ (by omega)
  have V2 : IntKind.i64.wrap (1 + x1) = y := by rw [hy]; exact IntWalk.i64_in _ (by omega)
  have x20 : 1 ≤ x ∧ x ≤ 20 := by omega
  have y20 : 1 ≤ y ∧ y ≤ 20 := by omega
  clear hx hy hx0 hx1
  obtain ⟨g, A, B, hg, g1, eA, eB, hcop, A1, A2, B1, B2, tA, tB⟩ := gcd_red x20.1 y20.1
  have HG := Lib.hid (fun W => b10Gcd_any x y W (by omega) (by omega) (by omega) (by omega))
  rw [← hg] at HG
  have g20 : g ≤ 20 := by
    have e : g * 1 ≤ g * A := Int.mul_le_mul_of_nonneg_left A1 (by omega)
    omega
  clear hg eA eB
  have hchB : chB A B = true := chB_iff.2 ⟨by omega, by omega, hcop⟩
  have hcuB : cuB A B = true := cuB_iff.2 ⟨by omega, by omega, hcop⟩
  have hcop2 := cu_gcd hcop
  obtain ⟨p, q, hd, hq1, hqn, hp0⟩ := cut_ex hcop2 B1 (show B < A + B by omega)
  have hcuV : cuV A B = q := by unfold cuV; rw [hcuB, if_pos rfl]; exact cuQ_eq hd hq1 hqn
  obtain ⟨m, hm⟩ : ∃ m : Nat, (m : Int) = A + B := ⟨(A + B).toNat, by omega⟩
  obtain ⟨q0, hq0⟩ : ∃ q0 : Nat, (q0 : Int) = q := ⟨q.toNat, by omega⟩
  obtain ⟨m1, hm1⟩ : ∃ m1 : Nat, m = m1 + 1 := ⟨m - 1, by omega⟩
  have hY := cut_yes hq1 hqn hd B1 (show B < A + B by omega) hp0 hq0 hm
  have hbd := cut_bd B1 (show B < A + B by omega) (i := q0) (by omega) (by omega)
  obtain ⟨y1, y2, y3, y4, y5⟩ := hY
  rw [y1] at hbd
  obtain ⟨d1, d2, d3, d4⟩ := hbd
  have hc1 : chB ((q0 : Int) - p) p = true := chB_iff.2 ⟨by omega, by omega, y2⟩
  have hc2 : chB (A - ((q0 : Int) - p)) (B - p) = true := chB_iff.2 ⟨by omega, by omega, by rw [show A - ((q0 : Int) - p) = A + B - B - ((q0 : Int) - p) by omega]; exact y3⟩
  have HCW := Lib.hid (fun W => ChristoffelWord_any A B W ⟨by omega, by omega⟩ ⟨by omega, by omega⟩)
  rw [hchB, chS_at hchB rfl hm] at HCW
  have HC1 := Lib.hid (fun W => ChristoffelWord_any ((q0 : Int) - p) p W ⟨by omega, by omega⟩ ⟨by omega, by omega⟩)
  rw [hc1, chS_at hc1 (show (q0 : Int) - p + p = q0 by omega) rfl] at HC1
  have HC2 := Lib.hid (fun W => ChristoffelWord_any (A - ((q0 : Int) - p)) (B - p) W ⟨by omega, by omega⟩ ⟨by omega, by omega⟩)
  rw [hc2, chS_at hc2 (show A - ((q0 : Int) - p) + (B - p) = A + B - q0 by omega) (m := m - q0) (by omega)] at HC2
  have HCU := Lib.hid (fun W => CutOf_any A B W ⟨by omega, by omega⟩ ⟨by omega, by omega⟩)
  rw [hcuB, hcuV, ← hq0] at HCU
  have hsz := lnW_size B (A + B) 0 m
  have hwd := lnW_wd B (A + B) 0 (n := m) (by omega)
  have HPE := Lib.hid (fun W => PeriodOf_any (lnW B (A + B) 0 m) W (by omega))
  rw [show perV (lnW B (A + B) 0 m) = (m : Int) from (chr_per B1 (by omega) hcop2 hm (by omega)).trans hm.symm, hwd] at HPE
  have HHT := Lib.hid (fun W => HeightsOf_any (lnW B (A + B) 0 m) W (by omega))
  have hV : hgtV (lnW B (A + B) 0 m) = hgtL (lnW B (A + B) 0 m) m := by unfold hgtV; rw [hwd, if_pos rfl, hsz]
  rw [hwd, hV] at HHT
  have HBA := Lib.hid (fun W => IsBalanced_any (lnW B (A + B) 0 m) W (by omega))
  rw [lnW_bal (a := B) (d := A + B) (s := 0) (by omega) (by omega) (by omega) (by omega) (by omega) (n := m) (by omega)] at HBA
  have hlen := hgtL_len (lnW B (A + B) 0 m) m
  have hat1 := hgtL_get (lnW B (A + B) 0 m) m m (Nat.le_refl _)
  rw [lnW_hgt (a := B) (d := A + B) (s := 0) (by omega) (by omega) (by omega) (by omega) (by omega) m m (Nat.le_refl _), hm, show fl ((A + B) * B + 0) (A + B) = B from fl_eq (by omega) (by omega) (by omega)] at hat1
  have hat2 := hgtL_get (lnW B (A + B) 0 m) m q0 (by omega)
  rw [lnW_hgt (a := B) (d := A + B) (s := 0) (by omega) (by omega) (by omega) (by omega) (by omega) m q0 (by omega), Int.add_zero, y1] at hat2
  have hS0 : 0 < (lnW B (A + B) 0 m).size := by omega
  have hS1 : m1 < (lnW B (A + B) 0 m).size := by omega
  have l0 := chr_first (b := B) (n := A + B) B1 (by omega) hm hS0
  have l1 : ((((lnW B (A + B) 0 m)[m1]'hS1).toNat : Int)) = 98 := by
    have h := chr_last (b := B) (n := A + B) B1 (by omega) hm (by omega)
    have e : m - 1 = m1 := by omega
    simp only [e] at h; exact h
  have hfin : (((lnW p q0 0 q0) ++ (lnW (B - p) (A + B - q0) 0 (m - q0))).toList == (lnW B (A + B) 0 m).toList) = true := by
    rw [bytes_beq]
    refine decide_eq_true ?_
    have h := str_split (lnW B (A + B) 0 m) q0 (by omega)
    unfold lnW at h ⊢
    rw [y4, y5] at h; exact h
  have V3 : IntKind.i64.wrap (A + B) = (m : Int) := by rw [hm]; exact IntWalk.i64_in _ (by omega)
  have V4 : IntKind.i64.wrap ((m : Int) - 1) = (m1 : Int) := by rw [show (m : Int) - 1 = (m1 : Int) by omega]; exact IntWalk.i64_in _ (by omega)
  have V5 : IntKind.i64.wrap ((q0 : Int) - p) = (q0 : Int) - p := IntWalk.i64_in _ (by omega)
  have V6 : IntKind.i64.wrap (A - ((q0 : Int) - p)) = A - ((q0 : Int) - p) := IntWalk.i64_in _ (by omega)
  have V7 : IntKind.i64.wrap (B - p) = B - p := IntWalk.i64_in _ (by omega)
  have V8 : IntKind.i64.wrap A = A := IntWalk.i64_in _ (by omega)
  have V9 : IntKind.i64.wrap B = B := IntWalk.i64_in _ (by omega)
  have HLEN := Lib.hid hlen
  have HAT := Lib.hid (And.intro hat1 hat2)
  have m40 : m ≤ 40 := by omega
  have q1i : 1 ≤ (q0 : Int) := by omega
  have qmi : (q0 : Int) < (m : Int) := by omega
  have HM := Lib.hid hm
  have HQ := Lib.hid hq0
  have HM1 := Lib.hid hm1
  have hm0 : (0 : Int) ≤ (m : Int) := by omega
  have hm1i : (0 : Int) ≤ (m1 : Int) := by omega
  have n1 : ¬ ((q0 : Int) < 1) := by omega
  have n2 : ¬ ((m : Int) ≤ (q0 : Int)) := by omega
  have n3 : 1 ≤ q0 := by omega
  have n4 : ¬ m ≤ q0 := by omega
  have hgne : ¬ g = 0 := by omega
  have hgi : (g == 0) = false := by simp; omega
  clear hm hq0 hm1 hchB hcuB hcuV hc1 hc2 hwd hV hlen hat1 hat2 hcop hcop2 hd hq1 hqn hp0 y1 y2 y3 y4 y5 d1 d2 d3 d4
  have z1s := lnW_size p q0 0 q0
  have z2s := lnW_size (B - p) (A + B - q0) 0 (m - q0)
  have hcat : ¬ 9223372036854775807 < (lnW p q0 0 q0).size + (lnW (B - p) (A + B - q0) 0 (m - q0)).size := by rw [z1s, z2s]; omega
  clear z1s z2s
  generalize lnW (B - p) (A + B - q0) 0 (m - q0) = S2 at *
  generalize lnW p q0 0 q0 = S1 at *
  generalize hgtL (lnW B (A + B) 0 m) m = L at *
  generalize lnW B (A + B) 0 m = S at *
  have hSn : ((S.size : Int) != (m : Int)) = false := by rw [hsz]; simp
  have c0 : (((S[0]'hS0).toNat : Int) != 97) = false := by rw [l0]; rfl
  have c1 : (((S[m1]'hS1).toNat : Int) != 98) = false := by rw [l1]; rfl
  have hS1i : (m1 : Int) < (S.size : Int) := by omega
  have hSsm : S.size ≤ 40 := by omega
  have HSZ := Lib.hid hsz
  clear hsz l0 l1
  have hLn : L.length = m + 1 := HLEN.out
  have hLb : ((L.length : Int) != (m : Int) + 1) = false := by rw [hLn]; simp
  have hLi : (m : Int) < (L.length : Int) := by omega
  have hLq : (q0 : Int) < (L.length : Int) := by omega
  have hl41 : L.length ≤ 41 := by omega
  have HL := Lib.hid hLn
  clear hLn
  go_enter Tryd.func6, Tryd.ntmps6
  go_wp2_with (first | (go_at_call 11; refine (b10Long_any _ _ _ _ _ _ _ s0 s1).mono ?_; rw [hl]; rintro e w' ⟨rfl, rfl⟩) | (go_at_call 18; first | (with_reducible refine (H1.out _ w0 (by omega) (by omega) (by omega) (by omega)).mono ?_; rintro e w' ⟨rfl, rfl⟩) | (with_reducible refine (H2.out _ w1 (by omega) (by omega) (by omega) (by omega)).mono ?_; rintro e w' ⟨rfl, rfl⟩)) | (go_at_call 20; with_reducible refine (HG.out _).mono ?_; rintro e w' ⟨rfl, rfl⟩) | (go_at_call 21; with_reducible refine (HCW.out _).mono ?_; rintro e w2 ⟨rfl, k2⟩) | (go_at_call 22; with_reducible refine (HCU.out _).mono ?_; rintro e w3 ⟨rfl, k3⟩) | (go_at_call 23; with_reducible refine (HPE.out _).mono ?_; rintro e w5 ⟨rfl, k5⟩))
  with_reducible refine (HHT.out _).mono ?_
  rintro e w4 ⟨rd, rc, rfl, o4, k4⟩
  have I4 := Lib.hid o4.ints
  have K4 : Hid (Keep w w4) := Lib.hid (((k2.next k3).next k5).next k4)
  clear o4 k2 k3 k4 k5
  rcases I4.out.at_ with h | ⟨hb, off, rfl, hlt, hc⟩
  · have := HL.out; rw [h] at this; simp at this
  have HC : Hid (∀ W, Keep w4 W → W.cell? ⟨hb, off + m, none⟩ = some (.int .i64 B) ∧ W.cell? ⟨hb, off + q0, none⟩ = some (.int .i64 p)) := Lib.hid (fun W k =>
    ⟨by rw [(k.cell (p := ⟨hb, off + m, none⟩) (by exact hlt)).trans (hc m (by have := HL.out; omega)), HAT.out.1],
     by rw [(k.cell (p := ⟨hb, off + q0, none⟩) (by exact hlt)).trans (hc q0 (by have := HL.out; omega)), HAT.out.2]⟩)
  clear hc
  go_wp2_with (first | (go_at_call 15; refine (HBA.out _).mono ?_; rintro e w6 ⟨rfl, k6⟩; obtain ⟨q6, q7⟩ := HC.out w6 (Keep.next (by go_grown) k6)) | (go_at_call 21; first | (with_reducible refine (HC1.out _).mono ?_; rintro e w7 ⟨rfl, k7⟩) | (with_reducible refine (HC2.out _).mono ?_; rintro e w8 ⟨rfl, k8⟩)))
  all_goals first
    | (exfalso; omega)
    | (go_ret; exact ⟨rfl, K4.out.next (Keep.next (Keep.next (Keep.next (by go_grown) k6) k7) k8)⟩)

theorem own : ownKnob Tryd.prog.godebug = none := by kernel_rfl
theorem laidOut : laidOutB Tryd.prog = true := by kernel_rfl
set_option maxRecDepth 100000 in
theorem contract (H : Type) (enc : TypeId × Value → H) (W : World) (base : Nat) (args : Array Value) (ds gs : List (DataW H)) (before : List MemPlace)
    (hval0 : ∀ (j : Nat) t v, Tryd.f6.params[j]? = some t → args[j]? = some v → Value.okWide Tryd.prog W .any base t v)
    (hW : DataW.Whole enc Tryd.prog Tryd.f6.params.toList Rows.fnChristoffelSpec.vars false W args.toList ds gs before) (hL : laidMetH Tryd.prog Rows.fnChristoffelRow.laid W) :
    Calls Tryd.prog 6 args W fun e W' => ∃ v, e = .returned v ∧ Rows.fnChristoffelSpec.post enc Tryd.prog Tryd.f6 false true false false W args v W' := by
  have hval : ∀ (j : Nat) t v, Tryd.f6.params[j]? = some t → args[j]? = some v → Value.okWide Tryd.prog W .any base t v := hval0
  have hW' := hW
  obtain ⟨p, q, hA0, hV, rfl, hfz, hnd⟩ := hW
  have hA : DataW.TrodAll enc Tryd.prog W 0 (fun _ => true) true Tryd.f6.params.toList args.toList ds p := hA0
  rw [Tryd.params6] at hA hval
  obtain ⟨v0, vs0, d0, ds0, p0, q0, hargs, rfl, rfl, h0, r0⟩ := trodAll_cons hA
  obtain ⟨v1, vs1, d1, ds1, p1, q1, rfl, rfl, rfl, h1, r1⟩ := trodAll_cons r0
  obtain ⟨rfl, rfl, rfl⟩ := trodAll_nil r1
  obtain rfl : args = #[v0, v1] := by cases args; simp_all
  obtain ⟨rfl, rfl⟩ := trodVars_none hV
  have k0 := h0
  have lt0 : ∀ x ∈ p0, x.block < W.heap.size := by obtain ⟨m, hm⟩ := k0; exact DataW.trod_lt m _ _ _ hm
  obtain ⟨a0, len0, cap0, rfl⟩ := okWide_slice Tryd.underlying25 (hval 0 25 v0 rfl rfl)
  obtain ⟨z0, e0, w0⟩ := bytes_open Tryd.underlying25 Tryd.underlying5 (by kernel_rfl) h0
  subst e0
  have k1 := h1
  have lt1 : ∀ x ∈ p1, x.block < W.heap.size := by obtain ⟨m, hm⟩ := k1; exact DataW.trod_lt m _ _ _ hm
  obtain ⟨a1, len1, cap1, rfl⟩ := okWide_slice Tryd.underlying25 (hval 1 25 v1 rfl rfl)
  obtain ⟨z1, e1, w1⟩ := bytes_open Tryd.underlying25 Tryd.underlying5 (by kernel_rfl) h1
  subst e1
  clear hA0 hval0
  refine (walk W hL a0 cap0 z0 w0 a1 cap1 z1 w1).mono fun e W' ⟨he, bel⟩ => ?_
  subst he
  exact ⟨_, rfl, _, _, _, [], _, [], hW', trodAll_mk1 (shut_bool Tryd.underlying4 _), (trodAll_cons_mk (Below.trod laidOut (by kernel_rfl) (of_decide_eq_true (by kernel_rfl)) k0 bel lt0) (trodAll_cons_mk (Below.trod laidOut (by kernel_rfl) (of_decide_eq_true (by kernel_rfl)) k1 bel lt1) trodAll_mk0)), rfl, bel.frame _, fun h => by cases h⟩
/-- A variable's cells, laid. -/
def layTab (cs : Array Value) : Obj → Obj
  | .cells _ t frozen => .cells cs t frozen
  | o => o
noncomputable def low : Nat := (World.holding Tryd.prog default ⟨#[], #[], []⟩).heap.size
noncomputable def laidWorld (os : Os) : World :=
  { World.holding Tryd.prog os ⟨#[], #[], []⟩ with heap := (((World.holding Tryd.prog os ⟨#[], #[], []⟩).heap.modify 2 (layTab #[.int .u8 128, .int .u8 191, .int .u8 160, .int .u8 191, .int .u8 128, .int .u8 159, .int .u8 144, .int .u8 191, .int .u8 128, .int .u8 143, .int .u8 0, .int .u8 0, .int .u8 0, .int .u8 0, .int .u8 0, .int .u8 0, .int .u8 0, .int .u8 0, .int .u8 0, .int .u8 0, .int .u8 0, .int .u8 0, .int .u8 0, .int .u8 0, .int .u8 0, .int .u8 0, .int .u8 0, .int .u8 0, .int .u8 0, .int .u8 0, .int .u8 0, .int .u8 0])).modify 1 (layTab #[.int .u8 240, .int .u8 240, .int .u8 240, .int .u8 240, .int .u8 240, .int .u8 240, .int .u8 240, .int .u8 240, .int .u8 240, .int .u8 240, .int .u8 240, .int .u8 240, .int .u8 240, .int .u8 240, .int .u8 240, .int .u8 240, .int .u8 240, .int .u8 240, .int .u8 240, .int .u8 240, .int .u8 240, .int .u8 240, .int .u8 240, .int .u8 240, .int .u8 240, .int .u8 240, .int .u8 240, .int .u8 240, .int .u8 240, .int .u8 240, .int .u8 240, .int .u8 240, .int .u8 240, .int .u8 240, .int .u8 240, .int .u8 240, .int .u8 240, .int .u8 240, .int .u8 240, .int .u8 240, .int .u8 240, .int .u8 240, .int .u8 240, .int .u8 240, .int .u8 240, .int .u8 240, .int .u8 240, .int .u8 240, .int .u8 240, .int .u8 240, .int .u8 240, .int .u8 240, .int .u8 240, .int .u8 240, .int .u8 240, .int .u8 240, .int .u8 240, .int .u8 240, .int .u8 240, .int .u8 240, .int .u8 240, .int .u8 240, .int .u8 240, .int .u8 240, .int .u8 240, .int .u8 240, .int .u8 240, .int .u8 240, .int .u8 240, .int .u8 240, .int .u8 240, .int .u8 240, .int .u8 240, .int .u8 240, .int .u8 240, .int .u8 240, .int .u8 240, .int .u8 240, .int .u8 240, .int .u8 240, .int .u8 240, .int .u8 240, .int .u8 240, .int .u8 240, .int .u8 240, .int .u8 240, .int .u8 240, .int .u8 240, .int .u8 240, .int .u8 240, .int .u8 240, .int .u8 240, .int .u8 240, .int .u8 240, .int .u8 240, .int .u8 240, .int .u8 240, .int .u8 240, .int .u8 240, .int .u8 240, .int .u8 240, .int .u8 240, .int .u8 240, .int .u8 240, .int .u8 240, .int .u8 240, .int .u8 240, .int .u8 240, .int .u8 240, .int .u8 240, .int .u8 240, .int .u8 240, .int .u8 240, .int .u8 240, .int .u8 240, .int .u8 240, .int .u8 240, .int .u8 240, .int .u8 240, .int .u8 240, .int .u8 240, .int .u8 240, .int .u8 240, .int .u8 240, .int .u8 240, .int .u8 240, .int .u8 240, .int .u8 240, .int .u8 241, .int .u8 241, .int .u8 241, .int .u8 241, .int .u8 241, .int .u8 241, .int .u8 241, .int .u8 241, .int .u8 241, .int .u8 241, .int .u8 241, .int .u8 241, .int .u8 241, .int .u8 241, .int .u8 241, .int .u8 241, .int .u8 241, .int .u8 241, .int .u8 241, .int .u8 241, .int .u8 241, .int .u8 241, .int .u8 241, .int .u8 241, .int .u8 241, .int .u8 241, .int .u8 241, .int .u8 241, .int .u8 241, .int .u8 241, .int .u8 241, .int .u8 241, .int .u8 241, .int .u8 241, .int .u8 241, .int .u8 241, .int .u8 241, .int .u8 241, .int .u8 241, .int .u8 241, .int .u8 241, .int .u8 241, .int .u8 241, .int .u8 241, .int .u8 241, .int .u8 241, .int .u8 241, .int .u8 241, .int .u8 241, .int .u8 241, .int .u8 241, .int .u8 241, .int .u8 241, .int .u8 241, .int .u8 241, .int .u8 241, .int .u8 241, .int .u8 241, .int .u8 241, .int .u8 241, .int .u8 241, .int .u8 241, .int .u8 241, .int .u8 241, .int .u8 241, .int .u8 241, .int .u8 2, .int .u8 2, .int .u8 2, .int .u8 2, .int .u8 2, .int .u8 2, .int .u8 2, .int .u8 2, .int .u8 2, .int .u8 2, .int .u8 2, .int .u8 2, .int .u8 2, .int .u8 2, .int .u8 2, .int .u8 2, .int .u8 2, .int .u8 2, .int .u8 2, .int .u8 2, .int .u8 2, .int .u8 2, .int .u8 2, .int .u8 2, .int .u8 2, .int .u8 2, .int .u8 2, .int .u8 2, .int .u8 2, .int .u8 2, .int .u8 19, .int .u8 3, .int .u8 3, .int .u8 3, .int .u8 3, .int .u8 3, .int .u8 3, .int .u8 3, .int .u8 3, .int .u8 3, .int .u8 3, .int .u8 3, .int .u8 3, .int .u8 35, .int .u8 3, .int .u8 3, .int .u8 52, .int .u8 4, .int .u8 4, .int .u8 4, .int .u8 68, .int .u8 241, .int .u8 241, .int .u8 241, .int .u8 241, .int .u8 241, .int .u8 241, .int .u8 241, .int .u8 241, .int .u8 241, .int .u8 241, .int .u8 241])) }
theorem laid_met (os : Os) : laidMetH Tryd.prog Rows.fnChristoffelRow.laid ((laidWorld os).forCall (fun _ _ => 0) ⟨#[], #[.slice none 0 0, .slice none 0 0], []⟩).memory :=
  (laidMet_of_run' 8 (by kernel_rfl) (by kernel_rfl) : laidMet Tryd.prog Rows.fnChristoffelRow.laid _)
theorem reads (os : Os) {H : Type} (enc : TypeId × Value → H) : ∃ places, DataW.whole enc Tryd.prog ((laidWorld os).forCall (fun _ _ => 0) ⟨#[], #[.slice none 0 0, .slice none 0 0], []⟩).memory Tryd.f6.params.toList Rows.fnChristoffelSpec.vars false (#[.slice none 0 0, .slice none 0 0] : Array Value).toList 8 = some ([.nil, .nil], [], places) :=
  ⟨[], by kernel_rfl⟩
set_option maxRecDepth 100000 in
theorem lifted (os : Os) (started : os.Started) (H : Type) (enc : TypeId × Value → H) (F : Stop.Interp) :
    ReturnsInHanded {} Tryd.checked os 6 .any ((OpenSpec.ofChange Rows.fnChristoffelSpec).preRow enc Tryd.prog Tryd.f6 Rows.fnChristoffelRow.domain false Rows.fnChristoffelRow.laid) (((OpenSpec.ofChange Rows.fnChristoffelSpec).at F).post enc Tryd.prog Tryd.f6 false true false false) := by
  obtain ⟨places, hx⟩ := reads os enc
  refine returnsInHanded_of_row (C := Tryd.checked) (s := OpenSpec.ofChange Rows.fnChristoffelSpec) own started (by kernel_rfl) Tryd.func6
    (witness_row_at (enc := enc) (C := Tryd.checked) false (laidWorld os) #[.slice none 0 0, .slice none 0 0] rfl (by kernel_rfl) (by kernel_rfl) (by kernel_rfl)
      (OpenSpec.preRow_of_cond 8 hx (by kernel_rfl) (fun k hk => by cases hk) (by kernel_rfl) (laid_met os))) ?_
  intro W base args ds gs before hval hW _ _ _ hL hS _
  exact contract H enc W base args ds gs before hval hW hL
theorem said : Rows.FnChristoffelSaid :=
  OpenClaim.holds_of_cond 6 Tryd.f6 rfl rfl rfl rfl rfl rfl rfl ⟨rfl, rfl, rfl, rfl, rfl⟩ rfl rfl rfl rfl rfl (by kernel_rfl) Tryd.func6 (by kernel_rfl)
    (of_decide_eq_true (by kernel_rfl)) (by unfold Func.isWrapper; first | (rw [if_pos (by decide +kernel)]; kernel_rfl) | (rw [if_neg (by decide +kernel)]; exact ⟨rfl, rfl⟩))
    (fun os started H enc _ F => by rw [OpenClaim.pre_eq_preRow]; exact lifted os started H enc F)
theorem plain (f : FuncId) (fn : Func) (hf : Tryd.pinned.checked.prog.funcNamed "loop.example/g01129/laws.FnChristoffel" = some f) (hfn : Tryd.pinned.checked.prog.funcs[f]? = some fn) :
    false = Tryd.pinned.checked.prog.looks [] ∧ ∀ (j : Nat) t, fn.params[j]? = some t → Tryd.pinned.checked.prog.wantsStandIn t = false := by
  obtain rfl : f = 6 := Option.some.inj ((show Tryd.prog.funcNamed "loop.example/g01129/laws.FnChristoffel" = some 6 by kernel_rfl).symm.trans hf) |>.symm
  obtain rfl : fn = Tryd.f6 := (Option.some.inj (Tryd.func6.symm.trans hfn)).symm
  refine ⟨by kernel_rfl, fun j t ht => ?_⟩
  rw [Tryd.params6] at ht
  have hm := Array.mem_of_getElem? ht
  simp only [List.mem_toArray, List.mem_cons, List.not_mem_nil, or_false] at hm
  rcases hm with rfl | rfl
  · exact (show Tryd.prog.wantsStandIn 25 = false by kernel_rfl)
  · exact (show Tryd.prog.wantsStandIn 25 = false by kernel_rfl)
/-- THE STATEMENT. -/
theorem proved : Rows.FnChristoffelCardSaid :=
  Claim7.holds_tied_plain_at .later [] _ _ _ _ said (fun _ h => by cases h) (by kernel_rfl) (fun _ h => by cases h) fnChristoffel_row_tie rfl ⟨rfl, rfl⟩ (by kernel_rfl) rfl plain (by kernel_rfl)
end Go.Proofs.YtlkljhncpojlkabDoor.fnChristoffel
