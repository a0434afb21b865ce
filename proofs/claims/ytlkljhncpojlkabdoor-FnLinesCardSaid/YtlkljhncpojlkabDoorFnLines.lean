/- FnLines: the word of a line is balanced, its slope is possible, and it has as many letters b as the line rises: at all bytes. -/
import Derived.Test.YtlkljhncpojlkabDoorCards
import Derived.Test.YtlkljhncpojlkabDoorTie
import Derived.Test.YtlkljhncpojlkabDoorLin7
import Derived.Test.YtlkljhncpojlkabDoorSl7
import Derived.Test.YtlkljhncpojlkabDoorBi7
import Derived.Test.YtlkljhncpojlkabDoorBten
import Derived.Deep.RegionHeld3
import Derived.Deep.DeepHandedRow
import Derived.Deep.DeepWitnessRowRef
import Derived.LaidLaws
import Derived.LaidHandle
namespace Go.Proofs.YtlkljhncpojlkabDoor.fnLines
open Go.ChangeShapes Go.WideShapes Go.ChangeAt Go.RowKit Go.Deep
open Go.ChangeMaps (open_string shut_string)
set_option linter.unusedVariables false
theorem mul_bdL {x y : Int} (hx : -200 ≤ x ∧ x ≤ 200) (hy : 0 ≤ y ∧ y ≤ 200) : -40000 ≤ x * y ∧ x * y ≤ 40000 := by
  have e1 : x * y ≤ 200 * y := Int.mul_le_mul_of_nonneg_right hx.2 hy.1
  have e2 : (-200) * y ≤ x * y := Int.mul_le_mul_of_nonneg_right hx.1 hy.1
  omega

set_option maxHeartbeats 3200000 in
set_option maxRecDepth 100000 in
theorem walk (w : World) (_hL : laidMetH Tryd.prog Rows.fnLinesRow.laid w) (a0 : Option Addr) (cap0 : Nat) (z0 : List Int) (w0 : Bytes w a0 z0) (a1 : Option Addr) (cap1 : Nat) (z1 : List Int) (w1 : Bytes w a1 z1) :
    Calls Tryd.prog 5 #[.slice a0 z0.length cap0, .slice a1 z1.length cap1] w fun e w' => e = .returned (.bool true) ∧ Below w.heap.size w w' := by
  have s0 := w0.small
  have s1 := w1.small
  cases hl : (decide (1048576 < z0.length) || decide (1048576 < z1.length))
  case true =>
    go_enter Tryd.func5, Tryd.ntmps5
    go_wp2_with (go_at_call 11; refine (b10Long_any _ _ _ _ _ _ _ s0 s1).mono ?_; rw [hl]; rintro e w' ⟨rfl, rfl⟩)
    go_ret
    exact ⟨rfl, Below.refl _ _⟩
  have p1 := pickB_bd z0 0 40
  have H1 := Lib.hid (fun W => b10At_any a0 cap0 z0 0 40 W)
  obtain ⟨x0, hx0⟩ : ∃ x0, x0 = pickB z0 0 40 := ⟨_, rfl⟩
  rw [← hx0] at p1 H1
  have hb0 := p1.2 (by omega)
  obtain ⟨den, hden⟩ : ∃ den, den = 1 + x0 := ⟨_, rfl⟩
  have p2 := pickB_bd z0 1 (den + 1)
  have H2 := Lib.hid (fun W => b10At_any a0 cap0 z0 1 (den + 1) W)
  obtain ⟨a, ha⟩ : ∃ a, a = pickB z0 1 (den + 1) := ⟨_, rfl⟩
  rw [← ha] at p2 H2
  have hb1 := p2.2 (by omega)
  have p3 := pickB_bd z0 2 den
  have H3 := Lib.hid (fun W => b10At_any a0 cap0 z0 2 den W)
  obtain ⟨sh, hsh⟩ : ∃ sh, sh = pickB z0 2 den := ⟨_, rfl⟩
  rw [← hsh] at p3 H3
  have hb2 := p3.2 (by omega)
  have p4 := pickB_bd z1 0 40
  have H4 := Lib.hid (fun W => b10At_any a1 cap1 z1 0 40 W)
  obtain ⟨x1, hx1⟩ : ∃ x1, x1 = pickB z1 0 40 := ⟨_, rfl⟩
  rw [← hx1] at p4 H4
  have hb3 := p4.2 (by omega)
  obtain ⟨n, hn⟩ : ∃ n : Nat, 1 + x1 = n := ⟨(1 + x1).toNat, by omega⟩
  have HD := Lib.hid hden
  have hd1 : 1 ≤ den ∧ den ≤ 40 := by omega
  have hn1 : 1 ≤ n ∧ n ≤ 40 := by omega
  have hsum : IntKind.i64.wrap (1 + x0) = den := by rw [hden]; exact IntWalk.i64_in _ (by omega)
  have hsum1 : IntKind.i64.wrap (1 + x1) = (n : Int) := by rw [hn]; exact IntWalk.i64_in _ (by omega)
  clear hden ha hsh hx0 hx1 hn
  have hok : okLn a den sh n = true := by
    unfold okLn
    rw [inB_iff.2 (show (1 : Int) ≤ den ∧ den ≤ 1000 by omega), inB_iff.2 (show (0 : Int) ≤ a ∧ a ≤ den by omega), inB_iff.2 (show (0 : Int) ≤ sh ∧ sh ≤ den - 1 by omega), inB_iff.2 (show (0 : Int) ≤ (n : Int) ∧ (n : Int) ≤ 120 by omega)]; rfl
  have hS : lnS a den sh n = lnW a den sh n := by unfold lnS lnW; rw [hok, if_pos rfl, Int.toNat_natCast]
  have HLW := Lib.hid (fun W => LineWord_any a den sh n W ⟨by omega, by omega⟩ ⟨by omega, by omega⟩ ⟨by omega, by omega⟩ ⟨by omega, by omega⟩)
  rw [hok, hS] at HLW
  have hsz := lnW_size a den sh n
  have hwd := lnW_wd a den sh (n := n) (by omega)
  obtain ⟨p, q, r, t, hsl, c1, c2, bp, bq, br, bt⟩ := lnW_slopes (a := a) (d := den) (s := sh) hd1.1 p2.1 (by omega) p3.1 hb2 (n := n) (by omega) hn1.1
  have HSL := Lib.hid (fun W => SlopesOf_any (lnW a den sh n) W (by omega))
  rw [hsl] at HSL
  have HHT := Lib.hid (fun W => HeightsOf_any (lnW a den sh n) W (by omega))
  have hV : hgtV (lnW a den sh n) = hgtL (lnW a den sh n) n := by unfold hgtV; rw [hwd, if_pos rfl, hsz]
  rw [hwd, hV] at HHT
  have HBA := Lib.hid (fun W => IsBalanced_any (lnW a den sh n) W (by omega))
  rw [lnW_bal (a := a) (d := den) (s := sh) hd1.1 p2.1 (by omega) p3.1 hb2 (n := n) (by omega)] at HBA
  have hlen := hgtL_len (lnW a den sh n) n
  have hat := hgtL_get (lnW a den sh n) n n (Nat.le_refl _)
  rw [lnW_hgt (a := a) (d := den) (s := sh) hd1.1 p2.1 (by omega) p3.1 hb2 n n (Nat.le_refl _)] at hat
  have hm : 0 ≤ (n : Int) * a ∧ (n : Int) * a ≤ 1600 := by
    have e1 : 0 ≤ (n : Int) * a := Int.mul_nonneg (by omega) p2.1
    have e2 : (n : Int) * a ≤ 40 * 40 := Int.mul_le_mul (by omega) (by omega) p2.1 (by omega)
    omega
  have HDF := Lib.hid (fun W => DivFloor_any ((n : Int) * a + sh) den W)
  have hrat : ratio ((n : Int) * a + sh) den = true := ratio_iff.2 (by omega)
  rw [hrat, opt_yes] at HDF
  have V1 : IntKind.i64.wrap ((n : Int) * a) = (n : Int) * a := IntWalk.i64_in _ (by omega)
  have V2 : IntKind.i64.wrap ((n : Int) * a + sh) = (n : Int) * a + sh := IntWalk.i64_in _ (by omega)
  have q1 := mul_bdL (x := p) (y := den) bp (by omega)
  have q2 := mul_bdL (x := q) (y := a) bq (by omega)
  rw [Int.mul_comm q a] at q2
  have q3 := mul_bdL (x := t) (y := a) bt (by omega)
  rw [Int.mul_comm t a] at q3
  have q4 := mul_bdL (x := r) (y := den) br (by omega)
  have V3 : IntKind.i64.wrap (p * den) = p * den := IntWalk.i64_in _ (by omega)
  have V4 : IntKind.i64.wrap (a * q) = a * q := IntWalk.i64_in _ (by omega)
  have V5 : IntKind.i64.wrap (a * t) = a * t := IntWalk.i64_in _ (by omega)
  have V6 : IntKind.i64.wrap (r * den) = r * den := IntWalk.i64_in _ (by omega)
  have HLEN := Lib.hid hlen
  have HAT := Lib.hid hat
  clear hok hS hsl hV hrat hwd q1 q2 q3 q4 hm hlen hat
  have hsz120 : (lnW a den sh n).size ≤ 120 := by omega
  generalize fl ((n : Int) * a + sh) den = F at *
  generalize hgtL (lnW a den sh n) n = L at *
  generalize lnW a den sh n = S at *
  have hLn : L.length = n + 1 := HLEN.out
  have hLb : ((L.length : Int) != (n : Int) + 1) = false := by rw [hLn]; simp
  have hLi : (n : Int) < (L.length : Int) := by omega
  have hl41 : L.length ≤ 41 := by omega
  have HL := Lib.hid hLn
  clear hLn
  go_enter Tryd.func5, Tryd.ntmps5
  go_wp2_with (first | (go_at_call 11; refine (b10Long_any _ _ _ _ _ _ _ s0 s1).mono ?_; rw [hl]; rintro e w' ⟨rfl, rfl⟩) | (go_at_call 18; first | (with_reducible refine (H1.out _ w0 (by omega) (by omega) (by omega) (by omega)).mono ?_; rintro e w' ⟨rfl, rfl⟩) | (with_reducible refine (H2.out _ w0 (by omega) (by omega) (by omega) (by omega)).mono ?_; rintro e w' ⟨rfl, rfl⟩) | (with_reducible refine (H3.out _ w0 (by omega) (by omega) (by omega) (by omega)).mono ?_; rintro e w' ⟨rfl, rfl⟩) | (with_reducible refine (H4.out _ w1 (by omega) (by omega) (by omega) (by omega)).mono ?_; rintro e w' ⟨rfl, rfl⟩)) | (go_at_call 17; refine (HLW.out _).mono ?_; rintro e w2 ⟨rfl, k2⟩) | (go_at_call 13; refine (HSL.out _).mono ?_; rintro e w3 ⟨rfl, k3⟩))
  refine (HHT.out _).mono ?_
  rintro e w4 ⟨rd, rc, rfl, o4, k4⟩
  have I4 := Lib.hid o4.ints
  have K4 : Hid (Keep w w4) := Lib.hid ((k2.next k3).next k4)
  clear o4 k2 k3 k4
  rcases I4.out.at_ with h | ⟨hb, off, rfl, hlt, hc⟩
  · have := HL.out; rw [h] at this; simp at this
  have HC : Hid (∀ W, Keep w4 W → W.cell? ⟨hb, off + n, none⟩ = some (.int .i64 F)) := Lib.hid (fun W k => by
    rw [(k.cell (p := ⟨hb, off + n, none⟩) (by exact hlt)).trans (hc n (by have := HL.out; omega)), HAT.out])
  have hn0 : (0 : Int) ≤ (n : Int) := by omega
  clear hc
  go_wp2_with (first | (go_at_call 19; refine (HDF.out _).mono ?_; rintro e w5 ⟨rfl, rfl⟩) | (go_at_call 15; refine (HBA.out _).mono ?_; rintro e w6 ⟨rfl, k6⟩; have q6 := HC.out w6 (Keep.next (by go_grown) k6)))
  go_ret
  exact ⟨rfl, K4.out.next (Keep.next (by go_grown) k6)⟩

theorem own : ownKnob Tryd.prog.godebug = none := by kernel_rfl
theorem laidOut : laidOutB Tryd.prog = true := by kernel_rfl
set_option maxRecDepth 100000 in
theorem contract (H : Type) (enc : TypeId × Value → H) (W : World) (base : Nat) (args : Array Value) (ds gs : List (DataW H)) (before : List MemPlace)
    (hval0 : ∀ (j : Nat) t v, Tryd.f5.params[j]? = some t → args[j]? = some v → Value.okWide Tryd.prog W .any base t v)
    (hW : DataW.Whole enc Tryd.prog Tryd.f5.params.toList Rows.fnLinesSpec.vars false W args.toList ds gs before) (hL : laidMetH Tryd.prog Rows.fnLinesRow.laid W) :
    Calls Tryd.prog 5 args W fun e W' => ∃ v, e = .returned v ∧ Rows.fnLinesSpec.post enc Tryd.prog Tryd.f5 false true false false W args v W' := by
  have hval : ∀ (j : Nat) t v, Tryd.f5.params[j]? = some t → args[j]? = some v → Value.okWide Tryd.prog W .any base t v := hval0
  have hW' := hW
  obtain ⟨p, q, hA0, hV, rfl, hfz, hnd⟩ := hW
  have hA : DataW.TrodAll enc Tryd.prog W 0 (fun _ => true) true Tryd.f5.params.toList args.toList ds p := hA0
  rw [Tryd.params5] at hA hval
  obtain ⟨v0, vs0, d0, ds0, p0, q0, hargs, rfl, rfl, h0, r0⟩ := trodAll_cons hA
  obtain ⟨v1, vs1, d1, ds1, p1, q1, rfl, rfl, rfl, h1, r1⟩ := trodAll_cons r0
  obtain ⟨rfl, rfl, rfl⟩ := trodAll_nil r1
  obtain rfl : args = #[v0, v1] := by cases args; simp_all
  obtain ⟨rfl, rfl⟩ := trodVars_none hV
  have k0 := h0
  have lt0 : ∀ x ∈ p0, x.block < W.heap.size := by obtain ⟨m, hm⟩ := k0; exact DataW.trod_lt m _ _ _ hm
  obtain ⟨a0, len0, cap0, rfl⟩ := okWide_slice Tryd.underlying25 (hval 0 25 v0 rfl rfl)
  obtain ⟨z0, e0, w0⟩ := bytes_open Tryd.underlying25 Tryd.underlying5 (by kernel_rfl) h0
  subst e0
  have k1 := h1
  have lt1 : ∀ x ∈ p1, x.block < W.heap.size := by obtain ⟨m, hm⟩ := k1; exact DataW.trod_lt m _ _ _ hm
  obtain ⟨a1, len1, cap1, rfl⟩ := okWide_slice Tryd.underlying25 (hval 1 25 v1 rfl rfl)
  obtain ⟨z1, e1, w1⟩ := bytes_open Tryd.underlying25 Tryd.underlying5 (by kernel_rfl) h1
  subst e1
  clear hA0 hval0
  refine (walk W hL a0 cap0 z0 w0 a1 cap1 z1 w1).mono fun e W' ⟨he, bel⟩ => ?_
  subst he
  exact ⟨_, rfl, _, _, _, [], _, [], hW', trodAll_mk1 (shut_bool Tryd.underlying4 _), (trodAll_cons_mk (Below.trod laidOut (by kernel_rfl) (of_decide_eq_true (by kernel_rfl)) k0 bel lt0) (trodAll_cons_mk (Below.trod laidOut (by kernel_rfl) (of_decide_eq_true (by kernel_rfl)) k1 bel lt1) trodAll_mk0)), rfl, bel.frame _, fun h => by cases h⟩
/-- A variable's cells, laid. -/
def layTab (cs : Array Value) : Obj → Obj
  | .cells _ t frozen => .cells cs t frozen
  | o => o
noncomputable def low : Nat := (World.holding Tryd.prog default ⟨#[], #[], []⟩).heap.size
noncomputable def laidWorld (os : Os) : World :=
  { World.holding Tryd.prog os ⟨#[], #[], []⟩ with heap := (((World.holding Tryd.prog os ⟨#[], #[], []⟩).heap.modify 2 (layTab #[.int .u8 128, .int .u8 191, .int .u8 160, .int .u8 191, .int .u8 128, .int .u8 159, .int .u8 144, .int .u8 191, .int .u8 128, .int .u8 143, .int .u8 0, .int .u8 0, .int .u8 0, .int .u8 0, .int .u8 0, .int .u8 0, .int .u8 0, .int .u8 0, .int .u8 0, .int .u8 0, .int .u8 0, .int .u8 0, .int .u8 0, .int .u8 0, .int .u8 0, .int .u8 0, .int .u8 0, .int .u8 0, .int .u8 0, .int .u8 0, .int .u8 0, .int .u8 0])).modify 1 (layTab #[.int .u8 240, .int .u8 240, .int .u8 240, .int .u8 240, .int .u8 240, .int .u8 240, .int .u8 240, .int .u8 240, .int .u8 240, .int .u8 240, .int .u8 240, .int .u8 240, .int .u8 240, .int .u8 240, .int .u8 240, .int .u8 240, .int .u8 240, .int .u8 240, .int .u8 240, .int .u8 240, .int .u8 240, .int .u8 240, .int .u8 240, .int .u8 240, .int .u8 240, .int .u8 240, .int .u8 240, .int .u8 240, .int .u8 240, .int .u8 240, .int .u8 240, .int .u8 240, .int .u8 240, .int .u8 240, .int .u8 240, .int .u8 240, .int .u8 240, .int .u8 240, .int .u8 240, .int .u8 240, .int .u8 240, .int .u8 240, .int .u8 240, .int .u8 240, .int .u8 240, .int .u8 240, .int .u8 240, .int .u8 240, .int .u8 240, .int .u8 240, .int .u8 240, .int .u8 240, .int .u8 240, .int .u8 240, .int .u8 240, .int .u8 240, .int .u8 240, .int .u8 240, .int .u8 240, .int .u8 240, .int .u8 240, .int .u8 240, .int .u8 240, .int .u8 240, .int .u8 240, .int .u8 240, .int .u8 240, .int .u8 240, .int .u8 240, .int .u8 240, .int .u8 240, .int .u8 240, .int .u8 240, .int .u8 240, .int .u8 240, .int .u8 240, .int .u8 240, .int .u8 240, .int .u8 240, .int .u8 240, .int .u8 240, .int .u8 240, .int .u8 240, .int .u8 240, .int .u8 240, .int .u8 240, .int .u8 240, .int .u8 240, .int .u8 240, .int .u8 240, .int .u8 240, .int .u8 240, .int .u8 240, .int .u8 240, .int .u8 240, .int .u8 240, .int .u8 240, .int .u8 240, .int .u8 240, .int .u8 240, .int .u8 240, .int .u8 240, .int .u8 240, .int .u8 240, .int .u8 240, .int .u8 240, .int .u8 240, .int .u8 240, .int .u8 240, .int .u8 240, .int .u8 240, .int .u8 240, .int .u8 240, .int .u8 240, .int .u8 240, .int .u8 240, .int .u8 240, .int .u8 240, .int .u8 240, .int .u8 240, .int .u8 240, .int .u8 240, .int .u8 240, .int .u8 240, .int .u8 240, .int .u8 240, .int .u8 240, .int .u8 240, .int .u8 241, .int .u8 241, .int .u8 241, .int .u8 241, .int .u8 241, .int .u8 241, .int .u8 241, .int .u8 241, .int .u8 241, .int .u8 241, .int .u8 241, .int .u8 241, .int .u8 241, .int .u8 241, .int .u8 241, .int .u8 241, .int .u8 241, .int .u8 241, .int .u8 241, .int .u8 241, .int .u8 241, .int .u8 241, .int .u8 241, .int .u8 241, .int .u8 241, .int .u8 241, .int .u8 241, .int .u8 241, .int .u8 241, .int .u8 241, .int .u8 241, .int .u8 241, .int .u8 241, .int .u8 241, .int .u8 241, .int .u8 241, .int .u8 241, .int .u8 241, .int .u8 241, .int .u8 241, .int .u8 241, .int .u8 241, .int .u8 241, .int .u8 241, .int .u8 241, .int .u8 241, .int .u8 241, .int .u8 241, .int .u8 241, .int .u8 241, .int .u8 241, .int .u8 241, .int .u8 241, .int .u8 241, .int .u8 241, .int .u8 241, .int .u8 241, .int .u8 241, .int .u8 241, .int .u8 241, .int .u8 241, .int .u8 241, .int .u8 241, .int .u8 241, .int .u8 241, .int .u8 241, .int .u8 2, .int .u8 2, .int .u8 2, .int .u8 2, .int .u8 2, .int .u8 2, .int .u8 2, .int .u8 2, .int .u8 2, .int .u8 2, .int .u8 2, .int .u8 2, .int .u8 2, .int .u8 2, .int .u8 2, .int .u8 2, .int .u8 2, .int .u8 2, .int .u8 2, .int .u8 2, .int .u8 2, .int .u8 2, .int .u8 2, .int .u8 2, .int .u8 2, .int .u8 2, .int .u8 2, .int .u8 2, .int .u8 2, .int .u8 2, .int .u8 19, .int .u8 3, .int .u8 3, .int .u8 3, .int .u8 3, .int .u8 3, .int .u8 3, .int .u8 3, .int .u8 3, .int .u8 3, .int .u8 3, .int .u8 3, .int .u8 3, .int .u8 35, .int .u8 3, .int .u8 3, .int .u8 52, .int .u8 4, .int .u8 4, .int .u8 4, .int .u8 68, .int .u8 241, .int .u8 241, .int .u8 241, .int .u8 241, .int .u8 241, .int .u8 241, .int .u8 241, .int .u8 241, .int .u8 241, .int .u8 241, .int .u8 241])) }
theorem laid_met (os : Os) : laidMetH Tryd.prog Rows.fnLinesRow.laid ((laidWorld os).forCall (fun _ _ => 0) ⟨#[], #[.slice none 0 0, .slice none 0 0], []⟩).memory :=
  (laidMet_of_run' 8 (by kernel_rfl) (by kernel_rfl) : laidMet Tryd.prog Rows.fnLinesRow.laid _)
theorem reads (os : Os) {H : Type} (enc : TypeId × Value → H) : ∃ places, DataW.whole enc Tryd.prog ((laidWorld os).forCall (fun _ _ => 0) ⟨#[], #[.slice none 0 0, .slice none 0 0], []⟩).memory Tryd.f5.params.toList Rows.fnLinesSpec.vars false (#[.slice none 0 0, .slice none 0 0] : Array Value).toList 8 = some ([.nil, .nil], [], places) :=
  ⟨[], by kernel_rfl⟩
set_option maxRecDepth 100000 in
theorem lifted (os : Os) (started : os.Started) (H : Type) (enc : TypeId × Value → H) (F : Stop.Interp) :
    ReturnsInHanded {} Tryd.checked os 5 .any ((OpenSpec.ofChange Rows.fnLinesSpec).preRow enc Tryd.prog Tryd.f5 Rows.fnLinesRow.domain false Rows.fnLinesRow.laid) (((OpenSpec.ofChange Rows.fnLinesSpec).at F).post enc Tryd.prog Tryd.f5 false true false false) := by
  obtain ⟨places, hx⟩ := reads os enc
  refine returnsInHanded_of_row (C := Tryd.checked) (s := OpenSpec.ofChange Rows.fnLinesSpec) own started (by kernel_rfl) Tryd.func5
    (witness_row_at (enc := enc) (C := Tryd.checked) false (laidWorld os) #[.slice none 0 0, .slice none 0 0] rfl (by kernel_rfl) (by kernel_rfl) (by kernel_rfl)
      (OpenSpec.preRow_of_cond 8 hx (by kernel_rfl) (fun k hk => by cases hk) (by kernel_rfl) (laid_met os))) ?_
  intro W base args ds gs before hval hW _ _ _ hL hS _
  exact contract H enc W base args ds gs before hval hW hL
theorem said : Rows.FnLinesSaid :=
  OpenClaim.holds_of_cond 5 Tryd.f5 rfl rfl rfl rfl rfl rfl rfl ⟨rfl, rfl, rfl, rfl, rfl⟩ rfl rfl rfl rfl rfl (by kernel_rfl) Tryd.func5 (by kernel_rfl)
    (of_decide_eq_true (by kernel_rfl)) (by unfold Func.isWrapper; first | (rw [if_pos (by decide +kernel)]; kernel_rfl) | (rw [if_neg (by decide +kernel)]; exact ⟨rfl, rfl⟩))
    (fun os started H enc _ F => by rw [OpenClaim.pre_eq_preRow]; exact lifted os started H enc F)
theorem plain (f : FuncId) (fn : Func) (hf : Tryd.pinned.checked.prog.funcNamed "loop.example/g01129/laws.FnLines" = some f) (hfn : Tryd.pinned.checked.prog.funcs[f]? = some fn) :
    false = Tryd.pinned.checked.prog.looks [] ∧ ∀ (j : Nat) t, fn.params[j]? = some t → Tryd.pinned.checked.prog.wantsStandIn t = false := by
  obtain rfl : f = 5 := Option.some.inj ((show Tryd.prog.funcNamed "loop.example/g01129/laws.FnLines" = some 5 by kernel_rfl).symm.trans hf) |>.symm
  obtain rfl : fn = Tryd.f5 := (Option.some.inj (Tryd.func5.symm.trans hfn)).symm
  refine ⟨by kernel_rfl, fun j t ht => ?_⟩
  rw [Tryd.params5] at ht
  have hm := Array.mem_of_getElem? ht
  simp only [List.mem_toArray, List.mem_cons, List.not_mem_nil, or_false] at hm
  rcases hm with rfl | rfl
  · exact (show Tryd.prog.wantsStandIn 25 = false by kernel_rfl)
  · exact (show Tryd.prog.wantsStandIn 25 = false by kernel_rfl)
/-- THE STATEMENT. -/
theorem proved : Rows.FnLinesCardSaid :=
  Claim7.holds_tied_plain_at .later [] _ _ _ _ said (fun _ h => by cases h) (by kernel_rfl) (fun _ h => by cases h) fnLines_row_tie rfl ⟨rfl, rfl⟩ (by kernel_rfl) rfl plain (by kernel_rfl)
end Go.Proofs.YtlkljhncpojlkabDoor.fnLines
