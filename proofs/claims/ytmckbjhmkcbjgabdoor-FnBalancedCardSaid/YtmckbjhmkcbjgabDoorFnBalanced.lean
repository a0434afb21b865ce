/- FnBalanced: a word is balanced exactly if there are possible slopes and a line for it, and the line makes the word with a slope between the ends: at all bytes. -/
import Derived.Test.YtmckbjhmkcbjgabDoorCards
import Derived.Test.YtmckbjhmkcbjgabDoorTie
import Derived.Test.YtmckbjhmkcbjgabDoorFb7
import Derived.Test.YtmckbjhmkcbjgabDoorBw7
import Derived.Test.YtmckbjhmkcbjgabDoorBten
import Derived.Deep.LoopGhost
import Derived.Deep.RegionHeld3
import Derived.BigQuiet
import Derived.Deep.DeepHandedRow
import Derived.Deep.DeepWitnessRowRef
import Derived.LaidLaws
import Derived.LaidHandle
namespace Go.Proofs.YtmckbjhmkcbjgabDoor.fnBalanced
open Go.ChangeShapes Go.WideShapes Go.ChangeAt Go.RowKit Go.Deep
open Go.ChangeMaps (open_string shut_string)
set_option linter.unusedVariables false
def ab8 (n : Int) : Int := if n < 0 then -n else n
theorem b10Abs_any (n : Int) (w : World) (h : -1000 ≤ n ∧ n ≤ 1000) :
    Calls Tryd.prog 11 #[.int .i64 n] w fun e w' => e = .returned (.int .i64 (ab8 n)) ∧ w = w' := by
  by_cases h0 : n < 0
  · rw [show ab8 n = -n from by unfold ab8; rw [if_pos h0]]
    exact b10Abs_neg n w (by omega) (by omega)
  · rw [show ab8 n = n from by unfold ab8; rw [if_neg h0]]
    exact b10Abs_pos n w (by omega)
theorem mul_b8 {x y : Int} (hx : -300 ≤ x ∧ x ≤ 300) (hy : 0 ≤ y ∧ y ≤ 300) : -90000 ≤ x * y ∧ x * y ≤ 90000 := by
  have e1 : x * y ≤ 300 * y := Int.mul_le_mul_of_nonneg_right hx.2 hy.1
  have e2 : (-300) * y ≤ x * y := Int.mul_le_mul_of_nonneg_right hx.1 hy.1
  omega
theorem ab8_le (n : Int) : decide (ab8 n ≤ 1) = decide (-1 ≤ n ∧ n ≤ 1) := by
  rw [decide_eq_decide]; unfold ab8; split <;> omega
set_option maxHeartbeats 6400000 in
set_option maxRecDepth 100000 in
theorem walk (w : World) (_hL : laidMetH Tryd.prog Rows.fnBalancedRow.laid w) (a0 : Option Addr) (cap0 : Nat) (z0 : List Int) (w0 : Bytes w a0 z0) (a1 : Option Addr) (cap1 : Nat) (z1 : List Int) (w1 : Bytes w a1 z1) :
    Calls Tryd.prog 3 #[.slice a0 z0.length cap0, .slice a1 z1.length cap1] w fun e w' => e = .returned (.bool true) ∧ Below w.heap.size w w' := by
  have s0 := w0.small
  have s1 := w1.small
  cases hl : (decide (1048576 < z0.length) || decide (1048576 < z1.length))
  case true =>
    go_enter Tryd.func3, Tryd.ntmps3
    go_wp2_with (go_at_call 5; refine (b10Long_any _ _ _ _ _ _ _ s0 s1).mono ?_; rw [hl]; rintro e w' ⟨rfl, rfl⟩)
    go_ret
    exact ⟨rfl, Below.refl _ _⟩
  go_enter Tryd.func3, Tryd.ntmps3
  go_wp2_with (first | (go_at_call 5; refine (b10Long_any _ _ _ _ _ _ _ s0 s1).mono ?_; rw [hl]; rintro e w' ⟨rfl, rfl⟩))
  refine (B10Word_any a0 cap0 z0 w w0).mono ?_
  rintro e w2 ⟨s, rfl, hw, n1, n23, k2⟩
  have K2 := Lib.hid k2
  clear k2
  obtain ⟨p, q, r, t, x, y, z, hsl, hlf, ⟨bp, bq, br, bt, bx, by_, bz⟩, hyes⟩ := fb_all hw n1
  have hbal := okN_bal hw
  have HSL := Lib.hid (fun W => SlopesOf_any s W (by omega))
  rw [hsl] at HSL
  have HLF := Lib.hid (fun W => LineFor_any s W (by omega))
  rw [hlf] at HLF
  have HHT := Lib.hid (fun W => HeightsOf_any s W (by omega))
  have hV : hgtV s = hgtL s s.size := by unfold hgtV; rw [hw, if_pos rfl]
  rw [hw, hV] at HHT
  have HBA := Lib.hid (fun W => IsBalanced_any s W (by omega))
  have HLW := Lib.hid (fun W => LineWord_any x y z s.size W ⟨by omega, by omega⟩ ⟨by omega, by omega⟩ ⟨by omega, by omega⟩ ⟨by omega, by omega⟩)
  have HGT := Lib.hid (fun j (h : j ≤ s.size) => hgtL_get s s.size j h)
  have hlen := hgtL_len s s.size
  have HHB := Lib.hid (hgt_bd hw)
  have HYES := Lib.hid hyes
  have HBAL := Lib.hid hbal
  have HB0 : Hid (okN s 0 = true) := Lib.hid (by simp [okN])
  have HI0 : Hid (∀ n, okI s n 0 = true) := Lib.hid (fun n => by simp [okI])
  have HK0 : Hid (∀ n i, okK s n i 0 = true) := Lib.hid (fun n i => by simp [okK])
  have HKS := Lib.hid (fun n i k => okK_succ s n i k)
  have HIS := Lib.hid (fun n i => okI_succ s n i)
  have HNS := Lib.hid (fun n => okN_succ s n)
  have HD4 : Hid (∀ n i k, d4 s n i k = hgt s (i + n) - hgt s i - hgt s (k + n) + hgt s k) := Lib.hid (fun n i k => rfl)
  clear hsl hlf hyes hbal hV hw
  generalize hgtL s s.size = L at *
  generalize balB s = B at *
  have HL := Lib.hid hlen
  have hLb : ((L.length : Int) != (s.size : Int) + 1) = false := by rw [hlen]; simp
  have hl24 : L.length ≤ 24 := by omega
  clear hlen
  go_wp2_with (first | (go_at_call 7; refine (HSL.out _).mono ?_; rintro e w3 ⟨rfl, k3⟩) | (go_at_call 8; refine (HLF.out _).mono ?_; rintro e w4 ⟨rfl, k4⟩))
  refine (HHT.out _).mono ?_
  rintro e w5 ⟨rd, rc, rfl, o5, k5⟩
  have I5 := Lib.hid o5.ints
  have K5 : Hid (Keep w w5) := Lib.hid (((K2.out.next k3).next k4).next k5)
  clear o5 k3 k4 k5
  rcases I5.out.at_ with h | ⟨hb, off, rfl, hlt, hc⟩
  · have := HL.out; rw [h] at this; simp at this
  go_wp2_with fail
  refine (HBA.out _).mono ?_
  rintro e w6 ⟨rfl, k6⟩
  have HC : Hid (∀ W, Keep w6 W → ∀ j, j ≤ s.size → W.cell? ⟨hb, off + j, none⟩ = some (.int .i64 (hgt s j))) := Lib.hid (fun W k j hj => by
    have k2 := Keep.next k6 k
    rw [(k2.cell (p := ⟨hb, off + j, none⟩) (by exact hlt)).trans (hc j (by have := HL.out; omega)), HGT.out j hj])
  have K6 : Hid (Keep w w6) := Lib.hid (K5.out.next k6)
  clear hc k6 hlt
  go_wp2
  go_loopg [18, 19, 20, 21] s.size (fun kk fl n _ _ wr => ∃ t : Nat, t ≤ s.size ∧ kk = s.size - t ∧ n = .int .i64 ((t : Int) + 1) ∧ fl = .bool (okN s t) ∧ Hid (Keep w6 wr))
  case atStart => exact ⟨0, Nat.zero_le _, rfl, rfl, congrArg Value.bool HB0.out.symm, Lib.hid (Below.refl _ _)⟩
  case round =>
    obtain ⟨m, hm, rfl, rfl, rfl, HK⟩ := hrel
    by_cases hmt : m < s.size
    · have hmi : (m : Int) + 1 ≤ (s.size : Int) := by omega
      have HNN := Lib.hid (HNS.out m)
      have HFI := Lib.hid (HI0.out (m + 1))
      generalize okN s m = b1 at *
      go_wp2
      go_loopg [18, 20, 21] (s.size - m) (fun kk fl i _ wr => ∃ a : Nat, a ≤ s.size - m ∧ kk = s.size - m - a ∧ i = .int .i64 a ∧ fl = .bool (b1 && okI s (m + 1) a) ∧ Hid (Keep w6 wr))
      case atStart => exact ⟨0, Nat.zero_le _, rfl, rfl, by rw [HFI.out, Bool.and_true], HK⟩
      case round =>
        obtain ⟨a, ha, rfl, rfl, rfl, HK2⟩ := hrel
        have V1 : IntKind.i64.wrap ((a : Int) + ((m : Int) + 1)) = (a : Int) + ((m : Int) + 1) := IntWalk.i64_in _ (by omega)
        by_cases hat : a < s.size - m
        · have hai : (a : Int) + ((m : Int) + 1) ≤ (s.size : Int) := by omega
          have HII := Lib.hid (HIS.out (m + 1) a)
          have HKI := Lib.hid (HK0.out (m + 1) a)
          generalize okI s (m + 1) a = b2 at *
          go_wp2
          go_loopg [18, 21] a (fun kk fl k wr => ∃ c : Nat, c ≤ a ∧ kk = a - c ∧ k = .int .i64 c ∧ fl = .bool (b1 && (b2 && okK s (m + 1) a c)) ∧ Hid (Keep w6 wr))
          case atStart => exact ⟨0, Nat.zero_le _, rfl, rfl, by rw [HKI.out, Bool.and_true], HK2⟩
          case round =>
            obtain ⟨c, hc, rfl, rfl, rfl, HK3⟩ := hrel
            by_cases hca : c < a
            · have hci : (c : Int) < (a : Int) := by omega
              have V2 : IntKind.i64.wrap ((c : Int) + ((m : Int) + 1)) = (c : Int) + ((m : Int) + 1) := IntWalk.i64_in _ (by omega)
              have HKK := Lib.hid (HKS.out (m + 1) a c)
              have HDD := Lib.hid (HD4.out (m + 1) a c)
              have q1 := HC.out wr HK3.out (a + (m + 1)) (by omega)
              have q2 := HC.out wr HK3.out a (by omega)
              have q3 := HC.out wr HK3.out (c + (m + 1)) (by omega)
              have q4 := HC.out wr HK3.out c (by omega)
              have e1 := HHB.out (a + (m + 1)) (by omega)
              have e2 := HHB.out a (by omega)
              have e3 := HHB.out (c + (m + 1)) (by omega)
              have e4 := HHB.out c (by omega)
              have i1 : ((a : Int) + ((m : Int) + 1)).toNat = a + (m + 1) := by omega
              have i2 : ((c : Int) + ((m : Int) + 1)).toNat = c + (m + 1) := by omega
              have j1 : (a : Int) + ((m : Int) + 1) < (L.length : Int) := by have := HL.out; omega
              have j2 : (c : Int) + ((m : Int) + 1) < (L.length : Int) := by have := HL.out; omega
              have j3 : (a : Int) < (L.length : Int) := by omega
              have j4 : (c : Int) < (L.length : Int) := by omega
              have j5 : (0 : Int) ≤ (a : Int) + ((m : Int) + 1) := by omega
              have j6 : (0 : Int) ≤ (c : Int) + ((m : Int) + 1) := by omega
              generalize okK s (m + 1) a c = b3 at *
              generalize hg1 : hgt s (a + (m + 1)) = g1 at *
              generalize hg2 : hgt s a = g2 at *
              generalize hg3 : hgt s (c + (m + 1)) = g3 at *
              generalize hg4 : hgt s c = g4 at *
              clear hg1 hg2 hg3 hg4
              have U1 : IntKind.i64.wrap (g1 - g2) = g1 - g2 := IntWalk.i64_in _ (by omega)
              have U2 : IntKind.i64.wrap (g1 - g2 - g3) = g1 - g2 - g3 := IntWalk.i64_in _ (by omega)
              have U3 : IntKind.i64.wrap (g1 - g2 - g3 + g4) = g1 - g2 - g3 + g4 := IntWalk.i64_in _ (by omega)
              have HAB := Lib.hid (fun W => b10Abs_any (g1 - g2 - g3 + g4) W (by omega))
              have HAL : Hid (decide (ab8 (g1 - g2 - g3 + g4) ≤ 1) = decide (-1 ≤ d4 s (m + 1) a c ∧ d4 s (m + 1) a c ≤ 1)) := Lib.hid (by rw [HDD.out]; exact ab8_le _)
              generalize ab8 (g1 - g2 - g3 + g4) = A at *
              by_cases hb : (b1 && (b2 && b3)) = true
              · have HNX : Hid (∀ u : Bool, u = decide (A ≤ 1) → u = (b1 && (b2 && okK s (m + 1) a (c + 1)))) := Lib.hid (fun u hu => by
                  rw [HKK.out, hu, HAL.out]
                  simp only [Bool.and_eq_true] at hb
                  rw [hb.1, hb.2.1, hb.2.2]; simp)
                have HBB := Lib.hid hb
                generalize hbb : (b1 && (b2 && b3)) = bb at *
                subst hb
                clear hbb
                go_wp2
                go_quiet ((go_at_call 11; exact Calls.quiet_of_same ((HAB.out _).mono fun _ _ h => ⟨h.1, h.2.symm⟩)))
                go_wp2
                go_roundg (a - (c + 1))
                case measure => omega
                case rel => exact ⟨c + 1, by omega, by omega, by go_num, congrArg Value.bool (HNX.out _ rfl), Lib.hid (below_drewN HK3.out _)⟩
              · have hb' : (b1 && (b2 && b3)) = false := by simpa using hb
                have HNX : Hid (false = (b1 && (b2 && okK s (m + 1) a (c + 1)))) := Lib.hid (by
                  rw [HKK.out, ← Bool.and_assoc, ← Bool.and_assoc]
                  rw [← Bool.and_assoc] at hb'
                  rw [hb']; rfl)
                clear hb
                generalize hbb : (b1 && (b2 && b3)) = bb at *
                subst hb'
                clear hbb
                go_wp2
                go_quiet (fail)
                go_wp2
                go_roundg (a - (c + 1))
                case measure => omega
                case rel => exact ⟨c + 1, by omega, by omega, by go_num, congrArg Value.bool HNX.out, Lib.hid (below_drewN HK3.out _)⟩
            · have hce : c = a := by omega
              have HCE := Lib.hid hce
              have hci : ¬ (c : Int) < (a : Int) := by omega
              clear hce
              go_wp2
              go_roundg (s.size - m - (a + 1))
              case measure => omega
              case rel => exact ⟨a + 1, by omega, by omega, by go_num, congrArg Value.bool (by rw [HII.out, HCE.out]), HK3⟩
        · have hae : a = s.size - m := by omega
          have HAE := Lib.hid hae
          have hai : ¬ (a : Int) + ((m : Int) + 1) ≤ (s.size : Int) := by omega
          clear hae
          go_wp2
          go_roundg (s.size - (m + 1))
          case measure => omega
          case rel => exact ⟨m + 1, by omega, by omega, by go_num, congrArg Value.bool (by rw [HNN.out, HAE.out]), HK2⟩
    · have hme : m = s.size := by omega
      have hmi : ¬ (m : Int) + 1 ≤ (s.size : Int) := by omega
      have HFL : Hid (okN s m = B) := Lib.hid (by rw [hme]; exact HBAL.out)
      rw [HFL.out]
      clear hme
      cases hB : B
      · go_wp2
        go_ret
        exact ⟨rfl, K6.out.next HK.out⟩
      · subst hB
        obtain ⟨f1, f2, f3, f4, f5, f6⟩ := HYES.out rfl
        rw [f1, f2] at HLW
        have m1 := mul_b8 (x := p) (y := y) bp by_
        have m2 := mul_b8 (x := q) (y := x) bq bx
        rw [Int.mul_comm q x] at m2
        have m3 := mul_b8 (x := t) (y := x) bt bx
        rw [Int.mul_comm t x] at m3
        have m4 := mul_b8 (x := r) (y := y) br by_
        have U1 : IntKind.i64.wrap (p * y) = p * y := IntWalk.i64_in _ (by omega)
        have U2 : IntKind.i64.wrap (x * q) = x * q := IntWalk.i64_in _ (by omega)
        have U3 : IntKind.i64.wrap (x * t) = x * t := IntWalk.i64_in _ (by omega)
        have U4 : IntKind.i64.wrap (r * y) = r * y := IntWalk.i64_in _ (by omega)
        clear m1 m2 m3 m4
        go_wp2_with (go_at_call 12; refine (HLW.out _).mono ?_; rintro e w7 ⟨rfl, k7⟩)
        go_ret
        exact ⟨rfl, (K6.out.next HK.out).next k7⟩

theorem own : ownKnob Tryd.prog.godebug = none := by kernel_rfl
theorem laidOut : laidOutB Tryd.prog = true := by kernel_rfl
set_option maxRecDepth 100000 in
theorem contract (H : Type) (enc : TypeId × Value → H) (W : World) (base : Nat) (args : Array Value) (ds gs : List (DataW H)) (before : List MemPlace)
    (hval0 : ∀ (j : Nat) t v, Tryd.f3.params[j]? = some t → args[j]? = some v → Value.okWide Tryd.prog W .any base t v)
    (hW : DataW.Whole enc Tryd.prog Tryd.f3.params.toList Rows.fnBalancedSpec.vars false W args.toList ds gs before) (hL : laidMetH Tryd.prog Rows.fnBalancedRow.laid W) :
    Calls Tryd.prog 3 args W fun e W' => ∃ v, e = .returned v ∧ Rows.fnBalancedSpec.post enc Tryd.prog Tryd.f3 false true false false W args v W' := by
  have hval : ∀ (j : Nat) t v, Tryd.f3.params[j]? = some t → args[j]? = some v → Value.okWide Tryd.prog W .any base t v := hval0
  have hW' := hW
  obtain ⟨p, q, hA0, hV, rfl, hfz, hnd⟩ := hW
  have hA : DataW.TrodAll enc Tryd.prog W 0 (fun _ => true) true Tryd.f3.params.toList args.toList ds p := hA0
  rw [Tryd.params3] at hA hval
  obtain ⟨v0, vs0, d0, ds0, p0, q0, hargs, rfl, rfl, h0, r0⟩ := trodAll_cons hA
  obtain ⟨v1, vs1, d1, ds1, p1, q1, rfl, rfl, rfl, h1, r1⟩ := trodAll_cons r0
  obtain ⟨rfl, rfl, rfl⟩ := trodAll_nil r1
  obtain rfl : args = #[v0, v1] := by cases args; simp_all
  obtain ⟨rfl, rfl⟩ := trodVars_none hV
  have k0 := h0
  have lt0 : ∀ x ∈ p0, x.block < W.heap.size := by obtain ⟨m, hm⟩ := k0; exact DataW.trod_lt m _ _ _ hm
  obtain ⟨a0, len0, cap0, rfl⟩ := okWide_slice Tryd.underlying22 (hval 0 22 v0 rfl rfl)
  obtain ⟨z0, e0, w0⟩ := bytes_open Tryd.underlying22 Tryd.underlying5 (by kernel_rfl) h0
  subst e0
  have k1 := h1
  have lt1 : ∀ x ∈ p1, x.block < W.heap.size := by obtain ⟨m, hm⟩ := k1; exact DataW.trod_lt m _ _ _ hm
  obtain ⟨a1, len1, cap1, rfl⟩ := okWide_slice Tryd.underlying22 (hval 1 22 v1 rfl rfl)
  obtain ⟨z1, e1, w1⟩ := bytes_open Tryd.underlying22 Tryd.underlying5 (by kernel_rfl) h1
  subst e1
  clear hA0 hval0
  refine (walk W hL a0 cap0 z0 w0 a1 cap1 z1 w1).mono fun e W' ⟨he, bel⟩ => ?_
  subst he
  exact ⟨_, rfl, _, _, _, [], _, [], hW', trodAll_mk1 (shut_bool Tryd.underlying4 _), (trodAll_cons_mk (Below.trod laidOut (by kernel_rfl) (of_decide_eq_true (by kernel_rfl)) k0 bel lt0) (trodAll_cons_mk (Below.trod laidOut (by kernel_rfl) (of_decide_eq_true (by kernel_rfl)) k1 bel lt1) trodAll_mk0)), rfl, bel.frame _, fun h => by cases h⟩
/-- A variable's cells, laid. -/
def layTab (cs : Array Value) : Obj → Obj
  | .cells _ t frozen => .cells cs t frozen
  | o => o
noncomputable def low : Nat := (World.holding Tryd.prog default ⟨#[], #[], []⟩).heap.size
noncomputable def laidWorld (os : Os) : World :=
  { World.holding Tryd.prog os ⟨#[], #[], []⟩ with heap := (((World.holding Tryd.prog os ⟨#[], #[], []⟩).heap.modify 2 (layTab #[.int .u8 128, .int .u8 191, .int .u8 160, .int .u8 191, .int .u8 128, .int .u8 159, .int .u8 144, .int .u8 191, .int .u8 128, .int .u8 143, .int .u8 0, .int .u8 0, .int .u8 0, .int .u8 0, .int .u8 0, .int .u8 0, .int .u8 0, .int .u8 0, .int .u8 0, .int .u8 0, .int .u8 0, .int .u8 0, .int .u8 0, .int .u8 0, .int .u8 0, .int .u8 0, .int .u8 0, .int .u8 0, .int .u8 0, .int .u8 0, .int .u8 0, .int .u8 0])).modify 1 (layTab #[.int .u8 240, .int .u8 240, .int .u8 240, .int .u8 240, .int .u8 240, .int .u8 240, .int .u8 240, .int .u8 240, .int .u8 240, .int .u8 240, .int .u8 240, .int .u8 240, .int .u8 240, .int .u8 240, .int .u8 240, .int .u8 240, .int .u8 240, .int .u8 240, .int .u8 240, .int .u8 240, .int .u8 240, .int .u8 240, .int .u8 240, .int .u8 240, .int .u8 240, .int .u8 240, .int .u8 240, .int .u8 240, .int .u8 240, .int .u8 240, .int .u8 240, .int .u8 240, .int .u8 240, .int .u8 240, .int .u8 240, .int .u8 240, .int .u8 240, .int .u8 240, .int .u8 240, .int .u8 240, .int .u8 240, .int .u8 240, .int .u8 240, .int .u8 240, .int .u8 240, .int .u8 240, .int .u8 240, .int .u8 240, .int .u8 240, .int .u8 240, .int .u8 240, .int .u8 240, .int .u8 240, .int .u8 240, .int .u8 240, .int .u8 240, .int .u8 240, .int .u8 240, .int .u8 240, .int .u8 240, .int .u8 240, .int .u8 240, .int .u8 240, .int .u8 240, .int .u8 240, .int .u8 240, .int .u8 240, .int .u8 240, .int .u8 240, .int .u8 240, .int .u8 240, .int .u8 240, .int .u8 240, .int .u8 240, .int .u8 240, .int .u8 240, .int .u8 240, .int .u8 240, .int .u8 240, .int .u8 240, .int .u8 240, .int .u8 240, .int .u8 240, .int .u8 240, .int .u8 240, .int .u8 240, .int .u8 240, .int .u8 240, .int .u8 240, .int .u8 240, .int .u8 240, .int .u8 240, .int .u8 240, .int .u8 240, .int .u8 240, .int .u8 240, .int .u8 240, .int .u8 240, .int .u8 240, .int .u8 240, .int .u8 240, .int .u8 240, .int .u8 240, .int .u8 240, .int .u8 240, .int .u8 240, .int .u8 240, .int .u8 240, .int .u8 240, .int .u8 240, .int .u8 240, .int .u8 240, .int .u8 240, .int .u8 240, .int .u8 240, .int .u8 240, .int .u8 240, .int .u8 240, .int .u8 240, .int .u8 240, .int .u8 240, .int .u8 240, .int .u8 240, .int .u8 240, .int .u8 240, .int .u8 240, .int .u8 240, .int .u8 240, .int .u8 241, .int .u8 241, .int .u8 241, .int .u8 241, .int .u8 241, .int .u8 241, .int .u8 241, .int .u8 241, .int .u8 241, .int .u8 241, .int .u8 241, .int .u8 241, .int .u8 241, .int .u8 241, .int .u8 241, .int .u8 241, .int .u8 241, .int .u8 241, .int .u8 241, .int .u8 241, .int .u8 241, .int .u8 241, .int .u8 241, .int .u8 241, .int .u8 241, .int .u8 241, .int .u8 241, .int .u8 241, .int .u8 241, .int .u8 241, .int .u8 241, .int .u8 241, .int .u8 241, .int .u8 241, .int .u8 241, .int .u8 241, .int .u8 241, .int .u8 241, .int .u8 241, .int .u8 241, .int .u8 241, .int .u8 241, .int .u8 241, .int .u8 241, .int .u8 241, .int .u8 241, .int .u8 241, .int .u8 241, .int .u8 241, .int .u8 241, .int .u8 241, .int .u8 241, .int .u8 241, .int .u8 241, .int .u8 241, .int .u8 241, .int .u8 241, .int .u8 241, .int .u8 241, .int .u8 241, .int .u8 241, .int .u8 241, .int .u8 241, .int .u8 241, .int .u8 241, .int .u8 241, .int .u8 2, .int .u8 2, .int .u8 2, .int .u8 2, .int .u8 2, .int .u8 2, .int .u8 2, .int .u8 2, .int .u8 2, .int .u8 2, .int .u8 2, .int .u8 2, .int .u8 2, .int .u8 2, .int .u8 2, .int .u8 2, .int .u8 2, .int .u8 2, .int .u8 2, .int .u8 2, .int .u8 2, .int .u8 2, .int .u8 2, .int .u8 2, .int .u8 2, .int .u8 2, .int .u8 2, .int .u8 2, .int .u8 2, .int .u8 2, .int .u8 19, .int .u8 3, .int .u8 3, .int .u8 3, .int .u8 3, .int .u8 3, .int .u8 3, .int .u8 3, .int .u8 3, .int .u8 3, .int .u8 3, .int .u8 3, .int .u8 3, .int .u8 35, .int .u8 3, .int .u8 3, .int .u8 52, .int .u8 4, .int .u8 4, .int .u8 4, .int .u8 68, .int .u8 241, .int .u8 241, .int .u8 241, .int .u8 241, .int .u8 241, .int .u8 241, .int .u8 241, .int .u8 241, .int .u8 241, .int .u8 241, .int .u8 241])) }
theorem laid_met (os : Os) : laidMetH Tryd.prog Rows.fnBalancedRow.laid ((laidWorld os).forCall (fun _ _ => 0) ⟨#[], #[.slice none 0 0, .slice none 0 0], []⟩).memory :=
  (laidMet_of_run' 8 (by kernel_rfl) (by kernel_rfl) : laidMet Tryd.prog Rows.fnBalancedRow.laid _)
theorem reads (os : Os) {H : Type} (enc : TypeId × Value → H) : ∃ places, DataW.whole enc Tryd.prog ((laidWorld os).forCall (fun _ _ => 0) ⟨#[], #[.slice none 0 0, .slice none 0 0], []⟩).memory Tryd.f3.params.toList Rows.fnBalancedSpec.vars false (#[.slice none 0 0, .slice none 0 0] : Array Value).toList 8 = some ([.nil, .nil], [], places) :=
  ⟨[], by kernel_rfl⟩
set_option maxRecDepth 100000 in
theorem lifted (os : Os) (started : os.Started) (H : Type) (enc : TypeId × Value → H) (F : Stop.Interp) :
    ReturnsInHanded {} Tryd.checked os 3 .any ((OpenSpec.ofChange Rows.fnBalancedSpec).preRow enc Tryd.prog Tryd.f3 Rows.fnBalancedRow.domain false Rows.fnBalancedRow.laid) (((OpenSpec.ofChange Rows.fnBalancedSpec).at F).post enc Tryd.prog Tryd.f3 false true false false) := by
  obtain ⟨places, hx⟩ := reads os enc
  refine returnsInHanded_of_row (C := Tryd.checked) (s := OpenSpec.ofChange Rows.fnBalancedSpec) own started (by kernel_rfl) Tryd.func3
    (witness_row_at (enc := enc) (C := Tryd.checked) false (laidWorld os) #[.slice none 0 0, .slice none 0 0] rfl (by kernel_rfl) (by kernel_rfl) (by kernel_rfl)
      (OpenSpec.preRow_of_cond 8 hx (by kernel_rfl) (fun k hk => by cases hk) (by kernel_rfl) (laid_met os))) ?_
  intro W base args ds gs before hval hW _ _ _ hL hS _
  exact contract H enc W base args ds gs before hval hW hL
theorem said : Rows.FnBalancedSaid :=
  OpenClaim.holds_of_cond 3 Tryd.f3 rfl rfl rfl rfl rfl rfl rfl ⟨rfl, rfl, rfl, rfl, rfl⟩ rfl rfl rfl rfl rfl (by kernel_rfl) Tryd.func3 (by kernel_rfl)
    (of_decide_eq_true (by kernel_rfl)) (by unfold Func.isWrapper; first | (rw [if_pos (by decide +kernel)]; kernel_rfl) | (rw [if_neg (by decide +kernel)]; exact ⟨rfl, rfl⟩))
    (fun os started H enc _ F => by rw [OpenClaim.pre_eq_preRow]; exact lifted os started H enc F)
theorem plain (f : FuncId) (fn : Func) (hf : Tryd.pinned.checked.prog.funcNamed "loop.example/g01129/laws.FnBalanced" = some f) (hfn : Tryd.pinned.checked.prog.funcs[f]? = some fn) :
    false = Tryd.pinned.checked.prog.looks [] ∧ ∀ (j : Nat) t, fn.params[j]? = some t → Tryd.pinned.checked.prog.wantsStandIn t = false := by
  obtain rfl : f = 3 := Option.some.inj ((show Tryd.prog.funcNamed "loop.example/g01129/laws.FnBalanced" = some 3 by kernel_rfl).symm.trans hf) |>.symm
  obtain rfl : fn = Tryd.f3 := (Option.some.inj (Tryd.func3.symm.trans hfn)).symm
  refine ⟨by kernel_rfl, fun j t ht => ?_⟩
  rw [Tryd.params3] at ht
  have hm := Array.mem_of_getElem? ht
  simp only [List.mem_toArray, List.mem_cons, List.not_mem_nil, or_false] at hm
  rcases hm with rfl | rfl
  · exact (show Tryd.prog.wantsStandIn 22 = false by kernel_rfl)
  · exact (show Tryd.prog.wantsStandIn 22 = false by kernel_rfl)
/-- THE STATEMENT. -/
theorem proved : Rows.FnBalancedCardSaid :=
  Claim7.holds_tied_plain_at .later [] _ _ _ _ said (fun _ h => by cases h) (by kernel_rfl) (fun _ h => by cases h) fnBalanced_row_tie rfl ⟨rfl, rfl⟩ (by kernel_rfl) rfl plain (by kernel_rfl)
end Go.Proofs.YtmckbjhmkcbjgabDoor.fnBalanced
