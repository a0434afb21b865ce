/- FnBalancedCount: there are as many balanced words of at most 9 letters as are told: at all bytes. -/
import Derived.Test.YtlkljhncpojlkabDoorCards
import Derived.Test.YtlkljhncpojlkabDoorTie
import Derived.Test.YtlkljhncpojlkabDoorCn7
import Derived.Test.YtlkljhncpojlkabDoorCb7
import Derived.Test.YtlkljhncpojlkabDoorBten
import Derived.Test.YtlkljhncpojlkabDoorWord
import Derived.WalkSmall
import Derived.Deep.RegionHeld3
import Derived.Deep.DeepHandedRow
import Derived.Deep.DeepWitnessRowRef
import Derived.LaidLaws
import Derived.LaidHandle
namespace Go.Proofs.YtlkljhncpojlkabDoor.fnBalancedCount
open Go.ChangeShapes Go.WideShapes Go.ChangeAt Go.RowKit Go.Deep
open Go.ChangeMaps (open_string shut_string)
set_option linter.unusedVariables false
theorem and_one_i64 (a : Nat) (ha : a < 9223372036854775808) : bits BinOp.and IntKind.i64 (a : Int) 1 = ((a % 2 : Nat) : Int) := by
  have h1 : (BitVec.ofInt 64 (a : Int)).toNat = a := by
    rw [BitVec.ofInt_natCast, BitVec.toNat_ofNat]; exact Nat.mod_eq_of_lt (by omega)
  have h2 : (BitVec.ofInt 64 (1 : Int)).toNat = 1 := by decide
  show IntKind.i64.wrap ((BitVec.ofInt 64 (a : Int) &&& BitVec.ofInt 64 (1 : Int)).toNat : Int) = _
  rw [BitVec.toNat_and, h1, h2, Nat.and_one_is_mod]
  exact IntWalk.i64_in _ (by omega)
theorem countP_succ (P : Nat → Bool) (k : Nat) : (List.range (k + 1)).countP P = (List.range k).countP P + (if P k = true then 1 else 0) := by
  rw [List.range_succ, List.countP_append]; simp [List.countP_cons]
theorem pow_cast (n : Nat) : ((2 : Int) ^ n) = ((2 ^ n : Nat) : Int) := by norm_cast

set_option maxHeartbeats 3200000 in
set_option maxRecDepth 100000 in
theorem walk (w : World) (_hL : laidMetH Tryd.prog Rows.fnBalancedCountRow.laid w) (a0 : Option Addr) (cap0 : Nat) (z0 : List Int) (w0 : Bytes w a0 z0) (a1 : Option Addr) (cap1 : Nat) (z1 : List Int) (w1 : Bytes w a1 z1) :
    Calls Tryd.prog 8 #[.slice a0 z0.length cap0, .slice a1 z1.length cap1] w fun e w' => e = .returned (.bool true) ∧ Below w.heap.size w w' := by
  have s0 := w0.small
  have s1 := w1.small
  cases hl : (decide (1048576 < z0.length) || decide (1048576 < z1.length))
  case true =>
    go_enter Tryd.func8, Tryd.ntmps8
    go_wp2_with (go_at_call 11; refine (b10Long_any _ _ _ _ _ _ _ s0 s1).mono ?_; rw [hl]; rintro e w' ⟨rfl, rfl⟩)
    go_ret
    exact ⟨rfl, Below.refl _ _⟩
  have hpb := pickB_bd z0 0 10
  obtain ⟨n, hn⟩ : ∃ n : Nat, pickB z0 0 10 = n := ⟨(pickB z0 0 10).toNat, by omega⟩
  have hn9 : n ≤ 9 := by have := hpb.2 (by omega); omega
  have HN := Lib.hid hn
  clear hn hpb
  have HCB := Lib.hid (fun W => CountBalanced_any (n : Int) W ⟨by omega, by omega⟩)
  have hcb : cbB (n : Int) = true := inB_iff.2 ⟨by omega, by omega⟩
  rw [hcb, cbV_len (by omega), ← bit_count hn9] at HCB
  have HP := Lib.hid (pow_cast n)
  have hpw : 2 ^ n ≤ 512 := by
    have : 2 ^ n ≤ 2 ^ 9 := Nat.pow_le_pow_right (by omega) hn9
    omega
  obtain ⟨P, hP⟩ : ∃ P : Nat → Bool, P = fun b => balB (strOfNums (bitW7 n b)) := ⟨_, rfl⟩
  rw [← hP] at HCB
  have HPB : Hid (∀ b, P b = balB (strOfNums (bitW7 n b))) := Lib.hid (fun b => by rw [hP])
  have HCS := Lib.hid (countP_succ P)
  have HC0 : Hid ((List.range 0).countP P = 0) := Lib.hid rfl
  have HCL : Hid (∀ k, (List.range k).countP P ≤ k) := Lib.hid (fun k => by have := List.countP_le_length (p := P) (l := List.range k); rwa [List.length_range] at this)
  clear hP hcb
  generalize hQ : 2 ^ n = Q at *
  have hwp : IntKind.i64.wrap ((2 : Int) ^ n) = (Q : Int) := by rw [HP.out]; exact IntWalk.i64_in _ (by omega)
  go_enter Tryd.func8, Tryd.ntmps8
  go_wp2_with (first | (go_at_call 11; refine (b10Long_any _ _ _ _ _ _ _ s0 s1).mono ?_; rw [hl]; rintro e w' ⟨rfl, rfl⟩) | (go_at_call 18; refine (b10At_any a0 cap0 z0 0 10 _ w0 (by omega) (by omega) (by omega) (by omega)).mono ?_; rw [HN.out]; rintro e w' ⟨rfl, rfl⟩) | (go_at_call 28; refine (HCB.out _).mono ?_; rintro e w2 ⟨rfl, k2⟩))
  have HK2 := Lib.hid k2
  clear k2
  go_loopg [8, 9, 10, 11] Q (fun kk all bits _ _ wr => ∃ b : Nat, b ≤ Q ∧ kk = Q - b ∧ bits = .int .i64 b ∧ all = .int .i64 ((List.range b).countP P : Nat) ∧ Hid (Keep w wr))
  case atStart => exact ⟨0, Nat.zero_le _, rfl, rfl, by rw [HC0.out]; rfl, HK2⟩
  case round =>
    obtain ⟨b, hb, rfl, rfl, rfl, HK⟩ := hrel
    have hcl := HCL.out b
    by_cases hlt : b < Q
    · have hbi : (b : Int) < (Q : Int) := by omega
      have HPb : Hid ((List.range (b + 1)).countP P = (List.range b).countP P + (if balB (strOfNums (bitW7 n b)) = true then 1 else 0)) := Lib.hid (by rw [HCS.out, HPB.out])
      have HSB := Lib.hid (fun W => specIsBalanced_any (strOfNums (bitW7 n b)) W (by rw [strOfNums_size, bitW7_len]; omega))
      have HBIT : Hid (∀ i : Nat, bits BinOp.and IntKind.i64 ((b : Int) / (2 : Int) ^ i) 1 = (bitN7 b i : Int)) := Lib.hid (fun i => by
        have e : (b : Int) / (2 : Int) ^ i = ((b / 2 ^ i : Nat) : Int) := by rw [pow_cast, Int.natCast_ediv]
        have hd : b / 2 ^ i ≤ b := Nat.div_le_self _ _
        rw [e, and_one_i64 _ (by omega)]; rfl)
      have HBB := Lib.hid (bitN7_bd b)
      have HBS := Lib.hid (fun i => bitW7_succ i b)
      have HBL := Lib.hid (fun i => bitW7_len i b)
      have HW0 : Hid (bitW7 0 b = []) := Lib.hid rfl
      obtain ⟨wo, rfl⟩ : ∃ x, x = wr := ⟨wr, rfl⟩
      have hown0 : (wo.alloc (.cells #[] 5)).ownsRow wo.heap.size 5 1 (.slice (some ⟨wo.heap.size, 0, none⟩) 0 0) 0 (bvals (bitW7 0 b)) := by
        have := World.ownsRow_lit (base := wo.heap.size) (e := 5) (size := 1) wo #[] 0 (by simp) (by simp) rfl
        rw [HW0.out]
        simpa using this
      have HO0 := Lib.hid hown0
      have HK0 : Hid (Keep wo (wo.alloc (.cells #[] 5))) := Lib.hid (by go_grown)
      clear hown0
      go_wp2
      go_loopg [10, 11] n (fun kk wd i wq => ∃ (i1 : Nat) (rd : Option Addr) (rc : Nat), i1 ≤ n ∧ kk = n - i1 ∧ i = .int .i64 i1 ∧ wd = .slice rd i1 rc ∧ Hid (wq.ownsRow wo.heap.size 5 1 (.slice rd i1 rc) i1 (bvals (bitW7 i1 b))) ∧ Hid (Keep wo wq))
      case atStart => exact ⟨0, _, _, Nat.zero_le _, rfl, rfl, rfl, HO0, HK0⟩
      case round =>
        obtain ⟨i1, rd, rc, hi1, rfl, rfl, rfl, HOW, HKW⟩ := hrel
        by_cases hil : i1 < n
        · have hbit := HBIT.out i1
          have HLI := Lib.hid (HBL.out i1)
          have hi9 : (i1 : Int) ≤ 64 := by omega
          have hws := HKW.out.size
          rcases HBB.out i1 with hb0 | hb0
          · rw [hb0] at hbit
            have hbit : bits BinOp.and IntKind.i64 ((b : Int) / (2 : Int) ^ i1) 1 = 0 := hbit
            have HW : Hid (bvals (bitW7 (i1 + 1) b) = bvals (bitW7 i1 b ++ [97])) := Lib.hid (by rw [HBS.out, hb0]; rfl)
            clear hb0
            go_wp2_with (refine list_appB (by rfl) _ _ (by rfl) wo.heap.size rd rc i1 _ 97 (by rfl) (row_keep HOW.out (by go_grown)) HLI.out.symm wr.heap.size (by rfl) (by simp) (by rw [HLI.out]; omega) (by simp; omega) ?_; intro ad' cap' w2 hown2 hgr2; have hbel2 := below_row (Below.trans HKW.out (by go_grown)) (row_keep HOW.out (by go_grown)) hgr2 (by simp; omega) (Nat.le_refl _))
            go_roundg (n - (i1 + 1))
            case measure => omega
            case rel => exact ⟨i1 + 1, ad', cap', by omega, rfl, by go_num, rfl, Lib.hid (by rw [HW.out]; exact hown2), Lib.hid hbel2⟩
          · rw [hb0] at hbit
            have hbit : bits BinOp.and IntKind.i64 ((b : Int) / (2 : Int) ^ i1) 1 = 1 := hbit
            have HW : Hid (bvals (bitW7 (i1 + 1) b) = bvals (bitW7 i1 b ++ [98])) := Lib.hid (by rw [HBS.out, hb0]; rfl)
            clear hb0
            go_wp2_with (refine list_appB (by rfl) _ _ (by rfl) wo.heap.size rd rc i1 _ 98 (by rfl) (row_keep HOW.out (by go_grown)) HLI.out.symm wr.heap.size (by rfl) (by simp) (by rw [HLI.out]; omega) (by simp; omega) ?_; intro ad' cap' w2 hown2 hgr2; have hbel2 := below_row (Below.trans HKW.out (by go_grown)) (row_keep HOW.out (by go_grown)) hgr2 (by simp; omega) (Nat.le_refl _))
            go_roundg (n - (i1 + 1))
            case measure => omega
            case rel => exact ⟨i1 + 1, ad', cap', by omega, rfl, by go_num, rfl, Lib.hid (by rw [HW.out]; exact hown2), Lib.hid hbel2⟩
        · have hie : i1 = n := by omega
          subst hie
          have hcv := conv_row wr wo.heap.size rd rc i1 (bitW7 i1 b) HOW.out (HBL.out i1)
          generalize strOfNums (bitW7 i1 b) = S at *
          cases hbal : balB S
          · rw [hbal] at HSB
            have HPn : Hid ((List.range (b + 1)).countP P = (List.range b).countP P) := Lib.hid (by rw [HPb.out, hbal]; rfl)
            go_wp2_with (go_at_call 29; refine (HSB.out _).mono ?_; rintro e w3 ⟨rfl, k3⟩)
            go_roundg (Q - (b + 1))
            case measure => omega
            case rel => exact ⟨b + 1, by omega, rfl, by go_num, by rw [HPn.out], Lib.hid ((HK.out.next HKW.out).next k3)⟩
          · rw [hbal] at HSB
            have HPn : Hid ((List.range (b + 1)).countP P = (List.range b).countP P + 1) := Lib.hid (by rw [HPb.out, hbal]; rfl)
            go_wp2_with (go_at_call 29; refine (HSB.out _).mono ?_; rintro e w3 ⟨rfl, k3⟩)
            go_roundg (Q - (b + 1))
            case measure => omega
            case rel => exact ⟨b + 1, by omega, rfl, by go_num, by rw [HPn.out]; go_num, Lib.hid ((HK.out.next HKW.out).next k3)⟩
    · have hbi : ¬ (b : Int) < (Q : Int) := by omega
      have HE := Lib.hid (show b = Q by omega)
      go_wp2
      go_ret
      exact ⟨ret_bool (by rw [HE.out]; simp), HK.out⟩

theorem own : ownKnob Tryd.prog.godebug = none := by kernel_rfl
theorem laidOut : laidOutB Tryd.prog = true := by kernel_rfl
set_option maxRecDepth 100000 in
theorem contract (H : Type) (enc : TypeId × Value → H) (W : World) (base : Nat) (args : Array Value) (ds gs : List (DataW H)) (before : List MemPlace)
    (hval0 : ∀ (j : Nat) t v, Tryd.f8.params[j]? = some t → args[j]? = some v → Value.okWide Tryd.prog W .any base t v)
    (hW : DataW.Whole enc Tryd.prog Tryd.f8.params.toList Rows.fnBalancedCountSpec.vars false W args.toList ds gs before) (hL : laidMetH Tryd.prog Rows.fnBalancedCountRow.laid W) :
    Calls Tryd.prog 8 args W fun e W' => ∃ v, e = .returned v ∧ Rows.fnBalancedCountSpec.post enc Tryd.prog Tryd.f8 false true false false W args v W' := by
  have hval : ∀ (j : Nat) t v, Tryd.f8.params[j]? = some t → args[j]? = some v → Value.okWide Tryd.prog W .any base t v := hval0
  have hW' := hW
  obtain ⟨p, q, hA0, hV, rfl, hfz, hnd⟩ := hW
  have hA : DataW.TrodAll enc Tryd.prog W 0 (fun _ => true) true Tryd.f8.params.toList args.toList ds p := hA0
  rw [Tryd.params8] at hA hval
  obtain ⟨v0, vs0, d0, ds0, p0, q0, hargs, rfl, rfl, h0, r0⟩ := trodAll_cons hA
  obtain ⟨v1, vs1, d1, ds1, p1, q1, rfl, rfl, rfl, h1, r1⟩ := trodAll_cons r0
  obtain ⟨rfl, rfl, rfl⟩ := trodAll_nil r1
  obtain rfl : args = #[v0, v1] := by cases args; simp_all
  obtain ⟨rfl, rfl⟩ := trodVars_none hV
  have k0 := h0
  have lt0 : ∀ x ∈ p0, x.block < W.heap.size := by obtain ⟨m, hm⟩ := k0; exact DataW.trod_lt m _ _ _ hm
  obtain ⟨a0, len0, cap0, rfl⟩ := okWide_slice Tryd.underlying25 (hval 0 25 v0 rfl rfl)
  obtain ⟨z0, e0, w0⟩ := bytes_open Tryd.underlying25 Tryd.underlying5 (by kernel_rfl) h0
  subst e0
  have k1 := h1
  have lt1 : ∀ x ∈ p1, x.block < W.heap.size := by obtain ⟨m, hm⟩ := k1; exact DataW.trod_lt m _ _ _ hm
  obtain ⟨a1, len1, cap1, rfl⟩ := okWide_slice Tryd.underlying25 (hval 1 25 v1 rfl rfl)
  obtain ⟨z1, e1, w1⟩ := bytes_open Tryd.underlying25 Tryd.underlying5 (by kernel_rfl) h1
  subst e1
  clear hA0 hval0
  refine (walk W hL a0 cap0 z0 w0 a1 cap1 z1 w1).mono fun e W' ⟨he, bel⟩ => ?_
  subst he
  exact ⟨_, rfl, _, _, _, [], _, [], hW', trodAll_mk1 (shut_bool Tryd.underlying4 _), (trodAll_cons_mk (Below.trod laidOut (by kernel_rfl) (of_decide_eq_true (by kernel_rfl)) k0 bel lt0) (trodAll_cons_mk (Below.trod laidOut (by kernel_rfl) (of_decide_eq_true (by kernel_rfl)) k1 bel lt1) trodAll_mk0)), rfl, bel.frame _, fun h => by cases h⟩
/-- A variable's cells, laid. -/
def layTab (cs : Array Value) : Obj → Obj
  | .cells _ t frozen => .cells cs t frozen
  | o => o
noncomputable def low : Nat := (World.holding Tryd.prog default ⟨#[], #[], []⟩).heap.size
noncomputable def laidWorld (os : Os) : World :=
  { World.holding Tryd.prog os ⟨#[], #[], []⟩ with heap := (((World.holding Tryd.prog os ⟨#[], #[], []⟩).heap.modify 2 (layTab #[.int .u8 128, .int .u8 191, .int .u8 160, .int .u8 191, .int .u8 128, .int .u8 159, .int .u8 144, .int .u8 191, .int .u8 128, .int .u8 143, .int .u8 0, .int .u8 0, .int .u8 0, .int .u8 0, .int .u8 0, .int .u8 0, .int .u8 0, .int .u8 0, .int .u8 0, .int .u8 0, .int .u8 0, .int .u8 0, .int .u8 0, .int .u8 0, .int .u8 0, .int .u8 0, .int .u8 0, .int .u8 0, .int .u8 0, .int .u8 0, .int .u8 0, .int .u8 0])).modify 1 (layTab #[.int .u8 240, .int .u8 240, .int .u8 240, .int .u8 240, .int .u8 240, .int .u8 240, .int .u8 240, .int .u8 240, .int .u8 240, .int .u8 240, .int .u8 240, .int .u8 240, .int .u8 240, .int .u8 240, .int .u8 240, .int .u8 240, .int .u8 240, .int .u8 240, .int .u8 240, .int .u8 240, .int .u8 240, .int .u8 240, .int .u8 240, .int .u8 240, .int .u8 240, .int .u8 240, .int .u8 240, .int .u8 240, .int .u8 240, .int .u8 240, .int .u8 240, .int .u8 240, .int .u8 240, .int .u8 240, .int .u8 240, .int .u8 240, .int .u8 240, .int .u8 240, .int .u8 240, .int .u8 240, .int .u8 240, .int .u8 240, .int .u8 240, .int .u8 240, .int .u8 240, .int .u8 240, .int .u8 240, .int .u8 240, .int .u8 240, .int .u8 240, .int .u8 240, .int .u8 240, .int .u8 240, .int .u8 240, .int .u8 240, .int .u8 240, .int .u8 240, .int .u8 240, .int .u8 240, .int .u8 240, .int .u8 240, .int .u8 240, .int .u8 240, .int .u8 240, .int .u8 240, .int .u8 240, .int .u8 240, .int .u8 240, .int .u8 240, .int .u8 240, .int .u8 240, .int .u8 240, .int .u8 240, .int .u8 240, .int .u8 240, .int .u8 240, .int .u8 240, .int .u8 240, .int .u8 240, .int .u8 240, .int .u8 240, .int .u8 240, .int .u8 240, .int .u8 240, .int .u8 240, .int .u8 240, .int .u8 240, .int .u8 240, .int .u8 240, .int .u8 240, .int .u8 240, .int .u8 240, .int .u8 240, .int .u8 240, .int .u8 240, .int .u8 240, .int .u8 240, .int .u8 240, .int .u8 240, .int .u8 240, .int .u8 240, .int .u8 240, .int .u8 240, .int .u8 240, .int .u8 240, .int .u8 240, .int .u8 240, .int .u8 240, .int .u8 240, .int .u8 240, .int .u8 240, .int .u8 240, .int .u8 240, .int .u8 240, .int .u8 240, .int .u8 240, .int .u8 240, .int .u8 240, .int .u8 240, .int .u8 240, .int .u8 240, .int .u8 240, .int .u8 240, .int .u8 240, .int .u8 240, .int .u8 240, .int .u8 240, .int .u8 240, .int .u8 241, .int .u8 241, .int .u8 241, .int .u8 241, .int .u8 241, .int .u8 241, .int .u8 241, .int .u8 241, .int .u8 241, .int .u8 241, .int .u8 241, .int .u8 241, .int .u8 241, .int .u8 241, .int .u8 241, .int .u8 241, .int .u8 241, .int .u8 241, .int .u8 241, .int .u8 241, .int .u8 241, .int .u8 241, .int .u8 241, .int .u8 241, .int .u8 241, .int .u8 241, .int .u8 241, .int .u8 241, .int .u8 241, .int .u8 241, .int .u8 241, .int .u8 241, .int .u8 241, .int .u8 241, .int .u8 241, .int .u8 241, .int .u8 241, .int .u8 241, .int .u8 241, .int .u8 241, .int .u8 241, .int .u8 241, .int .u8 241, .int .u8 241, .int .u8 241, .int .u8 241, .int .u8 241, .int .u8 241, .int .u8 241, .int .u8 241, .int .u8 241, .int .u8 241, .int .u8 241, .int .u8 241, .int .u8 241, .int .u8 241, .int .u8 241, .int .u8 241, .int .u8 241, .int .u8 241, .int .u8 241, .int .u8 241, .int .u8 241, .int .u8 241, .int .u8 241, .int .u8 241, .int .u8 2, .int .u8 2, .int .u8 2, .int .u8 2, .int .u8 2, .int .u8 2, .int .u8 2, .int .u8 2, .int .u8 2, .int .u8 2, .int .u8 2, .int .u8 2, .int .u8 2, .int .u8 2, .int .u8 2, .int .u8 2, .int .u8 2, .int .u8 2, .int .u8 2, .int .u8 2, .int .u8 2, .int .u8 2, .int .u8 2, .int .u8 2, .int .u8 2, .int .u8 2, .int .u8 2, .int .u8 2, .int .u8 2, .int .u8 2, .int .u8 19, .int .u8 3, .int .u8 3, .int .u8 3, .int .u8 3, .int .u8 3, .int .u8 3, .int .u8 3, .int .u8 3, .int .u8 3, .int .u8 3, .int .u8 3, .int .u8 3, .int .u8 35, .int .u8 3, .int .u8 3, .int .u8 52, .int .u8 4, .int .u8 4, .int .u8 4, .int .u8 68, .int .u8 241, .int .u8 241, .int .u8 241, .int .u8 241, .int .u8 241, .int .u8 241, .int .u8 241, .int .u8 241, .int .u8 241, .int .u8 241, .int .u8 241])) }
theorem laid_met (os : Os) : laidMetH Tryd.prog Rows.fnBalancedCountRow.laid ((laidWorld os).forCall (fun _ _ => 0) ⟨#[], #[.slice none 0 0, .slice none 0 0], []⟩).memory :=
  (laidMet_of_run' 8 (by kernel_rfl) (by kernel_rfl) : laidMet Tryd.prog Rows.fnBalancedCountRow.laid _)
theorem reads (os : Os) {H : Type} (enc : TypeId × Value → H) : ∃ places, DataW.whole enc Tryd.prog ((laidWorld os).forCall (fun _ _ => 0) ⟨#[], #[.slice none 0 0, .slice none 0 0], []⟩).memory Tryd.f8.params.toList Rows.fnBalancedCountSpec.vars false (#[.slice none 0 0, .slice none 0 0] : Array Value).toList 8 = some ([.nil, .nil], [], places) :=
  ⟨[], by kernel_rfl⟩
set_option maxRecDepth 100000 in
theorem lifted (os : Os) (started : os.Started) (H : Type) (enc : TypeId × Value → H) (F : Stop.Interp) :
    ReturnsInHanded {} Tryd.checked os 8 .any ((OpenSpec.ofChange Rows.fnBalancedCountSpec).preRow enc Tryd.prog Tryd.f8 Rows.fnBalancedCountRow.domain false Rows.fnBalancedCountRow.laid) (((OpenSpec.ofChange Rows.fnBalancedCountSpec).at F).post enc Tryd.prog Tryd.f8 false true false false) := by
  obtain ⟨places, hx⟩ := reads os enc
  refine returnsInHanded_of_row (C := Tryd.checked) (s := OpenSpec.ofChange Rows.fnBalancedCountSpec) own started (by kernel_rfl) Tryd.func8
    (witness_row_at (enc := enc) (C := Tryd.checked) false (laidWorld os) #[.slice none 0 0, .slice none 0 0] rfl (by kernel_rfl) (by kernel_rfl) (by kernel_rfl)
      (OpenSpec.preRow_of_cond 8 hx (by kernel_rfl) (fun k hk => by cases hk) (by kernel_rfl) (laid_met os))) ?_
  intro W base args ds gs before hval hW _ _ _ hL hS _
  exact contract H enc W base args ds gs before hval hW hL
theorem said : Rows.FnBalancedCountSaid :=
  OpenClaim.holds_of_cond 8 Tryd.f8 rfl rfl rfl rfl rfl rfl rfl ⟨rfl, rfl, rfl, rfl, rfl⟩ rfl rfl rfl rfl rfl (by kernel_rfl) Tryd.func8 (by kernel_rfl)
    (of_decide_eq_true (by kernel_rfl)) (by unfold Func.isWrapper; first | (rw [if_pos (by decide +kernel)]; kernel_rfl) | (rw [if_neg (by decide +kernel)]; exact ⟨rfl, rfl⟩))
    (fun os started H enc _ F => by rw [OpenClaim.pre_eq_preRow]; exact lifted os started H enc F)
theorem plain (f : FuncId) (fn : Func) (hf : Tryd.pinned.checked.prog.funcNamed "loop.example/g01129/laws.FnBalancedCount" = some f) (hfn : Tryd.pinned.checked.prog.funcs[f]? = some fn) :
    false = Tryd.pinned.checked.prog.looks [] ∧ ∀ (j : Nat) t, fn.params[j]? = some t → Tryd.pinned.checked.prog.wantsStandIn t = false := by
  obtain rfl : f = 8 := Option.some.inj ((show Tryd.prog.funcNamed "loop.example/g01129/laws.FnBalancedCount" = some 8 by kernel_rfl).symm.trans hf) |>.symm
  obtain rfl : fn = Tryd.f8 := (Option.some.inj (Tryd.func8.symm.trans hfn)).symm
  refine ⟨by kernel_rfl, fun j t ht => ?_⟩
  rw [Tryd.params8] at ht
  have hm := Array.mem_of_getElem? ht
  simp only [List.mem_toArray, List.mem_cons, List.not_mem_nil, or_false] at hm
  rcases hm with rfl | rfl
  · exact (show Tryd.prog.wantsStandIn 25 = false by kernel_rfl)
  · exact (show Tryd.prog.wantsStandIn 25 = false by kernel_rfl)
/-- THE STATEMENT. -/
theorem proved : Rows.FnBalancedCountCardSaid :=
  Claim7.holds_tied_plain_at .later [] _ _ _ _ said (fun _ h => by cases h) (by kernel_rfl) (fun _ h => by cases h) fnBalancedCount_row_tie rfl ⟨rfl, rfl⟩ (by kernel_rfl) rfl plain (by kernel_rfl)
end Go.Proofs.YtlkljhncpojlkabDoor.fnBalancedCount
