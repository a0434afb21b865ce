/- FnTexts: a list's text is read as that list, a text's check number is that of its parts, a number's text is read as that number: at all bytes. -/
import Derived.Test.YtpdcmhnaedhkdaaGreatDoorCards
import Derived.Test.YtpdcmhnaedhkdaaGreatDoorBack
import Derived.Test.YtpdcmhnaedhkdaaGreatDoorDraw10
import Derived.Test.YtpdcmhnaedhkdaaGreatDoorNums10
import Derived.Test.YtpdcmhnaedhkdaaGreatDoorBten
import Derived.Test.YtpdcmhnaedhkdaaGreatDoorReadL2
import Derived.Deep.RegionHeld3
import Derived.Deep.DeepHandedRow
import Derived.Test.YtpdcmhnaedhkdaaGreatDoorTie
import Derived.Deep.DeepWitnessRowRef
import Derived.LaidLaws
import Derived.LaidHandle
import Derived.Shelf.Vars
namespace Go.Proofs.YtpdcmhnaedhkdaaGreatDoor.fnTexts
open Go.ChangeShapes Go.WideShapes Go.ChangeAt Go.RowKit
set_option linter.unusedVariables false
/-- What the library's variables hold, as far as ReadList reads them. -/
structure Libs (w : World) : Prop where
  vars : LibVars w
  max : ∃ m, w.cell? ⟨1, 0, none⟩ = some (.int .i64 m)
theorem Libs.keep {w w' : World} (h : Libs w) (k : Keep w w') : Libs w' := by
  obtain ⟨h1, m, h2⟩ := h
  exact ⟨h1.keep k, m, by rw [k.cell (World.block_lt_of_cell? _ _ h2)]; exact h2⟩
theorem RL_any (s : ByteArray) (w : World) (hs : s.size ≤ 1048576) (h : Libs w) :
    Calls Tryz.prog 21 #[.string s] w fun e w' => ∃ rd rc, e = .returned (.tuple #[.slice rd (rdsV s.data.toList).length rc, .bool (rdsOk s.data.toList)]) ∧ Own w' w.heap.size rd rc (rdsV s.data.toList) ∧ Keep w w' := by
  obtain ⟨h1, m, h2⟩ := h
  exact _root_.Go.Proofs.YtpdcmhnaedhkdaaGreatDoor.ReadList_any s w m hs h1 h2
theorem bsize (a : List UInt8) : (bstr a).size = a.length := by simp [bstr, ByteArray.size]
theorem txt_bound2 (zs : List Int) (h : ∀ z ∈ zs, In64 z) (hl : zs.length ≤ 40) : (txt zs).length ≤ 840 := by
  unfold txt
  split
  · simp
  · have := txt_len zs h
    omega

set_option maxHeartbeats 6400000 in
set_option maxRecDepth 100000 in
theorem walk (w : World) (hL : Libs w) (a0 : Option Addr) (cap0 : Nat) (z0 : List Int) (w0 : Bytes w a0 z0) (a1 : Option Addr) (cap1 : Nat) (z1 : List Int) (w1 : Bytes w a1 z1) :
    Calls Tryz.prog 4 #[.slice a0 z0.length cap0, .slice a1 z1.length cap1] w fun e w' => e = .returned (.bool true) ∧ Below w.heap.size w w' := by
  have s0 := w0.small
  have s1 := w1.small
  cases hl : (decide (1048576 < z0.length) || decide (1048576 < z1.length))
  case true =>
    go_enter Tryz.func4, Tryz.ntmps4
    go_wp2_with fail
    refine (b10Long_any a0 a1 cap0 cap1 _ _ _ s0 s1).mono ?_
    rw [hl]
    rintro e w' ⟨rfl, rfl⟩
    go_wp2
    go_ret
    exact ⟨rfl, Below.refl _ _⟩
  have HL := Lib.hid hl; clear hl
  have HLB := Lib.hid hL; clear hL
  go_enter Tryz.func4, Tryz.ntmps4
  go_wp2_with fail
  refine (b10Long_any a0 a1 cap0 cap1 _ _ _ s0 s1).mono ?_
  rw [HL.out]
  rintro e w' ⟨rfl, rfl⟩
  go_wp2_with fail
  refine (B10Values_any a0 cap0 z0 w w0).mono ?_
  rintro e w2 ⟨g, vs, rd, rc, rfl, o2, g0, g1, hl, hv, k2⟩
  have hok : listOk vs 1000000000 = true := by
    unfold listOk allIn
    rw [decide_eq_true hl, Bool.true_and, List.all_eq_true]
    intro z hz; have := hv z hz; rw [inB_iff]; omega
  obtain ⟨hr1, hr2⟩ := rds_txt vs hl (fun z hz => by have := hv z hz; omega)
  have hb := txt_bound2 vs (fun z hz => by have := hv z hz; exact ⟨by omega, by omega⟩) hl
  have hp := txt_pos vs
  obtain ⟨S, hS⟩ : ∃ S, S = bstr (txt vs) := ⟨_, rfl⟩
  have hS1 : S.data.toList = txt vs := by rw [hS]; simp [bstr]
  have hS2 : S.size = (txt vs).length := by rw [hS]; exact bsize _
  have hs0 : 0 < S.size := by omega
  have hs1 : S.size ≤ 840 := by omega
  have HR1 := Lib.hid hr1; have HR2 := Lib.hid hr2; have HS := Lib.hid hS; have HS1 := Lib.hid hS1; have HOK := Lib.hid hok
  have HO2 := Lib.hid o2; have K2 := Lib.hid k2
  have HLB2 := Lib.hid (HLB.out.keep k2)
  clear hr1 hr2 hS hS1 hS2 hok o2 k2 hb hp hv HLB
  go_wp2_with fail
  have k3 : Keep w2 (w2.alloc (.cells #[.int .i64 g, .slice rd vs.length rc] 26)) := by go_grown
  have T3 : Two (w2.alloc (.cells #[.int .i64 g, .slice rd vs.length rc] 26)) w2.heap.size (.int .i64 g) (.slice rd vs.length rc) := ⟨by simp, by simp, by simp, by simp⟩
  have K3 := Lib.hid (Keep.next K2.out k3)
  have O3 := Lib.hid (HO2.out.keep k3)
  have HLB3 := Lib.hid (HLB2.out.keep k3)
  have HT3 := Lib.hid T3
  clear k3 T3
  generalize w2.alloc (.cells #[.int .i64 g, .slice rd vs.length rc] 26) = w3 at *
  clear HLB2 HO2
  refine (ListText_any rd rc vs w3 O3.out.ints HLB3.out.vars.tab).mono ?_
  rw [HOK.out, if_pos rfl, ← HS.out]
  rintro e w4 ⟨rfl, k4⟩
  have K4 := Lib.hid (Keep.next K3.out k4); have O4 := Lib.hid (O3.out.keep k4); have HLB4 := Lib.hid (HLB3.out.keep k4); have T4 := Lib.hid (HT3.out.keep k4 HT3.out.lt)
  clear k4 O3 HLB3 HT3 K3
  go_wp2_with fail
  refine (RL_any S w4 (by omega) HLB4.out).mono ?_
  rw [HS1.out, HR1.out, HR2.out]
  rintro e w5 ⟨xd, xc, rfl, ox, k5⟩
  have K5 := Lib.hid (Keep.next K4.out k5); have O5 := Lib.hid (O4.out.keep k5); have HLB5 := Lib.hid (HLB4.out.keep k5); have T5 := Lib.hid (T4.out.keep k5 T4.out.lt)
  have X5 := Lib.hid ox.ints
  clear k5 ox O4 HLB4 T4 K4
  go_wp2_with fail
  refine (b10At_any a1 cap1 z1 0 200 w5 (w1.keep K5.out (Nat.le_refl _)) (by omega) (by omega) (by omega) (by omega)).mono ?_
  rintro e w' ⟨rfl, rfl⟩
  have hst := pickB_bd z1 0 200
  generalize pickB z1 0 200 = st at hst
  have st0 := hst.1
  have st1 := hst.2 (by omega)
  clear hst
  go_wp2_with fail
  refine (b10At_any a1 cap1 z1 1 ((S.size : Int) + 1) w5 (w1.keep K5.out (Nat.le_refl _)) (by omega) (by omega) (by omega) (by omega)).mono ?_
  rintro e w' ⟨rfl, rfl⟩
  have hct := pickB_bd z1 1 ((S.size : Int) + 1)
  generalize pickB z1 1 ((S.size : Int) + 1) = ct at hct
  have ct0 := hct.1
  have ct1 := hct.2 (by omega)
  clear hct
  obtain ⟨c, rfl⟩ : ∃ c : Nat, ct = c := ⟨ct.toNat, by omega⟩
  have hin : inB st 0 65520 = true := inB_iff.2 ⟨by omega, by omega⟩
  have HIN := Lib.hid hin; clear hin
  go_wp2_with fail
  refine (CheckOf_any st S w5 ⟨by omega, by omega⟩ (by omega)).mono ?_
  rw [HIN.out, if_pos rfl]
  rintro e w6 ⟨rfl, k6⟩
  have K6 := Lib.hid (Keep.next K5.out k6); have O6 := Lib.hid (O5.out.keep k6); have HLB6 := Lib.hid (HLB5.out.keep k6); have T6 := Lib.hid (T5.out.keep k6 T5.out.lt); have X6 := Lib.hid (X5.out.keep k6 (Nat.le_refl _))
  clear k6 O5 HLB5 T5 K5 X5
  obtain ⟨c0, c1, f0, f1⟩ := T6.out
  go_wp2_with fail
  refine (b10Nums_same xd xc rd rc vs w6 X6.out O6.out.ints).mono ?_
  rintro e w7 ⟨rfl, k7⟩
  have K7 := Lib.hid (Keep.next K6.out k7); have HLB7 := Lib.hid (HLB6.out.keep k7)
  clear k7 O6 HLB6 T6 K6 X6 c0 c1 f0 f1
  have hc : c ≤ S.size := by omega
  clear ct0 ct1
  go_wp2_with fail
  have hchk : chk st S.data.toList = chk (chk st (S.extract 0 c).data.toList) (S.extract c S.size).data.toList := by
    have e1 : (S.extract 0 c).data.toList = S.data.toList.take c := by rw [ByteArray.data_extract, Array.toList_extract]; simp
    have e2 : (S.extract c S.size).data.toList = S.data.toList.drop c := by
      rw [ByteArray.data_extract, Array.toList_extract]
      exact List.take_of_length_le (by simp)
    rw [e1, e2, ← chk_append, List.take_append_drop]
  have hz1 : (S.extract 0 c).size ≤ 1048576 := by rw [ByteArray.size_extract]; omega
  have hz2 : (S.extract c S.size).size ≤ 1048576 := by rw [ByteArray.size_extract]; omega
  have hf := chk_bd st (S.extract 0 c).data.toList ⟨by omega, by omega⟩
  have HZ1 := Lib.hid hz1; have HZ2 := Lib.hid hz2; clear hz1 hz2
  refine (CheckOf_any st (S.extract 0 c) w7 ⟨by omega, by omega⟩ HZ1.out).mono ?_
  rw [HIN.out, if_pos rfl]
  rintro e w8 ⟨rfl, k8⟩
  have K8 := Lib.hid (Keep.next K7.out k8); have HLB8 := Lib.hid (HLB7.out.keep k8)
  clear k8 HLB7 K7
  generalize chk st (S.extract 0 c).data.toList = F at hf hchk
  generalize chk st S.data.toList = AL at hchk
  have HC := Lib.hid hchk; clear hchk
  have hin2 : inB F 0 65520 = true := inB_iff.2 ⟨by omega, by omega⟩
  have HIN2 := Lib.hid hin2; clear hin2
  go_wp2_with fail
  refine (CheckOf_any F (S.extract c S.size) w8 ⟨by omega, by omega⟩ HZ2.out).mono ?_
  rw [HIN2.out, if_pos rfl, ← HC.out]
  rintro e w9 ⟨rfl, k9⟩
  have K9 := Lib.hid (Keep.next K8.out k9); have HLB9 := Lib.hid (HLB8.out.keep k9)
  clear k9 HLB8 K8 hf
  go_wp2_with fail
  refine (Decimal_tab (st - 100) w9 ⟨by omega, by omega⟩ HLB9.out.vars.tab).mono ?_
  rintro e w10 ⟨rfl, k10⟩
  have K10 := Lib.hid (Keep.next K9.out k10); have HLB10 := Lib.hid (HLB9.out.keep k10)
  clear k10 HLB9 K9
  obtain ⟨hd1, hd2⟩ := rd_of (n := st - 100) (by omega) (by omega) rfl
  have HD1 := Lib.hid hd1; have HD2 := Lib.hid hd2
  have HDS := Lib.hid (show (⟨(Lib.itoa (st - 100)).toArray⟩ : ByteArray).size ≤ 1048576 from by
    have h := itoa_len (st - 100) ⟨by omega, by omega⟩
    have h2 := bsize (Lib.itoa (st - 100))
    unfold bstr at h2; omega)
  have HDL := Lib.hid (show (⟨(Lib.itoa (st - 100)).toArray⟩ : ByteArray).data.toList = Lib.itoa (st - 100) from by simp)
  clear hd1 hd2
  generalize hds : (⟨(Lib.itoa (st - 100)).toArray⟩ : ByteArray) = DS at HDS HDL
  go_wp2_with fail
  try simp only [hds]
  refine (ReadDecimal_any DS w10 HDS.out HLB10.out.vars).mono ?_
  rw [HDL.out, HD1.out, HD2.out]
  rintro e w11 ⟨rfl, k11⟩
  have K11 := Lib.hid (Keep.next K10.out k11)
  clear k11 HLB10 K10
  go_wp2
  go_ret
  exact ⟨rfl, K11.out⟩
theorem laidMet_tail {P : Program} {x : String × DataW Unit} {rest : List (String × DataW Unit)} {W : World} (h : laidMet P (x :: rest) W) : laidMet P rest W := by
  obtain ⟨ps, ⟨g', t', cs, fuel, p, q, hg', ht', hvar, hd, hr, he⟩, hnd, hall⟩ := h
  subst he
  exact ⟨q, hr, (List.nodup_append.1 hnd).2.1, fun b off hb => hall b off (List.mem_append_right _ hb)⟩
theorem sent_of_head {P : Program} {name nm : String} {d : DataW Unit} {rest : List (String × DataW Unit)} {W : World} {g t : Nat} {ms : Array (String × TypeId)} (hg : P.globalNamed name = some g) (hty : (P.globals[g]?).map (·.type) = some t) (hi : P.underlying t = some (.interface ms))
    (h : laidMet P ((name, .iface nm d) :: rest) W) : ∃ u v, W.var? P name = some #[.iface u v] := by
  obtain ⟨ps, ⟨g', t', cs, fuel, p, q, hg', ht', hvar, hd, hr, he⟩, hnd, hall⟩ := h
  obtain rfl := Option.some.inj (hg.symm.trans hg')
  obtain rfl := Option.some.inj (hty.symm.trans ht')
  obtain ⟨_, u, v, hc, _⟩ := iface_of_trod hi hd
  exact ⟨u, v, by rw [hvar, Array.eq_one_of_toList hc]⟩
theorem et : Tryz.prog.globalNamed "errors.errorType" = some 0 := by kernel_rfl
theorem rt : (Tryz.prog.cutTypes.find? (·.1 == "internal/reflectlite.rtype")).map (·.2) = some 132 := by kernel_rfl
theorem tsize : Tryz.prog.types.size = 208 := by kernel_rfl
theorem oneRow : ((List.range 208).filter fun t => Tryz.prog.rowNamed t [101, 114, 114, 111, 114]) = [61] := by kernel_rfl
theorem libVars {W : World} (h : laidMetH Tryz.prog Rows.fnTextsRow.laid W) : LibVars W := by
  have h' : laidMet Tryz.prog [("math/bits.deBruijn32tab", Rows.laid_math_bits_deBruijn32tab), ("math/bits.deBruijn64tab", Rows.laid_math_bits_deBruijn64tab), ("internal/strconv.uint64pow10", Rows.laid_internal_strconv_uint64pow10), ("unicode/utf8.acceptRanges", Rows.laid_unicode_utf8_acceptRanges), ("strconv.ErrRange", Rows.laid_strconv_ErrRange), ("strconv.ErrSyntax", Rows.laid_strconv_ErrSyntax), ("unicode/utf8.first", Rows.laid_unicode_utf8_first)] W ∧ handlesMet Tryz.prog [("errors.errorType", Rows.laid_errors_errorType)] W := h
  obtain ⟨h1, h2⟩ := h'
  have h3 := laidMet_tail (laidMet_tail h1)
  have h4 := laidMet_tail (laidMet_tail h3)
  have h5 := laidMet_tail h4
  refine ⟨Lib.tabIs_of_head gPow (t := 154) (e := 74) (n := 20) (by kernel_rfl) (by kernel_rfl) (by kernel_rfl) (by kernel_rfl) (by kernel_rfl) h3,
    sent_of_head gSyn (t := 61) (by kernel_rfl) Tryz.underlying61 h5, sent_of_head gRan (t := 61) (by kernel_rfl) Tryz.underlying61 h4, ?_⟩
  obtain ⟨name, u, ty, e1, e2, e3, e4, e5⟩ := h2 _ (List.mem_singleton.2 rfl)
  have en : name = [101, 114, 114, 111, 114] := (Option.some.inj e1).symm
  subst en
  obtain rfl := Option.some.inj (rt.symm.trans e2)
  have hm : ty ∈ (List.range 208).filter fun t => Tryz.prog.rowNamed t [101, 114, 114, 111, 114] := List.mem_filter.2 ⟨List.mem_range.2 (by rw [← tsize]; exact e3), e4⟩
  rw [oneRow] at hm
  obtain rfl := List.mem_singleton.1 hm
  have hh : typeHandle Tryz.prog 61 = th 61 := by kernel_rfl
  rw [hh] at e5
  simpa using World.var?_cell et e5 0
theorem libs {W : World} (h : laidMetH Tryz.prog Rows.fnTextsRow.laid W) (hS : W.ShapedOpen Tryz.prog) : Libs W :=
  ⟨libVars h, Go.Proofs.cell_of_shapedOpen_int (P := Tryz.prog) (g := 1) (t := 3) (zero := #[.int .i64 0]) hS (of_decide_eq_true (by kernel_rfl)) (by kernel_rfl) rfl (by kernel_rfl) (by kernel_rfl) Tryz.underlying3⟩


theorem own : ownKnob Tryz.prog.godebug = none := by kernel_rfl
theorem laidOut : laidOutB Tryz.prog = true := by kernel_rfl
set_option maxRecDepth 100000 in
theorem contract (H : Type) (enc : TypeId × Value → H) (W : World) (base : Nat) (args : Array Value) (ds gs : List (DataW H)) (before : List MemPlace)
    (hval0 : ∀ (j : Nat) t v, Tryz.f4.params[j]? = some t → args[j]? = some v → Value.okWide Tryz.prog W .any base t v)
    (hW : DataW.Whole enc Tryz.prog Tryz.f4.params.toList Rows.fnTextsSpec.vars false W args.toList ds gs before) (hL : laidMetH Tryz.prog Rows.fnTextsRow.laid W) (hS : W.ShapedOpen Tryz.prog) :
    Calls Tryz.prog 4 args W fun e W' => ∃ v, e = .returned v ∧ Rows.fnTextsSpec.post enc Tryz.prog Tryz.f4 false true false false W args v W' := by
  have hval : ∀ (j : Nat) t v, Tryz.f4.params[j]? = some t → args[j]? = some v → Value.okWide Tryz.prog W .any base t v := hval0
  have hW' := hW
  obtain ⟨p, q, hA0, hV, rfl, hfz, hnd⟩ := hW
  have hA : DataW.TrodAll enc Tryz.prog W 0 (fun _ => true) true Tryz.f4.params.toList args.toList ds p := hA0
  rw [Tryz.params4] at hA hval
  obtain ⟨v0, vs0, d0, ds0, p0, q0, hargs, rfl, rfl, h0, r0⟩ := trodAll_cons hA
  obtain ⟨v1, vs1, d1, ds1, p1, q1, rfl, rfl, rfl, h1, r1⟩ := trodAll_cons r0
  obtain ⟨rfl, rfl, rfl⟩ := trodAll_nil r1
  obtain rfl : args = #[v0, v1] := by cases args; simp_all
  obtain ⟨rfl, rfl⟩ := trodVars_none hV
  have k0 := h0
  have lt0 : ∀ x ∈ p0, x.block < W.heap.size := by obtain ⟨m, hm⟩ := k0; exact DataW.trod_lt m _ _ _ hm
  obtain ⟨a0, len0, cap0, rfl⟩ := okWide_slice Tryz.underlying22 (hval 0 22 v0 rfl rfl)
  obtain ⟨z0, e0, w0⟩ := bytes_open Tryz.underlying22 Tryz.underlying5 (by kernel_rfl) h0
  subst e0
  have k1 := h1
  have lt1 : ∀ x ∈ p1, x.block < W.heap.size := by obtain ⟨m, hm⟩ := k1; exact DataW.trod_lt m _ _ _ hm
  obtain ⟨a1, len1, cap1, rfl⟩ := okWide_slice Tryz.underlying22 (hval 1 22 v1 rfl rfl)
  obtain ⟨z1, e1, w1⟩ := bytes_open Tryz.underlying22 Tryz.underlying5 (by kernel_rfl) h1
  subst e1
  clear hA0 hval0
  refine (walk W (libs hL hS) a0 cap0 z0 w0 a1 cap1 z1 w1).mono fun e W' ⟨he, bel⟩ => ?_
  subst he
  exact ⟨_, rfl, _, _, _, [], _, [], hW', trodAll_mk1 (shut_bool Tryz.underlying4 _), (trodAll_cons_mk (Below.trod laidOut (by kernel_rfl) (of_decide_eq_true (by kernel_rfl)) k0 bel lt0) (trodAll_cons_mk (Below.trod laidOut (by kernel_rfl) (of_decide_eq_true (by kernel_rfl)) k1 bel lt1) trodAll_mk0)), rfl, bel.frame _, fun h => by cases h⟩
/-- A variable's cells, laid. -/
def layTab (cs : Array Value) : Obj → Obj
  | .cells _ t frozen => .cells cs t frozen
  | o => o
noncomputable def low : Nat := (World.holding Tryz.prog default ⟨#[], #[], []⟩).heap.size
noncomputable def laidWorld (os : Os) : World :=
  { World.holding Tryz.prog os ⟨#[.cells #[.string ⟨#[118, 97, 108, 117, 101, 32, 111, 117, 116, 32, 111, 102, 32, 114, 97, 110, 103, 101]⟩] 174, .cells #[.string ⟨#[105, 110, 118, 97, 108, 105, 100, 32, 115, 121, 110, 116, 97, 120]⟩] 174], #[], []⟩ with heap := (((((((((World.holding Tryz.prog os ⟨#[.cells #[.string ⟨#[118, 97, 108, 117, 101, 32, 111, 117, 116, 32, 111, 102, 32, 114, 97, 110, 103, 101]⟩] 174, .cells #[.string ⟨#[105, 110, 118, 97, 108, 105, 100, 32, 115, 121, 110, 116, 97, 120]⟩] 174], #[], []⟩).heap.modify 5 (layTab #[.int .u8 0, .int .u8 1, .int .u8 28, .int .u8 2, .int .u8 29, .int .u8 14, .int .u8 24, .int .u8 3, .int .u8 30, .int .u8 22, .int .u8 20, .int .u8 15, .int .u8 25, .int .u8 17, .int .u8 4, .int .u8 8, .int .u8 31, .int .u8 27, .int .u8 13, .int .u8 23, .int .u8 21, .int .u8 19, .int .u8 16, .int .u8 7, .int .u8 26, .int .u8 12, .int .u8 18, .int .u8 6, .int .u8 11, .int .u8 5, .int .u8 10, .int .u8 9])).modify 6 (layTab #[.int .u8 0, .int .u8 1, .int .u8 56, .int .u8 2, .int .u8 57, .int .u8 49, .int .u8 28, .int .u8 3, .int .u8 61, .int .u8 58, .int .u8 42, .int .u8 50, .int .u8 38, .int .u8 29, .int .u8 17, .int .u8 4, .int .u8 62, .int .u8 47, .int .u8 59, .int .u8 36, .int .u8 45, .int .u8 43, .int .u8 51, .int .u8 22, .int .u8 53, .int .u8 39, .int .u8 33, .int .u8 30, .int .u8 24, .int .u8 18, .int .u8 12, .int .u8 5, .int .u8 63, .int .u8 55, .int .u8 48, .int .u8 27, .int .u8 60, .int .u8 41, .int .u8 37, .int .u8 16, .int .u8 46, .int .u8 35, .int .u8 44, .int .u8 21, .int .u8 52, .int .u8 32, .int .u8 23, .int .u8 11, .int .u8 54, .int .u8 26, .int .u8 40, .int .u8 15, .int .u8 34, .int .u8 20, .int .u8 31, .int .u8 10, .int .u8 25, .int .u8 14, .int .u8 19, .int .u8 9, .int .u8 13, .int .u8 8, .int .u8 7, .int .u8 6])).modify 2 (layTab #[.int .u64 1, .int .u64 10, .int .u64 100, .int .u64 1000, .int .u64 10000, .int .u64 100000, .int .u64 1000000, .int .u64 10000000, .int .u64 100000000, .int .u64 1000000000, .int .u64 10000000000, .int .u64 100000000000, .int .u64 1000000000000, .int .u64 10000000000000, .int .u64 100000000000000, .int .u64 1000000000000000, .int .u64 10000000000000000, .int .u64 100000000000000000, .int .u64 1000000000000000000, .int .u64 10000000000000000000])).modify 8 (layTab #[.int .u8 128, .int .u8 191, .int .u8 160, .int .u8 191, .int .u8 128, .int .u8 159, .int .u8 144, .int .u8 191, .int .u8 128, .int .u8 143, .int .u8 0, .int .u8 0, .int .u8 0, .int .u8 0, .int .u8 0, .int .u8 0, .int .u8 0, .int .u8 0, .int .u8 0, .int .u8 0, .int .u8 0, .int .u8 0, .int .u8 0, .int .u8 0, .int .u8 0, .int .u8 0, .int .u8 0, .int .u8 0, .int .u8 0, .int .u8 0, .int .u8 0, .int .u8 0])).modify 0 (layTab #[.iface 132 (.agg #[.pointer (some ⟨9, 61, none⟩)])])).modify 4 (layTab #[.iface 172 (.pointer (some ⟨low + 0, 0, none⟩))])).modify 3 (layTab #[.iface 172 (.pointer (some ⟨low + 1, 0, none⟩))])).modify 7 (layTab #[.int .u8 240, .int .u8 240, .int .u8 240, .int .u8 240, .int .u8 240, .int .u8 240, .int .u8 240, .int .u8 240, .int .u8 240, .int .u8 240, .int .u8 240, .int .u8 240, .int .u8 240, .int .u8 240, .int .u8 240, .int .u8 240, .int .u8 240, .int .u8 240, .int .u8 240, .int .u8 240, .int .u8 240, .int .u8 240, .int .u8 240, .int .u8 240, .int .u8 240, .int .u8 240, .int .u8 240, .int .u8 240, .int .u8 240, .int .u8 240, .int .u8 240, .int .u8 240, .int .u8 240, .int .u8 240, .int .u8 240, .int .u8 240, .int .u8 240, .int .u8 240, .int .u8 240, .int .u8 240, .int .u8 240, .int .u8 240, .int .u8 240, .int .u8 240, .int .u8 240, .int .u8 240, .int .u8 240, .int .u8 240, .int .u8 240, .int .u8 240, .int .u8 240, .int .u8 240, .int .u8 240, .int .u8 240, .int .u8 240, .int .u8 240, .int .u8 240, .int .u8 240, .int .u8 240, .int .u8 240, .int .u8 240, .int .u8 240, .int .u8 240, .int .u8 240, .int .u8 240, .int .u8 240, .int .u8 240, .int .u8 240, .int .u8 240, .int .u8 240, .int .u8 240, .int .u8 240, .int .u8 240, .int .u8 240, .int .u8 240, .int .u8 240, .int .u8 240, .int .u8 240, .int .u8 240, .int .u8 240, .int .u8 240, .int .u8 240, .int .u8 240, .int .u8 240, .int .u8 240, .int .u8 240, .int .u8 240, .int .u8 240, .int .u8 240, .int .u8 240, .int .u8 240, .int .u8 240, .int .u8 240, .int .u8 240, .int .u8 240, .int .u8 240, .int .u8 240, .int .u8 240, .int .u8 240, .int .u8 240, .int .u8 240, .int .u8 240, .int .u8 240, .int .u8 240, .int .u8 240, .int .u8 240, .int .u8 240, .int .u8 240, .int .u8 240, .int .u8 240, .int .u8 240, .int .u8 240, .int .u8 240, .int .u8 240, .int .u8 240, .int .u8 240, .int .u8 240, .int .u8 240, .int .u8 240, .int .u8 240, .int .u8 240, .int .u8 240, .int .u8 240, .int .u8 240, .int .u8 240, .int .u8 240, .int .u8 240, .int .u8 240, .int .u8 241, .int .u8 241, .int .u8 241, .int .u8 241, .int .u8 241, .int .u8 241, .int .u8 241, .int .u8 241, .int .u8 241, .int .u8 241, .int .u8 241, .int .u8 241, .int .u8 241, .int .u8 241, .int .u8 241, .int .u8 241, .int .u8 241, .int .u8 241, .int .u8 241, .int .u8 241, .int .u8 241, .int .u8 241, .int .u8 241, .int .u8 241, .int .u8 241, .int .u8 241, .int .u8 241, .int .u8 241, .int .u8 241, .int .u8 241, .int .u8 241, .int .u8 241, .int .u8 241, .int .u8 241, .int .u8 241, .int .u8 241, .int .u8 241, .int .u8 241, .int .u8 241, .int .u8 241, .int .u8 241, .int .u8 241, .int .u8 241, .int .u8 241, .int .u8 241, .int .u8 241, .int .u8 241, .int .u8 241, .int .u8 241, .int .u8 241, .int .u8 241, .int .u8 241, .int .u8 241, .int .u8 241, .int .u8 241, .int .u8 241, .int .u8 241, .int .u8 241, .int .u8 241, .int .u8 241, .int .u8 241, .int .u8 241, .int .u8 241, .int .u8 241, .int .u8 241, .int .u8 241, .int .u8 2, .int .u8 2, .int .u8 2, .int .u8 2, .int .u8 2, .int .u8 2, .int .u8 2, .int .u8 2, .int .u8 2, .int .u8 2, .int .u8 2, .int .u8 2, .int .u8 2, .int .u8 2, .int .u8 2, .int .u8 2, .int .u8 2, .int .u8 2, .int .u8 2, .int .u8 2, .int .u8 2, .int .u8 2, .int .u8 2, .int .u8 2, .int .u8 2, .int .u8 2, .int .u8 2, .int .u8 2, .int .u8 2, .int .u8 2, .int .u8 19, .int .u8 3, .int .u8 3, .int .u8 3, .int .u8 3, .int .u8 3, .int .u8 3, .int .u8 3, .int .u8 3, .int .u8 3, .int .u8 3, .int .u8 3, .int .u8 3, .int .u8 35, .int .u8 3, .int .u8 3, .int .u8 52, .int .u8 4, .int .u8 4, .int .u8 4, .int .u8 68, .int .u8 241, .int .u8 241, .int .u8 241, .int .u8 241, .int .u8 241, .int .u8 241, .int .u8 241, .int .u8 241, .int .u8 241, .int .u8 241, .int .u8 241])) }
theorem laid_met (os : Os) : laidMetH Tryz.prog Rows.fnTextsRow.laid ((laidWorld os).forCall (fun _ _ => 0) ⟨#[], #[.slice none 0 0, .slice none 0 0], []⟩).memory :=
  laidMetH_of_parts (laidMet_of_run' 8 (by kernel_rfl) (by kernel_rfl)) (by kernel_rfl)
theorem reads (os : Os) {H : Type} (enc : TypeId × Value → H) : ∃ places, DataW.whole enc Tryz.prog ((laidWorld os).forCall (fun _ _ => 0) ⟨#[], #[.slice none 0 0, .slice none 0 0], []⟩).memory Tryz.f4.params.toList Rows.fnTextsSpec.vars false (#[.slice none 0 0, .slice none 0 0] : Array Value).toList 8 = some ([.nil, .nil], [], places) :=
  ⟨[], by kernel_rfl⟩
set_option maxRecDepth 100000 in
theorem lifted (os : Os) (started : os.Started) (H : Type) (enc : TypeId × Value → H) (F : Stop.Interp) :
    ReturnsInHanded {} Tryz.checked os 4 .any ((OpenSpec.ofChange Rows.fnTextsSpec).preRow enc Tryz.prog Tryz.f4 Rows.fnTextsRow.domain false Rows.fnTextsRow.laid) (((OpenSpec.ofChange Rows.fnTextsSpec).at F).post enc Tryz.prog Tryz.f4 false true false false) := by
  obtain ⟨places, hx⟩ := reads os enc
  refine returnsInHanded_of_row (C := Tryz.checked) (s := OpenSpec.ofChange Rows.fnTextsSpec) own started (by kernel_rfl) Tryz.func4
    (witness_row_atRef (enc := enc) (C := Tryz.checked) false (laidWorld os) #[.slice none 0 0, .slice none 0 0] rfl (by kernel_rfl) (by kernel_rfl) (by kernel_rfl)
      (OpenSpec.preRow_of_cond 8 hx (by kernel_rfl) (fun k hk => by cases hk) (by kernel_rfl) (laid_met os))) ?_
  intro W base args ds gs before hval hW _ _ _ hL hS _
  exact contract H enc W base args ds gs before hval hW hL hS
theorem said : Rows.FnTextsSaid :=
  OpenClaim.holds_of_cond 4 Tryz.f4 rfl rfl rfl rfl rfl rfl rfl ⟨rfl, rfl, rfl, rfl, rfl⟩ rfl rfl rfl rfl rfl (by kernel_rfl) Tryz.func4 (by kernel_rfl)
    (of_decide_eq_true (by kernel_rfl)) (by unfold Func.isWrapper; first | (rw [if_pos (by decide +kernel)]; kernel_rfl) | (rw [if_neg (by decide +kernel)]; exact ⟨rfl, rfl⟩))
    (fun os started H enc _ F => by rw [OpenClaim.pre_eq_preRow]; exact lifted os started H enc F)
theorem plain (f : FuncId) (fn : Func) (hf : Tryz.pinned.checked.prog.funcNamed "loop.example/g01129/laws.FnTexts" = some f) (hfn : Tryz.pinned.checked.prog.funcs[f]? = some fn) :
    true = Tryz.pinned.checked.prog.looks [] ∧ ∀ (j : Nat) t, fn.params[j]? = some t → Tryz.pinned.checked.prog.wantsStandIn t = false := by
  obtain rfl : f = 4 := Option.some.inj ((show Tryz.prog.funcNamed "loop.example/g01129/laws.FnTexts" = some 4 by kernel_rfl).symm.trans hf) |>.symm
  obtain rfl : fn = Tryz.f4 := (Option.some.inj (Tryz.func4.symm.trans hfn)).symm
  refine ⟨by kernel_rfl, fun j t ht => ?_⟩
  rw [Tryz.params4] at ht
  have hm := Array.mem_of_getElem? ht
  simp only [List.mem_toArray, List.mem_cons, List.not_mem_nil, or_false] at hm
  rcases hm with rfl | rfl
  · exact (show Tryz.prog.wantsStandIn 22 = false by kernel_rfl)
  · exact (show Tryz.prog.wantsStandIn 22 = false by kernel_rfl)
/-- THE STATEMENT. -/
theorem proved : Rows.FnTextsCardSaid :=
  Claim7.holds_tied_plain_at .later [] _ _ _ _ said (fun _ h => by cases h) (by kernel_rfl) (fun _ h => by cases h) fnTexts_row_tie rfl ⟨rfl, rfl⟩ (by kernel_rfl) rfl plain (by kernel_rfl)
end Go.Proofs.YtpdcmhnaedhkdaaGreatDoor.fnTexts
