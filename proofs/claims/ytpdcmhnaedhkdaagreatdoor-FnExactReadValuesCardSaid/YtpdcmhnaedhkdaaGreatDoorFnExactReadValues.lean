/- ReadValues answers as its model, at every string; its answer is memory of its own. -/
import Derived.Test.YtpdcmhnaedhkdaaGreatDoorCards
import Derived.Test.YtpdcmhnaedhkdaaGreatDoorReadVSpec
import Derived.Deep.RegionHeld3
import Derived.Deep.DeepHandedRow
import Derived.Test.YtpdcmhnaedhkdaaGreatDoorTie
import Derived.Deep.DeepWitnessRowRef
import Derived.LaidLaws
import Derived.LaidHandle
import Derived.Shelf.Vars
namespace Go.Proofs.YtpdcmhnaedhkdaaGreatDoor.fnExactReadValues
open Go.ChangeShapes Go.WideShapes Go.ChangeAt Go.RowKit
open Go.ChangeMaps (open_string shut_string)
set_option linter.unusedVariables false
/-- What the library's variables hold, as far as ReadValues reads them. -/
structure Libs (w : World) : Prop where
  vars : LibVars w
  max : ∃ m, w.cell? ⟨1, 0, none⟩ = some (.int .i64 m)
theorem Libs.keep {w w' : World} (h : Libs w) (k : Keep w w') : Libs w' := by
  obtain ⟨h1, m, h2⟩ := h
  exact ⟨h1.keep k, m, by rw [k.cell (World.block_lt_of_cell? _ _ h2)]; exact h2⟩
theorem ReadValues_any (s : ByteArray) (w : World) (hs : s.size ≤ 1048576) (h : Libs w) :
    Calls Tryz.prog 12 #[.string s] w fun e w' => ∃ rd rc, e = .returned (.tuple #[valV (rvDen s.data.toList) rd (rvNums s.data.toList).length rc, .bool (rvOk s.data.toList)]) ∧ Own w' w.heap.size rd rc (rvNums s.data.toList) ∧ Keep w w' := by
  obtain ⟨h1, m, h2⟩ := h
  exact _root_.Go.Proofs.YtpdcmhnaedhkdaaGreatDoor.ReadValues_any s w m hs h1 h2
set_option maxHeartbeats 1600000 in
set_option maxRecDepth 100000 in
theorem walk (w : World) (hL : Libs w) (a0 : ByteArray) (u0 : a0.size ≤ maxLen) :
    Calls Tryz.prog 5 #[.string a0] w fun e w' => e = .returned (.bool true) ∧ Below w.heap.size w w' := by
  have HP_ := Lib.hid hL
  clear hL
  have K0 : Keep w w := Below.refl _ _
  by_cases big0_ : (1048576 : Int) < (a0.size : Int)
  · -- too long: nothing is asked
    go_enter Tryz.func5, Tryz.ntmps5
    go_wp2
    go_ret
    exact ⟨rfl, Keep.next K0 (by go_grown)⟩
  have fit0_ : 0 ≤ (1048576 : Int) - (a0.size : Int) := by omega
  clear big0_
  obtain ⟨rg0, r0, r1, H1, H2⟩ : ∃ (rg0 : Int) (r0 : List Int) (r1 : Bool), Hid (∀ (W : World), Calls Tryz.prog 26 #[.string a0] W fun e w' => ∃ rd0 rc0, e = .returned (.tuple #[valV rg0 rd0 r0.length rc0, .bool r1]) ∧ Own w' W.heap.size rd0 rc0 r0 ∧ Keep W w') ∧ Hid (∀ (W : World), Libs W → Calls Tryz.prog 12 #[.string a0] W fun e w' => ∃ rd0 rc0, e = .returned (.tuple #[valV rg0 rd0 r0.length rc0, .bool r1]) ∧ Own w' W.heap.size rd0 rc0 r0 ∧ Keep W w') :=
    ⟨_, _, _, Lib.hid (fun W => specReadValues_any a0 W (by omega)), Lib.hid (fun W hp_ => ReadValues_any a0 W (by omega) hp_)⟩
  go_enter Tryz.func5, Tryz.ntmps5
  go_wp2_with fail
  refine (H1.out _  ).mono ?_
  rintro e w1 ⟨sd0, sc0, rfl, so0, k1⟩
  have sm0 : Mine w1 (w.heap.size) w1.heap.size _ _ _ := Mine.new (by go_size) so0
  clear so0
  have g1_ : Keep w w1 := Keep.next (by go_grown) k1
  have K1 := Keep.next K0 g1_
  have s1_ := g1_.size
  go_wp2_with fail
  refine (H2.out _   (HP_.out.keep (Keep.next K1 (by go_grown)))).mono ?_
  rintro e w2 ⟨gd0, gc0, rfl, go0, k2⟩
  have gm0 : Mine w2 (w1.heap.size + 1) w2.heap.size _ _ _ := Mine.new (by go_size) go0
  clear go0
  have g2_ : Keep w1 w2 := Keep.next (by go_grown) k2
  have K2 := Keep.next K1 g2_
  have s2_ := g2_.size
  have X_ : Box w2 (w1.heap.size) rg0 (sd0) (r0.length) (sc0) := Box.keep ⟨by simp, by simp, by first | (simp; done) | (simp; omega)⟩ k2
  obtain ⟨SB0a, SB0b, SB0l⟩ := X_
  have SB0s := SB0l
  replace sm0 := sm0.keep g2_
  go_wp2_with fail
  refine (eqValues_same rg0 _ _ _ _ r0 _ (gm0.keep (by go_grown)).ints (sm0.keep (by go_grown)).ints).mono ?_
  rintro e w3 ⟨rfl, k3⟩
  have g3_ : Keep w2 w3 := Keep.next (by go_grown) k3
  have K3 := Keep.next K2 g3_
  have s3_ := g3_.size
  have X_ := (Box.mk SB0a SB0b SB0l).keep g3_
  clear SB0a SB0b SB0l; obtain ⟨SB0a, SB0b, SB0l⟩ := X_
  have X_ : Box w3 (w2.heap.size) rg0 (gd0) (r0.length) (gc0) := Box.keep ⟨by simp, by simp, by first | (simp; done) | (simp; omega)⟩ k3
  obtain ⟨GB0a, GB0b, GB0l⟩ := X_
  have GB0s := GB0l
  replace sm0 := sm0.keep g3_
  replace gm0 := gm0.keep g3_
  have L0_ := gm0.own.2.1
  go_wp2_with fail
  refine (markValues_any _ rg0 _ _ r0 (1) _ (gm0.keep (by go_grown)).own (by omega) (by omega) (by omega)).mono ?_
  rintro e w4 ⟨rfl, o4, k4⟩
  have g4_ := grownBy_trans (keep_grown (w := w3) (by go_grown) _) k4
  replace gm0 : Mine w4 _ _ _ _ _ := ⟨o4, gm0.below⟩
  have K4 := below_past K3 gm0 g4_ (K3).size (by omega)
  have s4_ := g4_.size
  have X_ := (Box.mk SB0a SB0b SB0l).past gm0 g4_ (by omega)
  clear SB0a SB0b SB0l; obtain ⟨SB0a, SB0b, SB0l⟩ := X_
  have X_ := (Box.mk GB0a GB0b GB0l).past gm0 g4_ (by omega)
  clear GB0a GB0b GB0l; obtain ⟨GB0a, GB0b, GB0l⟩ := X_
  replace sm0 := sm0.past gm0 g4_ (by omega)
  have hm_ : 0 ≤ 1 + (r0.length : Int) := by omega
  go_wp2_with fail
  refine (heldValues_any rg0 _ _ (1) r0.length _ (gm0.keep (by go_grown)).ints (by omega) (by omega) (by omega) (by omega)).mono ?_
  rintro e w5 ⟨rfl, k5⟩
  have g5_ : Keep w4 w5 := Keep.next (by go_grown) k5
  have K5 := Keep.next K4 g5_
  have s5_ := g5_.size
  have X_ := (Box.mk SB0a SB0b SB0l).keep g5_
  clear SB0a SB0b SB0l; obtain ⟨SB0a, SB0b, SB0l⟩ := X_
  have X_ := (Box.mk GB0a GB0b GB0l).keep g5_
  clear GB0a GB0b GB0l; obtain ⟨GB0a, GB0b, GB0l⟩ := X_
  replace sm0 := sm0.keep g5_
  replace gm0 := gm0.keep g5_
  go_wp2_with fail
  refine (H2.out _   (HP_.out.keep (Keep.next K5 (by go_grown)))).mono ?_
  rintro e w6 ⟨hd0, hc0, rfl, ho0, k6⟩
  have hm0 : Mine w6 (w5.heap.size) w6.heap.size _ _ _ := Mine.new (by go_size) ho0
  clear ho0
  have g6_ : Keep w5 w6 := Keep.next (by go_grown) k6
  have K6 := Keep.next K5 g6_
  have s6_ := g6_.size
  have X_ := (Box.mk SB0a SB0b SB0l).keep g6_
  clear SB0a SB0b SB0l; obtain ⟨SB0a, SB0b, SB0l⟩ := X_
  have X_ := (Box.mk GB0a GB0b GB0l).keep g6_
  clear GB0a GB0b GB0l; obtain ⟨GB0a, GB0b, GB0l⟩ := X_
  replace sm0 := sm0.keep g6_
  replace gm0 := gm0.keep g6_
  go_wp2_with fail
  refine (eqValues_same rg0 _ _ _ _ r0 _ (hm0.keep (by go_grown)).ints (sm0.keep (by go_grown)).ints).mono ?_
  rintro e w7 ⟨rfl, k7⟩
  have g7_ : Keep w6 w7 := Keep.next (by go_grown) k7
  have K7 := Keep.next K6 g7_
  have s7_ := g7_.size
  have X_ := (Box.mk SB0a SB0b SB0l).keep g7_
  clear SB0a SB0b SB0l; obtain ⟨SB0a, SB0b, SB0l⟩ := X_
  have X_ := (Box.mk GB0a GB0b GB0l).keep g7_
  clear GB0a GB0b GB0l; obtain ⟨GB0a, GB0b, GB0l⟩ := X_
  have X_ : Box w7 (w6.heap.size) rg0 (hd0) (r0.length) (hc0) := Box.keep ⟨by simp, by simp, by first | (simp; done) | (simp; omega)⟩ k7
  obtain ⟨HB0a, HB0b, HB0l⟩ := X_
  have HB0s := HB0l
  replace sm0 := sm0.keep g7_
  replace gm0 := gm0.keep g7_
  replace hm0 := hm0.keep g7_
  go_wp2_with fail
  refine (heldValues_any rg0 _ _ (1) r0.length _ (gm0.keep (by go_grown)).ints (by omega) (by omega) (by omega) (by omega)).mono ?_
  rintro e w8 ⟨rfl, k8⟩
  have g8_ : Keep w7 w8 := Keep.next (by go_grown) k8
  have K8 := Keep.next K7 g8_
  have s8_ := g8_.size
  have X_ := (Box.mk SB0a SB0b SB0l).keep g8_
  clear SB0a SB0b SB0l; obtain ⟨SB0a, SB0b, SB0l⟩ := X_
  have X_ := (Box.mk GB0a GB0b GB0l).keep g8_
  clear GB0a GB0b GB0l; obtain ⟨GB0a, GB0b, GB0l⟩ := X_
  have X_ := (Box.mk HB0a HB0b HB0l).keep g8_
  clear HB0a HB0b HB0l; obtain ⟨HB0a, HB0b, HB0l⟩ := X_
  replace sm0 := sm0.keep g8_
  replace gm0 := gm0.keep g8_
  replace hm0 := hm0.keep g8_
  go_wp2
  go_ret
  exact ⟨rfl, Keep.next K8 (by go_grown)⟩

theorem laidMet_tail {P : Program} {x : String × DataW Unit} {rest : List (String × DataW Unit)} {W : World} (h : laidMet P (x :: rest) W) : laidMet P rest W := by
  obtain ⟨ps, ⟨g', t', cs, fuel, p, q, hg', ht', hvar, hd, hr, he⟩, hnd, hall⟩ := h
  subst he
  exact ⟨q, hr, (List.nodup_append.1 hnd).2.1, fun b off hb => hall b off (List.mem_append_right _ hb)⟩
theorem sent_of_head {P : Program} {name nm : String} {d : DataW Unit} {rest : List (String × DataW Unit)} {W : World} {g t : Nat} {ms : Array (String × TypeId)} (hg : P.globalNamed name = some g) (hty : (P.globals[g]?).map (·.type) = some t) (hi : P.underlying t = some (.interface ms))
    (h : laidMet P ((name, .iface nm d) :: rest) W) : ∃ u v, W.var? P name = some #[.iface u v] := by
  obtain ⟨ps, ⟨g', t', cs, fuel, p, q, hg', ht', hvar, hd, hr, he⟩, hnd, hall⟩ := h
  obtain rfl := Option.some.inj (hg.symm.trans hg')
  obtain rfl := Option.some.inj (hty.symm.trans ht')
  obtain ⟨_, u, v, hc, _⟩ := iface_of_trod hi hd
  exact ⟨u, v, by rw [hvar, Array.eq_one_of_toList hc]⟩
theorem et : Tryz.prog.globalNamed "errors.errorType" = some 0 := by kernel_rfl
theorem rt : (Tryz.prog.cutTypes.find? (·.1 == "internal/reflectlite.rtype")).map (·.2) = some 132 := by kernel_rfl
theorem tsize : Tryz.prog.types.size = 208 := by kernel_rfl
theorem oneRow : ((List.range 208).filter fun t => Tryz.prog.rowNamed t [101, 114, 114, 111, 114]) = [61] := by kernel_rfl
theorem libVars {W : World} (h : laidMetH Tryz.prog Rows.fnExactReadValuesRow.laid W) : LibVars W := by
  have h' : laidMet Tryz.prog [("math/bits.deBruijn32tab", Rows.laid_math_bits_deBruijn32tab), ("math/bits.deBruijn64tab", Rows.laid_math_bits_deBruijn64tab), ("internal/strconv.uint64pow10", Rows.laid_internal_strconv_uint64pow10), ("unicode/utf8.acceptRanges", Rows.laid_unicode_utf8_acceptRanges), ("strconv.ErrRange", Rows.laid_strconv_ErrRange), ("strconv.ErrSyntax", Rows.laid_strconv_ErrSyntax), ("unicode/utf8.first", Rows.laid_unicode_utf8_first)] W ∧ handlesMet Tryz.prog [("errors.errorType", Rows.laid_errors_errorType)] W := h
  obtain ⟨h1, h2⟩ := h'
  have h3 := laidMet_tail (laidMet_tail h1)
  have h4 := laidMet_tail (laidMet_tail h3)
  have h5 := laidMet_tail h4
  refine ⟨Lib.tabIs_of_head gPow (t := 154) (e := 74) (n := 20) (by kernel_rfl) (by kernel_rfl) (by kernel_rfl) (by kernel_rfl) (by kernel_rfl) h3,
    sent_of_head gSyn (t := 61) (by kernel_rfl) Tryz.underlying61 h5, sent_of_head gRan (t := 61) (by kernel_rfl) Tryz.underlying61 h4, ?_⟩
  obtain ⟨name, u, ty, e1, e2, e3, e4, e5⟩ := h2 _ (List.mem_singleton.2 rfl)
  have en : name = [101, 114, 114, 111, 114] := (Option.some.inj e1).symm
  subst en
  obtain rfl := Option.some.inj (rt.symm.trans e2)
  have hm : ty ∈ (List.range 208).filter fun t => Tryz.prog.rowNamed t [101, 114, 114, 111, 114] := List.mem_filter.2 ⟨List.mem_range.2 (by rw [← tsize]; exact e3), e4⟩
  rw [oneRow] at hm
  obtain rfl := List.mem_singleton.1 hm
  have hh : typeHandle Tryz.prog 61 = th 61 := by kernel_rfl
  rw [hh] at e5
  simpa using World.var?_cell et e5 0
theorem libs {W : World} (h : laidMetH Tryz.prog Rows.fnExactReadValuesRow.laid W) (hS : W.ShapedOpen Tryz.prog) : Libs W :=
  ⟨libVars h, Go.Proofs.cell_of_shapedOpen_int (P := Tryz.prog) (g := 1) (t := 3) (zero := #[.int .i64 0]) hS (of_decide_eq_true (by kernel_rfl)) (by kernel_rfl) rfl (by kernel_rfl) (by kernel_rfl) Tryz.underlying3⟩

theorem own : ownKnob Tryz.prog.godebug = none := by kernel_rfl
theorem laidOut : laidOutB Tryz.prog = true := by kernel_rfl
set_option maxRecDepth 100000 in
theorem contract (H : Type) (enc : TypeId × Value → H) (W : World) (base : Nat) (args : Array Value) (ds gs : List (DataW H)) (before : List MemPlace)
    (hval0 : ∀ (j : Nat) t v, Tryz.f5.params[j]? = some t → args[j]? = some v → Value.okWide Tryz.prog W .any base t v)
    (hW : DataW.Whole enc Tryz.prog Tryz.f5.params.toList Rows.fnExactReadValuesSpec.vars false W args.toList ds gs before) (hL : laidMetH Tryz.prog Rows.fnExactReadValuesRow.laid W) (hS : W.ShapedOpen Tryz.prog) :
    Calls Tryz.prog 5 args W fun e W' => ∃ v, e = .returned v ∧ Rows.fnExactReadValuesSpec.post enc Tryz.prog Tryz.f5 false true false false W args v W' := by
  have hval : ∀ (j : Nat) t v, Tryz.f5.params[j]? = some t → args[j]? = some v → Value.okWide Tryz.prog W .any base t v := hval0
  have hW' := hW
  obtain ⟨p, q, hA0, hV, rfl, hfz, hnd⟩ := hW
  have hA : DataW.TrodAll enc Tryz.prog W 0 (fun _ => true) true Tryz.f5.params.toList args.toList ds p := hA0
  rw [Tryz.params5] at hA hval
  obtain ⟨v0, vs0, d0, ds0, p0, q0, hargs, rfl, rfl, h0, r0⟩ := trodAll_cons hA
  obtain ⟨rfl, rfl, rfl⟩ := trodAll_nil r0
  obtain rfl : args = #[v0] := by cases args; simp_all
  obtain ⟨rfl, rfl⟩ := trodVars_none hV
  have k0 := h0
  have lt0 : ∀ x ∈ p0, x.block < W.heap.size := by obtain ⟨m, hm⟩ := k0; exact DataW.trod_lt m _ _ _ hm
  obtain ⟨a0, rfl, rfl, rfl, wf0⟩ := open_string Tryz.underlying9 (hval 0 9 v0 rfl rfl) h0
  clear hA0 hval0
  refine (walk W (libs hL hS) a0 wf0).mono fun e W' ⟨he, bel⟩ => ?_
  subst he
  exact ⟨_, rfl, _, _, _, [], _, [], hW', trodAll_mk1 (shut_bool Tryz.underlying4 _), (trodAll_cons_mk (shut_string Tryz.underlying9 wf0) trodAll_mk0), rfl, bel.frame _, fun h => by cases h⟩
/-- A variable's cells, laid. -/
def layTab (cs : Array Value) : Obj → Obj
  | .cells _ t frozen => .cells cs t frozen
  | o => o
noncomputable def low : Nat := (World.holding Tryz.prog default ⟨#[], #[], []⟩).heap.size
noncomputable def laidWorld (os : Os) : World :=
  { World.holding Tryz.prog os ⟨#[.cells #[.string ⟨#[118, 97, 108, 117, 101, 32, 111, 117, 116, 32, 111, 102, 32, 114, 97, 110, 103, 101]⟩] 174, .cells #[.string ⟨#[105, 110, 118, 97, 108, 105, 100, 32, 115, 121, 110, 116, 97, 120]⟩] 174], #[], []⟩ with heap := (((((((((World.holding Tryz.prog os ⟨#[.cells #[.string ⟨#[118, 97, 108, 117, 101, 32, 111, 117, 116, 32, 111, 102, 32, 114, 97, 110, 103, 101]⟩] 174, .cells #[.string ⟨#[105, 110, 118, 97, 108, 105, 100, 32, 115, 121, 110, 116, 97, 120]⟩] 174], #[], []⟩).heap.modify 5 (layTab #[.int .u8 0, .int .u8 1, .int .u8 28, .int .u8 2, .int .u8 29, .int .u8 14, .int .u8 24, .int .u8 3, .int .u8 30, .int .u8 22, .int .u8 20, .int .u8 15, .int .u8 25, .int .u8 17, .int .u8 4, .int .u8 8, .int .u8 31, .int .u8 27, .int .u8 13, .int .u8 23, .int .u8 21, .int .u8 19, .int .u8 16, .int .u8 7, .int .u8 26, .int .u8 12, .int .u8 18, .int .u8 6, .int .u8 11, .int .u8 5, .int .u8 10, .int .u8 9])).modify 6 (layTab #[.int .u8 0, .int .u8 1, .int .u8 56, .int .u8 2, .int .u8 57, .int .u8 49, .int .u8 28, .int .u8 3, .int .u8 61, .int .u8 58, .int .u8 42, .int .u8 50, .int .u8 38, .int .u8 29, .int .u8 17, .int .u8 4, .int .u8 62, .int .u8 47, .int .u8 59, .int .u8 36, .int .u8 45, .int .u8 43, .int .u8 51, .int .u8 22, .int .u8 53, .int .u8 39, .int .u8 33, .int .u8 30, .int .u8 24, .int .u8 18, .int .u8 12, .int .u8 5, .int .u8 63, .int .u8 55, .int .u8 48, .int .u8 27, .int .u8 60, .int .u8 41, .int .u8 37, .int .u8 16, .int .u8 46, .int .u8 35, .int .u8 44, .int .u8 21, .int .u8 52, .int .u8 32, .int .u8 23, .int .u8 11, .int .u8 54, .int .u8 26, .int .u8 40, .int .u8 15, .int .u8 34, .int .u8 20, .int .u8 31, .int .u8 10, .int .u8 25, .int .u8 14, .int .u8 19, .int .u8 9, .int .u8 13, .int .u8 8, .int .u8 7, .int .u8 6])).modify 2 (layTab #[.int .u64 1, .int .u64 10, .int .u64 100, .int .u64 1000, .int .u64 10000, .int .u64 100000, .int .u64 1000000, .int .u64 10000000, .int .u64 100000000, .int .u64 1000000000, .int .u64 10000000000, .int .u64 100000000000, .int .u64 1000000000000, .int .u64 10000000000000, .int .u64 100000000000000, .int .u64 1000000000000000, .int .u64 10000000000000000, .int .u64 100000000000000000, .int .u64 1000000000000000000, .int .u64 10000000000000000000])).modify 8 (layTab #[.int .u8 128, .int .u8 191, .int .u8 160, .int .u8 191, .int .u8 128, .int .u8 159, .int .u8 144, .int .u8 191, .int .u8 128, .int .u8 143, .int .u8 0, .int .u8 0, .int .u8 0, .int .u8 0, .int .u8 0, .int .u8 0, .int .u8 0, .int .u8 0, .int .u8 0, .int .u8 0, .int .u8 0, .int .u8 0, .int .u8 0, .int .u8 0, .int .u8 0, .int .u8 0, .int .u8 0, .int .u8 0, .int .u8 0, .int .u8 0, .int .u8 0, .int .u8 0])).modify 0 (layTab #[.iface 132 (.agg #[.pointer (some ⟨9, 61, none⟩)])])).modify 4 (layTab #[.iface 172 (.pointer (some ⟨low + 0, 0, none⟩))])).modify 3 (layTab #[.iface 172 (.pointer (some ⟨low + 1, 0, none⟩))])).modify 7 (layTab #[.int .u8 240, .int .u8 240, .int .u8 240, .int .u8 240, .int .u8 240, .int .u8 240, .int .u8 240, .int .u8 240, .int .u8 240, .int .u8 240, .int .u8 240, .int .u8 240, .int .u8 240, .int .u8 240, .int .u8 240, .int .u8 240, .int .u8 240, .int .u8 240, .int .u8 240, .int .u8 240, .int .u8 240, .int .u8 240, .int .u8 240, .int .u8 240, .int .u8 240, .int .u8 240, .int .u8 240, .int .u8 240, .int .u8 240, .int .u8 240, .int .u8 240, .int .u8 240, .int .u8 240, .int .u8 240, .int .u8 240, .int .u8 240, .int .u8 240, .int .u8 240, .int .u8 240, .int .u8 240, .int .u8 240, .int .u8 240, .int .u8 240, .int .u8 240, .int .u8 240, .int .u8 240, .int .u8 240, .int .u8 240, .int .u8 240, .int .u8 240, .int .u8 240, .int .u8 240, .int .u8 240, .int .u8 240, .int .u8 240, .int .u8 240, .int .u8 240, .int .u8 240, .int .u8 240, .int .u8 240, .int .u8 240, .int .u8 240, .int .u8 240, .int .u8 240, .int .u8 240, .int .u8 240, .int .u8 240, .int .u8 240, .int .u8 240, .int .u8 240, .int .u8 240, .int .u8 240, .int .u8 240, .int .u8 240, .int .u8 240, .int .u8 240, .int .u8 240, .int .u8 240, .int .u8 240, .int .u8 240, .int .u8 240, .int .u8 240, .int .u8 240, .int .u8 240, .int .u8 240, .int .u8 240, .int .u8 240, .int .u8 240, .int .u8 240, .int .u8 240, .int .u8 240, .int .u8 240, .int .u8 240, .int .u8 240, .int .u8 240, .int .u8 240, .int .u8 240, .int .u8 240, .int .u8 240, .int .u8 240, .int .u8 240, .int .u8 240, .int .u8 240, .int .u8 240, .int .u8 240, .int .u8 240, .int .u8 240, .int .u8 240, .int .u8 240, .int .u8 240, .int .u8 240, .int .u8 240, .int .u8 240, .int .u8 240, .int .u8 240, .int .u8 240, .int .u8 240, .int .u8 240, .int .u8 240, .int .u8 240, .int .u8 240, .int .u8 240, .int .u8 240, .int .u8 240, .int .u8 240, .int .u8 240, .int .u8 240, .int .u8 240, .int .u8 241, .int .u8 241, .int .u8 241, .int .u8 241, .int .u8 241, .int .u8 241, .int .u8 241, .int .u8 241, .int .u8 241, .int .u8 241, .int .u8 241, .int .u8 241, .int .u8 241, .int .u8 241, .int .u8 241, .int .u8 241, .int .u8 241, .int .u8 241, .int .u8 241, .int .u8 241, .int .u8 241, .int .u8 241, .int .u8 241, .int .u8 241, .int .u8 241, .int .u8 241, .int .u8 241, .int .u8 241, .int .u8 241, .int .u8 241, .int .u8 241, .int .u8 241, .int .u8 241, .int .u8 241, .int .u8 241, .int .u8 241, .int .u8 241, .int .u8 241, .int .u8 241, .int .u8 241, .int .u8 241, .int .u8 241, .int .u8 241, .int .u8 241, .int .u8 241, .int .u8 241, .int .u8 241, .int .u8 241, .int .u8 241, .int .u8 241, .int .u8 241, .int .u8 241, .int .u8 241, .int .u8 241, .int .u8 241, .int .u8 241, .int .u8 241, .int .u8 241, .int .u8 241, .int .u8 241, .int .u8 241, .int .u8 241, .int .u8 241, .int .u8 241, .int .u8 241, .int .u8 241, .int .u8 2, .int .u8 2, .int .u8 2, .int .u8 2, .int .u8 2, .int .u8 2, .int .u8 2, .int .u8 2, .int .u8 2, .int .u8 2, .int .u8 2, .int .u8 2, .int .u8 2, .int .u8 2, .int .u8 2, .int .u8 2, .int .u8 2, .int .u8 2, .int .u8 2, .int .u8 2, .int .u8 2, .int .u8 2, .int .u8 2, .int .u8 2, .int .u8 2, .int .u8 2, .int .u8 2, .int .u8 2, .int .u8 2, .int .u8 2, .int .u8 19, .int .u8 3, .int .u8 3, .int .u8 3, .int .u8 3, .int .u8 3, .int .u8 3, .int .u8 3, .int .u8 3, .int .u8 3, .int .u8 3, .int .u8 3, .int .u8 3, .int .u8 35, .int .u8 3, .int .u8 3, .int .u8 52, .int .u8 4, .int .u8 4, .int .u8 4, .int .u8 68, .int .u8 241, .int .u8 241, .int .u8 241, .int .u8 241, .int .u8 241, .int .u8 241, .int .u8 241, .int .u8 241, .int .u8 241, .int .u8 241, .int .u8 241])) }
theorem laid_met (os : Os) : laidMetH Tryz.prog Rows.fnExactReadValuesRow.laid ((laidWorld os).forCall (fun _ _ => 0) ⟨#[], #[.string ByteArray.empty], []⟩).memory :=
  laidMetH_of_parts (laidMet_of_run' 8 (by kernel_rfl) (by kernel_rfl)) (by kernel_rfl)
theorem reads (os : Os) {H : Type} (enc : TypeId × Value → H) : ∃ places, DataW.whole enc Tryz.prog ((laidWorld os).forCall (fun _ _ => 0) ⟨#[], #[.string ByteArray.empty], []⟩).memory Tryz.f5.params.toList Rows.fnExactReadValuesSpec.vars false (#[.string ByteArray.empty] : Array Value).toList 8 = some ([.lit (.string [])], [], places) :=
  ⟨[], by kernel_rfl⟩
set_option maxRecDepth 100000 in
theorem lifted (os : Os) (started : os.Started) (H : Type) (enc : TypeId × Value → H) (F : Stop.Interp) :
    ReturnsInHanded {} Tryz.checked os 5 .any ((OpenSpec.ofChange Rows.fnExactReadValuesSpec).preRow enc Tryz.prog Tryz.f5 Rows.fnExactReadValuesRow.domain false Rows.fnExactReadValuesRow.laid) (((OpenSpec.ofChange Rows.fnExactReadValuesSpec).at F).post enc Tryz.prog Tryz.f5 false true false false) := by
  obtain ⟨places, hx⟩ := reads os enc
  refine returnsInHanded_of_row (C := Tryz.checked) (s := OpenSpec.ofChange Rows.fnExactReadValuesSpec) own started (by kernel_rfl) Tryz.func5
    (witness_row_atRef (enc := enc) (C := Tryz.checked) false (laidWorld os) #[.string ByteArray.empty] rfl (by kernel_rfl) (by kernel_rfl) (by kernel_rfl)
      (OpenSpec.preRow_of_cond 8 hx (by kernel_rfl) (fun k hk => by cases hk) (by kernel_rfl) (laid_met os))) ?_
  intro W base args ds gs before hval hW _ _ _ hL hS _
  exact contract H enc W base args ds gs before hval hW hL hS
theorem said : Rows.FnExactReadValuesSaid :=
  OpenClaim.holds_of_cond 5 Tryz.f5 rfl rfl rfl rfl rfl rfl rfl ⟨rfl, rfl, rfl, rfl, rfl⟩ rfl rfl rfl rfl rfl (by kernel_rfl) Tryz.func5 (by kernel_rfl)
    (of_decide_eq_true (by kernel_rfl)) (by unfold Func.isWrapper; first | (rw [if_pos (by decide +kernel)]; kernel_rfl) | (rw [if_neg (by decide +kernel)]; exact ⟨rfl, rfl⟩))
    (fun os started H enc _ F => by rw [OpenClaim.pre_eq_preRow]; exact lifted os started H enc F)
theorem plain (f : FuncId) (fn : Func) (hf : Tryz.pinned.checked.prog.funcNamed "loop.example/g01129/laws.FnExactReadValues" = some f) (hfn : Tryz.pinned.checked.prog.funcs[f]? = some fn) :
    true = Tryz.pinned.checked.prog.looks [] ∧ ∀ (j : Nat) t, fn.params[j]? = some t → Tryz.pinned.checked.prog.wantsStandIn t = false := by
  obtain rfl : f = 5 := Option.some.inj ((show Tryz.prog.funcNamed "loop.example/g01129/laws.FnExactReadValues" = some 5 by kernel_rfl).symm.trans hf) |>.symm
  obtain rfl : fn = Tryz.f5 := (Option.some.inj (Tryz.func5.symm.trans hfn)).symm
  refine ⟨by kernel_rfl, fun j t ht => ?_⟩
  rw [Tryz.params5] at ht
  have hm := Array.mem_of_getElem? ht
  simp only [List.mem_toArray, List.mem_cons, List.not_mem_nil, or_false] at hm
  subst hm
  exact (show Tryz.prog.wantsStandIn 9 = false by kernel_rfl)
/-- THE STATEMENT. -/
theorem proved : Rows.FnExactReadValuesCardSaid :=
  Claim7.holds_tied_plain_at .later [] _ _ _ _ said (fun _ h => by cases h) (by kernel_rfl) (fun _ h => by cases h) fnExactReadValues_row_tie rfl ⟨rfl, rfl⟩ (by kernel_rfl) rfl plain (by kernel_rfl)
end Go.Proofs.YtpdcmhnaedhkdaaGreatDoor.fnExactReadValues
