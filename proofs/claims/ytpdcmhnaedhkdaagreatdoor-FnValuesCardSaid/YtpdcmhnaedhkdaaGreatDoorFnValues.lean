/- FnValues: roundings, errors, sums and texts of values, at all bytes. -/
import Derived.Test.YtpdcmhnaedhkdaaGreatDoorCards
import Derived.Test.YtpdcmhnaedhkdaaGreatDoorBackV
import Derived.Test.YtpdcmhnaedhkdaaGreatDoorFacts10
import Derived.Test.YtpdcmhnaedhkdaaGreatDoorSum10
import Derived.Test.YtpdcmhnaedhkdaaGreatDoorRound10
import Derived.Test.YtpdcmhnaedhkdaaGreatDoorErrs
import Derived.Test.YtpdcmhnaedhkdaaGreatDoorSums
import Derived.Test.YtpdcmhnaedhkdaaGreatDoorValText
import Derived.Test.YtpdcmhnaedhkdaaGreatDoorDraw10
import Derived.Test.YtpdcmhnaedhkdaaGreatDoorNums10
import Derived.Test.YtpdcmhnaedhkdaaGreatDoorBten
import Derived.Test.YtpdcmhnaedhkdaaGreatDoorReadL2
import Derived.Deep.RegionHeld3
import Derived.Deep.DeepHandedRow
import Derived.Test.YtpdcmhnaedhkdaaGreatDoorTie
import Derived.Deep.DeepWitnessRowRef
import Derived.LaidLaws
import Derived.LaidHandle
import Derived.Shelf.Vars
namespace Go.Proofs.YtpdcmhnaedhkdaaGreatDoor.fnValues
open Go.ChangeShapes Go.WideShapes Go.ChangeAt Go.RowKit
set_option linter.unusedVariables false
/-- What the library's variables hold, as far as ReadList reads them. -/
structure Libs (w : World) : Prop where
  vars : LibVars w
  max : ∃ m, w.cell? ⟨1, 0, none⟩ = some (.int .i64 m)
theorem Libs.keep {w w' : World} (h : Libs w) (k : Keep w w') : Libs w' := by
  obtain ⟨h1, m, h2⟩ := h
  exact ⟨h1.keep k, m, by rw [k.cell (World.block_lt_of_cell? _ _ h2)]; exact h2⟩
theorem RV_any (s : ByteArray) (w : World) (hs : s.size ≤ 1048576) (h : Libs w) :
    Calls Tryz.prog 12 #[.string s] w fun e w' => ∃ rd rc, e = .returned (.tuple #[valV (rvDen s.data.toList) rd (rvNums s.data.toList).length rc, .bool (rvOk s.data.toList)]) ∧ Own w' w.heap.size rd rc (rvNums s.data.toList) ∧ Keep w w' := by
  obtain ⟨h1, m, h2⟩ := h
  exact _root_.Go.Proofs.YtpdcmhnaedhkdaaGreatDoor.ReadValues_any s w m hs h1 h2
/-- What stays all along. -/
structure Ctx (w W : World) (vb : Nat) (g : Int) (rd : Option Addr) (rc : Nat) (vs : List Int) : Prop where
  t : Two W vb (.int .i64 g) (.slice rd vs.length rc)
  k : Keep w W
  o : Ints W rd vs
  l : Libs W
theorem Ctx.keep {w W W' : World} {vb : Nat} {g : Int} {rd : Option Addr} {rc : Nat} {vs : List Int} (h : Ctx w W vb g rd rc vs) (k : Keep W W') : Ctx w W' vb g rd rc vs :=
  ⟨h.t.keep k h.t.lt, Keep.next h.k k, h.o.keep k (Nat.le_refl _), h.l.keep k⟩
theorem inext {W W' : World} {rd : Option Addr} {vs : List Int} (h : Ints W rd vs) (k : Keep W W') : Ints W' rd vs := h.keep k (Nat.le_refl _)
set_option maxHeartbeats 1600000 in
set_option maxRecDepth 100000 in
theorem walk (w : World) (hL : Libs w) (a0 : Option Addr) (cap0 : Nat) (z0 : List Int) (w0 : Bytes w a0 z0) (a1 : Option Addr) (cap1 : Nat) (z1 : List Int) (w1 : Bytes w a1 z1) :
    Calls Tryz.prog 3 #[.slice a0 z0.length cap0, .slice a1 z1.length cap1] w fun e w' => e = .returned (.bool true) ∧ Below w.heap.size w w' := by
  have s0 := w0.small
  have s1 := w1.small
  cases hl : (decide (1048576 < z0.length) || decide (1048576 < z1.length))
  case true =>
    go_enter Tryz.func3, Tryz.ntmps3
    go_wp2_with fail
    refine (b10Long_any a0 a1 cap0 cap1 _ _ _ s0 s1).mono ?_
    rw [hl]
    rintro e w' ⟨rfl, rfl⟩
    go_wp2
    go_ret
    exact ⟨rfl, Below.refl _ _⟩
  have HL := Lib.hid hl; clear hl
  have HLB := Lib.hid hL; clear hL
  go_enter Tryz.func3, Tryz.ntmps3
  go_wp2_with fail
  refine (b10Long_any a0 a1 cap0 cap1 _ _ _ s0 s1).mono ?_
  rw [HL.out]
  rintro e w' ⟨rfl, rfl⟩
  go_wp2_with fail
  refine (B10Values_any a0 cap0 z0 w w0).mono ?_
  rintro e w2 ⟨g, vs, rd, rc, rfl, o2, g0, g1, hl, hv, k2⟩
  have HV := Lib.hid hv
  have HO2 := Lib.hid o2; have K2 := Lib.hid k2
  have HLB2 := Lib.hid (HLB.out.keep k2)
  clear o2 k2 hv HLB
  go_wp2_with fail
  have hok : okV g vs = true := by
    unfold okV listOk allIn
    rw [inB_iff.2 ⟨by omega, by omega⟩, decide_eq_true hl, Bool.true_and, Bool.true_and, List.all_eq_true]
    intro z hz; have := HV.out z hz; rw [inB_iff]; omega
  have HOK := Lib.hid hok; clear hok
  have k3 : Keep w2 (w2.alloc (.cells #[.int .i64 g, .slice rd vs.length rc] 26)) := by go_grown
  have T3 : Two (w2.alloc (.cells #[.int .i64 g, .slice rd vs.length rc] 26)) w2.heap.size (.int .i64 g) (.slice rd vs.length rc) := ⟨by simp, by simp, by simp, by simp⟩
  have C3 := Lib.hid (Ctx.mk T3 (Keep.next K2.out k3) (HO2.out.keep k3).ints (HLB2.out.keep k3))
  clear k3 T3 HO2 K2 HLB2
  generalize w2.alloc (.cells #[.int .i64 g, .slice rd vs.length rc] 26) = w3 at *
  obtain ⟨vb, hvb⟩ : ∃ vb, vb = w2.heap.size := ⟨_, rfl⟩
  rw [← hvb] at C3
  rw [← hvb]
  clear hvb
  refine (B10Rounding_any a1 cap1 z1 g rd rc vs w3 (w1.keep C3.out.k (Nat.le_refl _)) C3.out.o ⟨g0, g1⟩ hl HV.out).mono ?_
  rintro e w4 ⟨rs, ld, lc, rfl, ol, hrl, hrv, k4⟩
  rw [hrl]
  have C4 := Lib.hid (C3.out.keep k4)
  have L4 := Lib.hid ol.ints
  have hrb : ∀ z ∈ rs, -1000000000 ≤ z ∧ z ≤ 1000000000 := by
    intro z hz
    obtain ⟨k, hk, rfl⟩ := List.getElem_of_mem hz
    have hx := HV.out _ (getD_mem vs k (by omega))
    have h1 := fl_bd (a := vs.getD k 0) (b := g) (M := 1000000) (by omega) (by omega) (by omega) (by omega)
    have h2 := ce_bd (a := vs.getD k 0) (b := g) (M := 1000000) (by omega) (by omega) (by omega) (by omega)
    have h3 := hrv k (by omega)
    rw [getD_get rs k hk] at h3
    rcases h3 with h3 | h3 <;> omega
  have hoe : okE g vs rs = true := by
    unfold okE listOk allIn
    rw [HOK.out, decide_eq_true hrl, decide_eq_true (show rs.length ≤ 40 from by omega), Bool.true_and, Bool.true_and, Bool.true_and, List.all_eq_true]
    intro z hz; have := hrb z hz; rw [inB_iff]; omega
  have hrn : rndB g vs rs = true := by
    unfold rndB
    rw [HOK.out, decide_eq_true hrl, Bool.true_and, Bool.true_and, decide_eq_true_eq]
    intro j hj; exact hrv j (by omega)
  have HRB := Lib.hid hrb; have HOE := Lib.hid hoe; have HRN := Lib.hid hrn; have HRV := Lib.hid hrv
  have HRL := Lib.hid hrl
  clear hrb hoe hrn hrv ol k4 C3 hrl
  obtain ⟨c0, c1, f0, f1⟩ := C4.out.t
  go_wp2_with fail
  have hcall := ErrorsOf_any g rd rc vs ld lc rs w4 C4.out.o L4.out
  rw [HRL.out] at hcall
  refine hcall.mono ?_
  clear hcall
  rw [HOE.out, show errsV g vs rs = errsL g vs rs from by unfold errsV; rw [if_pos HOE.out]]
  rintro e w5 ⟨ed, ec, rfl, oe, k5⟩
  rw [errsL_len g vs rs HRL.out, HRL.out]
  have HEL := Lib.hid ((errsL_len g vs rs HRL.out).trans HRL.out)
  have C5 := Lib.hid (C4.out.keep k5)
  have L5 := Lib.hid (inext L4.out k5)
  have E5 := Lib.hid oe.ints
  have HEI := Lib.hid (errsL_in HOE.out)
  have HES := Lib.hid (errsL_sum g vs rs HRL.out)
  have HEB := Lib.hid (errs_small g vs rs g0 HRL.out HRV.out)
  have HEG := Lib.hid (errsL_get g vs rs HRL.out)
  generalize errsL g vs rs = es at *
  clear oe k5 C4 L4 c0 c1 f0 f1
  obtain ⟨c0, c1, f0, f1⟩ := C5.out.t
  go_wp2_with fail
  refine (SumOf_any g rd rc vs w5 C5.out.o).mono ?_
  rw [HOK.out, show sumV g vs = vs.sum from by unfold sumV; rw [if_pos HOK.out]]
  rintro e w6 ⟨rfl, k6⟩
  have C6 := Lib.hid (C5.out.keep k6)
  have L6 := Lib.hid (inext L5.out k6)
  have E6 := Lib.hid (inext E5.out k6)
  clear k6 C5 L5 E5 c0 c1 f0 f1
  obtain ⟨c0, c1, f0, f1⟩ := C6.out.t
  go_wp2_with fail
  refine (ValuesText_any g rd rc vs w6 C6.out.o C6.out.l.vars.tab).mono ?_
  obtain ⟨S, hS⟩ : ∃ S, S = bstr (vtxt g vs) := ⟨_, rfl⟩
  rw [HOK.out, if_pos rfl, ← hS]
  rintro e w7 ⟨rfl, k7⟩
  have HS1 : Hid (S.data.toList = Lib.itoa g ++ (58 :: txt vs)) := Lib.hid (by rw [hS]; simp [bstr, vtxt])
  have HSZ : Hid (S.size ≤ 1048576) := Lib.hid (by
    have h1 := txt_bound vs (fun z hz => by have := HV.out z hz; exact ⟨by omega, by omega⟩) hl
    have h2 := itoa_len g ⟨by omega, by omega⟩
    rw [hS, bstr_size, vtxt, List.length_append, List.length_cons]; omega)
  clear hS
  have C7 := Lib.hid (C6.out.keep k7)
  have L7 := Lib.hid (inext L6.out k7)
  have E7 := Lib.hid (inext E6.out k7)
  clear k7 C6 L6 E6 c0 c1 f0 f1
  obtain ⟨q1, q2, q3⟩ := rv_txt g vs HOK.out
  have Q1 := Lib.hid q1; have Q2 := Lib.hid q2; have Q3 := Lib.hid q3
  clear q1 q2 q3
  go_wp2_with fail
  refine (RV_any S w7 HSZ.out C7.out.l).mono ?_
  rw [HS1.out, Q1.out, Q2.out, Q3.out]
  rintro e w8 ⟨bd, bc, rfl, ob, k8⟩
  have C8 := Lib.hid (C7.out.keep k8)
  have L8 := Lib.hid (inext L7.out k8)
  have E8 := Lib.hid (inext E7.out k8)
  have B8 := Lib.hid ob.ints
  clear k8 C7 L7 E7 ob
  have ka : Keep w8 (w8.alloc (.cells #[.int .i64 g, .slice bd vs.length bc] 26)) := by go_grown
  have TB : Two (w8.alloc (.cells #[.int .i64 g, .slice bd vs.length bc] 26)) w8.heap.size (.int .i64 g) (.slice bd vs.length bc) := ⟨by simp, by simp, by simp, by simp⟩
  have C9 := Lib.hid (C8.out.keep ka); have L9 := Lib.hid (inext L8.out ka); have E9 := Lib.hid (inext E8.out ka); have B9 := Lib.hid (inext B8.out ka); have T9 := Lib.hid TB
  clear ka TB C8 L8 E8 B8
  obtain ⟨c0, c1, f0, f1⟩ := C9.out.t
  go_wp2_with fail
  obtain ⟨bb, hbb⟩ : ∃ bb, bb = w8.heap.size := ⟨_, rfl⟩
  rw [← hbb] at T9
  rw [← hbb]
  generalize w8.alloc (.cells #[.int .i64 g, .slice bd vs.length bc] 26) = w9 at *
  clear hbb c0 c1 f0 f1
  refine (FloorsOf_any g rd rc vs w9 C9.out.o).mono ?_
  rw [HOK.out, show roundsV fl g vs = vs.map (fun z => fl z g) from by unfold roundsV imgs; rw [HOK.out]; rfl]
  rintro e w10 ⟨fd, fc, rfl, of, k10⟩
  have C10 := Lib.hid (C9.out.keep k10); have L10 := Lib.hid (inext L9.out k10); have E10 := Lib.hid (inext E9.out k10); have B10 := Lib.hid (inext B9.out k10); have T10 := Lib.hid (T9.out.keep k10 T9.out.lt)
  have F10 := Lib.hid of.ints
  clear k10 of C9 L9 E9 B9 T9
  obtain ⟨c0, c1, f0, f1⟩ := C10.out.t
  go_wp2_with fail
  refine (CeilingsOf_any g rd rc vs w10 C10.out.o).mono ?_
  rw [HOK.out, show roundsV ce g vs = vs.map (fun z => ce z g) from by unfold roundsV imgs; rw [HOK.out]; rfl]
  rintro e w11 ⟨hd, hc, rfl, oh, k11⟩
  have C11 := Lib.hid (C10.out.keep k11); have L11 := Lib.hid (inext L10.out k11); have E11 := Lib.hid (inext E10.out k11); have B11 := Lib.hid (inext B10.out k11); have T11 := Lib.hid (T10.out.keep k11 T10.out.lt); have F11 := Lib.hid (inext F10.out k11)
  have H11 := Lib.hid oh.ints
  clear k11 oh C10 L10 E10 B10 T10 F10 c0 c1 f0 f1
  obtain ⟨c0, c1, f0, f1⟩ := C11.out.t
  go_wp2_with fail
  refine (NearestOf_any g rd rc vs w11 C11.out.o).mono ?_
  rw [HOK.out, show roundsV ne g vs = vs.map (fun z => ne z g) from by unfold roundsV imgs; rw [HOK.out]; rfl]
  rintro e w12 ⟨nd, nc, rfl, on, k12⟩
  have C12 := Lib.hid (C11.out.keep k12); have L12 := Lib.hid (inext L11.out k12); have E12 := Lib.hid (inext E11.out k12); have B12 := Lib.hid (inext B11.out k12); have T12 := Lib.hid (T11.out.keep k12 T11.out.lt); have F12 := Lib.hid (inext F11.out k12); have H12 := Lib.hid (inext H11.out k12)
  have N12 := Lib.hid on.ints
  clear k12 on C11 L11 E11 B11 T11 F11 H11 c0 c1 f0 f1
  obtain ⟨c0, c1, f0, f1⟩ := C12.out.t
  go_wp2_with fail
  have hcall := IsRounding_any g rd rc vs ld lc rs w12 C12.out.o L12.out
  rw [HRL.out, HRN.out] at hcall
  refine hcall.mono ?_
  clear hcall
  rintro e w13 ⟨rfl, k13⟩
  have C13 := Lib.hid (C12.out.keep k13); have L13 := Lib.hid (inext L12.out k13); have E13 := Lib.hid (inext E12.out k13); have B13 := Lib.hid (inext B12.out k13); have T13 := Lib.hid (T12.out.keep k13 T12.out.lt); have F13 := Lib.hid (inext F12.out k13); have H13 := Lib.hid (inext H12.out k13); have N13 := Lib.hid (inext N12.out k13)
  clear k13 C12 L12 E12 B12 T12 F12 H12 N12 c0 c1 f0 f1
  obtain ⟨c0, c1, f0, f1⟩ := C13.out.t
  have HNN : Hid (rndB g vs (vs.map (fun z => ne z g)) = true) := Lib.hid (rndB_ne g vs g0 HOK.out)
  go_wp2_with fail
  have hcall := IsRounding_any g rd rc vs nd nc (vs.map (fun z => ne z g)) w13 C13.out.o N13.out
  rw [List.length_map, HNN.out] at hcall
  refine hcall.mono ?_
  clear hcall HNN
  rintro e w14 ⟨rfl, k14⟩
  have C14 := Lib.hid (C13.out.keep k14); have L14 := Lib.hid (inext L13.out k14); have E14 := Lib.hid (inext E13.out k14); have B14 := Lib.hid (inext B13.out k14); have T14 := Lib.hid (T13.out.keep k14 T13.out.lt); have F14 := Lib.hid (inext F13.out k14); have H14 := Lib.hid (inext H13.out k14)
  clear k14 C13 L13 E13 B13 T13 F13 H13 N13 c0 c1 f0 f1
  obtain ⟨c0, c1, f0, f1⟩ := C14.out.t
  obtain ⟨d0, d1, e0, e1⟩ := T14.out
  go_wp2_with fail
  refine (b10Nums_same bd bc rd rc vs w14 B14.out C14.out.o).mono ?_
  rintro e w15 ⟨rfl, k15⟩
  have C15 := Lib.hid (C14.out.keep k15); have L15 := Lib.hid (inext L14.out k15); have E15 := Lib.hid (inext E14.out k15); have F15 := Lib.hid (inext F14.out k15); have H15 := Lib.hid (inext H14.out k15)
  clear k15 C14 L14 E14 B14 T14 F14 H14 c0 c1 f0 f1 d0 d1 e0 e1
  obtain ⟨c0, c1, f0, f1⟩ := C15.out.t
  go_wp2_with fail
  go_loopg [21] vs.length (fun kk i wr => ∃ j : Nat, j ≤ vs.length ∧ kk = vs.length - j ∧ i = .int .i64 j ∧ Keep w15 wr)
  case atStart => exact ⟨0, Nat.zero_le _, rfl, rfl, Below.refl _ _⟩
  case round =>
    obtain ⟨j, hj, rfl, rfl, hkw⟩ := hrel
    have HKW := Lib.hid hkw
    have CW := Lib.hid (C15.out.keep hkw)
    obtain ⟨c0, c1, f0, f1⟩ := CW.out.t
    by_cases hjn : j < vs.length
    · rcases (inext E15.out hkw).at_ with h | ⟨b1, o1, rfl, hb1, hc1⟩
      · exfalso; have h2 := HEL.out; rw [h] at h2; simp at h2; omega
      rcases (inext L15.out hkw).at_ with h | ⟨b2, o2, rfl, hb2, hc2⟩
      · exfalso; have h2 := HRL.out; rw [h] at h2; simp at h2; omega
      rcases (inext F15.out hkw).at_ with h | ⟨b3, o3, rfl, hb3, hc3⟩
      · exfalso; have h2 := congrArg List.length h; simp at h2; subst h2; simp at hjn
      rcases (inext H15.out hkw).at_ with h | ⟨b4, o4, rfl, hb4, hc4⟩
      · exfalso; have h2 := congrArg List.length h; simp at h2; subst h2; simp at hjn
      have x1 := hc1 j (by rw [HEL.out]; exact hjn)
      have x2 := hc2 j (by rw [HRL.out]; exact hjn)
      have x3 := hc3 j (by simpa using hjn)
      have x4 := hc4 j (by simpa using hjn)
      have m3 : (vs.map (fun z => fl z g)).getD j 0 = fl (vs.getD j 0) g := by simp [List.getD_eq_getElem?_getD, List.getElem?_eq_getElem hjn]
      have m4 : (vs.map (fun z => ce z g)).getD j 0 = ce (vs.getD j 0) g := by simp [List.getD_eq_getElem?_getD, List.getElem?_eq_getElem hjn]
      rw [m3] at x3
      rw [m4] at x4
      have hx := HV.out _ (getD_mem vs j hjn)
      obtain ⟨q1, q2, q3, q4⟩ := fl_ce (vs.getD j 0) g g0
      obtain ⟨q5, q6⟩ := fl_mul (a := vs.getD j 0) g0
      have p1 := fl_bd (a := vs.getD j 0) (b := g) (M := 1000000) (by omega) (by omega) (by omega) (by omega)
      have p2 := ce_bd (a := vs.getD j 0) (b := g) (M := 1000000) (by omega) (by omega) (by omega) (by omega)
      have y1 := HEG.out j (by rw [HRL.out]; exact hjn)
      have y2 := HRV.out j hjn
      rw [y1] at x1
      clear m3 m4 y1 hc1 hc2 hc3 hc4 hkw
      generalize vs.getD j 0 = x at *
      generalize fl x g = f at *
      generalize ce x g = h at *
      generalize rs.getD j 0 = y at *
      have r1 : f ≤ y ∧ y ≤ h := by rcases y2 with e | e <;> rw [e] <;> omega
      have r2 : -g < g * y - x ∧ g * y - x < g := by rcases y2 with e | e <;> rw [e] <;> omega
      clear y2 q3 q4 q5 q6
      generalize g * y - x = ex at *
      have b2 : decide (y < f) = false := decide_eq_false (by omega)
      have b3 : decide (h < y) = false := decide_eq_false (by omega)
      by_cases hs : ex ≤ 0
      ·
        have b0 : decide (g ≤ -ex) = false := decide_eq_false (by omega)
        go_wp2
        go_quiet ((go_at_call 18; exact Calls.quiet_of_same ((b10Abs_neg ex _ (by omega) (by omega)).mono fun _ _ h => ⟨h.1, h.2.symm⟩)))
        go_wp2
        go_roundg (vs.length - (j + 1))
        case measure => omega
        case rel => exact ⟨j + 1, by omega, rfl, by go_num, below_drewN HKW.out _⟩
      ·
        have b0 : decide (g ≤ ex) = false := decide_eq_false (by omega)
        go_wp2
        go_quiet ((go_at_call 18; exact Calls.quiet_of_same ((b10Abs_pos ex _ (by omega)).mono fun _ _ h => ⟨h.1, h.2.symm⟩)))
        go_wp2
        go_roundg (vs.length - (j + 1))
        case measure => omega
        case rel => exact ⟨j + 1, by omega, rfl, by go_num, below_drewN HKW.out _⟩
    · have EW := Lib.hid (inext E15.out hkw); have LW := Lib.hid (inext L15.out hkw); have KW := Lib.hid (Keep.next C15.out.k hkw)
      have hvb : ∀ z ∈ vs, -1000000000 ≤ z ∧ z ≤ 1000000000 := fun z hz => by have := HV.out z hz; omega
      have heb : ∀ z ∈ es, -1000000000 ≤ z ∧ z ≤ 1000000000 := fun z hz => by have := HEB.out z hz; omega
      have t1 := sum_bd40 es heb (by rw [HEL.out]; exact hl)
      have t2 := sum_bd40 vs hvb hl
      have t3 := sum_bd40 rs HRB.out (by rw [HRL.out]; exact hl)
      have SE : Hid (∀ W, Ints W ed es → Calls Tryz.prog 19 #[.slice ed vs.length ec] W fun e w' => e = .returned (.int .i64 (g * rs.sum - vs.sum)) ∧ W = w') := Lib.hid (fun W h => by
        have c := b10Sum_any ed ec es W h heb (by rw [HEL.out]; omega)
        rw [HEL.out, HES.out] at c; exact c)
      have SL : Hid (∀ W, Ints W ld rs → Calls Tryz.prog 19 #[.slice ld vs.length lc] W fun e w' => e = .returned (.int .i64 rs.sum) ∧ W = w') := Lib.hid (fun W h => by
        have c := b10Sum_any ld lc rs W h HRB.out (by rw [HRL.out]; omega)
        rw [HRL.out] at c; exact c)
      have SV : Hid (∀ W, Ints W rd vs → Calls Tryz.prog 19 #[.slice rd vs.length rc] W fun e w' => e = .returned (.int .i64 vs.sum) ∧ W = w') := Lib.hid (fun W h => b10Sum_any rd rc vs W h hvb (by omega))
      rw [HES.out] at t1
      clear hvb heb hkw
      generalize vs.sum = V at *
      generalize rs.sum = R at *
      have u1 : IntKind.i64.wrap (g * R) = g * R := IntWalk.i64_in _ (by omega)
      have u2 : IntKind.i64.wrap (g * R - V) = g * R - V := IntWalk.i64_in _ (by omega)
      go_wp2
      have QE : Hid (∀ n, Calls Tryz.prog 19 #[.slice ed vs.length ec] (wr.drewN n) fun e w' => e = .returned (.int .i64 (g * R - V)) ∧ w' = wr.drewN n) := Lib.hid (fun n => (SE.out _ (inext EW.out (below_drewN (Below.refl _ _) n))).mono fun _ _ h => ⟨h.1, h.2.symm⟩)
      have QL : Hid (∀ n, Calls Tryz.prog 19 #[.slice ld vs.length lc] (wr.drewN n) fun e w' => e = .returned (.int .i64 R) ∧ w' = wr.drewN n) := Lib.hid (fun n => (SL.out _ (inext LW.out (below_drewN (Below.refl _ _) n))).mono fun _ _ h => ⟨h.1, h.2.symm⟩)
      have QV : Hid (∀ n, Calls Tryz.prog 19 #[.slice rd vs.length rc] (wr.drewN n) fun e w' => e = .returned (.int .i64 V) ∧ w' = wr.drewN n) := Lib.hid (fun n => (SV.out _ (inext CW.out.o (below_drewN (Below.refl _ _) n))).mono fun _ _ h => ⟨h.1, h.2.symm⟩)
      go_quiet ((go_at_call 19; first | with_reducible exact Calls.quiet_of_same (QE.out _) | with_reducible exact Calls.quiet_of_same (QL.out _) | with_reducible exact Calls.quiet_of_same (QV.out _)))
      go_wp2
      go_ret
      exact ⟨ret_bool (by simp), below_drewN KW.out _⟩
theorem laidMet_tail {P : Program} {x : String × DataW Unit} {rest : List (String × DataW Unit)} {W : World} (h : laidMet P (x :: rest) W) : laidMet P rest W := by
  obtain ⟨ps, ⟨g', t', cs, fuel, p, q, hg', ht', hvar, hd, hr, he⟩, hnd, hall⟩ := h
  subst he
  exact ⟨q, hr, (List.nodup_append.1 hnd).2.1, fun b off hb => hall b off (List.mem_append_right _ hb)⟩
theorem sent_of_head {P : Program} {name nm : String} {d : DataW Unit} {rest : List (String × DataW Unit)} {W : World} {g t : Nat} {ms : Array (String × TypeId)} (hg : P.globalNamed name = some g) (hty : (P.globals[g]?).map (·.type) = some t) (hi : P.underlying t = some (.interface ms))
    (h : laidMet P ((name, .iface nm d) :: rest) W) : ∃ u v, W.var? P name = some #[.iface u v] := by
  obtain ⟨ps, ⟨g', t', cs, fuel, p, q, hg', ht', hvar, hd, hr, he⟩, hnd, hall⟩ := h
  obtain rfl := Option.some.inj (hg.symm.trans hg')
  obtain rfl := Option.some.inj (hty.symm.trans ht')
  obtain ⟨_, u, v, hc, _⟩ := iface_of_trod hi hd
  exact ⟨u, v, by rw [hvar, Array.eq_one_of_toList hc]⟩
theorem et : Tryz.prog.globalNamed "errors.errorType" = some 0 := by kernel_rfl
theorem rt : (Tryz.prog.cutTypes.find? (·.1 == "internal/reflectlite.rtype")).map (·.2) = some 132 := by kernel_rfl
theorem tsize : Tryz.prog.types.size = 208 := by kernel_rfl
theorem oneRow : ((List.range 208).filter fun t => Tryz.prog.rowNamed t [101, 114, 114, 111, 114]) = [61] := by kernel_rfl
theorem libVars {W : World} (h : laidMetH Tryz.prog Rows.fnValuesRow.laid W) : LibVars W := by
  have h' : laidMet Tryz.prog [("math/bits.deBruijn32tab", Rows.laid_math_bits_deBruijn32tab), ("math/bits.deBruijn64tab", Rows.laid_math_bits_deBruijn64tab), ("internal/strconv.uint64pow10", Rows.laid_internal_strconv_uint64pow10), ("unicode/utf8.acceptRanges", Rows.laid_unicode_utf8_acceptRanges), ("strconv.ErrRange", Rows.laid_strconv_ErrRange), ("strconv.ErrSyntax", Rows.laid_strconv_ErrSyntax), ("unicode/utf8.first", Rows.laid_unicode_utf8_first)] W ∧ handlesMet Tryz.prog [("errors.errorType", Rows.laid_errors_errorType)] W := h
  obtain ⟨h1, h2⟩ := h'
  have h3 := laidMet_tail (laidMet_tail h1)
  have h4 := laidMet_tail (laidMet_tail h3)
  have h5 := laidMet_tail h4
  refine ⟨Lib.tabIs_of_head gPow (t := 154) (e := 74) (n := 20) (by kernel_rfl) (by kernel_rfl) (by kernel_rfl) (by kernel_rfl) (by kernel_rfl) h3,
    sent_of_head gSyn (t := 61) (by kernel_rfl) Tryz.underlying61 h5, sent_of_head gRan (t := 61) (by kernel_rfl) Tryz.underlying61 h4, ?_⟩
  obtain ⟨name, u, ty, e1, e2, e3, e4, e5⟩ := h2 _ (List.mem_singleton.2 rfl)
  have en : name = [101, 114, 114, 111, 114] := (Option.some.inj e1).symm
  subst en
  obtain rfl := Option.some.inj (rt.symm.trans e2)
  have hm : ty ∈ (List.range 208).filter fun t => Tryz.prog.rowNamed t [101, 114, 114, 111, 114] := List.mem_filter.2 ⟨List.mem_range.2 (by rw [← tsize]; exact e3), e4⟩
  rw [oneRow] at hm
  obtain rfl := List.mem_singleton.1 hm
  have hh : typeHandle Tryz.prog 61 = th 61 := by kernel_rfl
  rw [hh] at e5
  simpa using World.var?_cell et e5 0
theorem libs {W : World} (h : laidMetH Tryz.prog Rows.fnValuesRow.laid W) (hS : W.ShapedOpen Tryz.prog) : Libs W :=
  ⟨libVars h, Go.Proofs.cell_of_shapedOpen_int (P := Tryz.prog) (g := 1) (t := 3) (zero := #[.int .i64 0]) hS (of_decide_eq_true (by kernel_rfl)) (by kernel_rfl) rfl (by kernel_rfl) (by kernel_rfl) Tryz.underlying3⟩


theorem own : ownKnob Tryz.prog.godebug = none := by kernel_rfl
theorem laidOut : laidOutB Tryz.prog = true := by kernel_rfl
set_option maxRecDepth 100000 in
theorem contract (H : Type) (enc : TypeId × Value → H) (W : World) (base : Nat) (args : Array Value) (ds gs : List (DataW H)) (before : List MemPlace)
    (hval0 : ∀ (j : Nat) t v, Tryz.f3.params[j]? = some t → args[j]? = some v → Value.okWide Tryz.prog W .any base t v)
    (hW : DataW.Whole enc Tryz.prog Tryz.f3.params.toList Rows.fnValuesSpec.vars false W args.toList ds gs before) (hL : laidMetH Tryz.prog Rows.fnValuesRow.laid W) (hS : W.ShapedOpen Tryz.prog) :
    Calls Tryz.prog 3 args W fun e W' => ∃ v, e = .returned v ∧ Rows.fnValuesSpec.post enc Tryz.prog Tryz.f3 false true false false W args v W' := by
  have hval : ∀ (j : Nat) t v, Tryz.f3.params[j]? = some t → args[j]? = some v → Value.okWide Tryz.prog W .any base t v := hval0
  have hW' := hW
  obtain ⟨p, q, hA0, hV, rfl, hfz, hnd⟩ := hW
  have hA : DataW.TrodAll enc Tryz.prog W 0 (fun _ => true) true Tryz.f3.params.toList args.toList ds p := hA0
  rw [Tryz.params3] at hA hval
  obtain ⟨v0, vs0, d0, ds0, p0, q0, hargs, rfl, rfl, h0, r0⟩ := trodAll_cons hA
  obtain ⟨v1, vs1, d1, ds1, p1, q1, rfl, rfl, rfl, h1, r1⟩ := trodAll_cons r0
  obtain ⟨rfl, rfl, rfl⟩ := trodAll_nil r1
  obtain rfl : args = #[v0, v1] := by cases args; simp_all
  obtain ⟨rfl, rfl⟩ := trodVars_none hV
  have k0 := h0
  have lt0 : ∀ x ∈ p0, x.block < W.heap.size := by obtain ⟨m, hm⟩ := k0; exact DataW.trod_lt m _ _ _ hm
  obtain ⟨a0, len0, cap0, rfl⟩ := okWide_slice Tryz.underlying22 (hval 0 22 v0 rfl rfl)
  obtain ⟨z0, e0, w0⟩ := bytes_open Tryz.underlying22 Tryz.underlying5 (by kernel_rfl) h0
  subst e0
  have k1 := h1
  have lt1 : ∀ x ∈ p1, x.block < W.heap.size := by obtain ⟨m, hm⟩ := k1; exact DataW.trod_lt m _ _ _ hm
  obtain ⟨a1, len1, cap1, rfl⟩ := okWide_slice Tryz.underlying22 (hval 1 22 v1 rfl rfl)
  obtain ⟨z1, e1, w1⟩ := bytes_open Tryz.underlying22 Tryz.underlying5 (by kernel_rfl) h1
  subst e1
  clear hA0 hval0
  refine (walk W (libs hL hS) a0 cap0 z0 w0 a1 cap1 z1 w1).mono fun e W' ⟨he, bel⟩ => ?_
  subst he
  exact ⟨_, rfl, _, _, _, [], _, [], hW', trodAll_mk1 (shut_bool Tryz.underlying4 _), (trodAll_cons_mk (Below.trod laidOut (by kernel_rfl) (of_decide_eq_true (by kernel_rfl)) k0 bel lt0) (trodAll_cons_mk (Below.trod laidOut (by kernel_rfl) (of_decide_eq_true (by kernel_rfl)) k1 bel lt1) trodAll_mk0)), rfl, bel.frame _, fun h => by cases h⟩
/-- A variable's cells, laid. -/
def layTab (cs : Array Value) : Obj → Obj
  | .cells _ t frozen => .cells cs t frozen
  | o => o
noncomputable def low : Nat := (World.holding Tryz.prog default ⟨#[], #[], []⟩).heap.size
noncomputable def laidWorld (os : Os) : World :=
  { World.holding Tryz.prog os ⟨#[.cells #[.string ⟨#[118, 97, 108, 117, 101, 32, 111, 117, 116, 32, 111, 102, 32, 114, 97, 110, 103, 101]⟩] 174, .cells #[.string ⟨#[105, 110, 118, 97, 108, 105, 100, 32, 115, 121, 110, 116, 97, 120]⟩] 174], #[], []⟩ with heap := (((((((((World.holding Tryz.prog os ⟨#[.cells #[.string ⟨#[118, 97, 108, 117, 101, 32, 111, 117, 116, 32, 111, 102, 32, 114, 97, 110, 103, 101]⟩] 174, .cells #[.string ⟨#[105, 110, 118, 97, 108, 105, 100, 32, 115, 121, 110, 116, 97, 120]⟩] 174], #[], []⟩).heap.modify 5 (layTab #[.int .u8 0, .int .u8 1, .int .u8 28, .int .u8 2, .int .u8 29, .int .u8 14, .int .u8 24, .int .u8 3, .int .u8 30, .int .u8 22, .int .u8 20, .int .u8 15, .int .u8 25, .int .u8 17, .int .u8 4, .int .u8 8, .int .u8 31, .int .u8 27, .int .u8 13, .int .u8 23, .int .u8 21, .int .u8 19, .int .u8 16, .int .u8 7, .int .u8 26, .int .u8 12, .int .u8 18, .int .u8 6, .int .u8 11, .int .u8 5, .int .u8 10, .int .u8 9])).modify 6 (layTab #[.int .u8 0, .int .u8 1, .int .u8 56, .int .u8 2, .int .u8 57, .int .u8 49, .int .u8 28, .int .u8 3, .int .u8 61, .int .u8 58, .int .u8 42, .int .u8 50, .int .u8 38, .int .u8 29, .int .u8 17, .int .u8 4, .int .u8 62, .int .u8 47, .int .u8 59, .int .u8 36, .int .u8 45, .int .u8 43, .int .u8 51, .int .u8 22, .int .u8 53, .int .u8 39, .int .u8 33, .int .u8 30, .int .u8 24, .int .u8 18, .int .u8 12, .int .u8 5, .int .u8 63, .int .u8 55, .int .u8 48, .int .u8 27, .int .u8 60, .int .u8 41, .int .u8 37, .int .u8 16, .int .u8 46, .int .u8 35, .int .u8 44, .int .u8 21, .int .u8 52, .int .u8 32, .int .u8 23, .int .u8 11, .int .u8 54, .int .u8 26, .int .u8 40, .int .u8 15, .int .u8 34, .int .u8 20, .int .u8 31, .int .u8 10, .int .u8 25, .int .u8 14, .int .u8 19, .int .u8 9, .int .u8 13, .int .u8 8, .int .u8 7, .int .u8 6])).modify 2 (layTab #[.int .u64 1, .int .u64 10, .int .u64 100, .int .u64 1000, .int .u64 10000, .int .u64 100000, .int .u64 1000000, .int .u64 10000000, .int .u64 100000000, .int .u64 1000000000, .int .u64 10000000000, .int .u64 100000000000, .int .u64 1000000000000, .int .u64 10000000000000, .int .u64 100000000000000, .int .u64 1000000000000000, .int .u64 10000000000000000, .int .u64 100000000000000000, .int .u64 1000000000000000000, .int .u64 10000000000000000000])).modify 8 (layTab #[.int .u8 128, .int .u8 191, .int .u8 160, .int .u8 191, .int .u8 128, .int .u8 159, .int .u8 144, .int .u8 191, .int .u8 128, .int .u8 143, .int .u8 0, .int .u8 0, .int .u8 0, .int .u8 0, .int .u8 0, .int .u8 0, .int .u8 0, .int .u8 0, .int .u8 0, .int .u8 0, .int .u8 0, .int .u8 0, .int .u8 0, .int .u8 0, .int .u8 0, .int .u8 0, .int .u8 0, .int .u8 0, .int .u8 0, .int .u8 0, .int .u8 0, .int .u8 0])).modify 0 (layTab #[.iface 132 (.agg #[.pointer (some ⟨9, 61, none⟩)])])).modify 4 (layTab #[.iface 172 (.pointer (some ⟨low + 0, 0, none⟩))])).modify 3 (layTab #[.iface 172 (.pointer (some ⟨low + 1, 0, none⟩))])).modify 7 (layTab #[.int .u8 240, .int .u8 240, .int .u8 240, .int .u8 240, .int .u8 240, .int .u8 240, .int .u8 240, .int .u8 240, .int .u8 240, .int .u8 240, .int .u8 240, .int .u8 240, .int .u8 240, .int .u8 240, .int .u8 240, .int .u8 240, .int .u8 240, .int .u8 240, .int .u8 240, .int .u8 240, .int .u8 240, .int .u8 240, .int .u8 240, .int .u8 240, .int .u8 240, .int .u8 240, .int .u8 240, .int .u8 240, .int .u8 240, .int .u8 240, .int .u8 240, .int .u8 240, .int .u8 240, .int .u8 240, .int .u8 240, .int .u8 240, .int .u8 240, .int .u8 240, .int .u8 240, .int .u8 240, .int .u8 240, .int .u8 240, .int .u8 240, .int .u8 240, .int .u8 240, .int .u8 240, .int .u8 240, .int .u8 240, .int .u8 240, .int .u8 240, .int .u8 240, .int .u8 240, .int .u8 240, .int .u8 240, .int .u8 240, .int .u8 240, .int .u8 240, .int .u8 240, .int .u8 240, .int .u8 240, .int .u8 240, .int .u8 240, .int .u8 240, .int .u8 240, .int .u8 240, .int .u8 240, .int .u8 240, .int .u8 240, .int .u8 240, .int .u8 240, .int .u8 240, .int .u8 240, .int .u8 240, .int .u8 240, .int .u8 240, .int .u8 240, .int .u8 240, .int .u8 240, .int .u8 240, .int .u8 240, .int .u8 240, .int .u8 240, .int .u8 240, .int .u8 240, .int .u8 240, .int .u8 240, .int .u8 240, .int .u8 240, .int .u8 240, .int .u8 240, .int .u8 240, .int .u8 240, .int .u8 240, .int .u8 240, .int .u8 240, .int .u8 240, .int .u8 240, .int .u8 240, .int .u8 240, .int .u8 240, .int .u8 240, .int .u8 240, .int .u8 240, .int .u8 240, .int .u8 240, .int .u8 240, .int .u8 240, .int .u8 240, .int .u8 240, .int .u8 240, .int .u8 240, .int .u8 240, .int .u8 240, .int .u8 240, .int .u8 240, .int .u8 240, .int .u8 240, .int .u8 240, .int .u8 240, .int .u8 240, .int .u8 240, .int .u8 240, .int .u8 240, .int .u8 240, .int .u8 240, .int .u8 240, .int .u8 240, .int .u8 240, .int .u8 241, .int .u8 241, .int .u8 241, .int .u8 241, .int .u8 241, .int .u8 241, .int .u8 241, .int .u8 241, .int .u8 241, .int .u8 241, .int .u8 241, .int .u8 241, .int .u8 241, .int .u8 241, .int .u8 241, .int .u8 241, .int .u8 241, .int .u8 241, .int .u8 241, .int .u8 241, .int .u8 241, .int .u8 241, .int .u8 241, .int .u8 241, .int .u8 241, .int .u8 241, .int .u8 241, .int .u8 241, .int .u8 241, .int .u8 241, .int .u8 241, .int .u8 241, .int .u8 241, .int .u8 241, .int .u8 241, .int .u8 241, .int .u8 241, .int .u8 241, .int .u8 241, .int .u8 241, .int .u8 241, .int .u8 241, .int .u8 241, .int .u8 241, .int .u8 241, .int .u8 241, .int .u8 241, .int .u8 241, .int .u8 241, .int .u8 241, .int .u8 241, .int .u8 241, .int .u8 241, .int .u8 241, .int .u8 241, .int .u8 241, .int .u8 241, .int .u8 241, .int .u8 241, .int .u8 241, .int .u8 241, .int .u8 241, .int .u8 241, .int .u8 241, .int .u8 241, .int .u8 241, .int .u8 2, .int .u8 2, .int .u8 2, .int .u8 2, .int .u8 2, .int .u8 2, .int .u8 2, .int .u8 2, .int .u8 2, .int .u8 2, .int .u8 2, .int .u8 2, .int .u8 2, .int .u8 2, .int .u8 2, .int .u8 2, .int .u8 2, .int .u8 2, .int .u8 2, .int .u8 2, .int .u8 2, .int .u8 2, .int .u8 2, .int .u8 2, .int .u8 2, .int .u8 2, .int .u8 2, .int .u8 2, .int .u8 2, .int .u8 2, .int .u8 19, .int .u8 3, .int .u8 3, .int .u8 3, .int .u8 3, .int .u8 3, .int .u8 3, .int .u8 3, .int .u8 3, .int .u8 3, .int .u8 3, .int .u8 3, .int .u8 3, .int .u8 35, .int .u8 3, .int .u8 3, .int .u8 52, .int .u8 4, .int .u8 4, .int .u8 4, .int .u8 68, .int .u8 241, .int .u8 241, .int .u8 241, .int .u8 241, .int .u8 241, .int .u8 241, .int .u8 241, .int .u8 241, .int .u8 241, .int .u8 241, .int .u8 241])) }
theorem laid_met (os : Os) : laidMetH Tryz.prog Rows.fnValuesRow.laid ((laidWorld os).forCall (fun _ _ => 0) ⟨#[], #[.slice none 0 0, .slice none 0 0], []⟩).memory :=
  laidMetH_of_parts (laidMet_of_run' 8 (by kernel_rfl) (by kernel_rfl)) (by kernel_rfl)
theorem reads (os : Os) {H : Type} (enc : TypeId × Value → H) : ∃ places, DataW.whole enc Tryz.prog ((laidWorld os).forCall (fun _ _ => 0) ⟨#[], #[.slice none 0 0, .slice none 0 0], []⟩).memory Tryz.f3.params.toList Rows.fnValuesSpec.vars false (#[.slice none 0 0, .slice none 0 0] : Array Value).toList 8 = some ([.nil, .nil], [], places) :=
  ⟨[], by kernel_rfl⟩
set_option maxRecDepth 100000 in
theorem lifted (os : Os) (started : os.Started) (H : Type) (enc : TypeId × Value → H) (F : Stop.Interp) :
    ReturnsInHanded {} Tryz.checked os 3 .any ((OpenSpec.ofChange Rows.fnValuesSpec).preRow enc Tryz.prog Tryz.f3 Rows.fnValuesRow.domain false Rows.fnValuesRow.laid) (((OpenSpec.ofChange Rows.fnValuesSpec).at F).post enc Tryz.prog Tryz.f3 false true false false) := by
  obtain ⟨places, hx⟩ := reads os enc
  refine returnsInHanded_of_row (C := Tryz.checked) (s := OpenSpec.ofChange Rows.fnValuesSpec) own started (by kernel_rfl) Tryz.func3
    (witness_row_atRef (enc := enc) (C := Tryz.checked) false (laidWorld os) #[.slice none 0 0, .slice none 0 0] rfl (by kernel_rfl) (by kernel_rfl) (by kernel_rfl)
      (OpenSpec.preRow_of_cond 8 hx (by kernel_rfl) (fun k hk => by cases hk) (by kernel_rfl) (laid_met os))) ?_
  intro W base args ds gs before hval hW _ _ _ hL hS _
  exact contract H enc W base args ds gs before hval hW hL hS
theorem said : Rows.FnValuesSaid :=
  OpenClaim.holds_of_cond 3 Tryz.f3 rfl rfl rfl rfl rfl rfl rfl ⟨rfl, rfl, rfl, rfl, rfl⟩ rfl rfl rfl rfl rfl (by kernel_rfl) Tryz.func3 (by kernel_rfl)
    (of_decide_eq_true (by kernel_rfl)) (by unfold Func.isWrapper; first | (rw [if_pos (by decide +kernel)]; kernel_rfl) | (rw [if_neg (by decide +kernel)]; exact ⟨rfl, rfl⟩))
    (fun os started H enc _ F => by rw [OpenClaim.pre_eq_preRow]; exact lifted os started H enc F)
theorem plain (f : FuncId) (fn : Func) (hf : Tryz.pinned.checked.prog.funcNamed "loop.example/g01129/laws.FnValues" = some f) (hfn : Tryz.pinned.checked.prog.funcs[f]? = some fn) :
    true = Tryz.pinned.checked.prog.looks [] ∧ ∀ (j : Nat) t, fn.params[j]? = some t → Tryz.pinned.checked.prog.wantsStandIn t = false := by
  obtain rfl : f = 3 := Option.some.inj ((show Tryz.prog.funcNamed "loop.example/g01129/laws.FnValues" = some 3 by kernel_rfl).symm.trans hf) |>.symm
  obtain rfl : fn = Tryz.f3 := (Option.some.inj (Tryz.func3.symm.trans hfn)).symm
  refine ⟨by kernel_rfl, fun j t ht => ?_⟩
  rw [Tryz.params3] at ht
  have hm := Array.mem_of_getElem? ht
  simp only [List.mem_toArray, List.mem_cons, List.not_mem_nil, or_false] at hm
  rcases hm with rfl | rfl
  · exact (show Tryz.prog.wantsStandIn 22 = false by kernel_rfl)
  · exact (show Tryz.prog.wantsStandIn 22 = false by kernel_rfl)
/-- THE STATEMENT. -/
theorem proved : Rows.FnValuesCardSaid :=
  Claim7.holds_tied_plain_at .later [] _ _ _ _ said (fun _ h => by cases h) (by kernel_rfl) (fun _ h => by cases h) fnValues_row_tie rfl ⟨rfl, rfl⟩ (by kernel_rfl) rfl plain (by kernel_rfl)
end Go.Proofs.YtpdcmhnaedhkdaaGreatDoor.fnValues
