/- FnContinued: a continued fraction is that of its fraction in lowest terms; standard words are balanced and as long as their numbers tell: at all bytes. -/
import Derived.Test.YtjklmdlkhkmfpaaDoorCards
import Derived.Test.YtjklmdlkhkmfpaaDoorTie
import Derived.Test.YtjklmdlkhkmfpaaDoorBi7
import Derived.Test.YtjklmdlkhkmfpaaDoorBten
import Derived.Test.YtjklmdlkhkmfpaaDoorCo7
import Derived.Test.YtjklmdlkhkmfpaaDoorFc7c
import Derived.Test.YtjklmdlkhkmfpaaDoorCf7
import Derived.Test.YtjklmdlkhkmfpaaDoorBg7
import Derived.Test.YtjklmdlkhkmfpaaDoorSw7
import Derived.Deep.RegionHeld3
import Derived.Deep.DeepHandedRow
import Derived.Deep.DeepWitnessRowRef
import Derived.LaidLaws
import Derived.LaidHandle
namespace Go.Proofs.YtjklmdlkhkmfpaaDoor.fnContinued
open Go.ChangeShapes Go.WideShapes Go.ChangeAt Go.RowKit Go.Deep
open Go.ChangeMaps (open_string shut_string)
set_option linter.unusedVariables false
theorem own_cap7 {w : World} {B : Nat} {ad : Option Addr} {cap : Nat} {zs : List Int} (h : Own w B ad cap zs) : zs.length ≤ cap := by
  rcases own_block h.1 with ⟨_, h0, _⟩ | ⟨g, _, _, _, hcc⟩
  · omega
  · exact hcc
theorem len_step {n x y M : Int} (h1 : 1 ≤ n ∧ n ≤ 3) (h2 : 0 ≤ y) (h3 : y ≤ x) (h4 : x ≤ M) : 0 ≤ n * x ∧ n * x ≤ 3 * M ∧ x ≤ n * x + y ∧ n * x + y ≤ 4 * M := by
  have : n = 1 ∨ n = 2 ∨ n = 3 := by omega
  rcases this with rfl | rfl | rfl <;> omega
theorem len_gen : ∀ (zs : List Int) (x y M : Int), 0 ≤ y → y ≤ x → x ≤ M → (∀ z ∈ zs, 1 ≤ z ∧ z ≤ 3) →
    0 ≤ (zs.foldl (fun p n => (n * p.1 + p.2, p.1)) (x, y)).2 ∧ (zs.foldl (fun p n => (n * p.1 + p.2, p.1)) (x, y)).2 ≤ (zs.foldl (fun p n => (n * p.1 + p.2, p.1)) (x, y)).1 ∧ (zs.foldl (fun p n => (n * p.1 + p.2, p.1)) (x, y)).1 ≤ 4 ^ zs.length * M := by
  intro zs
  induction zs with
  | nil => intro x y M h1 h2 h3 _; simp; omega
  | cons n t ih =>
    intro x y M h1 h2 h3 h
    have hs := len_step (h n (List.mem_cons_self ..)) h1 h2 h3
    have := ih (n * x + y) x (4 * M) (by omega) hs.2.2.1 hs.2.2.2 (fun z hz => h z (List.mem_cons_of_mem _ hz))
    rw [List.foldl_cons, List.length_cons, Int.pow_succ, Int.mul_assoc]
    exact this
theorem len_bd {zs : List Int} (h : ∀ z ∈ zs, 1 ≤ z ∧ z ≤ 3) (hl : zs.length ≤ 4) : 0 ≤ (lenF zs).2 ∧ (lenF zs).2 ≤ (lenF zs).1 ∧ (lenF zs).1 ≤ 256 := by
  have h1 := len_gen zs 1 1 1 (by omega) (by omega) (by omega) h
  refine ⟨h1.1, h1.2.1, Int.le_trans h1.2.2 ?_⟩
  have hn : zs.length = 0 ∨ zs.length = 1 ∨ zs.length = 2 ∨ zs.length = 3 ∨ zs.length = 4 := by omega
  rcases hn with e | e | e | e | e <;> rw [e] <;> decide

set_option maxHeartbeats 3200000 in
set_option maxRecDepth 100000 in
theorem walk (w : World) (_hL : laidMetH Tryd.prog Rows.fnContinuedRow.laid w) (a0 : Option Addr) (cap0 : Nat) (z0 : List Int) (w0 : Bytes w a0 z0) (a1 : Option Addr) (cap1 : Nat) (z1 : List Int) (w1 : Bytes w a1 z1) :
    Calls Tryd.prog 3 #[.slice a0 z0.length cap0, .slice a1 z1.length cap1] w fun e w' => e = .returned (.bool true) ∧ Below w.heap.size w w' := by
  have s0 := w0.small
  have s1 := w1.small
  cases hl : (decide (1048576 < z0.length) || decide (1048576 < z1.length))
  case true =>
    go_enter Tryd.func3, Tryd.ntmps3
    go_wp2_with (go_at_call 4; refine (b10Long_any _ _ _ _ _ _ _ s0 s1).mono ?_; rw [hl]; rintro e w' ⟨rfl, rfl⟩)
    go_ret
    exact ⟨rfl, Below.refl _ _⟩
  have HL := Lib.hid hl; clear hl
  have p0 := pickB_bd z0 0 256
  have p1 := pickB_bd z0 1 16
  have p2 := pickB_bd z0 2 256
  have p3 := pickB_bd z0 3 16
  have H0 := Lib.hid (b10At_any a0 cap0 z0 0 256 w w0 (by omega) (by omega) (by omega) (by omega))
  have H1 := Lib.hid (b10At_any a0 cap0 z0 1 16 w w0 (by omega) (by omega) (by omega) (by omega))
  have H2 := Lib.hid (b10At_any a0 cap0 z0 2 256 w w0 (by omega) (by omega) (by omega) (by omega))
  have H3 := Lib.hid (b10At_any a0 cap0 z0 3 16 w w0 (by omega) (by omega) (by omega) (by omega))
  generalize pickB z0 0 256 = x0 at *
  generalize pickB z0 1 16 = x1 at *
  generalize pickB z0 2 256 = x2 at *
  generalize pickB z0 3 16 = x3 at *
  have q0 := p0.2 (by omega)
  have q1 := p1.2 (by omega)
  have q2 := p2.2 (by omega)
  have q3 := p3.2 (by omega)
  obtain ⟨A, hA⟩ : ∃ A : Nat, 16 * x0 + x1 = A := ⟨(16 * x0 + x1).toNat, by omega⟩
  obtain ⟨B, hB⟩ : ∃ B : Nat, 1 + 16 * x2 + x3 = B := ⟨(1 + 16 * x2 + x3).toNat, by omega⟩
  have V1 : IntKind.i64.wrap (16 * x0) = 16 * x0 := IntWalk.i64_in _ (by omega)
  have V2 : IntKind.i64.wrap (16 * x0 + x1) = A := by rw [hA]; exact IntWalk.i64_in _ (by omega)
  have V3 : IntKind.i64.wrap (16 * x2) = 16 * x2 := IntWalk.i64_in _ (by omega)
  have V4 : IntKind.i64.wrap (1 + 16 * x2) = 1 + 16 * x2 := IntWalk.i64_in _ (by omega)
  have V5 : IntKind.i64.wrap (1 + 16 * x2 + x3) = B := by rw [hB]; exact IntWalk.i64_in _ (by omega)
  have hA1 : A ≤ 4100 := by omega
  have hB1 : 1 ≤ B ∧ B ≤ 4100 := by omega
  clear hA hB
  obtain ⟨fB, c, d, fN, fD, hd1, hc2, hd2, hcr, hg⟩ := cf_back hB1.1 hB1.2 hA1
  have hct : ctB (A : Int) B = true := by unfold ctB; rw [Bool.and_eq_true, inB_iff, inB_iff]; omega
  have HCT := Lib.hid (fun W => ContinuedOf_any (A : Int) B W ⟨by omega, by omega⟩ ⟨by omega, by omega⟩)
  rw [show ctL (A : Int) B = contN A B from by unfold ctL contI; rw [hct, if_pos rfl, Int.toNat_natCast, Int.toNat_natCast], hct] at HCT
  have m1 : (A : Int) * d ≤ 4100 * 4100 := Int.mul_le_mul (by omega) (by omega) (by omega) (by omega)
  have m2 : 0 ≤ (A : Int) * d := Int.mul_nonneg (by omega) (by omega)
  have V6 : IntKind.i64.wrap ((A : Int) * d) = (A : Int) * d := IntWalk.i64_in _ (by omega)
  have V7 : IntKind.i64.wrap ((B : Int) * c) = (A : Int) * d := by rw [← hcr]; exact IntWalk.i64_in _ (by omega)
  have hd1i : ¬ (d : Int) < 1 := by omega
  have HG := Lib.hid (fun W => b10Gcd_any (c : Int) d W (by omega) (by omega) (by omega) (by omega))
  rw [hg, show ((1 : Nat) : Int) = 1 from rfl] at HG
  have hne : ((A : Int) * d != (A : Int) * d) = false := by simp
  clear hct hcr hg m1 m2
  go_enter Tryd.func3, Tryd.ntmps3
  go_wp2_with fail
  refine (b10Long_any _ _ _ _ _ _ _ s0 s1).mono ?_
  rw [HL.out]
  rintro e w' ⟨rfl, rfl⟩
  go_wp2_with fail
  refine H0.out.mono ?_
  rintro e w' ⟨rfl, rfl⟩
  go_wp2_with fail
  refine H1.out.mono ?_
  rintro e w' ⟨rfl, rfl⟩
  go_wp2_with fail
  refine H2.out.mono ?_
  rintro e w' ⟨rfl, rfl⟩
  go_wp2_with fail
  refine H3.out.mono ?_
  rintro e w' ⟨rfl, rfl⟩
  go_wp2_with fail
  refine (HCT.out _).mono ?_
  rintro e w2 ⟨rd, rc, rfl, o2, k2⟩
  have HF := Lib.hid (FromContinued_any rd rc (contN A B) w2 o2.ints (own_cap7 o2))
  rw [fN, fD, fB] at HF
  have HK2 := Lib.hid k2
  clear o2 k2 fN fD fB HCT H0 H1 H2 H3 V1 V2 V3 V4 V5
  generalize contN A B = L at *
  go_wp2_with fail
  refine HF.out.mono ?_
  rintro e w3 ⟨rfl, k3⟩
  have HK3 : Hid (Keep w w3) := Lib.hid (HK2.out.next k3)
  clear k3 HF
  go_wp2_with fail
  refine (HG.out _).mono ?_
  rintro e w' ⟨rfl, rfl⟩
  have pp := pickB_bd z1 0 4
  have HP := Lib.hid (fun W (k : Keep w W) => b10At_any a1 cap1 z1 0 4 W (w1.keep k (Nat.le_refl _)) (by omega) (by omega) (by omega) (by omega))
  have HN := Lib.hid (fun (i : Nat) (hi : i ≤ 4) W (k : Keep w W) => b10At_any a1 cap1 z1 ((i : Int) + 1) 3 W (w1.keep k (Nat.le_refl _)) (by omega) (by omega) (by omega) (by omega))
  have HNB := Lib.hid (fun (i : Nat) => pickB_bd z1 ((i : Int) + 1) 3)
  generalize pickB z1 0 4 = pn at *
  have pn4 := pp.2 (by omega)
  obtain ⟨q, hq⟩ : ∃ q : Nat, 1 + pn = q := ⟨(1 + pn).toNat, by omega⟩
  have VP : IntKind.i64.wrap (1 + pn) = q := by rw [hq]; exact IntWalk.i64_in _ (by omega)
  have hq4 : 1 ≤ q ∧ q ≤ 4 := by omega
  clear hq pp pn4
  have o3 : Own (w3.alloc (.cells #[] 2)) w.heap.size (some ⟨w3.heap.size, 0, none⟩) 0 [] := (Own.lit0 w3).mono HK3.out.size
  have k3 : Keep w (w3.alloc (.cells #[] 2)) := HK3.out.next (by go_grown)
  have HO3 := Lib.hid o3
  have HK4 := Lib.hid k3
  clear o3 k3 HG HK2 HK3
  go_wp2_with fail
  clear V6 V7 hne hd1i hd1 hd2 hc2 hA1 hB1
  go_loopg [12, 13, 14, 15, 16, 17] 5 (fun kk own bf ln i _ _ wr => ∃ (zs : List Int) (od : Option Addr) (oc : Nat), zs.length ≤ q ∧ kk = 5 - zs.length ∧ own = .slice od zs.length oc ∧ bf = .int .i64 (lenF zs).2 ∧ ln = .int .i64 (lenF zs).1 ∧ i = .int .i64 zs.length ∧ Hid (∀ z ∈ zs, 1 ≤ z ∧ z ≤ 3) ∧ Hid (Own wr w.heap.size od oc zs) ∧ Hid (Keep w wr))
  case atStart => exact ⟨[], _, _, by simp, by simp, rfl, rfl, rfl, rfl, Lib.hid (fun z hz => by simp at hz), HO3, HK4⟩
  case round =>
    obtain ⟨zs, od, oc, hzq, rfl, rfl, rfl, rfl, rfl, HZ, HO, HK⟩ := hrel
    have HPW := Lib.hid (HP.out _ HK.out)
    have hlb := len_bd HZ.out (by omega)
    by_cases hlt : zs.length < q
    · have hlti : (zs.length : Int) < (q : Int) := by omega
      have HNW := Lib.hid (HN.out zs.length (by omega) _ HK.out)
      have hnb := HNB.out zs.length
      have VI : IntKind.i64.wrap ((zs.length : Int) + 1) = (zs.length : Int) + 1 := IntWalk.i64_in _ (by omega)
      generalize pickB z1 ((zs.length : Int) + 1) 3 = r at *
      have r3 := hnb.2 (by omega)
      obtain ⟨n, hn⟩ : ∃ n, n = 1 + r := ⟨_, rfl⟩
      have VN : IntKind.i64.wrap (1 + r) = n := by rw [hn]; exact IntWalk.i64_in _ (by omega)
      have hn3 : 1 ≤ n ∧ n ≤ 3 := by omega
      have HA := Lib.hid (lenF_app zs n)
      have HZ2 : Hid (∀ z ∈ zs ++ [n], 1 ≤ z ∧ z ≤ 3) := Lib.hid (fun z hz => by
        rcases List.mem_append.1 hz with h | h
        · exact HZ.out z h
        · simp at h; subst h; exact hn3)
      generalize (lenF zs).1 = x at *
      generalize (lenF zs).2 = y at *
      have hst := len_step hn3 hlb.1 hlb.2.1 hlb.2.2
      have V8 : IntKind.i64.wrap (n * x) = n * x := IntWalk.i64_in _ (by omega)
      have V9 : IntKind.i64.wrap (n * x + y) = n * x + y := IntWalk.i64_in _ (by omega)
      have HIN : Hid (In64 n) := Lib.hid ⟨by omega, by omega⟩
      have hsr := HK.out.size
      have hll : zs.length < 1099511627776 := by omega
      clear hn hnb r3 HZ HP HN HNB hst
      go_wp2_with fail
      refine HPW.out.mono ?_
      rintro e w' ⟨rfl, rfl⟩
      go_wp2_with fail
      refine HNW.out.mono ?_
      rintro e w' ⟨rfl, rfl⟩
      go_wp2_with (refine list_app1 (by rfl) _ _ (by rfl) w.heap.size od oc zs.length zs n (by rfl) (HO.out.keep (by go_grown)) rfl _ (by rfl) (by simp) HIN.out hll (by simp; omega) ?_; intro ad' cap' w5 hown2 hgr2; have HO2 := Lib.hid hown2; have HK5 := Lib.hid (below_own (HK.out.next (show Keep wr _ by go_grown)) (HO.out.keep (by go_grown)) hgr2 (by simp; omega) (Nat.le_refl _)); clear hown2 hgr2)
      go_wp2
      go_roundg (5 - (zs.length + 1))
      case measure => omega
      case rel => exact ⟨zs ++ [n], ad', cap', by simp; omega, by simp, by simp, by rw [HA.out], by rw [HA.out], by simp, HZ2, HO2, HK5⟩
    · have hlti : ¬ (zs.length : Int) < (q : Int) := by omega
      have HSG := Lib.hid (fun hs => st_good (zs := zs) (by omega) (by omega) HZ.out hs)
      have HSW := Lib.hid (fun W (k : Keep wr W) => StandardWord_any od oc zs W (HO.out.ints.keep k (Nat.le_refl _)))
      have HSS := Lib.hid (fun W (k : Keep wr W) => specStandardWord_any od oc zs W (HO.out.ints.keep k (Nat.le_refl _)))
      cases hs : stB zs
      · rw [hs] at HSW HSS
        go_wp2_with fail
        refine HPW.out.mono ?_
        rintro e w' ⟨rfl, rfl⟩
        go_wp2_with fail
        refine (HSW.out _ (Below.refl _ _)).mono ?_
        rintro e w6 ⟨rfl, k6⟩
        go_wp2_with fail
        refine (HSS.out _ k6).mono ?_
        rintro e w7 ⟨rfl, k7⟩
        go_wp2
        go_ret
        exact ⟨rfl, HK.out.next (k6.next k7)⟩
      · obtain ⟨g1, g2, g3⟩ := HSG.out hs
        rw [hs] at HSW HSS
        have HB := Lib.hid (fun W => IsBalanced_any (stS zs) W (by omega))
        rw [g2] at HB
        rw [← g1]
        generalize stS zs = S at *
        clear HSG g2 HZ
        go_wp2_with fail
        refine HPW.out.mono ?_
        rintro e w' ⟨rfl, rfl⟩
        go_wp2_with fail
        refine (HSW.out _ (Below.refl _ _)).mono ?_
        rintro e w6 ⟨rfl, k6⟩
        go_wp2_with fail
        refine (HSS.out _ k6).mono ?_
        rintro e w7 ⟨rfl, k7⟩
        go_wp2_with fail
        refine (HB.out _).mono ?_
        rintro e w8 ⟨rfl, k8⟩
        go_wp2
        go_ret
        exact ⟨rfl, HK.out.next ((k6.next k7).next k8)⟩

theorem own : ownKnob Tryd.prog.godebug = none := by kernel_rfl
theorem laidOut : laidOutB Tryd.prog = true := by kernel_rfl
set_option maxRecDepth 100000 in
theorem contract (H : Type) (enc : TypeId × Value → H) (W : World) (base : Nat) (args : Array Value) (ds gs : List (DataW H)) (before : List MemPlace)
    (hval0 : ∀ (j : Nat) t v, Tryd.f3.params[j]? = some t → args[j]? = some v → Value.okWide Tryd.prog W .any base t v)
    (hW : DataW.Whole enc Tryd.prog Tryd.f3.params.toList Rows.fnContinuedSpec.vars false W args.toList ds gs before) (hL : laidMetH Tryd.prog Rows.fnContinuedRow.laid W) :
    Calls Tryd.prog 3 args W fun e W' => ∃ v, e = .returned v ∧ Rows.fnContinuedSpec.post enc Tryd.prog Tryd.f3 false true false false W args v W' := by
  have hval : ∀ (j : Nat) t v, Tryd.f3.params[j]? = some t → args[j]? = some v → Value.okWide Tryd.prog W .any base t v := hval0
  have hW' := hW
  obtain ⟨p, q, hA0, hV, rfl, hfz, hnd⟩ := hW
  have hA : DataW.TrodAll enc Tryd.prog W 0 (fun _ => true) true Tryd.f3.params.toList args.toList ds p := hA0
  rw [Tryd.params3] at hA hval
  obtain ⟨v0, vs0, d0, ds0, p0, q0, hargs, rfl, rfl, h0, r0⟩ := trodAll_cons hA
  obtain ⟨v1, vs1, d1, ds1, p1, q1, rfl, rfl, rfl, h1, r1⟩ := trodAll_cons r0
  obtain ⟨rfl, rfl, rfl⟩ := trodAll_nil r1
  obtain rfl : args = #[v0, v1] := by cases args; simp_all
  obtain ⟨rfl, rfl⟩ := trodVars_none hV
  have k0 := h0
  have lt0 : ∀ x ∈ p0, x.block < W.heap.size := by obtain ⟨m, hm⟩ := k0; exact DataW.trod_lt m _ _ _ hm
  obtain ⟨a0, len0, cap0, rfl⟩ := okWide_slice Tryd.underlying22 (hval 0 22 v0 rfl rfl)
  obtain ⟨z0, e0, w0⟩ := bytes_open Tryd.underlying22 Tryd.underlying5 (by kernel_rfl) h0
  subst e0
  have k1 := h1
  have lt1 : ∀ x ∈ p1, x.block < W.heap.size := by obtain ⟨m, hm⟩ := k1; exact DataW.trod_lt m _ _ _ hm
  obtain ⟨a1, len1, cap1, rfl⟩ := okWide_slice Tryd.underlying22 (hval 1 22 v1 rfl rfl)
  obtain ⟨z1, e1, w1⟩ := bytes_open Tryd.underlying22 Tryd.underlying5 (by kernel_rfl) h1
  subst e1
  clear hA0 hval0
  refine (walk W hL a0 cap0 z0 w0 a1 cap1 z1 w1).mono fun e W' ⟨he, bel⟩ => ?_
  subst he
  exact ⟨_, rfl, _, _, _, [], _, [], hW', trodAll_mk1 (shut_bool Tryd.underlying4 _), (trodAll_cons_mk (Below.trod laidOut (by kernel_rfl) (of_decide_eq_true (by kernel_rfl)) k0 bel lt0) (trodAll_cons_mk (Below.trod laidOut (by kernel_rfl) (of_decide_eq_true (by kernel_rfl)) k1 bel lt1) trodAll_mk0)), rfl, bel.frame _, fun h => by cases h⟩
/-- A variable's cells, laid. -/
def layTab (cs : Array Value) : Obj → Obj
  | .cells _ t frozen => .cells cs t frozen
  | o => o
noncomputable def low : Nat := (World.holding Tryd.prog default ⟨#[], #[], []⟩).heap.size
noncomputable def laidWorld (os : Os) : World :=
  { World.holding Tryd.prog os ⟨#[], #[], []⟩ with heap := (((World.holding Tryd.prog os ⟨#[], #[], []⟩).heap.modify 2 (layTab #[.int .u8 128, .int .u8 191, .int .u8 160, .int .u8 191, .int .u8 128, .int .u8 159, .int .u8 144, .int .u8 191, .int .u8 128, .int .u8 143, .int .u8 0, .int .u8 0, .int .u8 0, .int .u8 0, .int .u8 0, .int .u8 0, .int .u8 0, .int .u8 0, .int .u8 0, .int .u8 0, .int .u8 0, .int .u8 0, .int .u8 0, .int .u8 0, .int .u8 0, .int .u8 0, .int .u8 0, .int .u8 0, .int .u8 0, .int .u8 0, .int .u8 0, .int .u8 0])).modify 1 (layTab #[.int .u8 240, .int .u8 240, .int .u8 240, .int .u8 240, .int .u8 240, .int .u8 240, .int .u8 240, .int .u8 240, .int .u8 240, .int .u8 240, .int .u8 240, .int .u8 240, .int .u8 240, .int .u8 240, .int .u8 240, .int .u8 240, .int .u8 240, .int .u8 240, .int .u8 240, .int .u8 240, .int .u8 240, .int .u8 240, .int .u8 240, .int .u8 240, .int .u8 240, .int .u8 240, .int .u8 240, .int .u8 240, .int .u8 240, .int .u8 240, .int .u8 240, .int .u8 240, .int .u8 240, .int .u8 240, .int .u8 240, .int .u8 240, .int .u8 240, .int .u8 240, .int .u8 240, .int .u8 240, .int .u8 240, .int .u8 240, .int .u8 240, .int .u8 240, .int .u8 240, .int .u8 240, .int .u8 240, .int .u8 240, .int .u8 240, .int .u8 240, .int .u8 240, .int .u8 240, .int .u8 240, .int .u8 240, .int .u8 240, .int .u8 240, .int .u8 240, .int .u8 240, .int .u8 240, .int .u8 240, .int .u8 240, .int .u8 240, .int .u8 240, .int .u8 240, .int .u8 240, .int .u8 240, .int .u8 240, .int .u8 240, .int .u8 240, .int .u8 240, .int .u8 240, .int .u8 240, .int .u8 240, .int .u8 240, .int .u8 240, .int .u8 240, .int .u8 240, .int .u8 240, .int .u8 240, .int .u8 240, .int .u8 240, .int .u8 240, .int .u8 240, .int .u8 240, .int .u8 240, .int .u8 240, .int .u8 240, .int .u8 240, .int .u8 240, .int .u8 240, .int .u8 240, .int .u8 240, .int .u8 240, .int .u8 240, .int .u8 240, .int .u8 240, .int .u8 240, .int .u8 240, .int .u8 240, .int .u8 240, .int .u8 240, .int .u8 240, .int .u8 240, .int .u8 240, .int .u8 240, .int .u8 240, .int .u8 240, .int .u8 240, .int .u8 240, .int .u8 240, .int .u8 240, .int .u8 240, .int .u8 240, .int .u8 240, .int .u8 240, .int .u8 240, .int .u8 240, .int .u8 240, .int .u8 240, .int .u8 240, .int .u8 240, .int .u8 240, .int .u8 240, .int .u8 240, .int .u8 240, .int .u8 240, .int .u8 240, .int .u8 240, .int .u8 241, .int .u8 241, .int .u8 241, .int .u8 241, .int .u8 241, .int .u8 241, .int .u8 241, .int .u8 241, .int .u8 241, .int .u8 241, .int .u8 241, .int .u8 241, .int .u8 241, .int .u8 241, .int .u8 241, .int .u8 241, .int .u8 241, .int .u8 241, .int .u8 241, .int .u8 241, .int .u8 241, .int .u8 241, .int .u8 241, .int .u8 241, .int .u8 241, .int .u8 241, .int .u8 241, .int .u8 241, .int .u8 241, .int .u8 241, .int .u8 241, .int .u8 241, .int .u8 241, .int .u8 241, .int .u8 241, .int .u8 241, .int .u8 241, .int .u8 241, .int .u8 241, .int .u8 241, .int .u8 241, .int .u8 241, .int .u8 241, .int .u8 241, .int .u8 241, .int .u8 241, .int .u8 241, .int .u8 241, .int .u8 241, .int .u8 241, .int .u8 241, .int .u8 241, .int .u8 241, .int .u8 241, .int .u8 241, .int .u8 241, .int .u8 241, .int .u8 241, .int .u8 241, .int .u8 241, .int .u8 241, .int .u8 241, .int .u8 241, .int .u8 241, .int .u8 241, .int .u8 241, .int .u8 2, .int .u8 2, .int .u8 2, .int .u8 2, .int .u8 2, .int .u8 2, .int .u8 2, .int .u8 2, .int .u8 2, .int .u8 2, .int .u8 2, .int .u8 2, .int .u8 2, .int .u8 2, .int .u8 2, .int .u8 2, .int .u8 2, .int .u8 2, .int .u8 2, .int .u8 2, .int .u8 2, .int .u8 2, .int .u8 2, .int .u8 2, .int .u8 2, .int .u8 2, .int .u8 2, .int .u8 2, .int .u8 2, .int .u8 2, .int .u8 19, .int .u8 3, .int .u8 3, .int .u8 3, .int .u8 3, .int .u8 3, .int .u8 3, .int .u8 3, .int .u8 3, .int .u8 3, .int .u8 3, .int .u8 3, .int .u8 3, .int .u8 35, .int .u8 3, .int .u8 3, .int .u8 52, .int .u8 4, .int .u8 4, .int .u8 4, .int .u8 68, .int .u8 241, .int .u8 241, .int .u8 241, .int .u8 241, .int .u8 241, .int .u8 241, .int .u8 241, .int .u8 241, .int .u8 241, .int .u8 241, .int .u8 241])) }
theorem laid_met (os : Os) : laidMetH Tryd.prog Rows.fnContinuedRow.laid ((laidWorld os).forCall (fun _ _ => 0) ⟨#[], #[.slice none 0 0, .slice none 0 0], []⟩).memory :=
  (laidMet_of_run' 8 (by kernel_rfl) (by kernel_rfl) : laidMet Tryd.prog Rows.fnContinuedRow.laid _)
theorem reads (os : Os) {H : Type} (enc : TypeId × Value → H) : ∃ places, DataW.whole enc Tryd.prog ((laidWorld os).forCall (fun _ _ => 0) ⟨#[], #[.slice none 0 0, .slice none 0 0], []⟩).memory Tryd.f3.params.toList Rows.fnContinuedSpec.vars false (#[.slice none 0 0, .slice none 0 0] : Array Value).toList 8 = some ([.nil, .nil], [], places) :=
  ⟨[], by kernel_rfl⟩
set_option maxRecDepth 100000 in
theorem lifted (os : Os) (started : os.Started) (H : Type) (enc : TypeId × Value → H) (F : Stop.Interp) :
    ReturnsInHanded {} Tryd.checked os 3 .any ((OpenSpec.ofChange Rows.fnContinuedSpec).preRow enc Tryd.prog Tryd.f3 Rows.fnContinuedRow.domain false Rows.fnContinuedRow.laid) (((OpenSpec.ofChange Rows.fnContinuedSpec).at F).post enc Tryd.prog Tryd.f3 false true false false) := by
  obtain ⟨places, hx⟩ := reads os enc
  refine returnsInHanded_of_row (C := Tryd.checked) (s := OpenSpec.ofChange Rows.fnContinuedSpec) own started (by kernel_rfl) Tryd.func3
    (witness_row_at (enc := enc) (C := Tryd.checked) false (laidWorld os) #[.slice none 0 0, .slice none 0 0] rfl (by kernel_rfl) (by kernel_rfl) (by kernel_rfl)
      (OpenSpec.preRow_of_cond 8 hx (by kernel_rfl) (fun k hk => by cases hk) (by kernel_rfl) (laid_met os))) ?_
  intro W base args ds gs before hval hW _ _ _ hL hS _
  exact contract H enc W base args ds gs before hval hW hL
theorem said : Rows.FnContinuedSaid :=
  OpenClaim.holds_of_cond 3 Tryd.f3 rfl rfl rfl rfl rfl rfl rfl ⟨rfl, rfl, rfl, rfl, rfl⟩ rfl rfl rfl rfl rfl (by kernel_rfl) Tryd.func3 (by kernel_rfl)
    (of_decide_eq_true (by kernel_rfl)) (by unfold Func.isWrapper; first | (rw [if_pos (by decide +kernel)]; kernel_rfl) | (rw [if_neg (by decide +kernel)]; exact ⟨rfl, rfl⟩))
    (fun os started H enc _ F => by rw [OpenClaim.pre_eq_preRow]; exact lifted os started H enc F)
theorem plain (f : FuncId) (fn : Func) (hf : Tryd.pinned.checked.prog.funcNamed "loop.example/g01129/laws.FnContinued" = some f) (hfn : Tryd.pinned.checked.prog.funcs[f]? = some fn) :
    false = Tryd.pinned.checked.prog.looks [] ∧ ∀ (j : Nat) t, fn.params[j]? = some t → Tryd.pinned.checked.prog.wantsStandIn t = false := by
  obtain rfl : f = 3 := Option.some.inj ((show Tryd.prog.funcNamed "loop.example/g01129/laws.FnContinued" = some 3 by kernel_rfl).symm.trans hf) |>.symm
  obtain rfl : fn = Tryd.f3 := (Option.some.inj (Tryd.func3.symm.trans hfn)).symm
  refine ⟨by kernel_rfl, fun j t ht => ?_⟩
  rw [Tryd.params3] at ht
  have hm := Array.mem_of_getElem? ht
  simp only [List.mem_toArray, List.mem_cons, List.not_mem_nil, or_false] at hm
  rcases hm with rfl | rfl
  · exact (show Tryd.prog.wantsStandIn 22 = false by kernel_rfl)
  · exact (show Tryd.prog.wantsStandIn 22 = false by kernel_rfl)
/-- THE STATEMENT. -/
theorem proved : Rows.FnContinuedCardSaid :=
  Claim7.holds_tied_plain_at .later [] _ _ _ _ said (fun _ h => by cases h) (by kernel_rfl) (fun _ h => by cases h) fnContinued_row_tie rfl ⟨rfl, rfl⟩ (by kernel_rfl) rfl plain (by kernel_rfl)
end Go.Proofs.YtjklmdlkhkmfpaaDoor.fnContinued
