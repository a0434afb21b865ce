/- FnEven: an even calendar has its leap years, and its days differ from multiples of the mean year by less than one day: at all bytes. -/
import Derived.Test.YtomfhkpmdalknabEvI11
import Derived.Test.YtomfhkpmdalknabEvP11
import Derived.Test.YtomfhkpmdalknabCalMeanYear
import Derived.Test.YtomfhkpmdalknabCalDriftOf
import Derived.Test.YtomfhkpmdalknabBten
import Derived.WalkSmall
namespace Go.Proofs.Ytomfhkpmdalknab.fnEven
open Go.ChangeShapes Go.WideShapes Go.ChangeAt Go.RowKit Go.Deep
open Go.ChangeMaps (open_string shut_string)
set_option linter.unusedVariables false

set_option maxHeartbeats 3200000 in
set_option maxRecDepth 100000 in
theorem walk (w : World) (a0 : Option Addr) (cap0 : Nat) (z0 : List Int) (w0 : Bytes w a0 z0) (a1 : Option Addr) (cap1 : Nat) (z1 : List Int) (w1 : Bytes w a1 z1) :
    Calls Try.prog 5 #[.slice a0 z0.length cap0, .slice a1 z1.length cap1] w fun e w' => e = .returned (.bool true) ∧ Below w.heap.size w w' := by
  have s0 := w0.small
  have s1 := w1.small
  cases hl : (decide (1048576 < z0.length) || decide (1048576 < z1.length))
  case true =>
    go_enter Try.func5, Try.ntmps5
    go_wp2_with (go_at_call 6; refine (b10Long_any _ _ _ _ _ _ _ s0 s1).mono ?_; rw [hl]; rintro e w' ⟨rfl, rfl⟩)
    go_ret
    exact ⟨rfl, Below.refl _ _⟩
  have p1 := pickB_bd z0 0 60
  obtain ⟨n, hn⟩ : ∃ n : Nat, 1 + pickB z0 0 60 = n := ⟨(1 + pickB z0 0 60).toNat, by omega⟩
  have hn1 : 1 ≤ n ∧ n ≤ 60 := by have := p1.2 (by omega); omega
  have p2 := pickB_bd z0 1 ((n : Int) + 1)
  have p3 := pickB_bd z1 0 200
  have p4 := pickB_bd z1 1 (n : Int)
  have HA1 := Lib.hid (fun W (h : w = W) => b10At_any a0 cap0 z0 0 60 W (h ▸ w0) (by omega) (by omega) (by omega) (by omega))
  have HA2 := Lib.hid (fun W (h : w = W) => b10At_any a0 cap0 z0 1 ((n : Int) + 1) W (h ▸ w0) (by omega) (by omega) (by omega) (by omega))
  have HA3 := Lib.hid (fun W (h : w = W) => b10At_any a1 cap1 z1 0 200 W (h ▸ w1) (by omega) (by omega) (by omega) (by omega))
  have HA4 := Lib.hid (fun W (h : w = W) => b10At_any a1 cap1 z1 1 (n : Int) W (h ▸ w1) (by omega) (by omega) (by omega) (by omega))
  obtain ⟨x0, hx0⟩ : ∃ x, x = pickB z0 0 60 := ⟨_, rfl⟩
  obtain ⟨l, hl2⟩ : ∃ x, x = pickB z0 1 ((n : Int) + 1) := ⟨_, rfl⟩
  obtain ⟨x3, hx3⟩ : ∃ x, x = pickB z1 0 200 := ⟨_, rfl⟩
  obtain ⟨sh, hsh⟩ : ∃ x, x = pickB z1 1 (n : Int) := ⟨_, rfl⟩
  rw [← hx0] at HA1 hn p1
  rw [← hl2] at HA2 p2
  rw [← hx3] at HA3 p3
  rw [← hsh] at HA4 p4
  clear hx0 hl2 hx3 hsh
  have l1 : 0 ≤ l ∧ l ≤ n := by have := p2.2 (by omega); omega
  have c1 : 0 ≤ x3 ∧ x3 ≤ 199 := by have := p3.2 (by omega); omega
  have h1 : 0 ≤ sh ∧ sh < n := by have := p4.2 (by omega); omega
  have hx0 : x0 = (n : Int) - 1 := by omega
  subst hx0
  clear hn p1 p2 p3 p4
  obtain ⟨gh, hgh⟩ : ∃ gh, gh = 1 + x3 := ⟨_, rfl⟩
  -- what is told of the calendar
  have HE := Lib.hid (fun W => EvenCalendar_any (n : Int) l gh sh W ⟨by omega, by omega⟩ ⟨by omega, by omega⟩ ⟨by omega, by omega⟩ ⟨by omega, by omega⟩)
  have hecb : ecB n l gh sh = true := by unfold ecB; rw [inB_iff.2 (by omega), inB_iff.2 (by omega), inB_iff.2 (by omega), inB_iff.2 (by omega)]; rfl
  rw [show ecG n l gh sh = n from by simp [ecG, hecb], show ecH n l gh sh = gh from by simp [ecH, hecb], show ecL n l gh sh = pickL (evP l n sh) n from by simp [ecL, hecb], hecb] at HE
  have HOK := Lib.hid (okC_pick (p := evP l n sh) (n := n) (gh := gh) (by omega) (by omega) (by omega) (by omega))
  have hlen := ev_len (n := n) (l := l) (sh := sh) (by omega) l1.1 l1.2 h1.1 h1.2
  have HBF : Hid (bef n gh (pickL (evP l n sh) n) (n : Int) = (n : Int) * gh + l) := Lib.hid (by
    rw [ev_bef (by omega) l1.1 l1.2 h1.1 h1.2 n (Nat.le_refl _), ← ev_count (by omega) l1.1 l1.2 h1.1 h1.2 n, hlen])
  have hB0 : 0 ≤ (n : Int) * gh := Int.mul_nonneg (by omega) (by omega)
  have hB1 : (n : Int) * gh ≤ 60 * 200 := Int.mul_le_mul (by omega) (by omega) (by omega) (by omega)
  obtain ⟨G, g1, e1, e2, u1, u2, u3, u4⟩ := mean_low (B := (n : Int) * gh + l) (n := (n : Int)) (by omega) (by omega)
  have HM := Lib.hid (fun (W : World) ad cap h => MeanYear_any n gh ad cap (pickL (evP l n sh) n) W h)
  rw [show myN n gh (pickL (evP l n sh) n) = ((n : Int) * gh + l).tdiv (Int.gcd ((n : Int) * gh + l) n) from by simp [myN, HOK.out, HBF.out], show myD n gh (pickL (evP l n sh) n) = (n : Int).tdiv (Int.gcd ((n : Int) * gh + l) n) from by simp [myD, HOK.out, HBF.out], HOK.out] at HM
  generalize ((n : Int) * gh + l).tdiv (Int.gcd ((n : Int) * gh + l) n) = num at *
  generalize (n : Int).tdiv (Int.gcd ((n : Int) * gh + l) n) = den at *
  have HDB := Lib.hid (ev_drift (by omega) (by omega) l1.1 l1.2 h1.1 h1.2 g1 u3 e1 e2 (n + 1) (Nat.le_refl _))
  have HDR := Lib.hid (fun (W : World) ad cap h => DriftOf_any n gh ad cap (pickL (evP l n sh) n) num den W h ⟨by omega, by omega⟩ ⟨by omega, by omega⟩)
  have hdrb : drB n gh (pickL (evP l n sh) n) num den = true := by unfold drB; rw [HOK.out, inB_iff.2 (by omega), inB_iff.2 (by omega)]; rfl
  rw [show drV n gh (pickL (evP l n sh) n) num den = drT n gh (pickL (evP l n sh) n) num den (n + 1) from by simp [drV, hdrb], hdrb] at HDR
  have HV := Lib.hid (fun (W : World) ad cap h => ValidCalendar_any n gh ad cap (pickL (evP l n sh) n) W h)
  rw [HOK.out] at HV
  have hq : num * (n : Int) = den * ((n : Int) * gh + l) := by
    rw [e1]
    calc num * (n : Int) = num * (G * den) := by rw [← e2]
      _ = den * (G * num) := by rw [Int.mul_comm G den, Int.mul_comm G num, ← Int.mul_assoc, ← Int.mul_assoc, Int.mul_comm num den]
  have m1 : 0 ≤ num * (n : Int) := Int.mul_nonneg u1 (by omega)
  have m2 : num * (n : Int) ≤ 12060 * 60 := Int.mul_le_mul (by omega) (by omega) (by omega) (by omega)
  have W1 : IntKind.i64.wrap (num * (n : Int)) = num * (n : Int) := IntWalk.i64_in _ (by omega)
  have W2 : IntKind.i64.wrap ((n : Int) * gh) = (n : Int) * gh := IntWalk.i64_in _ (by omega)
  have W3 : IntKind.i64.wrap (den * ((n : Int) * gh + l)) = den * ((n : Int) * gh + l) := IntWalk.i64_in _ (by omega)
  have hqb : (num * (n : Int) == den * ((n : Int) * gh + l)) = true := by simp [hq]
  have HQ := Lib.hid hq
  clear e1 e2 hq hecb hdrb HBF HOK
  have hdl := HDB.out
  generalize drT n gh (pickL (evP l n sh) n) num den (n + 1) = D at *
  generalize pickL (evP l n sh) n = L at *
  have hlb : ((L.length : Int) == l) = true := by simp [hlen]
  obtain rfl : x3 = gh - 1 := by omega
  clear hgh
  go_enter Try.func5, Try.ntmps5
  go_wp2_with (go_at_call 6; refine (b10Long_any _ _ _ _ _ _ _ s0 s1).mono ?_; rw [hl]; rintro e w' ⟨rfl, rfl⟩)
  refine (HA1.out _ rfl).mono ?_
  rintro e w' ⟨rfl, rfl⟩
  go_wp2_with fail
  rw [show 1 + ((n : Int) - 1) = n from by omega]
  refine (HA2.out _ rfl).mono ?_
  rintro e w' ⟨rfl, rfl⟩
  go_wp2_with fail
  refine (HA3.out _ rfl).mono ?_
  rintro e w' ⟨rfl, rfl⟩
  go_wp2_with fail
  rw [show 1 + (gh - 1) = gh from by omega]
  refine (HA4.out _ rfl).mono ?_
  rintro e w' ⟨rfl, rfl⟩
  go_wp2_with fail
  refine (HE.out _).mono ?_
  rintro e w2 ⟨rd, rc, rfl, o2, k2⟩
  have hi2 := o2.ints
  clear o2
  go_wp2_with fail
  refine (HM.out _ rd rc (hi2.keep (B := _) (by go_grown) (Nat.le_refl _))).mono ?_
  rintro e w3 ⟨rfl, k3⟩
  have g3 : Keep w2 w3 := Keep.next (by go_grown) k3
  obtain ⟨b0, b1, b2, b3⟩ := BoxC.keep (w' := w3) (b := w2.heap.size) (g := (n : Int)) (gh := gh) (ad := rd) (n := L.length) (cap := rc) ⟨by simp, by simp, by simp, by simp⟩ k3
  have hi3 := hi2.keep g3 (Nat.le_refl _)
  have K3 := Keep.next k2 g3
  clear k2 k3 g3 hi2
  go_wp2_with fail
  refine (HDR.out _ rd rc (hi3.keep (B := _) (by go_grown) (Nat.le_refl _))).mono ?_
  rintro e w4 ⟨rfl, k4⟩
  have g4 : Keep w3 w4 := Keep.next (by go_grown) k4
  have B4 := (BoxC.mk b0 b1 b2 b3).keep g4
  clear b0 b1 b2 b3
  obtain ⟨b0, b1, b2, b3⟩ := B4
  have hi4 := hi3.keep g4 (Nat.le_refl _)
  have K4 := Keep.next K3 g4
  clear k4 g4 hi3 K3
  go_wp2_with (go_at_call 9; refine (HV.out _ rd rc (hi4.keep (B := _) (by go_grown) (Nat.le_refl _))).mono ?_; rintro e w5 ⟨rfl, k5⟩; have g5 : Keep w4 w5 := Keep.next (by go_grown) k5; have B5 := (BoxC.mk b0 b1 b2 b3).keep g5; clear b0 b1 b2 b3; obtain ⟨b0, b1, b2, b3⟩ := B5; have K5 := Keep.next K4 g5)
  go_ret
  exact ⟨rfl, Keep.next K5 (by go_grown)⟩

theorem own : ownKnob Try.prog.godebug = none := by kernel_rfl
theorem laidOut : laidOutB Try.prog = true := by kernel_rfl
set_option maxRecDepth 100000 in
theorem lifted (os : Os) (started : os.Started) (H : Type) (enc : TypeId × Value → H) :
    ReturnsInHanded {} Try.checked os 5 .any (Rows.fnEvenSpec.pre6 enc Try.prog Try.f5 Rows.fnEvenRow.domain false) (Rows.fnEvenSpec.post enc Try.prog Try.f5 false true false false) := by
  refine returnsInHanded_of_change (C := Try.checked) own started (by kernel_rfl) Try.func5
    (ChangeSpec.witness6 (enc := enc) (C := Try.checked) false ⟨#[], #[.slice none 0 0, .slice none 0 0], []⟩ 8 (by kernel_rfl) (by kernel_rfl) (by kernel_rfl) (by kernel_rfl)) ?_
  intro W base args ds gs before hval0 hW hcnd _
  have hval : ∀ (j : Nat) t v, Try.f5.params[j]? = some t → args[j]? = some v → Value.okWide Try.prog W .any base t v := hval0
  have hW' := hW
  obtain ⟨p, q, hA0, hV, rfl, hfz, hnd⟩ := hW
  have hA : DataW.TrodAll enc Try.prog W 0 (fun _ => true) true Try.f5.params.toList args.toList ds p := hA0
  rw [Try.params5] at hA hval
  obtain ⟨v0, vs0, d0, ds0, p0, q0, hargs, rfl, rfl, h0, r0⟩ := trodAll_cons hA
  obtain ⟨v1, vs1, d1, ds1, p1, q1, rfl, rfl, rfl, h1, r1⟩ := trodAll_cons r0
  obtain ⟨rfl, rfl, rfl⟩ := trodAll_nil r1
  obtain rfl : args = #[v0, v1] := by cases args; simp_all
  obtain ⟨rfl, rfl⟩ := trodVars_none hV
  have k0 := h0
  have lt0 : ∀ x ∈ p0, x.block < W.heap.size := by obtain ⟨m, hm⟩ := k0; exact DataW.trod_lt m _ _ _ hm
  obtain ⟨a0, len0, cap0, rfl⟩ := okWide_slice Try.underlying22 (hval 0 22 v0 rfl rfl)
  obtain ⟨z0, e0, w0⟩ := bytes_open Try.underlying22 Try.underlying5 (by kernel_rfl) h0
  subst e0
  have k1 := h1
  have lt1 : ∀ x ∈ p1, x.block < W.heap.size := by obtain ⟨m, hm⟩ := k1; exact DataW.trod_lt m _ _ _ hm
  obtain ⟨a1, len1, cap1, rfl⟩ := okWide_slice Try.underlying22 (hval 1 22 v1 rfl rfl)
  obtain ⟨z1, e1, w1⟩ := bytes_open Try.underlying22 Try.underlying5 (by kernel_rfl) h1
  subst e1
  clear hA0 hval0
  refine (walk W a0 cap0 z0 w0 a1 cap1 z1 w1).mono fun e W' ⟨he, bel⟩ => ?_
  subst he
  exact ⟨_, rfl, _, _, _, [], _, [], hW', trodAll_mk1 (shut_bool Try.underlying4 _), (trodAll_cons_mk (Below.trod laidOut (by kernel_rfl) (of_decide_eq_true (by kernel_rfl)) k0 bel lt0) (trodAll_cons_mk (Below.trod laidOut (by kernel_rfl) (of_decide_eq_true (by kernel_rfl)) k1 bel lt1) trodAll_mk0)), rfl, bel.frame _, fun h => by cases h⟩
theorem over : Rows.fnEvenRow.holds Try.pinned (OpenSpec.ofChange Rows.fnEvenSpec) :=
  OpenClaim.holds_of_wide 5 Try.f5 rfl rfl rfl rfl rfl rfl rfl ⟨rfl, rfl, rfl, rfl, rfl⟩ rfl rfl rfl rfl rfl (by kernel_rfl) Try.func5 (by kernel_rfl)
    (of_decide_eq_true (by kernel_rfl)) (by unfold Func.isWrapper; first | (rw [if_pos (by decide +kernel)]; kernel_rfl) | (rw [if_neg (by decide +kernel)]; exact ⟨rfl, rfl⟩))
    (fun os started H enc _ => lifted os started H enc)
/-- THE STATEMENT. -/
theorem proved : Rows.FnEvenSaid := over
end Go.Proofs.Ytomfhkpmdalknab.fnEven
