/- FnBestCycle: the best cycle is within the limit, and no cycle drawn is nearer, or as near with fewer years: at all bytes. -/
import Derived.Test.YtomfhkpmdalknaaBcJ11
import Derived.Test.YtomfhkpmdalknaaBcO11
import Derived.Test.YtomfhkpmdalknaaBten
import Derived.WalkSmall
namespace Go.Proofs.Ytomfhkpmdalknaa.fnBestCycle
open Go.ChangeShapes Go.WideShapes Go.ChangeAt Go.RowKit Go.Deep
open Go.ChangeMaps (open_string shut_string)
set_option linter.unusedVariables false

theorem abs_any (n : Int) (w : World) (h1 : -1000000000 ≤ n) (h2 : n ≤ 1000000000) :
    Calls Try.prog 57 #[.int .i64 n] w fun e w' => e = .returned (.int .i64 (ab n)) ∧ w = w' := by
  by_cases c : 0 ≤ n
  · rw [show ab n = n by unfold ab; split <;> omega]; exact b10Abs_pos n w c
  · rw [show ab n = -n by unfold ab; split <;> omega]; exact b10Abs_neg n w (by omega) (by omega)

set_option maxHeartbeats 3200000 in
set_option maxRecDepth 100000 in
theorem walk (w : World) (a0 : Option Addr) (cap0 : Nat) (z0 : List Int) (w0 : Bytes w a0 z0) (a1 : Option Addr) (cap1 : Nat) (z1 : List Int) (w1 : Bytes w a1 z1) :
    Calls Try.prog 14 #[.slice a0 z0.length cap0, .slice a1 z1.length cap1] w fun e w' => e = .returned (.bool true) ∧ Below w.heap.size w w' := by
  have s0 := w0.small
  have s1 := w1.small
  cases hl : (decide (1048576 < z0.length) || decide (1048576 < z1.length))
  case true =>
    go_enter Try.func14, Try.ntmps14
    go_wp2_with (go_at_call 55; refine (b10Long_any _ _ _ _ _ _ _ s0 s1).mono ?_; rw [hl]; rintro e w' ⟨rfl, rfl⟩)
    go_ret
    exact ⟨rfl, Below.refl _ _⟩
  have p1 := pickB_bd z0 0 250
  obtain ⟨den, hden⟩ : ∃ n, n = 1 + pickB z0 0 250 := ⟨_, rfl⟩
  have hd1 : 1 ≤ den ∧ den ≤ 250 := by have := p1.2 (by omega); omega
  have p2 := pickB_bd z0 1 (den + 1)
  have p3 := pickB_bd z1 0 60
  obtain ⟨M, hM⟩ : ∃ n : Nat, 1 + pickB z1 0 60 = n := ⟨(1 + pickB z1 0 60).toNat, by omega⟩
  have hM1 : 1 ≤ M ∧ M ≤ 60 := by have := p3.2 (by omega); omega
  have p4 := pickB_bd z1 1 (M : Int)
  obtain ⟨c, hc⟩ : ∃ n : Nat, 1 + pickB z1 1 (M : Int) = n := ⟨(1 + pickB z1 1 (M : Int)).toNat, by omega⟩
  have hc1 : 1 ≤ c ∧ c ≤ M := by have := p4.2 (by omega); omega
  have p5 := pickB_bd z1 2 ((c : Int) + 1)
  obtain ⟨l, hl2⟩ : ∃ n : Nat, pickB z1 2 ((c : Int) + 1) = n := ⟨(pickB z1 2 ((c : Int) + 1)).toNat, by omega⟩
  have hl1 : l ≤ c := by have := p5.2 (by omega); omega
  have HA1 := Lib.hid (fun W (h : w = W) => b10At_any a0 cap0 z0 0 250 W (h ▸ w0) (by omega) (by omega) (by omega) (by omega))
  have HA2 := Lib.hid (fun W (h : w = W) => b10At_any a0 cap0 z0 1 (den + 1) W (h ▸ w0) (by omega) (by omega) (by omega) (by omega))
  have HA3 := Lib.hid (fun W (h : w = W) => b10At_any a1 cap1 z1 0 60 W (h ▸ w1) (by omega) (by omega) (by omega) (by omega))
  have HA4 := Lib.hid (fun W (h : Keep w W) => b10At_any a1 cap1 z1 1 (M : Int) W (w1.keep h (Nat.le_refl _)) (by omega) (by omega) (by omega) (by omega))
  have HA5 := Lib.hid (fun W (h : Keep w W) => b10At_any a1 cap1 z1 2 ((c : Int) + 1) W (w1.keep h (Nat.le_refl _)) (by omega) (by omega) (by omega) (by omega))
  obtain ⟨num, hnum⟩ : ∃ n, n = pickB z0 1 (den + 1) := ⟨_, rfl⟩
  rw [← hnum] at HA2 p2
  have hu : 0 ≤ num ∧ num ≤ den := by have := p2.2 (by omega); omega
  rw [show pickB z0 0 250 = den - 1 by omega] at HA1
  rw [show pickB z1 0 60 = (M : Int) - 1 by omega] at HA3
  rw [show pickB z1 1 (M : Int) = (c : Int) - 1 by omega] at HA4
  rw [hl2] at HA5
  clear hden hM hc hl2 hnum p1 p2 p3 p4 p5
  have HBC := Lib.hid (fun W => BestCycle_any num den (M : Int) W ⟨by omega, by omega⟩ ⟨by omega, by omega⟩ ⟨by omega, by omega⟩)
  have hb : bcB num den (M : Int) = true := by unfold bcB; rw [inB_iff.2 (by omega), inB_iff.2 (by omega), inB_iff.2 (by omega)]; rfl
  rw [show bcV num den (M : Int) = bcN num den M from by simp [bcV, hb], hb] at HBC
  have hin := bcN_in (num := num) (den := den) (M := M) hM1.1 M (Nat.le_refl _)
  have hP := (bcN_best (num := num) (den := den) M).2 c l hc1.1 hc1.2 hl1
  generalize bcN num den M = s at *
  obtain ⟨k, n⟩ := s
  obtain ⟨q1, q2, q3, q4⟩ : 0 ≤ k ∧ k ≤ n ∧ 1 ≤ n ∧ n ≤ (M : Int) := hin
  have hP : bcD num den k n * (c : Int) < bcD num den (l : Int) (c : Int) * n ∨ (bcD num den k n * (c : Int) = bcD num den (l : Int) (c : Int) * n ∧ (n < (c : Int) ∨ (n = (c : Int) ∧ k ≤ (l : Int)))) := hP
  obtain ⟨⟨x1, x2⟩, ⟨x3, x4⟩, x5⟩ := bc_bd (k := (l : Int)) (n := (c : Int)) (num := num) (den := den) (by omega) hu (by omega) (by omega)
  obtain ⟨⟨y1, y2⟩, ⟨y3, y4⟩, y5⟩ := bc_bd (k := k) (n := n) (num := num) (den := den) (by omega) hu (by omega) (by omega)
  have HX := Lib.hid (fun W => abs_any ((l : Int) * den - num * (c : Int)) W (by omega) (by omega))
  have HY := Lib.hid (fun W => abs_any (k * den - num * n) W (by omega) (by omega))
  have V1 : IntKind.i64.wrap ((l : Int) * den) = (l : Int) * den := IntWalk.i64_in _ (by omega)
  have V2 : IntKind.i64.wrap (num * (c : Int)) = num * (c : Int) := IntWalk.i64_in _ (by omega)
  have V3 : IntKind.i64.wrap ((l : Int) * den - num * (c : Int)) = (l : Int) * den - num * (c : Int) := IntWalk.i64_in _ (by omega)
  have V4 : IntKind.i64.wrap (k * den) = k * den := IntWalk.i64_in _ (by omega)
  have V5 : IntKind.i64.wrap (num * n) = num * n := IntWalk.i64_in _ (by omega)
  have V6 : IntKind.i64.wrap (k * den - num * n) = k * den - num * n := IntWalk.i64_in _ (by omega)
  have hx : ab ((l : Int) * den - num * (c : Int)) = bcD num den (l : Int) (c : Int) := rfl
  have hy : ab (k * den - num * n) = bcD num den k n := rfl
  rw [hx] at HX
  rw [hy] at HY
  clear hx hy
  have t1 := bc_bd2 x5 (show 0 ≤ n ∧ n ≤ 400 by omega)
  have t2 := bc_bd2 y5 (show 0 ≤ (c : Int) ∧ (c : Int) ≤ 400 by omega)
  generalize bcD num den (l : Int) (c : Int) = X at *
  generalize bcD num den k n = Y at *
  obtain ⟨PA, hPA⟩ : ∃ P, P = X * n := ⟨_, rfl⟩
  obtain ⟨PB, hPB⟩ : ∃ P, P = Y * (c : Int) := ⟨_, rfl⟩
  have V7 : IntKind.i64.wrap (X * n) = PA := by rw [hPA]; exact IntWalk.i64_in _ (by omega)
  have V8 : IntKind.i64.wrap (Y * (c : Int)) = PB := by rw [hPB]; exact IntWalk.i64_in _ (by omega)
  rw [← hPA, ← hPB] at hP
  have HP := Lib.hid hP
  have n1 : ¬ n < 1 := by omega
  have n2 : ¬ (M : Int) < n := by omega
  have n3 : ¬ k < 0 := by omega
  have n4 : ¬ n < k := by omega
  clear hP hPA hPB t1 t2 x1 x2 x3 x4 x5 y1 y2 y3 y4 y5 q1 q2 q3 q4 hb
  go_enter Try.func14, Try.ntmps14
  go_wp2_with (go_at_call 55; refine (b10Long_any _ _ _ _ _ _ _ s0 s1).mono ?_; rw [hl]; rintro e w' ⟨rfl, rfl⟩)
  refine (HA1.out _ rfl).mono ?_
  rintro e w' ⟨rfl, rfl⟩
  go_wp2_with fail
  rw [show 1 + (den - 1) = den from by omega]
  refine (HA2.out _ rfl).mono ?_
  rintro e w' ⟨rfl, rfl⟩
  go_wp2_with fail
  refine (HA3.out _ rfl).mono ?_
  rintro e w' ⟨rfl, rfl⟩
  go_wp2_with fail
  rw [show 1 + ((M : Int) - 1) = M from by omega]
  refine (HBC.out _).mono ?_
  rintro e w2 ⟨rfl, k2⟩
  go_wp2_with fail
  refine (HA4.out _ k2).mono ?_
  rintro e w' ⟨rfl, rfl⟩
  go_wp2_with fail
  rw [show 1 + ((c : Int) - 1) = c from by omega]
  refine (HA5.out _ k2).mono ?_
  rintro e w' ⟨rfl, rfl⟩
  go_wp2_with fail
  refine (HX.out _).mono ?_
  rintro e w' ⟨rfl, rfl⟩
  go_wp2_with fail
  refine (HY.out _).mono ?_
  rintro e w' ⟨rfl, rfl⟩
  rcases HP.out with h | ⟨h, h2 | ⟨h2, h3⟩⟩
  · go_wp2
    go_ret
    exact ⟨rfl, k2⟩
  · subst h
    go_wp2
    go_ret
    exact ⟨rfl, k2⟩
  · subst h
    subst h2
    go_wp2
    go_ret
    exact ⟨rfl, k2⟩

theorem own : ownKnob Try.prog.godebug = none := by kernel_rfl
theorem laidOut : laidOutB Try.prog = true := by kernel_rfl
set_option maxRecDepth 100000 in
theorem lifted (os : Os) (started : os.Started) (H : Type) (enc : TypeId × Value → H) :
    ReturnsInHanded {} Try.checked os 14 .any (Rows.fnBestCycleSpec.pre6 enc Try.prog Try.f14 Rows.fnBestCycleRow.domain false) (Rows.fnBestCycleSpec.post enc Try.prog Try.f14 false true false false) := by
  refine returnsInHanded_of_change (C := Try.checked) own started (by kernel_rfl) Try.func14
    (ChangeSpec.witness6 (enc := enc) (C := Try.checked) false ⟨#[], #[.slice none 0 0, .slice none 0 0], []⟩ 8 (by kernel_rfl) (by kernel_rfl) (by kernel_rfl) (by kernel_rfl)) ?_
  intro W base args ds gs before hval0 hW hcnd _
  have hval : ∀ (j : Nat) t v, Try.f14.params[j]? = some t → args[j]? = some v → Value.okWide Try.prog W .any base t v := hval0
  have hW' := hW
  obtain ⟨p, q, hA0, hV, rfl, hfz, hnd⟩ := hW
  have hA : DataW.TrodAll enc Try.prog W 0 (fun _ => true) true Try.f14.params.toList args.toList ds p := hA0
  rw [Try.params14] at hA hval
  obtain ⟨v0, vs0, d0, ds0, p0, q0, hargs, rfl, rfl, h0, r0⟩ := trodAll_cons hA
  obtain ⟨v1, vs1, d1, ds1, p1, q1, rfl, rfl, rfl, h1, r1⟩ := trodAll_cons r0
  obtain ⟨rfl, rfl, rfl⟩ := trodAll_nil r1
  obtain rfl : args = #[v0, v1] := by cases args; simp_all
  obtain ⟨rfl, rfl⟩ := trodVars_none hV
  have k0 := h0
  have lt0 : ∀ x ∈ p0, x.block < W.heap.size := by obtain ⟨m, hm⟩ := k0; exact DataW.trod_lt m _ _ _ hm
  obtain ⟨a0, len0, cap0, rfl⟩ := okWide_slice Try.underlying74 (hval 0 74 v0 rfl rfl)
  obtain ⟨z0, e0, w0⟩ := bytes_open Try.underlying74 Try.underlying5 (by kernel_rfl) h0
  subst e0
  have k1 := h1
  have lt1 : ∀ x ∈ p1, x.block < W.heap.size := by obtain ⟨m, hm⟩ := k1; exact DataW.trod_lt m _ _ _ hm
  obtain ⟨a1, len1, cap1, rfl⟩ := okWide_slice Try.underlying74 (hval 1 74 v1 rfl rfl)
  obtain ⟨z1, e1, w1⟩ := bytes_open Try.underlying74 Try.underlying5 (by kernel_rfl) h1
  subst e1
  clear hA0 hval0
  refine (walk W a0 cap0 z0 w0 a1 cap1 z1 w1).mono fun e W' ⟨he, bel⟩ => ?_
  subst he
  exact ⟨_, rfl, _, _, _, [], _, [], hW', trodAll_mk1 (shut_bool Try.underlying4 _), (trodAll_cons_mk (Below.trod laidOut (by kernel_rfl) (of_decide_eq_true (by kernel_rfl)) k0 bel lt0) (trodAll_cons_mk (Below.trod laidOut (by kernel_rfl) (of_decide_eq_true (by kernel_rfl)) k1 bel lt1) trodAll_mk0)), rfl, bel.frame _, fun h => by cases h⟩
theorem over : Rows.fnBestCycleRow.holds Try.pinned (OpenSpec.ofChange Rows.fnBestCycleSpec) :=
  OpenClaim.holds_of_wide 14 Try.f14 rfl rfl rfl rfl rfl rfl rfl ⟨rfl, rfl, rfl, rfl, rfl⟩ rfl rfl rfl rfl rfl (by kernel_rfl) Try.func14 (by kernel_rfl)
    (of_decide_eq_true (by kernel_rfl)) (by unfold Func.isWrapper; first | (rw [if_pos (by decide +kernel)]; kernel_rfl) | (rw [if_neg (by decide +kernel)]; exact ⟨rfl, rfl⟩))
    (fun os started H enc _ => lifted os started H enc)
/-- THE STATEMENT. -/
theorem proved : Rows.FnBestCycleSaid := over
end Go.Proofs.Ytomfhkpmdalknaa.fnBestCycle
