/- Fractions out of their continued fractions: the model's side. -/
import Derived.Test.YtmckbjhmkcbjgabFc7
import Derived.Deep.LoopGhost
namespace Go.Proofs.Ytmckbjhmkcbjgab
open Go.ChangeShapes Go.WideShapes Go.ChangeAt Go.RowKit Go.Deep
set_option linter.unusedVariables false
theorem fc_no {zs : List Int} (h : fcB zs = false) : fcN zs = 0 ∧ fcD zs = 0 := by unfold fcN fcD; rw [h]; exact ⟨rfl, rfl⟩
theorem fc_yes {zs : List Int} (h : fcB zs = true) : fcN zs = (fcP zs).1 ∧ fcD zs = (fcP zs).2 := by unfold fcN fcD; rw [h]; exact ⟨rfl, rfl⟩
theorem fcO_drop : ∀ (k : Nat) (zs : List Int), fcO zs = true → fcO (zs.drop k) = true := by
  intro k
  induction k with
  | zero => intro zs h; simpa using h
  | succ k ih =>
    intro zs h
    cases zs with
    | nil => rfl
    | cons a t =>
      unfold fcO at h
      rw [Bool.and_eq_true] at h
      rw [List.drop_succ_cons]; exact ih t h.1
theorem fc_drop (zs : List Int) (k : Nat) (h : k < zs.length) : fcP (zs.drop k) = (zs.getD k 0 * (fcP (zs.drop (k + 1))).1 + (fcP (zs.drop (k + 1))).2, (fcP (zs.drop (k + 1))).1) ∧ fcO (zs.drop k) = (fcO (zs.drop (k + 1)) && decide ((fcP (zs.drop k)).1 ≤ 1000000000)) := by
  rw [List.drop_eq_getElem_cons h, getD_get zs k h]
  exact ⟨rfl, rfl⟩
/-- What holds ahead of a round of the way back. -/
structure FcAt (zs : List Int) (k : Nat) (x y : Int) : Prop where
  le : k < zs.length
  num : x = (fcP (zs.drop k)).1
  den : y = (fcP (zs.drop k)).2
  ok : fcO (zs.drop (k + 1)) = true
  big : 0 < k → x ≤ 1000000000
theorem FcAt.bd {zs : List Int} {k : Nat} {x y : Int} (h : FcAt zs k x y) (hb : ∀ z ∈ zs, 0 ≤ z ∧ z ≤ 1000000000) : 0 ≤ x ∧ x ≤ 1000000001000000000 ∧ 0 ≤ y ∧ y ≤ 1000000000 := by
  have h1 := fc_bd (zs.drop (k + 1)) (fun z hz => hb z (List.mem_of_mem_drop hz)) h.ok
  have h2 := fc_drop zs k h.le
  have h3 := hb _ (getD_mem zs k h.le)
  have h4 : zs.getD k 0 * (fcP (zs.drop (k + 1))).1 ≤ 1000000000 * 1000000000 := Int.mul_le_mul h3.2 h1.2.1 h1.1 (by omega)
  have h5 := Int.mul_nonneg h3.1 h1.1
  rw [h.num, h.den, h2.1]
  simp only
  omega
theorem FcAt.start {zs : List Int} (h : zs.length ≠ 0) (hb : ∀ z ∈ zs, 0 ≤ z ∧ z ≤ 1000000000) : FcAt zs (zs.length - 1) (zs.getD (zs.length - 1) 0) 1 := by
  have h2 := fc_drop zs (zs.length - 1) (by omega)
  have e : zs.drop (zs.length - 1 + 1) = [] := by rw [List.drop_eq_nil_iff]; omega
  have h3 := hb _ (getD_mem zs (zs.length - 1) (by omega))
  rw [e] at h2
  refine ⟨by omega, by rw [h2.1]; simp [fcP], by rw [h2.1]; simp [fcP], by rw [e]; rfl, fun _ => h3.2⟩
theorem FcAt.step {zs : List Int} {k : Nat} {x y : Int} (h : FcAt zs (k + 1) x y) (hs : zs.getD k 0 * x + y ≤ 1000000000 ∨ k = 0) : FcAt zs k (zs.getD k 0 * x + y) x := by
  have hl := h.le
  have h2 := fc_drop zs k (by omega)
  have h3 := fc_drop zs (k + 1) hl
  refine ⟨by omega, by rw [h2.1, ← h.num, ← h.den], by rw [h2.1, ← h.num], ?_, fun hk => ?_⟩
  · rw [h3.2, h.ok, ← h.num, Bool.true_and, decide_eq_true_eq]; exact h.big (by omega)
  · omega
theorem FcAt.stop {zs : List Int} {k : Nat} {x y : Int} (h : FcAt zs (k + 1) x y) (hs : ¬ zs.getD k 0 * x + y ≤ 1000000000) : fcB zs = false := by
  have h2 := fc_drop zs k (by have := h.le; omega)
  cases c : fcO zs
  · unfold fcB; rw [c, Bool.and_false]
  · have h4 := fcO_drop k zs c
    rw [h2.2, h2.1, ← h.num, ← h.den, Bool.and_eq_true, decide_eq_true_eq] at h4
    exact absurd h4.2 hs
theorem FcAt.done {zs : List Int} {x y : Int} (h : FcAt zs 0 x y) (hC : isC zs = true) : fcB zs = decide (x ≤ 1000000000) ∧ x = (fcP zs).1 ∧ y = (fcP zs).2 := by
  have h2 := fc_drop zs 0 h.le
  have h3 := h.ok
  have h4 := h.num
  have h5 := h.den
  rw [List.drop_zero] at h2 h4 h5
  refine ⟨?_, h4, h5⟩
  unfold fcB
  rw [hC, h2.2, h3, h4]; simp
set_option maxHeartbeats 3200000 in
set_option maxRecDepth 100000 in
theorem specFromContinued_any (ad : Option Addr) (cap : Nat) (zs : List Int) (w : World) (hz : Ints w ad zs) (hcap : zs.length ≤ cap) :
    Calls Try.prog 24 #[.slice ad zs.length cap] w fun e w' => e = .returned (.tuple #[.int .i64 (fcN zs), .int .i64 (fcD zs), .bool (fcB zs)]) ∧ Keep w w' := by
  have hlen := hz.small
  have HNO := Lib.hid (fun (h : isC zs = false) => show fcN zs = 0 ∧ fcD zs = 0 ∧ fcB zs = false from ⟨(fc_no (by unfold fcB; rw [h]; rfl)).1, (fc_no (by unfold fcB; rw [h]; rfl)).2, by unfold fcB; rw [h]; rfl⟩)
  by_cases h0 : zs.length = 0
  · have h0i : (zs.length : Int) < 1 := by omega
    obtain ⟨q1, q2, q3⟩ := HNO.out (by unfold isC; rw [decide_eq_true h0]; rfl)
    rw [q1, q2, q3]
    go_enter Try.func24, Try.ntmps24
    go_wp2
    refine bodyPost_ret (v := .tuple #[.int .i64 0, .int .i64 0, .bool false]) (by simp [results, Try.results24, go_sem]) rfl ?_
    exact ⟨rfl, Below.refl _ _⟩
  have h0i : ¬ (zs.length : Int) < 1 := by omega
  by_cases h20 : 20 < zs.length
  · have h20i : (20 : Int) < (zs.length : Int) := by omega
    obtain ⟨q1, q2, q3⟩ := HNO.out (by unfold isC okTr; rw [decide_eq_false (show ¬ zs.length ≤ 20 by omega)]; simp)
    rw [q1, q2, q3]
    go_enter Try.func24, Try.ntmps24
    go_wp2
    refine bodyPost_ret (v := .tuple #[.int .i64 0, .int .i64 0, .bool false]) (by simp [results, Try.results24, go_sem]) rfl ?_
    exact ⟨rfl, Below.refl _ _⟩
  have h20i : ¬ (20 : Int) < (zs.length : Int) := by omega
  rcases hz.at_ with h | ⟨b, off, rfl, hb1, hc⟩
  · subst h; simp at h0
  have hcl := hc (zs.length - 1) (by omega)
  have e1 : (zs.length : Int) - 1 = ((zs.length - 1 : Nat) : Int) := by omega
  have V1 : IntKind.i64.wrap ((zs.length : Int) - 1) = ((zs.length - 1 : Nat) : Int) := by rw [IntWalk.i64_in _ (by omega)]; exact e1
  have hlt1 : ((zs.length - 1 : Nat) : Int) < (zs.length : Int) := by omega
  have HCELL := Lib.hid hc
  clear hc e1
  by_cases h1 : 1 < zs.length ∧ zs.getD (zs.length - 1) 0 = 1
  · have h1i : (1 : Int) < (zs.length : Int) := by omega
    obtain ⟨q1, q2, q3⟩ := HNO.out (by unfold isC; rw [decide_eq_false (show ¬ zs.length = 1 by omega), decide_eq_true h1.2]; simp)
    rw [q1, q2, q3]
    rw [h1.2] at hcl
    go_enter Try.func24, Try.ntmps24
    go_wp2
    refine bodyPost_ret (v := .tuple #[.int .i64 0, .int .i64 0, .bool false]) (by simp [results, Try.results24, go_sem]) rfl ?_
    exact ⟨rfl, Below.refl _ _⟩
  have HC : Hid (isC zs = trms zs 1000000000 zs.length) := Lib.hid (by
    unfold isC okTr
    rw [decide_eq_false h0, decide_eq_true (show zs.length ≤ 20 by omega), Bool.true_and]
    have : (decide (zs.length = 1) || !decide (zs.getD (zs.length - 1) 0 = 1)) = true := by
      by_cases c : zs.length = 1
      · simp [c]
      · simp only [Bool.or_eq_true, decide_eq_true_eq, Bool.not_eq_true', decide_eq_false_iff_not]
        right; intro h; exact h1 ⟨by omega, h⟩
    rw [this, Bool.and_true]; rfl)
  clear hcl V1 hlt1
  obtain ⟨m, hm⟩ : ∃ m : Nat, zs.length = m + 1 := ⟨zs.length - 1, by omega⟩
  have hcl := HCELL.out m (by omega)
  have V1 : IntKind.i64.wrap ((zs.length : Int) - 1) = (m : Int) := by rw [IntWalk.i64_in _ (by omega)]; omega
  have V2 : IntKind.i64.wrap ((zs.length : Int) - 2) = (m : Int) - 1 := by rw [IntWalk.i64_in _ (by omega)]; omega
  have hlt1 : (m : Int) < (zs.length : Int) := by omega
  have hm19 : m ≤ 19 := by omega
  have HM := Lib.hid hm
  have h1' : 1 < zs.length → ¬ zs.getD m 0 = 1 := fun h q => h1 ⟨h, by rw [hm, Nat.add_sub_cancel]; exact q⟩
  have HX0 : Hid (∃ x, x = zs.getD m 0) := Lib.hid ⟨_, rfl⟩
  obtain ⟨xl, hxl⟩ := HX0.out
  rw [← hxl] at hcl h1'
  have HXL := Lib.hid hxl
  have H0 := Lib.hid h0
  clear hm h1 hxl HX0
  by_cases h1b : 1 < zs.length
  · have h1i : (1 : Int) < (zs.length : Int) := by omega
    have hlast := h1' h1b
    clear h1'
    go_enter Try.func24, Try.ntmps24
    go_wp2
    go_loop [6, 7] (fun i _ => ∃ k : Nat, k ≤ zs.length ∧ i = .int .i64 k ∧ Hid (trms zs 1000000000 k = true)) (fun i _ => zs.length - (intOf i).toNat)
    case atStart => exact ⟨0, Nat.zero_le _, rfl, Lib.hid (by simp [trms])⟩
    case round =>
      obtain ⟨k, hk, rfl, HA⟩ := hrel
      by_cases hlt : k < zs.length
      · have hcx := HCELL.out k hlt
        have HN := Lib.hid (fun hf => trms_no (zs := zs) (lim := 1000000000) hlt hf)
        have HS := Lib.hid (trms_succ zs 1000000000 k)
        have HX : Hid (trmB k (zs.getD k 0) 1000000000 = inB (zs.getD k 0) (min (k : Int) 1) 1000000000) := Lib.hid rfl
        generalize zs.getD k 0 = x at hcx HN HS HX
        by_cases hk0 : k = 0
        · subst hk0
          have hcx : w.cell? ⟨b, off, none⟩ = some (.int .i64 x) := hcx
          have HX : Hid (trmB 0 x 1000000000 = inB x 0 1000000000) := Lib.hid rfl
          cases hin : inB x 0 1000000000
          · obtain ⟨q1, q2, q3⟩ := HNO.out (by rw [HC.out]; exact HN.out (HX.out.trans hin))
            have HQ := Lib.hid q1; have HQ2 := Lib.hid q2; have HQ3 := Lib.hid q3
            clear q1 q2 q3
            go_wp2_with (go_at_call 47; refine (l00In_any _ _ _ _).mono ?_; rw [hin]; rintro e w' ⟨rfl, rfl⟩)
            refine bodyPost_ret (v := .tuple #[.int .i64 0, .int .i64 0, .bool false]) (by simp [results, Try.results24, go_sem]) rfl ?_
            exact ⟨by rw [HQ.out, HQ2.out, HQ3.out], Below.refl _ _⟩
          · have HSk : Hid (trms zs 1000000000 (0 + 1) = true) := Lib.hid (by rw [HS.out, HA.out, HX.out, hin]; rfl)
            go_wp2_with (go_at_call 47; refine (l00In_any _ _ _ _).mono ?_; rw [hin]; rintro e w' ⟨rfl, rfl⟩)
            go_round
            case rel => exact ⟨0 + 1, by omega, by go_num, HSk⟩
            case measure => simp [intOf]; omega
        · have hk0i : ¬ (k : Int) = 0 := by omega
          have HX : Hid (trmB k x 1000000000 = inB x 1 1000000000) := Lib.hid (by rw [HX.out, show min (k : Int) 1 = 1 by omega])
          cases hin : inB x 1 1000000000
          · obtain ⟨q1, q2, q3⟩ := HNO.out (by rw [HC.out]; exact HN.out (HX.out.trans hin))
            have HQ := Lib.hid q1; have HQ2 := Lib.hid q2; have HQ3 := Lib.hid q3
            clear q1 q2 q3
            go_wp2_with (go_at_call 47; refine (l00In_any _ _ _ _).mono ?_; rw [hin]; rintro e w' ⟨rfl, rfl⟩)
            refine bodyPost_ret (v := .tuple #[.int .i64 0, .int .i64 0, .bool false]) (by simp [results, Try.results24, go_sem]) rfl ?_
            exact ⟨by rw [HQ.out, HQ2.out, HQ3.out], Below.refl _ _⟩
          · have HSk : Hid (trms zs 1000000000 (k + 1) = true) := Lib.hid (by rw [HS.out, HA.out, HX.out, hin]; rfl)
            go_wp2_with (go_at_call 47; refine (l00In_any _ _ _ _).mono ?_; rw [hin]; rintro e w' ⟨rfl, rfl⟩)
            go_round
            case rel => exact ⟨k + 1, by omega, by go_num, HSk⟩
            case measure => simp [intOf]; omega
      · have HE : Hid (isC zs = true) := Lib.hid (by rw [HC.out, ← show k = zs.length by omega]; exact HA.out)
        have HBD := Lib.hid (isC_parts HE.out).2.2
        have HST0 := FcAt.start H0.out HBD.out
        have HST : Hid (FcAt zs m xl 1) := Lib.hid (by rw [HM.out, Nat.add_sub_cancel] at HST0; rw [HXL.out]; exact HST0)
        clear HST0
        go_wp2
        clear hcl V1 V2 hlt1 HNO HC HA
        go_loop [8, 9, 10, 11] (fun x y i _ => ∃ (k : Nat) (X Y : Int), k ≤ m ∧ x = .int .i64 X ∧ y = .int .i64 Y ∧ i = .int .i64 ((k : Int) - 1) ∧ Hid (FcAt zs k X Y)) (fun _ _ i _ => (intOf i + 1).toNat)
        case atStart => exact ⟨m, xl, 1, Nat.le_refl _, rfl, rfl, rfl, HST⟩
        case round =>
          obtain ⟨k, X, Y, hkm, rfl, rfl, rfl, HG⟩ := hrel
          have hbd := HG.out.bd HBD.out
          cases k with
          | succ j =>
            have ej : ((j + 1 : Nat) : Int) - 1 = (j : Int) := by omega
            have hjl : j < zs.length := by have := HG.out.le; omega
            have hcx := HCELL.out j hjl
            have hzb := HBD.out _ (getD_mem zs j hjl)
            have hX := HG.out.big (by omega)
            have HSTEP := Lib.hid (fun hs => HG.out.step hs)
            have HSTOP := Lib.hid (fun hs => HG.out.stop hs)
            generalize zs.getD j 0 = z at hcx hzb HSTEP HSTOP
            have m1 : z * X ≤ 1000000000 * 1000000000 := Int.mul_le_mul hzb.2 hX hbd.1 (by omega)
            have m2 := Int.mul_nonneg hzb.1 hbd.1
            have V3 : IntKind.i64.wrap (z * X) = z * X := IntWalk.i64_in _ (by omega)
            have V4 : IntKind.i64.wrap (z * X + Y) = z * X + Y := IntWalk.i64_in _ (by omega)
            have V5 : IntKind.i64.wrap ((j : Int) - 1) = (j : Int) - 1 := IntWalk.i64_in _ (by omega)
            have hji : (j : Int) < (zs.length : Int) := by omega
            have hy : ¬ (1000000000 : Int) < X := by omega
            rw [ej]
            clear ej hX m1 m2 hzb
            by_cases hz1 : z * X + Y ≤ 1000000000
            · have hz2 : ¬ (1000000000 : Int) < z * X + Y := by omega
              have HN2 := Lib.hid (HSTEP.out (.inl hz1))
              clear HSTEP HSTOP hz1
              go_wp2
              go_round
              case rel => exact ⟨j, z * X + Y, X, by omega, rfl, rfl, rfl, HN2⟩
              case measure => simp [intOf]
            · have hz2 : (1000000000 : Int) < z * X + Y := by omega
              by_cases hj0 : j = 0
              · subst hj0
                have HN2 := Lib.hid (HSTEP.out (.inr rfl))
                clear HSTEP HSTOP hz1
                have hcx : w.cell? ⟨b, off, none⟩ = some (.int .i64 z) := hcx
                go_wp2
                go_round
                case rel => exact ⟨0, z * X + Y, X, by omega, rfl, rfl, rfl, HN2⟩
                case measure => simp [intOf]
              · have hj1 : (0 : Int) < (j : Int) := by omega
                have HN2 := Lib.hid (HSTOP.out hz1)
                have HQ := Lib.hid (fc_no HN2.out)
                clear HSTEP HSTOP hz1
                go_wp2
                refine bodyPost_ret (v := .tuple #[.int .i64 0, .int .i64 0, .bool false]) (by simp [results, Try.results24, go_sem]) rfl ?_
                exact ⟨by rw [HQ.out.1, HQ.out.2, HN2.out], Below.refl _ _⟩
          | zero =>
            obtain ⟨q1, q2, q3⟩ := HG.out.done HE.out
            have HQ := Lib.hid q1
            have HN0 := Lib.hid (fun h => fc_no (zs := zs) h)
            have HY0 := Lib.hid (fun h => fc_yes (zs := zs) h)
            have HX2 := Lib.hid q2
            have HY2 := Lib.hid q3
            have ej : ((0 : Nat) : Int) - 1 = -1 := by omega
            rw [ej]
            clear q1 q2 q3 ej
            by_cases hx : X ≤ 1000000000
            · have hx2 : ¬ (1000000000 : Int) < X := by omega
              have HB : Hid (fcB zs = true) := Lib.hid (by rw [HQ.out]; simpa using hx)
              go_wp2
              refine bodyPost_ret (v := .tuple #[.int .i64 X, .int .i64 Y, .bool true]) (by simp [results, Try.results24, go_sem]) rfl ?_
              exact ⟨by rw [(HY0.out HB.out).1, (HY0.out HB.out).2, HB.out, HX2.out, HY2.out], Below.refl _ _⟩
            · have hx2 : (1000000000 : Int) < X := by omega
              have HB : Hid (fcB zs = false) := Lib.hid (by rw [HQ.out]; simpa using hx)
              go_wp2
              refine bodyPost_ret (v := .tuple #[.int .i64 0, .int .i64 0, .bool false]) (by simp [results, Try.results24, go_sem]) rfl ?_
              exact ⟨by rw [(HN0.out HB.out).1, (HN0.out HB.out).2, HB.out], Below.refl _ _⟩
  · have h1i : ¬ (1 : Int) < (zs.length : Int) := by omega
    clear h1'
    go_enter Try.func24, Try.ntmps24
    go_wp2
    go_loop [6, 7] (fun i _ => ∃ k : Nat, k ≤ zs.length ∧ i = .int .i64 k ∧ Hid (trms zs 1000000000 k = true)) (fun i _ => zs.length - (intOf i).toNat)
    case atStart => exact ⟨0, Nat.zero_le _, rfl, Lib.hid (by simp [trms])⟩
    case round =>
      obtain ⟨k, hk, rfl, HA⟩ := hrel
      by_cases hlt : k < zs.length
      · have hcx := HCELL.out k hlt
        have HN := Lib.hid (fun hf => trms_no (zs := zs) (lim := 1000000000) hlt hf)
        have HS := Lib.hid (trms_succ zs 1000000000 k)
        have HX : Hid (trmB k (zs.getD k 0) 1000000000 = inB (zs.getD k 0) (min (k : Int) 1) 1000000000) := Lib.hid rfl
        generalize zs.getD k 0 = x at hcx HN HS HX
        by_cases hk0 : k = 0
        · subst hk0
          have hcx : w.cell? ⟨b, off, none⟩ = some (.int .i64 x) := hcx
          have HX : Hid (trmB 0 x 1000000000 = inB x 0 1000000000) := Lib.hid rfl
          cases hin : inB x 0 1000000000
          · obtain ⟨q1, q2, q3⟩ := HNO.out (by rw [HC.out]; exact HN.out (HX.out.trans hin))
            have HQ := Lib.hid q1; have HQ2 := Lib.hid q2; have HQ3 := Lib.hid q3
            clear q1 q2 q3
            go_wp2_with (go_at_call 47; refine (l00In_any _ _ _ _).mono ?_; rw [hin]; rintro e w' ⟨rfl, rfl⟩)
            refine bodyPost_ret (v := .tuple #[.int .i64 0, .int .i64 0, .bool false]) (by simp [results, Try.results24, go_sem]) rfl ?_
            exact ⟨by rw [HQ.out, HQ2.out, HQ3.out], Below.refl _ _⟩
          · have HSk : Hid (trms zs 1000000000 (0 + 1) = true) := Lib.hid (by rw [HS.out, HA.out, HX.out, hin]; rfl)
            go_wp2_with (go_at_call 47; refine (l00In_any _ _ _ _).mono ?_; rw [hin]; rintro e w' ⟨rfl, rfl⟩)
            go_round
            case rel => exact ⟨0 + 1, by omega, by go_num, HSk⟩
            case measure => simp [intOf]; omega
        · omega
      · have HE : Hid (isC zs = true) := Lib.hid (by rw [HC.out, ← show k = zs.length by omega]; exact HA.out)
        have HBD := Lib.hid (isC_parts HE.out).2.2
        have HST0 := FcAt.start H0.out HBD.out
        have HST : Hid (FcAt zs m xl 1) := Lib.hid (by rw [HM.out, Nat.add_sub_cancel] at HST0; rw [HXL.out]; exact HST0)
        clear HST0
        go_wp2
        clear hcl V1 V2 hlt1 HNO HC HA
        go_loop [8, 9, 10, 11] (fun x y i _ => ∃ (k : Nat) (X Y : Int), k ≤ m ∧ x = .int .i64 X ∧ y = .int .i64 Y ∧ i = .int .i64 ((k : Int) - 1) ∧ Hid (FcAt zs k X Y)) (fun _ _ i _ => (intOf i + 1).toNat)
        case atStart => exact ⟨m, xl, 1, Nat.le_refl _, rfl, rfl, rfl, HST⟩
        case round =>
          obtain ⟨k, X, Y, hkm, rfl, rfl, rfl, HG⟩ := hrel
          have hbd := HG.out.bd HBD.out
          cases k with
          | succ j =>
            have ej : ((j + 1 : Nat) : Int) - 1 = (j : Int) := by omega
            have hjl : j < zs.length := by have := HG.out.le; omega
            have hcx := HCELL.out j hjl
            have hzb := HBD.out _ (getD_mem zs j hjl)
            have hX := HG.out.big (by omega)
            have HSTEP := Lib.hid (fun hs => HG.out.step hs)
            have HSTOP := Lib.hid (fun hs => HG.out.stop hs)
            generalize zs.getD j 0 = z at hcx hzb HSTEP HSTOP
            have m1 : z * X ≤ 1000000000 * 1000000000 := Int.mul_le_mul hzb.2 hX hbd.1 (by omega)
            have m2 := Int.mul_nonneg hzb.1 hbd.1
            have V3 : IntKind.i64.wrap (z * X) = z * X := IntWalk.i64_in _ (by omega)
            have V4 : IntKind.i64.wrap (z * X + Y) = z * X + Y := IntWalk.i64_in _ (by omega)
            have V5 : IntKind.i64.wrap ((j : Int) - 1) = (j : Int) - 1 := IntWalk.i64_in _ (by omega)
            have hji : (j : Int) < (zs.length : Int) := by omega
            have hy : ¬ (1000000000 : Int) < X := by omega
            rw [ej]
            clear ej hX m1 m2 hzb
            by_cases hz1 : z * X + Y ≤ 1000000000
            · have hz2 : ¬ (1000000000 : Int) < z * X + Y := by omega
              have HN2 := Lib.hid (HSTEP.out (.inl hz1))
              clear HSTEP HSTOP hz1
              go_wp2
              go_round
              case rel => exact ⟨j, z * X + Y, X, by omega, rfl, rfl, rfl, HN2⟩
              case measure => simp [intOf]
            · have hz2 : (1000000000 : Int) < z * X + Y := by omega
              by_cases hj0 : j = 0
              · subst hj0
                have HN2 := Lib.hid (HSTEP.out (.inr rfl))
                clear HSTEP HSTOP hz1
                have hcx : w.cell? ⟨b, off, none⟩ = some (.int .i64 z) := hcx
                go_wp2
                go_round
                case rel => exact ⟨0, z * X + Y, X, by omega, rfl, rfl, rfl, HN2⟩
                case measure => simp [intOf]
              · have hj1 : (0 : Int) < (j : Int) := by omega
                have HN2 := Lib.hid (HSTOP.out hz1)
                have HQ := Lib.hid (fc_no HN2.out)
                clear HSTEP HSTOP hz1
                go_wp2
                refine bodyPost_ret (v := .tuple #[.int .i64 0, .int .i64 0, .bool false]) (by simp [results, Try.results24, go_sem]) rfl ?_
                exact ⟨by rw [HQ.out.1, HQ.out.2, HN2.out], Below.refl _ _⟩
          | zero =>
            obtain ⟨q1, q2, q3⟩ := HG.out.done HE.out
            have HQ := Lib.hid q1
            have HN0 := Lib.hid (fun h => fc_no (zs := zs) h)
            have HY0 := Lib.hid (fun h => fc_yes (zs := zs) h)
            have HX2 := Lib.hid q2
            have HY2 := Lib.hid q3
            have ej : ((0 : Nat) : Int) - 1 = -1 := by omega
            rw [ej]
            clear q1 q2 q3 ej
            by_cases hx : X ≤ 1000000000
            · have hx2 : ¬ (1000000000 : Int) < X := by omega
              have HB : Hid (fcB zs = true) := Lib.hid (by rw [HQ.out]; simpa using hx)
              go_wp2
              refine bodyPost_ret (v := .tuple #[.int .i64 X, .int .i64 Y, .bool true]) (by simp [results, Try.results24, go_sem]) rfl ?_
              exact ⟨by rw [(HY0.out HB.out).1, (HY0.out HB.out).2, HB.out, HX2.out, HY2.out], Below.refl _ _⟩
            · have hx2 : (1000000000 : Int) < X := by omega
              have HB : Hid (fcB zs = false) := Lib.hid (by rw [HQ.out]; simpa using hx)
              go_wp2
              refine bodyPost_ret (v := .tuple #[.int .i64 0, .int .i64 0, .bool false]) (by simp [results, Try.results24, go_sem]) rfl ?_
              exact ⟨by rw [(HN0.out HB.out).1, (HN0.out HB.out).2, HB.out], Below.refl _ _⟩
end Go.Proofs.Ytmckbjhmkcbjgab
