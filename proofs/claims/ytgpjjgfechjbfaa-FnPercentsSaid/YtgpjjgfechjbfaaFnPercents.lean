/- FnPercents: percents have the sum, each is rounded down or up, and moving one lessens nothing: at all bytes. -/
import Derived.Test.YtgpjjgfechjbfaaPct4b
import Derived.Test.YtgpjjgfechjbfaaPct4f
import Derived.Test.YtgpjjgfechjbfaaDraw8
import Derived.BigQuiet
namespace Go.Proofs.Ytgpjjgfechjbfaa.fnPercents
open Go.ChangeShapes Go.WideShapes Go.ChangeAt Go.RowKit Go.Deep
set_option linter.unusedVariables false
theorem own_empty (w : World) : Own (w.alloc (.cells #[] 2)) w.heap.size (some ⟨w.heap.size, 0, none⟩) 0 [] := by
  have := World.ownsRow_lit (base := w.heap.size) (e := 2) (size := 1) w #[] 0 (by omega) (by simp) rfl
  exact ⟨by simpa using this, by simp, by simp⟩
theorem votes_cnts {vs : List Int} (h : okVotes vs = true) : cntsB vs = true ∧ vs.length ≤ 12 := by
  have hl := okVotes_len h
  unfold okVotes at h; simp only [Bool.and_eq_true, decide_eq_true_eq] at h
  have hm := allB_mem h.1.2
  have hne : vs ≠ [] := fun e => by subst e; simp at h
  have : 1 ≤ vs.length := by
    rcases vs with _ | ⟨a, t⟩
    · exact absurd rfl hne
    · simp
  exact ⟨cnts_yes (inB_iff.2 (by omega)) (fun j hj => inB_iff.2 (hm _ (getD_mem vs j hj))) (by omega), hl⟩

set_option maxHeartbeats 6400000 in
set_option maxRecDepth 100000 in
theorem walk (w : World) (a0 : Option Addr) (cap0 : Nat) (z0 : List Int) (w0 : Bytes w a0 z0) (a1 : Option Addr) (cap1 : Nat) (z1 : List Int) (w1 : Bytes w a1 z1) :
    Calls Try.prog 6 #[.slice a0 z0.length cap0, .slice a1 z1.length cap1] w fun e w' => e = .returned (.bool true) ∧ Below w.heap.size w w' := by
  have s0 := w0.small
  have s1 := w1.small
  cases hl : (decide (48 < z0.length) || decide (48 < z1.length))
  case true =>
    go_enter Try.func6, Try.ntmps6
    go_wp2_with fail
    refine (r8Long_any a0 a1 cap0 cap1 _ _ _ s0 s1).mono ?_
    rw [hl]
    rintro e w' ⟨rfl, rfl⟩
    go_wp2
    go_ret
    exact ⟨rfl, Below.refl _ _⟩
  have HL := Lib.hid hl; clear hl
  go_enter Try.func6, Try.ntmps6
  go_wp2_with fail
  refine (r8Long_any a0 a1 cap0 cap1 _ _ _ s0 s1).mono ?_
  rw [HL.out]
  rintro e w' ⟨rfl, rfl⟩
  go_wp2_with fail
  refine (R8Votes_any a0 cap0 z0 w w0).mono ?_
  rintro e w2 ⟨vs, rd, rc, rfl, o2, hok, k2⟩
  obtain ⟨hcn, hl12⟩ := votes_cnts hok
  have I2 := Lib.hid o2.ints
  have HCN := Lib.hid hcn
  have K2 := Lib.hid k2
  clear hok o2 k2 hcn
  go_wp2_with fail
  refine (r8At_any a1 cap1 z1 0 4 w2 (w1.keep K2.out (Nat.le_refl _)) (by omega) (by omega) (by omega) (by omega)).mono ?_
  rintro e w' ⟨q, q0, q1, rfl, rfl⟩
  obtain ⟨q, rfl⟩ : ∃ m : Nat, q = m := ⟨q.toNat, by omega⟩
  have hq3 : q ≤ 3 := by omega
  clear q0 q1
  have hin : inB (q : Int) 0 3 = true := inB_iff.2 (by omega)
  have hB : pctB vs q = true := by simp [pctB, HCN.out, hin]
  have HF := Lib.hid (pct_fair HCN.out hin)
  have HWD : Hid (wholeP q = 100 * 10 ^ q) := Lib.hid (by simp [wholeP])
  have HB := Lib.hid hB; clear hB hin
  go_wp2_with fail
  refine (PercentsOf_any rd rc vs (q : Int) w2 I2.out ⟨by omega, by omega⟩).mono ?_
  rintro e w3 ⟨ld, lc, rfl, o3, k3⟩
  rw [HB.out]
  have I3 := Lib.hid (I2.out.keep k3 (Nat.le_refl _))
  have K3 := Lib.hid (Keep.next K2.out k3)
  have L3 := Lib.hid o3.ints
  clear o3 k3 HB
  generalize pctV vs q = V at *
  have HVL := Lib.hid HF.out.len
  have hvl : V.length ≤ 12 := by rw [HVL.out]; exact hl12
  have s3 := I3.out.small
  have hVN : ((V.length : Int) != (vs.length : Int)) = false := by rw [HVL.out]; simp
  have HS1 : Hid (∀ z ∈ vs, -1000000000 ≤ z ∧ z ≤ 1000000000) := Lib.hid (fun z hz => by have := (cnts_parts HCN.out).2.1 z hz; omega)
  have HS2 : Hid (∀ z ∈ V, -1000000000 ≤ z ∧ z ≤ 1000000000) := Lib.hid (fun z hz => by
    obtain ⟨j, hj, rfl⟩ := List.getElem_of_mem hz
    have := HF.out.inV j hj
    rw [getD_get V j hj] at this; omega)
  go_wp2
  go_loop [9, 10] (fun x i => ∃ k : Nat, k ≤ q ∧ i = .int .i64 k ∧ x = .int .i64 (100 * 10 ^ k))
    (fun _ i => q - (intOf i).toNat)
  case atStart => exact ⟨0, Nat.zero_le _, rfl, rfl⟩
  case round =>
    obtain ⟨k, hk, rfl, rfl⟩ := hrel
    by_cases hlt : k < q
    · have hx : (100 : Int) * 10 ^ k ≤ 100000 ∧ 0 ≤ (100 : Int) * 10 ^ k := by
        have : k = 0 ∨ k = 1 ∨ k = 2 := by omega
        rcases this with e | e | e <;> rw [e] <;> omega
      have HX2 := Lib.hid (show (100 : Int) * 10 ^ k * 10 = 100 * 10 ^ (k + 1) by rw [Int.pow_succ, Int.mul_assoc])
      generalize (100 : Int) * 10 ^ k = x at *
      go_wp2
      go_round
      case rel => exact ⟨k + 1, by omega, by go_num, by rw [HX2.out]⟩
      case measure => simp [intOf]; omega
    · have HWQ : Hid (100 * 10 ^ k = wholeP q) := Lib.hid (by rw [HWD.out, show q = k from by omega])
      rw [HWQ.out]
      clear HWD HWQ
      have HSM := Lib.hid HF.out.sum
      generalize wholeP (q : Int) = W at *
      have QV : Hid (Calls Try.prog 19 #[.slice rd vs.length rc] w3 fun e w' => e = .returned (.int .i64 vs.sum) ∧ w3 = w') := Lib.hid (r8Sum_any rd rc vs w3 I3.out HS1.out (by omega))
      have QL : Hid (Calls Try.prog 19 #[.slice ld V.length lc] w3 fun e w' => e = .returned (.int .i64 W) ∧ w3 = w') := Lib.hid (by
        have := r8Sum_any ld lc V w3 L3.out HS2.out (by omega)
        rwa [HSM.out] at this)
      have hT := HF.out.pos
      have hWn : (W != W) = false := by simp
      go_wp2_with (go_at_call 19; first | (with_reducible refine QV.out.mono ?_; rintro e w' ⟨rfl, rfl⟩) | (with_reducible refine QL.out.mono ?_; rintro e w' ⟨rfl, rfl⟩))
      have HO0 := Lib.hid (own_empty w3)
      have HK0 := Lib.hid (show Keep w3 (w3.alloc (.cells #[] 2)) by go_grown)
      have hz3 : (w3.alloc (.cells #[] 2)).heap.size = w3.heap.size + 1 := by simp
      generalize w3.alloc (.cells #[] 2) = w4 at *
      have HEL := Lib.hid (ePs_len vs V W)
      have HEG : Hid (∀ i, i < V.length → (ePs vs V W).getD i 0 = V.getD i 0 * vs.sum - W * vs.getD i 0) := Lib.hid (fun i hi => ePs_get vs V W i hi)
      have HNE : Hid (∀ i, i < V.length → -vs.sum < (ePs vs V W).getD i 0 ∧ (ePs vs V W).getD i 0 < vs.sum) := Lib.hid (fun i hi => by rw [ePs_get vs V W i hi]; exact HF.out.near i hi)
      have HBE : Hid (∀ i k, i < V.length → k < V.length → ab8 ((ePs vs V W).getD i 0) + ab8 ((ePs vs V W).getD k 0) ≤ ab8 ((ePs vs V W).getD i 0 - vs.sum) + ab8 ((ePs vs V W).getD k 0 + vs.sum)) := Lib.hid (fun i k hi hk => by rw [ePs_get vs V W i hi, ePs_get vs V W k hk]; exact HF.out.best i k hi hk)
      generalize ePs vs V W = E at *
      have HIV := Lib.hid HF.out.inV
      have HIC := Lib.hid HF.out.inC
      clear HF
      generalize vs.sum = T at *
      go_loopg [12, 13, 14] V.length (fun kk l i _e wr => ∃ (k : Nat) (ed : Option Addr) (ec : Nat), k ≤ V.length ∧ kk = V.length - k ∧ i = .int .i64 k ∧ l = .slice ed k ec ∧ Hid (Own wr w3.heap.size ed ec (E.take k)) ∧ Hid (Keep w3 wr) ∧ w3.heap.size ≤ wr.heap.size)
      case atStart => exact ⟨0, _, _, Nat.zero_le _, rfl, rfl, rfl, by simpa using HO0, HK0, by omega⟩
      case round =>
        obtain ⟨k, ed, ec, hk, rfl, rfl, rfl, HO, HK, hsz⟩ := hrel
        by_cases hlt2 : k < V.length
        · rcases L3.out.at_ with h | ⟨b1, off1, rfl, hb1, hc1⟩
          · rw [h] at hlt2; simp at hlt2
          rcases I3.out.at_ with h | ⟨b2, off2, rfl, hb2, hc2⟩
          · have := HVL.out; rw [h, List.length_nil] at this; omega
          have hcx := (HK.out.cell (p := ⟨b1, off1 + k, none⟩) (by exact hb1)).trans (hc1 k hlt2)
          have hkv0 := HVL.out
          have hcy := (HK.out.cell (p := ⟨b2, off2 + k, none⟩) (by exact hb2)).trans (hc2 k (by rw [← HVL.out]; exact hlt2))
          clear hkv0
          have hkv : k < vs.length := by rw [← HVL.out]; exact hlt2
          have hiv := HIV.out k hlt2
          have hic := HIC.out k hlt2
          have hne := HNE.out k hlt2
          have heg := HEG.out k hlt2
          have HTS := Lib.hid (take_succ_getD E k (by rw [HEL.out]; exact hlt2))
          have HKL : Hid ((E.take k).length = k) := Lib.hid (by rw [List.length_take, HEL.out]; omega)
          clear hc1 hc2
          generalize V.getD k 0 = x at hcx hiv heg
          generalize vs.getD k 0 = y at hcy hic heg
          generalize E.getD k 0 = ee at heg hne HTS
          have heg1 := Lib.hid heg
          rw [heg] at hne
          have d1 : decide (x * T - W * y ≤ -T) = false := decide_eq_false (by omega)
          have d2 : decide (T ≤ x * T - W * y) = false := decide_eq_false (by omega)
          go_wp2
          go_quiet (fail)
          go_wp2_with (refine list_app1 (by rfl) _ _ (by rfl) w3.heap.size ed ec k (E.take k) (x * T - W * y) (by rfl) (HO.out.keep (by go_grown; exact below_drewN (Below.refl _ _) _)) HKL.out.symm wr.heap.size (by rfl) (cell_new1 _ _ _) ⟨by omega, by omega⟩ (by rw [HKL.out]; omega) (by simp; omega) ?_; intro ad' cap' w2 hown2 hgr2; have hbel2 : Below w3.heap.size wr w2 := below_own (by go_grown; exact below_drewN (Below.refl _ _) _) (HO.out.keep (by go_grown; exact below_drewN (Below.refl _ _) _)) hgr2 (by simp; omega) (Nat.le_refl _))
          go_roundg (V.length - (k + 1))
          case measure => omega
          case rel => exact ⟨k + 1, ad', cap', by omega, rfl, by go_num, by rfl, Lib.hid (by rw [HTS.out, heg1.out]; exact hown2), Lib.hid (Below.trans HK.out hbel2), Nat.le_trans hsz hbel2.size⟩
        · have hkk : k = V.length := by omega
          subst hkk
          have hel : (E.take V.length) = E := by rw [← HEL.out]; exact List.take_length
          have HO5 : Hid (Own wr w3.heap.size ed ec E) := Lib.hid (by have := HO.out; rwa [hel] at this)
          have IE := Lib.hid HO5.out.ints
          clear hel HO
          have K5 := Lib.hid (Keep.next K3.out HK.out)
          clear HK
          obtain ⟨w5, rfl⟩ : ∃ W, W = wr := ⟨wr, rfl⟩
          go_wp2
          go_loopg [15] V.length (fun kk i wx => ∃ j : Nat, j ≤ V.length ∧ kk = V.length - j ∧ i = .int .i64 j ∧ Hid (Keep w5 wx))
          case atStart => exact ⟨0, Nat.zero_le _, rfl, rfl, Lib.hid (Below.refl _ _)⟩
          case round =>
            obtain ⟨j, hj, rfl, rfl, HK6⟩ := hrel
            by_cases hj2 : j < V.length
            · go_wp2
              go_loopg [16, 17, 18] V.length (fun kk i _x _y wy => ∃ m : Nat, m ≤ V.length ∧ kk = V.length - m ∧ i = .int .i64 m ∧ Hid (Keep w5 wy))
              case atStart => exact ⟨0, Nat.zero_le _, rfl, rfl, HK6⟩
              case round =>
                obtain ⟨m, hm, rfl, rfl, HK8⟩ := hrel
                by_cases hm2 : m < V.length
                · have hiv := IE.out
                  rcases hiv.at_ with h | ⟨b1, off1, rfl, hb1, hc1⟩
                  · have := HEL.out; rw [h, List.length_nil] at this; omega
                  have hcx := (HK8.out.cell (p := ⟨b1, off1 + j, none⟩) (by exact hb1)).trans (hc1 j (by rw [HEL.out]; exact hj2))
                  have hcy := (HK8.out.cell (p := ⟨b1, off1 + m, none⟩) (by exact hb1)).trans (hc1 m (by rw [HEL.out]; exact hm2))
                  have hej : j < E.length := by rw [HEL.out]; exact hj2
                  have hem : m < E.length := by rw [HEL.out]; exact hm2
                  have n1 := HNE.out j hj2
                  have n2 := HNE.out m hm2
                  have bb := HBE.out j m hj2 hm2
                  clear hc1 hiv
                  generalize E.getD j 0 = x at hcx n1 bb
                  generalize E.getD m 0 = y at hcy n2 bb
                  have a1 := ab8_bd (n := x) (M := 80000000) (by omega)
                  have a2 := ab8_bd (n := y) (M := 80000000) (by omega)
                  have a3 := ab8_bd (n := x - T) (M := 80000000) (by omega)
                  have a4 := ab8_bd (n := y + T) (M := 80000000) (by omega)
                  have d1 : decide (ab8 (x - T) + ab8 (y + T) < ab8 x + ab8 y) = false := decide_eq_false (by omega)
                  clear bb
                  by_cases hjm : j = m
                  · have d2 : ((j : Int) != (m : Int)) = false := by simp [hjm]
                    have HJM := Lib.hid hjm; clear hjm
                    go_wp2
                    go_quiet ((go_at_call 36; exact Calls.quiet_of_same ((r8Abs_any _ _ (by omega)).mono fun _ _ h => ⟨h.1, h.2.symm⟩)))
                    have HK9 := Lib.hid (below_drewN HK8.out nq)
                    have hcx2 : (wr.drewN nq).cell? ⟨b1, off1 + j, none⟩ = some (.int .i64 x) := by rw [World.cell?_drewN]; exact hcx
                    have hcy2 : (wr.drewN nq).cell? ⟨b1, off1 + m, none⟩ = some (.int .i64 y) := by rw [World.cell?_drewN]; exact hcy
                    clear hcx hcy HK8
                    generalize wr.drewN nq = wq at *
                    go_wp2
                    go_quiet ((go_at_call 36; exact Calls.quiet_of_same ((r8Abs_any _ _ (by omega)).mono fun _ _ h => ⟨h.1, h.2.symm⟩)))
                    go_wp2
                    go_roundg (V.length - (m + 1))
                    case measure => omega
                    case rel => exact ⟨m + 1, by omega, rfl, by go_num, Lib.hid (below_drewN HK9.out _)⟩
                  · have d2 : ((j : Int) != (m : Int)) = true := by simp; omega
                    have HJM := Lib.hid hjm; clear hjm
                    go_wp2
                    go_quiet ((go_at_call 36; exact Calls.quiet_of_same ((r8Abs_any _ _ (by omega)).mono fun _ _ h => ⟨h.1, h.2.symm⟩)))
                    have HK9 := Lib.hid (below_drewN HK8.out nq)
                    have hcx2 : (wr.drewN nq).cell? ⟨b1, off1 + j, none⟩ = some (.int .i64 x) := by rw [World.cell?_drewN]; exact hcx
                    have hcy2 : (wr.drewN nq).cell? ⟨b1, off1 + m, none⟩ = some (.int .i64 y) := by rw [World.cell?_drewN]; exact hcy
                    clear hcx hcy HK8
                    generalize wr.drewN nq = wq at *
                    go_wp2
                    go_quiet ((go_at_call 36; exact Calls.quiet_of_same ((r8Abs_any _ _ (by omega)).mono fun _ _ h => ⟨h.1, h.2.symm⟩)))
                    go_wp2
                    go_roundg (V.length - (m + 1))
                    case measure => omega
                    case rel => exact ⟨m + 1, by omega, rfl, by go_num, Lib.hid (below_drewN HK9.out _)⟩
                · go_wp2
                  go_roundg (V.length - (j + 1))
                  case measure => omega
                  case rel => exact ⟨j + 1, by omega, rfl, by go_num, HK8⟩
            · have HK7 := Lib.hid (Keep.next K5.out HK6.out)
              go_wp2
              go_ret
              exact ⟨rfl, HK7.out⟩

theorem own : ownKnob Try.prog.godebug = none := by kernel_rfl
theorem laidOut : laidOutB Try.prog = true := by kernel_rfl
set_option maxRecDepth 100000 in
theorem lifted (os : Os) (started : os.Started) (H : Type) (enc : TypeId × Value → H) :
    ReturnsInHanded {} Try.checked os 6 .any (Rows.fnPercentsSpec.pre6 enc Try.prog Try.f6 Rows.fnPercentsRow.domain false) (Rows.fnPercentsSpec.post enc Try.prog Try.f6 false true false false) := by
  refine returnsInHanded_of_change (C := Try.checked) own started (by kernel_rfl) Try.func6
    (ChangeSpec.witness6 (enc := enc) (C := Try.checked) false ⟨#[], #[.slice none 0 0, .slice none 0 0], []⟩ 8 (by kernel_rfl) (by kernel_rfl) (by kernel_rfl) (by kernel_rfl)) ?_
  intro W base args ds gs before hval0 hW hcnd _
  have hval : ∀ (j : Nat) t v, Try.f6.params[j]? = some t → args[j]? = some v → Value.okWide Try.prog W .any base t v := hval0
  have hW' := hW
  obtain ⟨p, q, hA0, hV, rfl, hfz, hnd⟩ := hW
  have hA : DataW.TrodAll enc Try.prog W 0 (fun _ => true) true Try.f6.params.toList args.toList ds p := hA0
  rw [Try.params6] at hA hval
  obtain ⟨v0, vs0, d0, ds0, p0, q0, hargs, rfl, rfl, h0, r0⟩ := trodAll_cons hA
  obtain ⟨v1, vs1, d1, ds1, p1, q1, rfl, rfl, rfl, h1, r1⟩ := trodAll_cons r0
  obtain ⟨rfl, rfl, rfl⟩ := trodAll_nil r1
  obtain rfl : args = #[v0, v1] := by cases args; simp_all
  obtain ⟨rfl, rfl⟩ := trodVars_none hV
  have k0 := h0
  have lt0 : ∀ x ∈ p0, x.block < W.heap.size := by obtain ⟨m, hm⟩ := k0; exact DataW.trod_lt m _ _ _ hm
  obtain ⟨a0, len0, cap0, rfl⟩ := okWide_slice Try.underlying22 (hval 0 22 v0 rfl rfl)
  obtain ⟨z0, e0, w0⟩ := bytes_open Try.underlying22 Try.underlying5 (by kernel_rfl) h0
  subst e0
  have k1 := h1
  have lt1 : ∀ x ∈ p1, x.block < W.heap.size := by obtain ⟨m, hm⟩ := k1; exact DataW.trod_lt m _ _ _ hm
  obtain ⟨a1, len1, cap1, rfl⟩ := okWide_slice Try.underlying22 (hval 1 22 v1 rfl rfl)
  obtain ⟨z1, e1, w1⟩ := bytes_open Try.underlying22 Try.underlying5 (by kernel_rfl) h1
  subst e1
  clear hA0 hval0
  refine (walk W a0 cap0 z0 w0 a1 cap1 z1 w1).mono fun e W' ⟨he, bel⟩ => ?_
  subst he
  exact ⟨_, rfl, _, _, _, [], _, [], hW', trodAll_mk1 (shut_bool Try.underlying4 _), (trodAll_cons_mk (Below.trod laidOut (by kernel_rfl) (of_decide_eq_true (by kernel_rfl)) k0 bel lt0) (trodAll_cons_mk (Below.trod laidOut (by kernel_rfl) (of_decide_eq_true (by kernel_rfl)) k1 bel lt1) trodAll_mk0)), rfl, bel.frame _, fun h => by cases h⟩
theorem over : Rows.fnPercentsRow.holds Try.pinned (OpenSpec.ofChange Rows.fnPercentsSpec) :=
  OpenClaim.holds_of_wide 6 Try.f6 rfl rfl rfl rfl rfl rfl rfl ⟨rfl, rfl, rfl, rfl, rfl⟩ rfl rfl rfl rfl rfl (by kernel_rfl) Try.func6 (by kernel_rfl)
    (of_decide_eq_true (by kernel_rfl)) (by unfold Func.isWrapper; first | (rw [if_pos (by decide +kernel)]; kernel_rfl) | (rw [if_neg (by decide +kernel)]; exact ⟨rfl, rfl⟩))
    (fun os started H enc _ => lifted os started H enc)
/-- THE STATEMENT. -/
theorem proved : Rows.FnPercentsSaid := over
end Go.Proofs.Ytgpjjgfechjbfaa.fnPercents
