/- Seats by greatest remainders: the model's side. -/
import Derived.Test.YtklpnllkpapdoabRem
import Derived.Test.YtklpnllkpapdoabQuotasSpec
import Derived.Deep.LoopGhost
namespace Go.Proofs.Ytklpnllkpapdoab
open Go.ChangeShapes Go.WideShapes Go.ChangeAt Go.RowKit
set_option linter.unusedVariables false
/-- The best one of the first i that are not yet given, or -1. -/
def BestAt (R : List Int) (n m i : Nat) (bv : Int) : Prop :=
  (bv = -1 ∧ ∀ j, j < i → rk R n j < m) ∨ ∃ b : Nat, bv = b ∧ b < i ∧ m ≤ rk R n b ∧ ∀ j, j < i → m ≤ rk R n j → rk R n b ≤ rk R n j
theorem BestAt.start (R : List Int) (n m : Nat) : BestAt R n m 0 (-1) := .inl ⟨rfl, fun j hj => by omega⟩
theorem BestAt.skip {R : List Int} {n m i : Nat} {bv : Int} (h : BestAt R n m i bv) (hi : rk R n i < m) : BestAt R n m (i + 1) bv := by
  rcases h with ⟨h1, h2⟩ | ⟨b, h1, h2, h3, h4⟩
  · refine .inl ⟨h1, fun j hj => ?_⟩
    rcases Nat.lt_or_eq_of_le (Nat.le_of_lt_succ hj) with h | h
    · exact h2 j h
    · subst h; exact hi
  · refine .inr ⟨b, h1, by omega, h3, fun j hj hm => ?_⟩
    rcases Nat.lt_or_eq_of_le (Nat.le_of_lt_succ hj) with h | h
    · exact h4 j h hm
    · subst h; omega
theorem BestAt.first {R : List Int} {n m i : Nat} (h : ∀ j, j < i → rk R n j < m) (hi : m ≤ rk R n i) : BestAt R n m (i + 1) i := by
  refine .inr ⟨i, rfl, by omega, hi, fun j hj hm => ?_⟩
  rcases Nat.lt_or_eq_of_le (Nat.le_of_lt_succ hj) with h1 | h1
  · have := h j h1; omega
  · subst h1; exact Nat.le_refl _
theorem BestAt.better {R : List Int} {n m i b : Nat} (hin : i < n) (hb : b < i) (h3 : m ≤ rk R n b) (h4 : ∀ j, j < i → m ≤ rk R n j → rk R n b ≤ rk R n j) (hi : m ≤ rk R n i) (hr : R.getD b 0 < R.getD i 0) : BestAt R n m (i + 1) i := by
  have h5 := rk_lt_of_bef (R := R) (n := n) (a := i) (b := b) hin (by rw [bef_iff]; exact .inl hr)
  refine .inr ⟨i, rfl, by omega, hi, fun j hj hm => ?_⟩
  rcases Nat.lt_or_eq_of_le (Nat.le_of_lt_succ hj) with h1 | h1
  · have := h4 j h1 hm; omega
  · subst h1; exact Nat.le_refl _
theorem BestAt.worse {R : List Int} {n m i b : Nat} (hin : i < n) (hb : b < i) (h3 : m ≤ rk R n b) (h4 : ∀ j, j < i → m ≤ rk R n j → rk R n b ≤ rk R n j) (hr : ¬ R.getD b 0 < R.getD i 0) : BestAt R n m (i + 1) b := by
  have h5 := rk_lt_of_bef (R := R) (n := n) (a := b) (b := i) (by omega) (by rw [bef_iff]; omega)
  refine .inr ⟨b, rfl, by omega, h3, fun j hj hm => ?_⟩
  rcases Nat.lt_or_eq_of_le (Nat.le_of_lt_succ hj) with h1 | h1
  · exact h4 j h1 hm
  · subst h1; omega
theorem BestAt.done {R : List Int} {n m : Nat} {bv : Int} (h : BestAt R n m n bv) (hm : m < n) : ∃ b : Nat, bv = b ∧ b < n ∧ rk R n b = m := by
  obtain ⟨i, hi, hr⟩ := rk_sur (R := R) hm
  rcases h with ⟨h1, h2⟩ | ⟨b, h1, h2, h3, h4⟩
  · have := h2 i hi; omega
  · have := h4 i hi (by omega)
    exact ⟨b, h1, h2, by omega⟩
/-- Who has been given a seat more, when m have. -/
def given (R : List Int) (n m : Nat) : List Value := (List.range n).map fun i => Value.bool (decide (rk R n i < m))
theorem given_len (R : List Int) (n m : Nat) : (given R n m).length = n := by simp [given]
theorem given_get (R : List Int) (n m i : Nat) (h : i < n) : (given R n m)[i]? = some (.bool (decide (rk R n i < m))) := by simp [given, h]
theorem given_zero (R : List Int) (n : Nat) : given R n 0 = List.replicate n (.bool false) := by
  apply List.ext_getElem?
  intro i
  by_cases h : i < n
  · rw [given_get R n 0 i h, List.getElem?_replicate, if_pos h]; simp
  · rw [List.getElem?_eq_none (by rw [given_len]; omega), List.getElem?_eq_none (by simp; omega)]
theorem given_step {R : List Int} {n m b : Nat} (hb : b < n) (hr : rk R n b = m) : (given R n m).set b (.bool true) = given R n (m + 1) := by
  apply List.ext_getElem?
  intro i
  rw [List.getElem?_set]
  by_cases h : i < n
  · by_cases e : b = i
    · subst e
      rw [if_pos rfl, if_pos (by rw [given_len]; exact hb), given_get R n (m + 1) b hb, hr]; simp
    · rw [if_neg e, given_get R n m i h, given_get R n (m + 1) i h]
      have hne : rk R n i ≠ m := fun he => e (rk_inj hb h (by rw [hr, he]))
      congr 2
      exact decide_eq_decide.2 (by omega)
  · rw [List.getElem?_eq_none (by rw [given_len]; omega)]
    split
    · split <;> first | rfl | (rename_i h1 h2; rw [given_len] at h2; omega)
    · rw [List.getElem?_eq_none (by rw [given_len]; omega)]
theorem rests_get (s : Int) (zs : List Int) (k : Nat) (hk : k < zs.length) : (rests s zs).getD k 0 = (s * zs.getD k 0) % zs.sum := by
  unfold rests; simp [List.getD_eq_getElem?_getD, hk]
theorem Try.infoB : (Try.prog.info? 4).map (fun i => (i.zero, i.size, i.bytes)) = some (some (.bool false), 1, 1) := by kernel_rfl
theorem infoB_parts : ∃ i, Try.prog.info? 4 = some i ∧ i.zero = some (.bool false) ∧ i.size = 1 ∧ i.bytes = 1 := by
  have h := Try.infoB
  cases e : Try.prog.info? 4 with
  | none => rw [e] at h; cases h
  | some i => rw [e] at h; simp at h; exact ⟨i, rfl, h.1, h.2.1, h.2.2⟩
theorem row_keepB {w w' : World} {B e g n cap : Nat} {xs : List Value} (h : w.ownsRow B e 1 (.slice (some ⟨g, 0, none⟩) n cap) n xs) (k : Keep w w') : w'.ownsRow B e 1 (.slice (some ⟨g, 0, none⟩) n cap) n xs :=
  h.kept (row := none) ⟨k.os, k.tape, k.output, k.size, fun j hj _ => k.block j hj⟩ (.inr (by simp [Value.ownBlock]))
set_option maxHeartbeats 6400000 in
theorem l02Remainders_any (ad : Option Addr) (cap : Nat) (zs : List Int) (s : Int) (w : World) (hz : Ints w ad zs) (hv : okVotes zs = true) (s1 : 0 ≤ s) (s2 : s ≤ 100)
    (hL1 : (leftN s zs : Int) = s - (qLow s zs).sum) (hL2 : leftN s zs ≤ zs.length) (hbd : ∀ m i, i < zs.length → 0 ≤ (remTo s zs m).getD i 0 ∧ (remTo s zs m).getD i 0 ≤ 100000001) :
    Calls Try.prog 27 #[.slice ad zs.length cap, .int .i64 s] w fun e w' =>
      ∃ rd rc, e = .returned (.slice rd (remS s zs).length rc) ∧ Own w' w.heap.size rd rc (remS s zs) ∧ Keep w w' := by
  have HN := Lib.hid (okVotes_num hv)
  have hl := okVotes_len hv
  have ht := okVotes_sum hv
  have hpos : 1 ≤ zs.length := by
    rcases Nat.eq_zero_or_pos zs.length with h | h
    · have := List.eq_nil_of_length_eq_zero h; subst this; simp at ht
    · exact h
  have hqb : ∀ z ∈ qLow s zs, -1000000000 ≤ z ∧ z ≤ 1000000000 := fun z hz => by
    unfold qLow at hz; obtain ⟨y, hy, rfl⟩ := List.mem_map.1 hz
    have h := okVotes_num hv y hy
    have := quo_in s1 s2 h.1 h.2 (T := zs.sum) (by omega)
    omega
  have hqs := sum_bd 1000000000 (by omega) (qLow s zs) hqb
  have hqlen : (qLow s zs).length = zs.length := by simp [qLow]
  rw [hqlen] at hqs
  have HQB := Lib.hid hqb
  have HQ1 := Lib.hid (fun W (h : Ints W ad zs) => l02Quotas_any ad cap zs s W h hv s1 s2)
  have HSTEP := Lib.hid (fun m a ha hr => remTo_step s zs m a ha hr)
  have HBD := Lib.hid hbd
  have HLEN := Lib.hid (fun m => remTo_len s zs m)
  have H0 := Lib.hid (remTo_zero s zs)
  have HR := Lib.hid (fun k hk => rests_get s zs k hk)
  have HQH : Hid ((qHigh s zs).length = zs.length) := Lib.hid (by simp [qHigh])
  rw [show remS s zs = remTo s zs (leftN s zs) from rfl]
  clear hqb hbd hv
  generalize remTo s zs = T at HSTEP HBD HLEN H0 ⊢
  generalize leftN s zs = L at hL1 hL2 ⊢
  generalize rests s zs = R at HSTEP HR
  have HQL := Lib.hid hqlen; clear hqlen
  generalize qLow s zs = ql at *
  generalize qHigh s zs = qh at *
  obtain ⟨iB, hiB, hb0, hb1, hb2⟩ := infoB_parts
  have hb8 : iB.bytes * zs.length ≤ 281474976710656 := by rw [hb2]; omega
  have hml : zs.length ≤ maxLen := by unfold maxLen; omega
  go_enter Try.func27, Try.ntmps27
  go_wp2_with fail
  refine (l02Sum_any ad cap zs _ hz (fun z hz => by have := HN.out z hz; omega) (by omega)).mono ?_
  rintro e w' ⟨rfl, rfl⟩
  go_wp2_with fail
  refine (HQ1.out _ hz).mono ?_
  rintro e w1 ⟨rd, rc, rd1, rc1, rfl, o1, _, _, k1⟩
  rcases own_block o1.1 with ⟨_, h, _⟩ | ⟨g, rfl, hg1, hg2, _⟩
  · rw [HQL.out] at h; omega
  have HO1 := Lib.hid o1; have K1 := Lib.hid k1
  clear o1 k1
  go_wp2_with (at_make; refine wpList_make_full w1 rfl _ _ 48 rfl w1.heap.size 4 iB (.bool false) 1 Try.underlying48 hiB hb0 hb1 .i64 .i64 _ _ zs.length rfl rfl rfl rfl hb8 hml (Nat.le_refl _) ?_)
  intro w2 hown2 hgrow2
  have hown2 : w2.ownsRow w1.heap.size 4 1 (.slice (some ⟨w1.heap.size, 0, none⟩) zs.length zs.length) zs.length (List.replicate zs.length (.bool false)) := by simpa [Value.cells, toList_madeCells_one] using hown2
  have k2 : Keep w1 w2 := (Below.refl _ _).grown hgrow2 (Nat.le_refl _) (fun k h => by cases h)
  have l2 : w1.heap.size < w2.heap.size := by
    rcases hown2.2 with ⟨_, h⟩ | ⟨g, c, cur, h1, h2, h3, _⟩
    · omega
    · simp at h1; obtain ⟨rfl, _⟩ := h1; exact lt_of_block h3
  have o2 := HO1.out.keep k2
  have i2 := o2.ints
  have HO2 := Lib.hid o2; have K2 := Lib.hid (Keep.next K1.out k2); have HG2 := Lib.hid hown2
  clear hgrow2 o2 k2 hown2 HO1 K1 hb0 hb1 hb2 hb8 hiB
  obtain ⟨b1, hb1⟩ : ∃ b, b = w1.heap.size := ⟨_, rfl⟩
  rw [← hb1] at HG2 hg2 l2
  rw [← hb1]
  have hB1 := Lib.hid hb1; clear hb1
  go_wp2_with (go_at_call 31; refine (l02Sum_any (some ⟨g, 0, none⟩) rc ql w2 i2 HQB.out (by rw [HQL.out]; omega)).mono ?_; rintro e w' ⟨rfl, rfl⟩)
  rw [show s - ql.sum = (L : Int) from hL1.symm]
  have hql := HQL.out
  rw [hql]
  clear i2 hL1 hqs HQ1 HQB
  go_loopg [9, 10, 11] L (fun k left _ _ wr => ∃ m : Nat, m ≤ L ∧ k = L - m ∧ left = .int .i64 ((L : Int) - m) ∧ Own wr w.heap.size (some ⟨g, 0, none⟩) rc (T m) ∧ wr.ownsRow b1 4 1 (.slice (some ⟨b1, 0, none⟩) zs.length zs.length) zs.length (given R zs.length m) ∧ Keep w wr ∧ b1 < wr.heap.size)
  case atStart => exact ⟨0, Nat.zero_le _, by omega, by simp, by rw [H0.out]; exact HO2.out, by rw [given_zero]; exact HG2.out, K2.out, l2⟩
  case round =>
    obtain ⟨m, hm, rfl, rfl, hown, hgiv, hbel, hbs⟩ := hrel
    by_cases hlt : m < L
    · have HOW := Lib.hid hown; have HGV := Lib.hid hgiv; have HBL := Lib.hid hbel
      clear hown hgiv hbel
      generalize hw9 : wr = w9 at *
      clear hw9
      go_wp2
      go_loopg [10, 11] zs.length (fun k best i wi => ∃ (j : Nat) (bv : Int), j ≤ zs.length ∧ k = zs.length - j ∧ i = .int .i64 j ∧ best = .int .i64 bv ∧ Hid (BestAt R zs.length m j bv) ∧ Keep w9 wi)
      case atStart => exact ⟨0, -1, Nat.zero_le _, by omega, rfl, rfl, Lib.hid (BestAt.start _ _ _), Below.refl _ _⟩
      case round =>
        obtain ⟨j, bv, hj, rfl, rfl, rfl, HBA, hkw⟩ := hrel
        have kwi : Keep w wr := Keep.next HBL.out hkw
        have hwis := hkw.size
        by_cases hjn : j < zs.length
        · rcases hz.at_ with h | ⟨b, off, rfl, hb, hc⟩
          · subst h; simp at hjn
          have hcx : wr.cell? ⟨b, off + j, none⟩ = some (.int .i64 (zs.getD j 0)) := (kwi.cell (by exact hb)).trans (hc j hjn)
          have hcg : wr.cell? ⟨b1, j, none⟩ = some (.bool (decide (rk R zs.length j < m))) := by
            rw [(row_keepB HGV.out hkw).cellAt j (by omega), given_get R zs.length m j hjn]
          have hx := HN.out _ (getD_mem zs j hjn)
          have HRx := Lib.hid (HR.out j hjn)
          have HKW := Lib.hid hkw; clear hkw
          cases hgd : decide (rk R zs.length j < m)
          · rw [hgd] at hcg
            have HGD : Hid (m ≤ rk R zs.length j) := Lib.hid (by rw [decide_eq_false_iff_not] at hgd; omega)
            clear hgd
            rcases HBA.out with ⟨rfl, hall⟩ | ⟨bb, rfl, hbj, h3, h4⟩
            · have HF := Lib.hid (BestAt.first hall HGD.out)
              clear hall hc
              generalize zs.getD j 0 = x at hcx hx HRx
              go_wp2
              go_quiet (fail)
              go_wp2
              go_roundg (zs.length - (j + 1))
              case measure => omega
              case rel => exact ⟨j + 1, (j : Int), by omega, rfl, by go_num, rfl, HF, below_drewN HKW.out _⟩
            · have hcb : wr.cell? ⟨b, off + bb, none⟩ = some (.int .i64 (zs.getD bb 0)) := (kwi.cell (by exact hb)).trans (hc bb (by omega))
              have hy := HN.out _ (getD_mem zs bb (by omega))
              have HRy := Lib.hid (HR.out bb (by omega))
              have HB := Lib.hid (fun hr => BestAt.better hjn hbj h3 h4 HGD.out hr)
              have HW := Lib.hid (fun hr => BestAt.worse hjn hbj h3 h4 hr)
              clear hc h3 h4
              generalize zs.getD j 0 = x at hcx hx HRx
              generalize zs.getD bb 0 = y at hcb hy HRy
              obtain ⟨m1, m2⟩ := sm_bd s1 s2 hx.1 hx.2
              obtain ⟨m3, m4⟩ := sm_bd s1 s2 hy.1 hy.2
              have hT : zs.sum ≠ 0 := by omega
              have hbz : bb < zs.length := by omega
              have hb0 : ¬ (bb : Int) < 0 := by omega
              have EX : Hid ((IntKind.i64.wrap (s * x)).tmod zs.sum = s * x % zs.sum) := Lib.hid (by rw [IntWalk.i64_in _ (by omega), Int.tmod_eq_emod_of_nonneg m1])
              have EY : Hid ((IntKind.i64.wrap (s * y)).tmod zs.sum = s * y % zs.sum) := Lib.hid (by rw [IntWalk.i64_in _ (by omega), Int.tmod_eq_emod_of_nonneg m3])
              by_cases hxy : (IntKind.i64.wrap (s * y)).tmod zs.sum < (IntKind.i64.wrap (s * x)).tmod zs.sum
              · go_wp2
                go_quiet (fail)
                go_wp2
                go_roundg (zs.length - (j + 1))
                case measure => omega
                case rel => exact ⟨j + 1, (j : Int), by omega, rfl, by go_num, rfl, Lib.hid (HB.out (by rw [HRx.out, HRy.out, ← EX.out, ← EY.out]; exact hxy)), below_drewN HKW.out _⟩
              · go_wp2
                go_quiet (fail)
                go_wp2
                go_roundg (zs.length - (j + 1))
                case measure => omega
                case rel => exact ⟨j + 1, (bb : Int), by omega, rfl, by go_num, rfl, Lib.hid (HW.out (by rw [HRx.out, HRy.out, ← EX.out, ← EY.out]; exact hxy)), below_drewN HKW.out _⟩
          · rw [hgd] at hcg
            have HF := Lib.hid (HBA.out.skip (by simpa using hgd))
            clear hgd hc
            generalize zs.getD j 0 = x at hcx hx HRx
            go_wp2
            go_quiet (fail)
            go_wp2
            go_roundg (zs.length - (j + 1))
            case measure => omega
            case rel => exact ⟨j + 1, bv, by omega, rfl, by go_num, rfl, HF, below_drewN HKW.out _⟩
        · have hje : j = zs.length := by omega
          have HD : Hid (BestAt R zs.length m zs.length bv) := Lib.hid (by have := HBA.out; rw [hje] at this; exact this)
          obtain ⟨bb, hbv, hbn, hrk⟩ := HD.out.done (by omega)
          subst hbv
          have HST := Lib.hid (HSTEP.out m bb hbn hrk)
          have HGS := Lib.hid (given_step hbn hrk)
          have hown := HOW.out.keep hkw
          have hgiv := row_keepB HGV.out hkw
          have hTl := HLEN.out m
          have hbd := HBD.out m bb hbn
          have hcy : wr.cell? ⟨g, bb, none⟩ = some (.int .i64 ((T m).getD bb 0)) := by
            rw [hown.1.cellAt _ (by omega)]
            rw [List.getElem?_map, List.getElem?_eq_getElem (by omega), getD_get _ _ (by omega)]; rfl
          have hfy := hown.1.frozenAt bb
          have hcg : wr.cell? ⟨b1, bb, none⟩ = some (.bool (decide (rk R zs.length bb < m))) := by
            rw [hgiv.cellAt bb (by omega), given_get R zs.length m bb hbn]
          have hfg := hgiv.frozenAt bb
          have HS := Lib.hid (hown.1.stored bb (.int .i64 ((T m).getD bb 0 + 1)))
          have HG1 := Lib.hid (ownsRow_setCell_other hgiv (a := ⟨g, bb, none⟩) (by simp [Value.ownBlock]; omega) (.int .i64 ((T m).getD bb 0 + 1)))
          have HT1 := Lib.hid (HLEN.out (m + 1))
          have HB1 := Lib.hid (fun i hi => HBD.out (m + 1) i hi)
          have HKWI := Lib.hid kwi
          generalize hgv : decide (rk R zs.length bb < m) = gv at hcg
          clear hown hgiv hrk HD HBA hgv hkw
          generalize hv : (T m).getD bb 0 = v at hcy HS HG1 HST hbd
          clear hv
          have hbsw : b1 < wr.heap.size := by omega
          go_wp2
          go_roundg (L - (m + 1))
          case measure => omega
          case rel =>
            obtain ⟨q1, q2⟩ := HS.out
            have e1 : (vals (T m)).set bb (.int .i64 (v + 1)) = vals (T (m + 1)) := by rw [← HST.out]; unfold vals; rw [List.map_set]
            rw [e1] at q1
            obtain ⟨r1, r2⟩ := HG1.out.stored bb (.bool true)
            rw [HGS.out] at r1
            have q3 := ownsRow_setCell_other q1 (a := ⟨b1, bb, none⟩) (by simp [Value.ownBlock]; omega) (.bool true)
            refine ⟨m + 1, by omega, rfl, by go_num, ⟨?_, ?_, ?_⟩, r1, (HKWI.out.setCell (by show w.heap.size ≤ g; omega) _).setCell (by show w.heap.size ≤ b1; omega) _, by simpa using hbsw⟩
            · rw [HT1.out]; rw [hTl] at q3; exact q3
            · rw [HT1.out]; omega
            · intro z hz
              obtain ⟨i, hi, rfl⟩ := List.getElem_of_mem hz
              rw [HT1.out] at hi
              have := HB1.out i hi
              rw [getD_get _ _ (by rw [HT1.out]; exact hi)] at this
              exact ⟨by omega, by omega⟩
    · have HE := Lib.hid (show m = L from by omega)
      have HW := Lib.hid hown; have HBE := Lib.hid hbel; clear hown hgiv hbel
      go_wp2
      go_ret
      have e := HE.out
      subst e
      exact ⟨some ⟨g, 0, none⟩, rc, by rw [HLEN.out]; rfl, HW.out, HBE.out⟩
end Go.Proofs.Ytklpnllkpapdoab
