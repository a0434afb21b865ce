/- The errors of a list; whether a list is a rounding. -/
import Derived.Test.YtpdcmhnaedhkdaaVals
namespace Go.Proofs.Ytpdcmhnaedhkdaa
open Go.ChangeShapes Go.WideShapes Go.ChangeAt Go.RowKit
set_option linter.unusedVariables false
def okE (g : Int) (zs ls : List Int) : Bool := okV g zs && decide (ls.length = zs.length) && listOk ls 1000000000
def errsV (g : Int) (zs ls : List Int) : List Int := if okE g zs ls then errsL g zs ls else []
theorem errsL_in {g : Int} {zs ls : List Int} (h : okE g zs ls = true) : ∀ z ∈ errsL g zs ls, In64 z := by
  unfold okE at h; simp only [Bool.and_eq_true, decide_eq_true_eq] at h
  obtain ⟨⟨h1, h2⟩, h3⟩ := h
  intro z hz
  obtain ⟨k, hk, rfl⟩ := List.getElem_of_mem hz
  rw [errsL_len g zs ls h2] at hk
  have e := errsL_get g zs ls h2 k hk
  rw [getD_get _ k (by rw [errsL_len g zs ls h2]; exact hk)] at e
  rw [e]
  have d := okV_den h1
  have n1 := okV_num h1 _ (getD_mem zs k (by omega))
  have n2 := listOk_num h3 _ (getD_mem ls k hk)
  have := err_bd d.1 d.2 n2.1 n2.2 n1.1 n1.2
  exact ⟨by omega, by omega⟩
theorem ownsRow_mono {w : World} {B B' e : Nat} {v : Value} {n : Nat} {xs : List Value} (h : w.ownsRow B e 1 v n xs) (hB : B' ≤ B) : w.ownsRow B' e 1 v n xs := by
  refine ⟨h.1, ?_⟩
  rcases h.2 with h1 | ⟨g, c, cur, h1, h2, h3⟩
  · exact .inl h1
  · exact .inr ⟨g, c, cur, h1, by omega, h3⟩
set_option maxHeartbeats 1600000 in
theorem ErrorsOf_any (g : Int) (ad : Option Addr) (cap : Nat) (zs : List Int) (bd : Option Addr) (bcap : Nat) (ls : List Int) (w : World) (hz : Ints w ad zs) (hl : Ints w bd ls) :
    Calls Try.prog 112 #[valV g ad zs.length cap, .slice bd ls.length bcap] w fun e w' =>
      ∃ rd rc, e = .returned (.tuple #[.slice rd (errsV g zs ls).length rc, .bool (okE g zs ls)]) ∧ Own w' w.heap.size rd rc (errsV g zs ls) ∧ Keep w w' := by
  have B0 : Box (w.alloc (.cells #[.int .i64 g, .slice ad zs.length cap] 57)) w.heap.size g ad zs.length cap := ⟨by simp, by simp, by simp⟩
  have hlen := hz.small
  have hlen2 := hl.small
  cases h1 : okV g zs
  · rw [show okE g zs ls = false from by simp [okE, h1], show errsV g zs ls = [] from by simp [errsV, okE, h1]]
    go_enter Try.func112, Try.ntmps112
    go_wp2_with fail
    refine (ValidValues_any g ad cap zs _ (hz.keep (B := _) (by go_grown) (Nat.le_refl _))).mono ?_
    rw [h1]
    rintro e w1 ⟨rfl, k1⟩
    have g1 : Keep w w1 := Keep.next (by go_grown) k1
    obtain ⟨c0, c1, cl⟩ := B0.keep k1
    have hl1 := hl.keep g1 (Nat.le_refl _)
    have hz1 := hz.keep g1 (Nat.le_refl _)
    go_wp2
    go_ret2
    exact ⟨none, 0, rfl, Own.nil _ _, g1⟩
  by_cases h2 : ls.length = zs.length
  case neg =>
    rw [show okE g zs ls = false from by simp [okE, h2], show errsV g zs ls = [] from by simp [errsV, okE, h2]]
    have h3 : ((ls.length : Int) != (zs.length : Int)) = true := by simp; omega
    go_enter Try.func112, Try.ntmps112
    go_wp2_with fail
    refine (ValidValues_any g ad cap zs _ (hz.keep (B := _) (by go_grown) (Nat.le_refl _))).mono ?_
    rw [h1]
    rintro e w1 ⟨rfl, k1⟩
    have g1 : Keep w w1 := Keep.next (by go_grown) k1
    obtain ⟨c0, c1, cl⟩ := B0.keep k1
    have hl1 := hl.keep g1 (Nat.le_refl _)
    have hz1 := hz.keep g1 (Nat.le_refl _)
    go_wp2
    go_ret2
    exact ⟨none, 0, rfl, Own.nil _ _, g1⟩
  have h3 : ((ls.length : Int) != (zs.length : Int)) = false := by simp [h2]
  cases h4 : listOk ls 1000000000
  · rw [show okE g zs ls = false from by simp [okE, h4], show errsV g zs ls = [] from by simp [errsV, okE, h4]]
    have H2 := Lib.hid h2; clear h2
    go_enter Try.func112, Try.ntmps112
    go_wp2_with fail
    refine (ValidValues_any g ad cap zs _ (hz.keep (B := _) (by go_grown) (Nat.le_refl _))).mono ?_
    rw [h1]
    rintro e w1 ⟨rfl, k1⟩
    have g1 : Keep w w1 := Keep.next (by go_grown) k1
    obtain ⟨c0, c1, cl⟩ := B0.keep k1
    have hl1 := hl.keep g1 (Nat.le_refl _)
    have hz1 := hz.keep g1 (Nat.le_refl _)
    go_wp2_with (go_at_call 118; refine (allWithin_any _ _ _ _ _ hl1 (by omega) (by omega)).mono ?_; rw [h4]; rintro e w' ⟨rfl, rfl⟩)
    go_ret2
    exact ⟨none, 0, rfl, Own.nil _ _, g1⟩
  · have hE : okE g zs ls = true := by simp [okE, h1, h2, h4]
    have hin := errsL_in hE
    have hget := errsL_get g zs ls h2
    have hEl := errsL_len g zs ls h2
    have n1 := okV_num h1
    have n2 := listOk_num h4
    have l2 := listOk_len h4
    have dg := okV_den h1
    rw [hE, show errsV g zs ls = errsL g zs ls from by simp [errsV, hE]]
    generalize errsL g zs ls = E at hin hget hEl
    have H2 := Lib.hid h2; clear h2
    have HI := Lib.hid hin; have HG := Lib.hid hget; have HEl := Lib.hid hEl; have N1 := Lib.hid n1; have N2 := Lib.hid n2
    clear hin hget hEl n1 n2
    obtain ⟨i0, hi, hz0, hz1', hz2⟩ := info_parts Try.infoI
    have hb8 : i0.bytes * ls.length ≤ 281474976710656 := by rw [hz2]; omega
    have hml : ls.length ≤ maxLen := by unfold maxLen; omega
    go_enter Try.func112, Try.ntmps112
    go_wp2_with fail
    refine (ValidValues_any g ad cap zs _ (hz.keep (B := _) (by go_grown) (Nat.le_refl _))).mono ?_
    rw [h1]
    rintro e w1 ⟨rfl, k1⟩
    have g1 : Keep w w1 := Keep.next (by go_grown) k1
    obtain ⟨c0, c1, cl⟩ := B0.keep k1
    have hl1 := hl.keep g1 (Nat.le_refl _)
    have hz1 := hz.keep g1 (Nat.le_refl _)
    go_wp2_with (first | (go_at_call 118; refine (allWithin_any _ _ _ _ _ hl1 (by omega) (by omega)).mono ?_; rw [h4]; rintro e w' ⟨rfl, rfl⟩) | (at_make; refine wpList_make_full w1 rfl _ _ 22 rfl w1.heap.size 2 i0 (.int .i64 0) 1 Try.underlying22 hi hz0 hz1' .i64 .i64 _ _ ls.length rfl rfl rfl rfl hb8 hml (Nat.le_refl _) ?_))
    intro w0 hown0 hgrow0
    have hown0 : w0.ownsRow w1.heap.size 2 1 (.slice (some ⟨w1.heap.size, 0, none⟩) ls.length ls.length) ls.length (List.replicate ls.length (.int .i64 0)) := by simpa [Value.cells, toList_madeCells_one] using hown0
    have hk0 : Keep w1 w0 := (Below.refl _ _).grown hgrow0 (Nat.le_refl _) (fun k h => by cases h)
    clear hgrow0
    have BX := Lib.hid (Box.mk c0 c1 cl)
    have HK1 := Lib.hid hk0; clear hk0
    have HO0 := Lib.hid hown0; clear hown0
    have s1 := g1.size
    obtain ⟨B, hB⟩ : ∃ B, B = w1.heap.size := ⟨_, rfl⟩
    rw [← hB] at HO0 cl ⊢
    have hBs : w.heap.size ≤ B := by omega
    have HB := Lib.hid hB; clear hB s1
    go_wp2
    go_loopw [7, 8, 30] (fun _ _ i wr => ∃ k : Nat, k ≤ ls.length ∧ i = .int .i64 k ∧ wr.ownsRow B 2 1 (.slice (some ⟨B, 0, none⟩) ls.length ls.length) ls.length (vals (E.take k) ++ List.replicate (ls.length - k) (.int .i64 0)) ∧ Below B w1 wr)
      (fun _ _ i _ => ls.length - (intOf i).toNat)
    case atStart => exact ⟨0, Nat.zero_le _, rfl, by simpa using HO0.out, by have h := HK1.out; unfold Keep at h; rw [← HB.out] at h; exact h⟩
    case round =>
      obtain ⟨k, hk, rfl, hown, hbel⟩ := hrel
      by_cases hlt : k < ls.length
      · have hzl := H2.out
        rcases hz1.at_ with h | ⟨b, off, rfl, hb, hc⟩
        · rw [h] at hzl; simp only [List.length_nil] at hzl; omega
        rcases hl1.at_ with h | ⟨b2, off2, rfl, hb2, hc2⟩
        · subst h; simp at hlt
        have hC : ∀ w', Below B wr w' → w'.cell? ⟨b, off + k, none⟩ = some (.int .i64 (zs.getD k 0)) := fun w' k2 => by
          rw [(hbel.trans k2).cell (by show b < B; rw [HB.out]; exact hb)]; exact hc k (by omega)
        have hcl : wr.cell? ⟨b2, off2 + k, none⟩ = some (.int .i64 (ls.getD k 0)) := by
          rw [hbel.cell (by show b2 < B; rw [HB.out]; exact hb2)]; exact hc2 k hlt
        have hBx : ∀ w', Below B wr w' → Box w' w.heap.size g (some ⟨b, off, none⟩) zs.length cap := fun w' k => by
          have k2 := hbel.trans k
          have h := BX.out
          exact ⟨by rw [k2.cell (by show w.heap.size < B; exact cl)]; exact h.c0, by rw [k2.cell (by show w.heap.size < B; exact cl)]; exact h.c1, by have := k2.size; have := HB.out; omega⟩
        have hcy : wr.cell? ⟨B, k, none⟩ = some (.int .i64 0) := by
          have h := fill_get E k (by rw [HEl.out]; exact hlt) (.int .i64 0)
          rw [HEl.out] at h
          rw [hown.cellAt k (by omega), h]
        have hfy := hown.frozenAt k
        have HE := Lib.hid (HG.out k hlt)
        have nx := N1.out _ (getD_mem zs k (by omega))
        have ny := N2.out _ (getD_mem ls k hlt)
        have HST := Lib.hid (hown.stored k (.int .i64 (E.getD k 0)))
        have HF := Lib.hid (fill_set E k (by rw [HEl.out]; exact hlt) (.int .i64 0))
        have hzk : k < zs.length := by omega
        clear hc hc2 hzl
        generalize hzx : zs.getD k 0 = x at hC nx HE
        generalize hly : ls.getD k 0 = y at hcl ny HE
        clear hzx hly
        rw [HE.out] at HST
        have hm := err_bd dg.1 dg.2 ny.1 ny.2 nx.1 nx.2
        have HS : Hid (∀ w', Below B wr w' → (w'.cell? ⟨w.heap.size, 0, none⟩ = some (.int .i64 g) ∧ w'.cell? ⟨w.heap.size, 1, none⟩ = some (.slice (some ⟨b, off, none⟩) zs.length cap) ∧ w'.cell? ⟨b, off + k, none⟩ = some (.int .i64 x)) ∧ Below B wr w') :=
          Lib.hid (fun w' k => ⟨⟨(hBx w' k).c0, (hBx w' k).c1, hC w' k⟩, k⟩)
        have hsz : B ≤ wr.heap.size := by have := hbel.size; have := HB.out; omega
        clear hBx hC
        go_wp2
        go_region_held3 (fun w' => (w'.cell? ⟨w.heap.size, 0, none⟩ = some (.int .i64 g) ∧ w'.cell? ⟨w.heap.size, 1, none⟩ = some (.slice (some ⟨b, off, none⟩) zs.length cap) ∧ w'.cell? ⟨b, off + k, none⟩ = some (.int .i64 x)) ∧ Below B wr w')
          (first | exact HS.out _ (by go_grown))
          (fail)
        go_wp2
        go_roundw
        case rel =>
          obtain ⟨s1, s2⟩ := HST.out
          have hf := HF.out
          rw [HEl.out, HE.out] at hf
          rw [hf] at s1
          exact ⟨k + 1, by omega, by go_num, s1, (hbel.drew).setCell (Nat.le_refl _) _⟩
        case measure => simp [intOf]; omega
      · have he : k = ls.length := by omega
        have HE := Lib.hid he; clear he
        go_wp2
        go_ret2
        have e := HB.out
        subst e
        have hk := HE.out
        subst hk
        have hel := HEl.out
        refine ⟨some ⟨w1.heap.size, 0, none⟩, ls.length, by rw [hel]; rfl, ⟨?_, by omega, HI.out⟩, ?_⟩
        · rw [hel]
          have := hown
          rw [← hel, List.take_length, hel, Nat.sub_self] at this
          exact ownsRow_mono (by simpa using this) g1.size
        · exact g1.next hbel

/-- The first k numbers of a list are floors or ceilings. -/
def RndTo (g : Int) (zs ls : List Int) (k : Nat) : Prop := ∀ j, j < k → ls.getD j 0 = fl (zs.getD j 0) g ∨ ls.getD j 0 = ce (zs.getD j 0) g
theorem RndTo.succ {g : Int} {zs ls : List Int} {k : Nat} (h : RndTo g zs ls k) (h2 : ls.getD k 0 = fl (zs.getD k 0) g ∨ ls.getD k 0 = ce (zs.getD k 0) g) : RndTo g zs ls (k + 1) := by
  intro j hj
  rcases Nat.lt_or_eq_of_le (Nat.le_of_lt_succ hj) with h3 | h3
  · exact h j h3
  · subst h3; exact h2
theorem RndTo.zero (g : Int) (zs ls : List Int) : RndTo g zs ls 0 := fun j hj => by omega
def rndB (g : Int) (zs ls : List Int) : Bool := okV g zs && decide (ls.length = zs.length) && decide (∀ j, j < ls.length → ls.getD j 0 = fl (zs.getD j 0) g ∨ ls.getD j 0 = ce (zs.getD j 0) g)
theorem rndB_no {g : Int} {zs ls : List Int} {k : Nat} (hk : k < ls.length) (h1 : ls.getD k 0 ≠ fl (zs.getD k 0) g) (h2 : ls.getD k 0 ≠ ce (zs.getD k 0) g) : rndB g zs ls = false := by
  unfold rndB
  rw [Bool.and_eq_false_iff]; right
  rw [decide_eq_false_iff_not]
  intro h; rcases h k hk with h | h
  · exact h1 h
  · exact h2 h
theorem rndB_yes {g : Int} {zs ls : List Int} (h1 : okV g zs = true) (h2 : ls.length = zs.length) (h : RndTo g zs ls ls.length) : rndB g zs ls = true := by
  unfold rndB
  rw [h1, decide_eq_true h2, decide_eq_true (show ∀ j, j < ls.length → ls.getD j 0 = fl (zs.getD j 0) g ∨ ls.getD j 0 = ce (zs.getD j 0) g from h)]; rfl
set_option maxHeartbeats 1600000 in
theorem IsRounding_any (g : Int) (ad : Option Addr) (cap : Nat) (zs : List Int) (bd : Option Addr) (bcap : Nat) (ls : List Int) (w : World) (hz : Ints w ad zs) (hl : Ints w bd ls) :
    Calls Try.prog 71 #[valV g ad zs.length cap, .slice bd ls.length bcap] w fun e w' => e = .returned (.bool (rndB g zs ls)) ∧ Keep w w' := by
  have B0 : Box (w.alloc (.cells #[.int .i64 g, .slice ad zs.length cap] 57)) w.heap.size g ad zs.length cap := ⟨by simp, by simp, by simp⟩
  have hlen := hz.small
  have hlen2 := hl.small
  cases h1 : okV g zs
  · rw [show rndB g zs ls = false from by simp [rndB, h1]]
    go_enter Try.func71, Try.ntmps71
    go_wp2_with fail
    refine (ValidValues_any g ad cap zs _ (hz.keep (B := _) (by go_grown) (Nat.le_refl _))).mono ?_
    rw [h1]
    rintro e w1 ⟨rfl, k1⟩
    have g1 : Keep w w1 := Keep.next (by go_grown) k1
    obtain ⟨c0, c1, cl⟩ := B0.keep k1
    go_wp2
    go_ret
    exact ⟨rfl, g1⟩
  by_cases h2 : ls.length = zs.length
  case neg =>
    rw [show rndB g zs ls = false from by simp [rndB, h2]]
    have h3 : ((ls.length : Int) != (zs.length : Int)) = true := by simp; omega
    go_enter Try.func71, Try.ntmps71
    go_wp2_with fail
    refine (ValidValues_any g ad cap zs _ (hz.keep (B := _) (by go_grown) (Nat.le_refl _))).mono ?_
    rw [h1]
    rintro e w1 ⟨rfl, k1⟩
    have g1 : Keep w w1 := Keep.next (by go_grown) k1
    obtain ⟨c0, c1, cl⟩ := B0.keep k1
    go_wp2
    go_ret
    exact ⟨rfl, g1⟩
  have h3 : ((ls.length : Int) != (zs.length : Int)) = false := by simp [h2]
  have H2 := Lib.hid h2; clear h2
  have dg := okV_den h1
  have N1 := Lib.hid (okV_num h1)
  go_enter Try.func71, Try.ntmps71
  go_wp2_with fail
  refine (ValidValues_any g ad cap zs _ (hz.keep (B := _) (by go_grown) (Nat.le_refl _))).mono ?_
  rw [h1]
  rintro e w1 ⟨rfl, k1⟩
  have g1 : Keep w w1 := Keep.next (by go_grown) k1
  obtain ⟨c0, c1, cl⟩ := B0.keep k1
  have hz1 := hz.keep g1 (Nat.le_refl _)
  have hl1 := hl.keep g1 (Nat.le_refl _)
  go_wp2
  go_loopw [5, 6, 21] (fun _ _ i wr => ∃ k : Nat, k ≤ zs.length ∧ i = .int .i64 k ∧ Hid (RndTo g zs ls k) ∧ Keep w1 wr)
    (fun _ _ i _ => zs.length - (intOf i).toNat)
  case atStart => exact ⟨0, Nat.zero_le _, rfl, Lib.hid (RndTo.zero _ _ _), Below.refl _ _⟩
  case round =>
    obtain ⟨k, hk, rfl, HR, hbel⟩ := hrel
    by_cases hlt : k < zs.length
    · have hzl := H2.out
      rcases hz1.at_ with h | ⟨b, off, rfl, hb, hc⟩
      · subst h; simp at hlt
      rcases hl1.at_ with h | ⟨b2, off2, rfl, hb2, hc2⟩
      · rw [h] at hzl; simp only [List.length_nil] at hzl; omega
      have hcx : wr.cell? ⟨b, off + k, none⟩ = some (.int .i64 (zs.getD k 0)) := by rw [hbel.cell (by exact hb)]; exact hc k hlt
      have hcl : wr.cell? ⟨b2, off2 + k, none⟩ = some (.int .i64 (ls.getD k 0)) := by rw [hbel.cell (by exact hb2)]; exact hc2 k (by omega)
      obtain ⟨d0, d1, dl⟩ := (Box.mk c0 c1 cl).keep hbel
      have nx := N1.out _ (getD_mem zs k hlt)
      have hkl : k < ls.length := by omega
      have HSU := Lib.hid (fun h2 => RndTo.succ HR.out h2)
      have HNO := Lib.hid (fun h2 h3 => rndB_no (g := g) (zs := zs) (ls := ls) hkl h2 h3)
      clear hc hc2 hzl c0 c1 cl
      generalize hzx : zs.getD k 0 = x at hcx nx HSU HNO
      generalize hly : ls.getD k 0 = y at hcl HSU HNO
      clear hzx hly
      by_cases q1 : y = fl x g
      · have q1b : (y != fl x g) = false := by simp [q1]
        have Q1 := Lib.hid q1; clear q1
        go_wp2
        go_quiet ((first | (go_at_call 110; exact Calls.quiet_of_same ((floorOf_any _ _ _ (by omega) (by omega) (by omega) (by omega)).mono fun _ _ h => ⟨h.1, h.2.symm⟩)) | (go_at_call 111; exact Calls.quiet_of_same ((ceilingOf_any _ _ _ (by omega) (by omega) (by omega) (by omega)).mono fun _ _ h => ⟨h.1, h.2.symm⟩))))
        go_wp2
        go_roundw
        case rel => exact ⟨k + 1, by omega, by go_num, Lib.hid (HSU.out (.inl Q1.out)), below_drewN hbel _⟩
        case measure => simp [intOf]; omega
      · have q1b : (y != fl x g) = true := by simp [q1]
        have Q1 := Lib.hid q1; clear q1
        by_cases q2 : y = ce x g
        · have q2b : (y != ce x g) = false := by simp [q2]
          have Q2 := Lib.hid q2; clear q2
          go_wp2
          go_quiet ((first | (go_at_call 110; exact Calls.quiet_of_same ((floorOf_any _ _ _ (by omega) (by omega) (by omega) (by omega)).mono fun _ _ h => ⟨h.1, h.2.symm⟩)) | (go_at_call 111; exact Calls.quiet_of_same ((ceilingOf_any _ _ _ (by omega) (by omega) (by omega) (by omega)).mono fun _ _ h => ⟨h.1, h.2.symm⟩))))
          go_wp2
          go_roundw
          case rel => exact ⟨k + 1, by omega, by go_num, Lib.hid (HSU.out (.inr Q2.out)), below_drewN hbel _⟩
          case measure => simp [intOf]; omega
        · have q2b : (y != ce x g) = true := by simp [q2]
          have Q2 := Lib.hid q2; clear q2
          go_wp2
          go_quiet ((first | (go_at_call 110; exact Calls.quiet_of_same ((floorOf_any _ _ _ (by omega) (by omega) (by omega) (by omega)).mono fun _ _ h => ⟨h.1, h.2.symm⟩)) | (go_at_call 111; exact Calls.quiet_of_same ((ceilingOf_any _ _ _ (by omega) (by omega) (by omega) (by omega)).mono fun _ _ h => ⟨h.1, h.2.symm⟩))))
          go_wp2
          go_ret
          exact ⟨ret_bool (HNO.out Q1.out Q2.out).symm, g1.next (below_drewN hbel _)⟩
    · have HK := Lib.hid (show k = zs.length from by omega)
      go_wp2
      go_ret
      refine ⟨ret_bool ?_, g1.next hbel⟩
      symm; refine rndB_yes h1 H2.out ?_
      rw [H2.out, ← HK.out]; exact HR.out
set_option maxHeartbeats 1600000 in
theorem l01Rounds_any (B : Nat) (g : Int) (ad : Option Addr) (cap : Nat) (zs : List Int) (bd : Option Addr) (bcap : Nat) (ls : List Int) (w : World) (hz1 : Ints w ad zs) (hl1 : Ints w bd ls) (h1 : okV g zs = true)
    (c0 : w.cell? ⟨B, 0, none⟩ = some (.int .i64 g)) (c1 : w.cell? ⟨B, 1, none⟩ = some (.slice ad zs.length cap)) :
    Calls Try.prog 68 #[.pointer (some ⟨B, 0, none⟩), .slice bd ls.length bcap] w fun e w' => e = .returned (.bool (rndB g zs ls)) ∧ Keep w w' := by
  have cl := World.block_lt_of_cell? _ _ c0
  have hlen := hz1.small
  have hlen2 := hl1.small
  by_cases h2 : ls.length = zs.length
  case neg =>
    rw [show rndB g zs ls = false from by simp [rndB, h2]]
    have h3 : ((ls.length : Int) != (zs.length : Int)) = true := by simp; omega
    go_enter Try.func68, Try.ntmps68
    go_wp2
    go_ret
    exact ⟨rfl, Below.refl _ _⟩
  have h3 : ((ls.length : Int) != (zs.length : Int)) = false := by simp [h2]
  have H2 := Lib.hid h2; clear h2
  have dg := okV_den h1
  have N1 := Lib.hid (okV_num h1)
  go_enter Try.func68, Try.ntmps68
  go_wp2
  go_loopw [5] (fun i wr => ∃ k : Nat, k ≤ ls.length ∧ i = .int .i64 k ∧ Hid (RndTo g zs ls k) ∧ Keep w wr)
    (fun i _ => ls.length - (intOf i).toNat)
  case atStart => exact ⟨0, Nat.zero_le _, rfl, Lib.hid (RndTo.zero _ _ _), Below.refl _ _⟩
  case round =>
    obtain ⟨k, hk, rfl, HR, hbel⟩ := hrel
    by_cases hlt : k < ls.length
    · have hzl := H2.out
      rcases hl1.at_ with h | ⟨b2, off2, rfl, hb2, hc2⟩
      · subst h; simp at hlt
      rcases hz1.at_ with h | ⟨b, off, rfl, hb, hc⟩
      · rw [h] at hzl; simp only [List.length_nil] at hzl; omega
      have hcx : wr.cell? ⟨b, off + k, none⟩ = some (.int .i64 (zs.getD k 0)) := by rw [hbel.cell (by exact hb)]; exact hc k (by omega)
      have hcl : wr.cell? ⟨b2, off2 + k, none⟩ = some (.int .i64 (ls.getD k 0)) := by rw [hbel.cell (by exact hb2)]; exact hc2 k hlt
      obtain ⟨d0, d1, dl⟩ := (Box.mk c0 c1 cl).keep hbel
      have hzk : k < zs.length := by omega
      have nx := N1.out _ (getD_mem zs k hzk)
      have HSU := Lib.hid (fun h2 => RndTo.succ HR.out h2)
      have HNO := Lib.hid (fun h2 h3 => rndB_no (g := g) (zs := zs) (ls := ls) hlt h2 h3)
      clear hc hc2 hzl c0 c1 cl
      generalize hzx : zs.getD k 0 = x at hcx nx HSU HNO
      generalize hly : ls.getD k 0 = y at hcl HSU HNO
      clear hzx hly
      by_cases q1 : y = fl x g
      · have q1b : (y != fl x g) = false := by simp [q1]
        have Q1 := Lib.hid q1; clear q1
        go_wp2
        go_quiet ((first | (go_at_call 107; exact Calls.quiet_of_same ((l01Floor_any _ _ _ (by omega) (by omega) (by omega) (by omega)).mono fun _ _ h => ⟨h.1, h.2.symm⟩)) | (go_at_call 108; exact Calls.quiet_of_same ((l01Ceil_any _ _ _ (by omega) (by omega) (by omega) (by omega)).mono fun _ _ h => ⟨h.1, h.2.symm⟩))))
        go_wp2
        go_roundw
        case rel => exact ⟨k + 1, by omega, by go_num, Lib.hid (HSU.out (.inl Q1.out)), below_drewN hbel _⟩
        case measure => simp [intOf]; omega
      · have q1b : (y != fl x g) = true := by simp [q1]
        have Q1 := Lib.hid q1; clear q1
        by_cases q2 : y = ce x g
        · have q2b : (y != ce x g) = false := by simp [q2]
          have Q2 := Lib.hid q2; clear q2
          go_wp2
          go_quiet ((first | (go_at_call 107; exact Calls.quiet_of_same ((l01Floor_any _ _ _ (by omega) (by omega) (by omega) (by omega)).mono fun _ _ h => ⟨h.1, h.2.symm⟩)) | (go_at_call 108; exact Calls.quiet_of_same ((l01Ceil_any _ _ _ (by omega) (by omega) (by omega) (by omega)).mono fun _ _ h => ⟨h.1, h.2.symm⟩))))
          go_wp2
          go_roundw
          case rel => exact ⟨k + 1, by omega, by go_num, Lib.hid (HSU.out (.inr Q2.out)), below_drewN hbel _⟩
          case measure => simp [intOf]; omega
        · have q2b : (y != ce x g) = true := by simp [q2]
          have Q2 := Lib.hid q2; clear q2
          go_wp2
          go_quiet ((first | (go_at_call 107; exact Calls.quiet_of_same ((l01Floor_any _ _ _ (by omega) (by omega) (by omega) (by omega)).mono fun _ _ h => ⟨h.1, h.2.symm⟩)) | (go_at_call 108; exact Calls.quiet_of_same ((l01Ceil_any _ _ _ (by omega) (by omega) (by omega) (by omega)).mono fun _ _ h => ⟨h.1, h.2.symm⟩))))
          go_wp2
          go_ret
          exact ⟨ret_bool (HNO.out Q1.out Q2.out).symm, below_drewN hbel _⟩
    · have HK := Lib.hid (show k = ls.length from by omega)
      go_wp2
      go_ret
      refine ⟨ret_bool ?_, hbel⟩
      symm; refine rndB_yes h1 H2.out ?_
      rw [← HK.out]; exact HR.out
end Go.Proofs.Ytpdcmhnaedhkdaa
