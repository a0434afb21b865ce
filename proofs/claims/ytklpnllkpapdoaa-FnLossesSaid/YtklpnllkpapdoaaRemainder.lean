/- Seats by greatest remainders: the program's side. -/
import Derived.Test.YtklpnllkpapdoaaByRest
namespace Go.Proofs.Ytklpnllkpapdoaa
open Go.ChangeShapes Go.WideShapes Go.ChangeAt Go.RowKit
set_option linter.unusedVariables false
def okRem (s : Int) (zs : List Int) : Bool := okQ s zs
def remV (s : Int) (zs : List Int) : List Int := if okQ s zs then remS s zs else []
theorem remTo_bd {s : Int} {zs : List Int} (hv : okVotes zs = true) (s1 : 0 ≤ s) (s2 : s ≤ 100) (m i : Nat) (hi : i < zs.length) : 0 ≤ (remTo s zs m).getD i 0 ∧ (remTo s zs m).getD i 0 ≤ 100000001 := by
  rw [remTo_get s zs m i hi, qLow_get s zs i hi]
  have h := okVotes_num hv _ (getD_mem zs i hi)
  have ht := okVotes_sum hv
  have := quo_in s1 s2 h.1 h.2 (T := zs.sum) (by omega)
  split <;> omega
theorem leftN_eq {s : Int} {zs : List Int} (hv : okVotes zs = true) : (leftN s zs : Int) = s - (qLow s zs).sum ∧ leftN s zs ≤ zs.length := by
  have ht := okVotes_sum hv
  have := left_bd (s := s) (zs := zs) (by omega)
  unfold leftN; omega
set_option maxHeartbeats 3200000 in
theorem RemainderSeats_any (ad : Option Addr) (cap : Nat) (zs : List Int) (s : Int) (w : World) (hz : Ints w ad zs) (us : In64 s) :
    Calls Try.prog 11 #[.slice ad zs.length cap, .int .i64 s] w fun e w' =>
      ∃ rd rc, e = .returned (.tuple #[.slice rd (remV s zs).length rc, .bool (okQ s zs)]) ∧ Own w' w.heap.size rd rc (remV s zs) ∧ Keep w w' := by
  cases h1 : okVotes zs
  · rw [show okQ s zs = false from by simp [okQ, h1], show remV s zs = [] from by simp [remV, okQ, h1]]
    go_enter Try.func11, Try.ntmps11
    go_wp2_with (go_at_call 19; refine (ValidVotes_any ad cap zs w hz).mono ?_; rw [h1]; rintro e w' ⟨rfl, rfl⟩)
    go_ret2
    exact ⟨none, 0, rfl, Own.nil _ _, by go_grown⟩
  cases h2 : inB s 0 100
  · rw [show okQ s zs = false from by simp [okQ, h2], show remV s zs = [] from by simp [remV, okQ, h2]]
    go_enter Try.func11, Try.ntmps11
    go_wp2_with (first | (go_at_call 19; refine (ValidVotes_any ad cap zs w hz).mono ?_; rw [h1]; rintro e w' ⟨rfl, rfl⟩) | (go_at_call 25; refine (within_any _ _ _ _).mono ?_; rw [h2]; rintro e w' ⟨rfl, rfl⟩))
    go_ret2
    exact ⟨none, 0, rfl, Own.nil _ _, by go_grown⟩
  · obtain ⟨s1, s2⟩ := inB_iff.1 h2
    have hl := okVotes_len h1
    have ht := okVotes_sum h1
    have hpos : 1 ≤ zs.length := by
      rcases Nat.eq_zero_or_pos zs.length with h | h
      · have := List.eq_nil_of_length_eq_zero h; subst this; simp at ht
      · exact h
    obtain ⟨hL1, hL2⟩ := leftN_eq (s := s) h1
    have hqb : ∀ z ∈ qLow s zs, -1000000000 ≤ z ∧ z ≤ 1000000000 := fun z hz => by
      unfold qLow at hz; obtain ⟨y, hy, rfl⟩ := List.mem_map.1 hz
      have h := okVotes_num h1 y hy
      have := quo_in s1 s2 h.1 h.2 (T := zs.sum) (by omega)
      omega
    have hqs := sum_bd 1000000000 (by omega) (qLow s zs) hqb
    have hqlen : (qLow s zs).length = zs.length := by simp [qLow]
    rw [hqlen] at hqs
    have HQB := Lib.hid hqb
    have HQ1 := Lib.hid (fun W (h : Ints W ad zs) => quotasLow_any s ad cap zs W h h1 s1 s2)
    have HP1 := Lib.hid (fun W (h : Ints W ad zs) => partiesByRest_any ad cap zs s W h h1 s1 s2)
    have HSTEP : Hid (∀ p : List Nat, p.Perm (List.range zs.length) → (∀ i j, i < j → j < zs.length → bef (rests s zs) (p.getD j 0) (p.getD i 0) = false) → ∀ m, m < zs.length → p.getD m 0 < zs.length ∧ (remTo s zs m).set (p.getD m 0) ((remTo s zs m).getD (p.getD m 0) 0 + 1) = remTo s zs (m + 1)) := Lib.hid (fun p hp hs m hm => by
      have hpl : p.length = zs.length := by rw [hp.length_eq, List.length_range]
      have hmem : p.getD m 0 ∈ p := by rw [List.getD_eq_getElem?_getD, List.getElem?_eq_getElem (by omega)]; exact List.getElem_mem _
      have hlt := List.mem_range.1 (hp.mem_iff.1 hmem)
      exact ⟨hlt, remTo_step s zs m _ hlt (rk_at hp hs m hm)⟩)
    have HBD := Lib.hid (fun m i hi => remTo_bd h1 s1 s2 m i hi)
    have HLEN := Lib.hid (fun m => remTo_len s zs m)
    have H0 := Lib.hid (remTo_zero s zs)
    rw [show okQ s zs = true from by simp [okQ, h1, h2], show remV s zs = remTo s zs (leftN s zs) from by simp [remV, okQ, h1, h2, remS]]
    have H1 := Lib.hid h1; have H2 := Lib.hid h2
    clear h1 h2 hqb
    generalize remTo s zs = T at HSTEP HBD HLEN H0 ⊢
    generalize leftN s zs = L at hL1 hL2 ⊢
    generalize rests s zs = R at HSTEP HP1
    have HQL := Lib.hid hqlen; clear hqlen
    generalize qLow s zs = ql at *
    go_enter Try.func11, Try.ntmps11
    go_wp2_with (first | (go_at_call 19; refine (ValidVotes_any ad cap zs w hz).mono ?_; rw [H1.out]; rintro e w' ⟨rfl, rfl⟩) | (go_at_call 25; refine (within_any _ _ _ _).mono ?_; rw [H2.out]; rintro e w' ⟨rfl, rfl⟩))
    refine (HQ1.out _ hz).mono ?_
    rintro e w1 ⟨rd, rc, rfl, o1, k1⟩
    go_wp2_with fail
    refine (HP1.out _ (hz.keep k1 (Nat.le_refl _))).mono ?_
    rintro e w2 ⟨b, p, rfl, hb1, hb2, hperm, hsort, hcells, k2⟩
    have o2 := o1.keep k2
    have i2 := o2.ints
    go_wp2_with (go_at_call 29; refine (total_any rd rc ql w2 i2 HQB.out (by rw [HQL.out]; omega)).mono ?_; rintro e w' ⟨rfl, rfl⟩)
    rw [show s - ql.sum = (L : Int) from hL1.symm]
    simp only [Int.toNat_natCast, show max (L : Int) 0 = (L : Int) from by omega]
    rcases own_block o2.1 with ⟨_, h, _⟩ | ⟨g, rfl, hg1, hg2, _⟩
    · rw [HQL.out] at h; omega
    have hgb : g < b := by
      rcases own_block o1.1 with ⟨h, _⟩ | ⟨g2, h, _, h3, _⟩
      · cases h
      · simp at h; omega
    have HO := Lib.hid o2; have HC := Lib.hid hcells; have HK := Lib.hid (Keep.next k1 k2)
    have HST := Lib.hid (HSTEP.out p hperm hsort)
    have hT0 : (T 0).length = zs.length := HLEN.out 0
    clear o1 o2 i2 hcells k1 k2 hperm hsort HSTEP HP1 HQ1 hL1 hqs
    have hql := HQL.out
    rw [hql]
    go_loopw [8, 29] (fun _ i wr => ∃ m : Nat, m ≤ L ∧ i = .int .i64 m ∧ Own wr w.heap.size (some ⟨g, 0, none⟩) rc (T m) ∧ (∀ r, r < zs.length → wr.cell? ⟨b, r, none⟩ = some (.int .i64 ((p.getD r 0 : Nat) : Int))) ∧ Keep w wr ∧ g < wr.heap.size)
      (fun _ i _ => L - (intOf i).toNat)
    case atStart => exact ⟨0, Nat.zero_le _, rfl, by rw [H0.out]; exact HO.out, HC.out, HK.out, hg2⟩
    case round =>
      obtain ⟨m, hm, rfl, hown, hcell, hbel, hgs⟩ := hrel
      by_cases hlt : m < L
      · have hmn : m < zs.length := by omega
        obtain ⟨hpm, hset⟩ := HST.out m hmn
        have hcx := hcell m hmn
        have hbd := HBD.out m _ hpm
        have hTl := HLEN.out m
        have hcy : wr.cell? ⟨g, p.getD m 0, none⟩ = some (.int .i64 ((T m).getD (p.getD m 0) 0)) := by
          rw [hown.1.cellAt _ (by omega)]
          rw [List.getElem?_map, List.getElem?_eq_getElem (by omega), getD_get _ _ (by omega)]; rfl
        have hfy := hown.1.frozenAt (p.getD m 0)
        have HS := Lib.hid (hown.1.stored (p.getD m 0) (.int .i64 ((T m).getD (p.getD m 0) 0 + 1)))
        have HW := Lib.hid hown; have HCL := Lib.hid hcell; have HSE := Lib.hid hset
        have HT1 := Lib.hid (HLEN.out (m + 1))
        have HB1 := Lib.hid (fun i hi => HBD.out (m + 1) i hi)
        clear hown hcell hset
        generalize hpe : p.getD m 0 = q at hcx hcy hfy HS HSE hpm hbd
        generalize hv : (T m).getD q 0 = v at hcy HS HSE hbd
        clear hpe hv
        go_wp2
        go_roundw
        case rel =>
          obtain ⟨q1, q2⟩ := HS.out
          have e1 : (vals (T m)).set q (.int .i64 (v + 1)) = vals (T (m + 1)) := by rw [← HSE.out]; unfold vals; rw [List.map_set]
          rw [e1] at q1
          refine ⟨m + 1, by omega, by go_num, ⟨?_, ?_, ?_⟩, fun r hr => ?_, hbel.setCell (by show w.heap.size ≤ g; omega) _, by simpa using hgs⟩
          · rw [HT1.out]; rw [hTl] at q1; exact q1
          · rw [HT1.out]; omega
          · intro z hz
            obtain ⟨i, hi, rfl⟩ := List.getElem_of_mem hz
            rw [HT1.out] at hi
            have := HB1.out i hi
            rw [getD_get _ _ (by rw [HT1.out]; exact hi)] at this
            exact ⟨by omega, by omega⟩
          · rw [World.cell?_setCell_other _ _ _ _ (by simp <;> omega)]; exact HCL.out r hr
        case measure => simp [intOf]; omega
      · have HE := Lib.hid (show m = L from by omega)
        have HW := Lib.hid hown; clear hown hcell
        go_wp2
        go_ret2
        have e := HE.out
        subst e
        exact ⟨some ⟨g, 0, none⟩, rc, by rw [HLEN.out]; rfl, HW.out, hbel⟩
end Go.Proofs.Ytklpnllkpapdoaa
