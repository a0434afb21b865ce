/- Group roundings: the model's look. -/
import Derived.Test.YtjfepogmphjliabGrp4
import Derived.Test.YtjfepogmphjliabApp4
import Derived.Test.YtjfepogmphjliabErrs
namespace Go.Proofs.Ytjfepogmphjliab
open Go.ChangeShapes Go.WideShapes Go.ChangeAt Go.RowKit Go.Deep
set_option linter.unusedVariables false
theorem RisesTo.ge {zs : List Int} {lo hi : Int} {k : Nat} (h : RisesTo zs lo hi k) : ∀ j : Nat, j < k → lo + (j : Int) ≤ zs.getD j 0 := by
  intro j
  induction j with
  | zero => intro hj; have := inB_iff.1 (h 0 hj).1; omega
  | succ j ih =>
    intro hj
    have h1 := ih (by omega)
    have h2 := (h (j + 1) hj).2 (by omega)
    rw [Nat.add_sub_cancel] at h2
    omega
open Classical in
theorem rises_in {zs : List Int} {n : Nat} (h : risesB zs 0 ((n : Int) - 1) = true) : zs.length ≤ n ∧ ∀ i ∈ zs, 0 ≤ i ∧ i < (n : Int) := by
  have hr : RisesTo zs 0 ((n : Int) - 1) zs.length := by unfold risesB at h; rw [decide_eq_true_eq] at h; exact h
  refine ⟨?_, fun i hi => ?_⟩
  · by_cases h0 : zs.length = 0
    · omega
    · have h1 := hr.ge (zs.length - 1) (by omega)
      have h2 := inB_iff.1 (hr (zs.length - 1) (by omega)).1
      omega
  · obtain ⟨j, hj, rfl⟩ := List.getElem_of_mem hi
    have h2 := inB_iff.1 (hr j hj).1
    rw [getD_get zs j hj] at h2
    omega
open Classical in
theorem lamB_rises {n : Nat} {zss : List (List Int)} (h : lamB n zss = true) : zss.length ≤ 12 ∧ ∀ j, j < zss.length → risesB (zss.getD j []) 0 ((n : Int) - 1) = true := by
  unfold lamB at h
  rw [decide_eq_true_eq] at h
  exact ⟨h.2, fun j hj => (h.1.1 j hj).1⟩
theorem allI_in (n : Nat) : ∀ i ∈ allI n, 0 ≤ i ∧ i < (n : Int) := by
  intro i hi
  unfold allI at hi
  obtain ⟨j, hj, rfl⟩ := List.mem_map.1 hi
  have := List.mem_range.1 hj
  omega
/-- The sum of a list at some indices is that of the values, rounded down or up. -/
def okSet (g : Int) (zs ls set : List Int) : Bool := decide (partS ls set = fl (partS zs set) g) || decide (partS ls set = ce (partS zs set) g)
def setsB (g : Int) (zs ls : List Int) (T : List (List Int)) : Bool := T.all fun set => okSet g zs ls set
theorem setsB_no {g : Int} {zs ls : List Int} {T : List (List Int)} {k : Nat} (hk : k < T.length) (h : okSet g zs ls (T.getD k []) = false) : setsB g zs ls T = false := by
  unfold setsB
  rw [List.all_eq_false]
  exact ⟨T.getD k [], by rw [getDD_get T k hk]; exact List.getElem_mem hk, by rw [h]; simp⟩
theorem setsB_yes {g : Int} {zs ls : List Int} {T : List (List Int)} (h : ∀ j, j < T.length → okSet g zs ls (T.getD j []) = true) : setsB g zs ls T = true := by
  unfold setsB
  rw [List.all_eq_true]
  intro set hs
  obtain ⟨j, hj, rfl⟩ := List.getElem_of_mem hs
  have := h j hj
  rwa [getDD_get T j hj] at this
noncomputable def grpB (g : Int) (zs : List Int) (zss : List (List Int)) (ls : List Int) : Bool := lamV g zs zss && (rndB g zs ls && setsB g zs ls (zss ++ [allI ls.length]))
theorem rnd_bd {g : Int} {zs ls : List Int} (h : rndB g zs ls = true) : ls.length = zs.length ∧ ∀ l ∈ ls, -1000000 ≤ l ∧ l ≤ 1000000 := by
  unfold rndB at h
  rw [Bool.and_eq_true, Bool.and_eq_true, decide_eq_true_eq, decide_eq_true_eq] at h
  obtain ⟨⟨h1, h2⟩, h3⟩ := h
  refine ⟨h2, fun l hl => ?_⟩
  obtain ⟨j, hj, rfl⟩ := List.getElem_of_mem hl
  have h4 := h3 j hj
  rw [getD_get ls j hj] at h4
  have h5 := okV_num h1 _ (getD_mem zs j (by omega))
  have h6 := okV_den h1
  have h7 := fl_bd (a := zs.getD j 0) (b := g) (M := 1000000) h6.1 h5.1 h5.2 (by omega)
  have h8 := ce_bd (a := zs.getD j 0) (b := g) (M := 1000000) h6.1 h5.1 h5.2 (by omega)
  rcases h4 with h4 | h4 <;> (rw [h4]; assumption)
set_option maxHeartbeats 1600000 in
set_option maxRecDepth 100000 in
theorem specIsGroupRounding_any (g : Int) (ad : Option Addr) (cap : Nat) (zs : List Int) (bd : Option Addr) (bcap : Nat) (zss : List (List Int)) (cd : Option Addr) (ccap : Nat) (ls : List Int) (w : World) (hz : Ints w ad zs) (hg : Intss w bd zss) (hl : Ints w cd ls) :
    Calls Try.prog 13 #[valV g ad zs.length cap, .slice bd zss.length bcap, .slice cd ls.length ccap] w fun e w' => e = .returned (.bool (grpB g zs zss ls)) ∧ Keep w w' := by
  have hbl : Below w.heap.size w (w.alloc (.cells #[.int .i64 g, .slice ad zs.length cap] 29)) := by go_grown
  cases h1 : lamV g zs zss
  · rw [show grpB g zs zss ls = false from by simp [grpB, h1]]
    go_enter Try.func13, Try.ntmps13
    go_wp2_with fail
    refine (l04Laminar_any w.heap.size g ad cap zs bd bcap zss _ (hz.keep hbl (Nat.le_refl _)) (hg.keep hbl (Nat.le_refl _)) (by simp) (by simp)).mono ?_
    rw [h1]
    rintro e w1 ⟨rfl, k1⟩
    have HK := Lib.hid (Keep.next hbl k1)
    go_wp2
    go_ret
    exact ⟨rfl, HK.out⟩
  have hok : okV g zs = true := by unfold lamV at h1; rw [Bool.and_eq_true] at h1; exact h1.1
  have hlam : lamB zs.length zss = true := by unfold lamV at h1; rw [Bool.and_eq_true] at h1; exact h1.2
  cases h2 : rndB g zs ls
  · rw [show grpB g zs zss ls = false from by simp [grpB, h2]]
    go_enter Try.func13, Try.ntmps13
    go_wp2_with fail
    refine (l04Laminar_any w.heap.size g ad cap zs bd bcap zss _ (hz.keep hbl (Nat.le_refl _)) (hg.keep hbl (Nat.le_refl _)) (by simp) (by simp)).mono ?_
    rw [h1]
    rintro e w1 ⟨rfl, k1⟩
    have K1 := Keep.next hbl k1
    have B1 : Box w1 w.heap.size g ad zs.length cap := Box.keep ⟨by simp, by simp, by simp⟩ k1
    have HK1 := Lib.hid K1
    go_wp2_with fail
    refine (l01Rounds_any w.heap.size g ad cap zs cd ccap ls w1 (hz.keep HK1.out (Nat.le_refl _)) (hl.keep HK1.out (Nat.le_refl _)) hok B1.c0 B1.c1).mono ?_
    rw [h2]
    rintro e w2 ⟨rfl, k2⟩
    go_wp2
    go_ret
    exact ⟨rfl, HK1.out.next k2⟩
  rw [show grpB g zs zss ls = setsB g zs ls (zss ++ [allI ls.length]) from by simp [grpB, h1, h2]]
  obtain ⟨hll, hlb⟩ := rnd_bd h2
  have hzl := okV_len hok
  have hzb := okV_num hok
  have hgd := okV_den hok
  obtain ⟨h12, hrs⟩ := lamB_rises hlam
  have HTL : Hid ((zss ++ [allI ls.length]).length = zss.length + 1) := Lib.hid (by simp)
  have HT : Hid (∀ j, j < (zss ++ [allI ls.length]).length → ((zss ++ [allI ls.length]).getD j []).length ≤ 40 ∧ ∀ i ∈ (zss ++ [allI ls.length]).getD j [], 0 ≤ i ∧ i < (zs.length : Int)) := Lib.hid (fun j hj => by
    by_cases hlt : j < zss.length
    · have hgj : (zss ++ [allI ls.length]).getD j [] = zss.getD j [] := by simp [List.getD_eq_getElem?_getD, List.getElem?_append_left hlt]
      rw [hgj]
      obtain ⟨r1, r2⟩ := rises_in (hrs j hlt)
      exact ⟨by omega, r2⟩
    · have he : j = zss.length := by simp at hj; omega
      subst he
      have hgj : (zss ++ [allI ls.length]).getD zss.length [] = allI ls.length := by simp [List.getD_eq_getElem?_getD]
      rw [hgj, allI_len]
      exact ⟨by omega, fun i hi => by have := allI_in _ i hi; omega⟩)
  have HLL := Lib.hid hll; have HLB := Lib.hid hlb; have HZB := Lib.hid hzb
  have HOK := Lib.hid hok
  have hls40 : ls.length ≤ 40 := by omega
  clear hll hlb hzb hlam hrs
  generalize hTe : zss ++ [allI ls.length] = T at HTL HT ⊢
  have HTE := Lib.hid hTe; clear hTe
  go_enter Try.func13, Try.ntmps13
  go_wp2_with fail
  refine (l04Laminar_any w.heap.size g ad cap zs bd bcap zss _ (hz.keep hbl (Nat.le_refl _)) (hg.keep hbl (Nat.le_refl _)) (by simp) (by simp)).mono ?_
  rw [h1]
  rintro e w1 ⟨rfl, k1⟩
  have K1 := Keep.next hbl k1
  have B1 : Box w1 w.heap.size g ad zs.length cap := Box.keep ⟨by simp, by simp, by simp⟩ k1
  have HK1 := Lib.hid K1
  go_wp2_with fail
  refine (l01Rounds_any w.heap.size g ad cap zs cd ccap ls w1 (hz.keep HK1.out (Nat.le_refl _)) (hl.keep HK1.out (Nat.le_refl _)) HOK.out B1.c0 B1.c1).mono ?_
  rw [h2]
  rintro e w2 ⟨rfl, k2⟩
  have HK2 := Lib.hid (HK1.out.next k2)
  have HX2 := Lib.hid (B1.keep k2)
  have HG2 := Lib.hid (hg.keep HK2.out (Nat.le_refl _))
  have hw2 : w.heap.size < w2.heap.size := by have := (B1.keep k2).lt; exact this
  clear k1 k2 K1 B1 HK1 h1 h2 hok hbl
  have hownL : (w2.alloc (.cells #[] 22)).ownsRow w2.heap.size 22 1 (.slice (some ⟨w2.heap.size, 0, none⟩) 0 0) 0 [] := by
    have := World.ownsRow_lit (base := w2.heap.size) (e := 22) (size := 1) w2 #[] 0 (by simp) (by simp) rfl
    simpa using this
  have HOL := Lib.hid hownL; clear hownL
  go_wp2_with (refine list_appSS0 (by rfl) _ _ (by rfl) w2.heap.size (by rfl) HOL.out (by simp) zss bd bcap (by rfl) w2 HG2.out (by go_grown) (by omega) ?_; intro g1 c1' V w3 hown3 hV hgr3 hBg hlt3)
  have hb0 : Below w2.heap.size w2 (w2.alloc (.cells #[] 22)) := by go_grown
  have hb3 : Below w2.heap.size w2 w3 := hb0.grown hgr3 (by simp) (fun k hk => by have := Option.some.inj hk; omega)
  have HV := Lib.hid hV; clear hV
  have HB3 := Lib.hid hb3; clear hb3 hgr3
  have HO3 := Lib.hid hown3; clear hown3
  go_wp2_with fail
  refine (l04All_any ls.length w3 (by omega)).mono ?_
  rintro e w4 ⟨rd, rc, rfl, hown4, k4⟩
  have HO4 := Lib.hid hown4; clear hown4
  have hs4 := k4.size
  have HO5 := Lib.hid (ownsRow_keep HO3.out k4)
  have HB4 := Lib.hid (HB3.out.trans (k4.mono (by have := HB3.out.size; omega)))
  have hrc : (allI ls.length).length ≤ rc := by
    rcases own_block HO4.out.1 with ⟨_, h, _⟩ | ⟨q, _, _, _, h⟩
    · omega
    · exact h
  have h32 := HB3.out.size
  obtain ⟨i0, hi, hz0, hz1, hz2⟩ := info_parts Try.infoS
  go_wp2_with (refine wpList_append_lies _ rfl _ _ 25 (by rfl) w2.heap.size 22 i0 (.slice none 0 0) 1 24 Try.underlying25 hi hz0 hz1 hz2 rfl (by omega) (.slice (some ⟨g1, 0, none⟩) zss.length c1') zss.length V (by rfl) (ownsRow_keep HO5.out (by go_grown)) ⟨w4.heap.size, 0, none⟩ 1 1 [.slice rd (allI ls.length).length rc] (by rfl) (by simp) ?_ ?_ (by omega) (by unfold maxLen; omega) (by omega) (by simp; omega) _ rfl ?_)
  · intro j u hj
    match j, hj with
    | 0, hj => simp at hj; subst hj; simp [Addr.add]
  · intro u hu; simp at hu; subst hu; rfl
  intro g2 c2 w6 hown6 hgr6 hor6 hlt6
  have hgr7 : (w4.alloc (.cells #[.slice rd (allI ls.length).length rc] 22)).grownBy w6 (some g1) := hgr6
  have hg2 : w2.heap.size ≤ g2 := by
    rcases hor6 with h | h
    · simp [Value.ownBlock] at h; omega
    · omega
  have hb45 : Below w2.heap.size w2 (w4.alloc (.cells #[.slice rd (allI ls.length).length rc] 22)) := HB4.out.trans (by go_grown)
  have hb6 : Below w2.heap.size w2 w6 := hb45.grown hgr7 (by simp; omega) (fun k hk => by have := Option.some.inj hk; omega)
  have ho6 : Own w6 w3.heap.size rd rc (allI ls.length) := (HO4.out.keep (by go_grown)).past1 hgr7 hlt3
  have hall : Intss w6 (some ⟨g2, 0, none⟩) T := by
    have hp := (HV.out.keep hb6 (Nat.le_refl _)).push hrc ho6.ints
    rw [HTE.out] at hp
    exact hp.intss hown6 HTL.out.symm hlt6 (by rw [HTL.out]; omega)
  have HBX := Lib.hid (HX2.out.keep hb6)
  have HW6 := Lib.hid (HK2.out.next hb6)
  clear hb45 ho6 hgr7 hgr6 hown6 hor6 HV HO3 HO4 HO5 HOL HX2 HG2 HB3 HB4 hb6 hrc k4 hs4 h32 hg hi hz0 hz1 hz2 hlt3 hBg hw2 HK2
  obtain ⟨L, hL⟩ : ∃ L, L = zss.length + 1 := ⟨_, rfl⟩
  rw [← hL] at HTL ⊢
  have hL13 : L ≤ 13 := by omega
  clear hL
  obtain ⟨c0, c1, cl⟩ := HBX.out
  have hz6 := hz.keep HW6.out (Nat.le_refl _)
  have hl6 := hl.keep HW6.out (Nat.le_refl _)
  have HALL := Lib.hid hall; clear hall
  go_wp2
  generalize hW : w6 = w7 at *
  clear hW
  go_loopw [8, 9, 10] (fun i _ _ wr => ∃ k : Nat, k ≤ L ∧ i = .int .i64 k ∧ Hid (∀ j, j < k → okSet g zs ls (T.getD j []) = true) ∧ Keep w7 wr)
    (fun i _ _ _ => L - (intOf i).toNat)
  case atStart => exact ⟨0, Nat.zero_le _, rfl, Lib.hid (fun j h => by omega), Below.refl _ _⟩
  case round =>
    obtain ⟨k, hk, rfl, HA, hbel⟩ := hrel
    by_cases hlt : k < L
    · have hkT : k < T.length := by rw [HTL.out]; exact hlt
      have hall2 := HALL.out.keep hbel (Nat.le_refl _)
      rcases hall2.at_ with h | ⟨b, off, hbo, hb, hc⟩
      · rw [h] at hkT; simp only [List.length_nil] at hkT; omega
      cases hbo
      obtain ⟨p, c, hcx, hpc, hints⟩ := hc k hkT
      rw [Nat.zero_add] at hcx
      obtain ⟨hTl, hTi⟩ := HT.out k hkT
      obtain ⟨d0, d1, dl⟩ := (Box.mk c0 c1 cl).keep hbel
      have HNO := Lib.hid (fun h => setsB_no (g := g) (zs := zs) (ls := ls) hkT h)
      have HSU : Hid (okSet g zs ls (T.getD k []) = true → ∀ j, j < k + 1 → okSet g zs ls (T.getD j []) = true) := Lib.hid (fun h j hj => by
        by_cases e : j = k
        · subst e; exact h
        · exact HA.out j (by omega))
      clear hc hall2
      generalize T.getD k [] = set at hcx hpc hints hTl hTi HNO HSU
      have hp1 := partS_bd 1000000 40 zs set (by omega) HZB.out (by omega)
      have hp2 := partS_bd 1000000 40 ls set (by omega) HLB.out (by omega)
      have HP1 : Hid (∀ q, Calls Try.prog 22 #[.slice ad zs.length cap, .slice p set.length c] (wr.drewN q) fun e w' => e = .returned (.int .i64 (partS zs set)) ∧ wr.drewN q = w') :=
        Lib.hid (fun q => l04Part_any ad cap zs p c set _ (hz6.keep (B := _) (below_drewN hbel q) (Nat.le_refl _)) (hints.keep (B := _) (below_drewN (Below.refl _ _) q) (Nat.le_refl _)) HZB.out (by omega) hTi)
      have HP2 : Hid (∀ q, Calls Try.prog 22 #[.slice cd ls.length ccap, .slice p set.length c] (wr.drewN q) fun e w' => e = .returned (.int .i64 (partS ls set)) ∧ wr.drewN q = w') :=
        Lib.hid (fun q => l04Part_any cd ccap ls p c set _ (hl6.keep (B := _) (below_drewN hbel q) (Nat.le_refl _)) (hints.keep (B := _) (below_drewN (Below.refl _ _) q) (Nat.le_refl _)) HLB.out (by omega) (by rw [HLL.out]; exact hTi))
      have HC : Hid (∀ q, (wr.drewN q).cell? ⟨w.heap.size, 0, none⟩ = some (.int .i64 g) ∧ (wr.drewN q).cell? ⟨g2, k, none⟩ = some (.slice p set.length c)) :=
        Lib.hid (fun q => ⟨((below_drewN (B := wr.heap.size) (Below.refl _ _) q).cell (by exact dl)).trans d0, ((below_drewN (B := wr.heap.size) (Below.refl _ _) q).cell (by exact hb)).trans hcx⟩)
      have HOKS : Hid (okSet g zs ls set = (decide (partS ls set = fl (partS zs set) g) || decide (partS ls set = ce (partS zs set) g))) := Lib.hid rfl
      clear hints hTi
      generalize partS zs set = x at *
      generalize partS ls set = y at *
      go_wp2
      go_quiet ((go_at_call 22; exact Calls.quiet_of_same ((HP1.out _).mono fun _ _ h => ⟨h.1, h.2.symm⟩)))
      have HQ := Lib.hid (HP2.out nq)
      obtain ⟨e0, ex⟩ := HC.out nq
      have HBD : Hid (Keep w7 (wr.drewN nq)) := Lib.hid (below_drewN hbel nq)
      clear HP1 HP2 HC d0 d1 hcx
      generalize wr.drewN nq = wd at *
      go_wp2_with fail
      refine HQ.out.mono ?_
      rintro e w' ⟨rfl, rfl⟩
      by_cases q1 : y = fl x g
      · have q1b : (y != fl x g) = false := by simp [q1]
        have HS := Lib.hid (HSU.out (by rw [HOKS.out, q1]; simp))
        clear q1
        go_wp2_with (first | (go_at_call 23; refine (l01Floor_any _ _ _ (by omega) (by omega) (by omega) (by omega)).mono ?_; rintro e w' ⟨rfl, rfl⟩) | (go_at_call 24; refine (l01Ceil_any _ _ _ (by omega) (by omega) (by omega) (by omega)).mono ?_; rintro e w' ⟨rfl, rfl⟩))
        go_roundw
        case rel => exact ⟨k + 1, by omega, by go_num, HS, HBD.out⟩
        case measure => simp [intOf]; omega
      · have q1b : (y != fl x g) = true := by simp [q1]
        by_cases q2 : y = ce x g
        · have q2b : (y != ce x g) = false := by simp [q2]
          have HS := Lib.hid (HSU.out (by rw [HOKS.out, q2]; simp))
          clear q1 q2
          go_wp2_with (first | (go_at_call 23; refine (l01Floor_any _ _ _ (by omega) (by omega) (by omega) (by omega)).mono ?_; rintro e w' ⟨rfl, rfl⟩) | (go_at_call 24; refine (l01Ceil_any _ _ _ (by omega) (by omega) (by omega) (by omega)).mono ?_; rintro e w' ⟨rfl, rfl⟩))
          go_roundw
          case rel => exact ⟨k + 1, by omega, by go_num, HS, HBD.out⟩
          case measure => simp [intOf]; omega
        · have q2b : (y != ce x g) = true := by simp [q2]
          have HS := Lib.hid (HNO.out (by rw [HOKS.out]; simp [q1, q2]))
          clear q1 q2
          go_wp2_with (first | (go_at_call 23; refine (l01Floor_any _ _ _ (by omega) (by omega) (by omega) (by omega)).mono ?_; rintro e w' ⟨rfl, rfl⟩) | (go_at_call 24; refine (l01Ceil_any _ _ _ (by omega) (by omega) (by omega) (by omega)).mono ?_; rintro e w' ⟨rfl, rfl⟩))
          go_ret
          exact ⟨ret_bool HS.out.symm, HW6.out.next HBD.out⟩
    · have HK := Lib.hid (show k = L from by omega)
      go_wp2
      go_ret
      refine ⟨ret_bool ?_, HW6.out.next hbel⟩
      symm; refine setsB_yes ?_
      rw [HTL.out, ← HK.out]; exact HA.out
end Go.Proofs.Ytjfepogmphjliab
