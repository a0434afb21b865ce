/- Doubly even rows: the program's look at them. -/
import Derived.Test.YtgpnlnmljeahdabDbl6
import Derived.Test.YtgpnlnmljeahdabSumI
import Derived.Test.YtgpnlnmljeahdabCat6
import Derived.Test.YtgpnlnmljeahdabReg
namespace Go.Proofs.Ytgpnlnmljeahdab
open Go.ChangeShapes Go.WideShapes Go.ChangeAt Go.RowKit Go.Deep
set_option linter.unusedVariables false
theorem dbl_all (n : Nat) (zss : List (List Int)) : zss.all (dblRow n) = (List.range zss.length).all (fun k => dblRow n (zss.getD k [])) := by
  rw [Bool.eq_iff_iff]
  simp only [List.all_eq_true, List.mem_range]
  constructor
  · intro h k hk
    rw [getDD_get zss k hk]; exact h _ (List.getElem_mem hk)
  · intro h x hx
    obtain ⟨k, hk, rfl⟩ := List.getElem_of_mem hx
    rw [← getDD_get zss k hk]; exact h k hk
theorem own_cap {w : World} {B : Nat} {ad : Option Addr} {cap : Nat} {zs : List Int} (h : Own w B ad cap zs) : zs.length ≤ cap := by
  rcases own_block h.1 with ⟨_, h0, _⟩ | ⟨g, _, _, _, hcc⟩
  · omega
  · exact hcc
theorem intss_two {W : World} {A C : List Int} {ra rc : Option Addr} {ca cc T : Nat} (hA : Ints W ra A) (hC : Ints W rc C) (h1 : A.length ≤ ca) (h2 : C.length ≤ cc) :
    Intss (W.alloc (.cells #[.slice ra A.length ca, .slice rc C.length cc] T)) (some ⟨W.heap.size, 0, none⟩) [A, C] := by
  have k : Keep W (W.alloc (.cells #[.slice ra A.length ca, .slice rc C.length cc] T)) := by go_grown
  refine ⟨by simp, .inr ⟨W.heap.size, 0, rfl, by simp, fun i hi => ?_⟩⟩
  have hi2 : i < 2 := hi
  rcases (show i = 0 ∨ i = 1 by omega) with rfl | rfl
  · exact ⟨ra, ca, by simp, h1, hA.keep k (Nat.le_refl _)⟩
  · exact ⟨rc, cc, by simp, h2, hC.keep k (Nat.le_refl _)⟩
/-- The least and the greatest sum are the same just where all of them are. -/
theorem dbl_same {zss : List (List Int)} {mn mx : Int} (h1 : 1 ≤ zss.length) (a1 : mn ∈ sumsL zss ++ downL zss.length zss) (a2 : ∀ x ∈ sumsL zss ++ downL zss.length zss, mn ≤ x) (b1 : mx ∈ sumsL zss ++ downL zss.length zss) (b2 : ∀ x ∈ sumsL zss ++ downL zss.length zss, x ≤ mx) :
    (decide (mn = mx) && decide (0 < (sumsL zss ++ downL zss.length zss).getD 0 0)) = ((List.range zss.length).all (dblCol zss.length zss) && decide (0 < (downL zss.length zss).getD 0 0)) := by
  have hd : (downL zss.length zss).length = zss.length := by simp [downL, downT]
  have hsl : (sumsL zss).length = zss.length := by simp [sumsL]
  have hrow : ∀ k, k < zss.length → (zss.getD k []).sum ∈ sumsL zss := fun k hk => by
    rw [getDD_get zss k hk]; exact List.mem_map.2 ⟨_, List.getElem_mem hk, rfl⟩
  have hcol : ∀ k, k < zss.length → (downL zss.length zss).getD k 0 ∈ downL zss.length zss := fun k hk => getD_mem _ k (by omega)
  have h0 : (sumsL zss ++ downL zss.length zss).getD 0 0 = (zss.getD 0 []).sum := by
    rw [getD_get _ 0 (by simp; omega), List.getElem_append_left (by omega), getDD_get zss 0 h1]
    simp [sumsL]
  rw [h0, Bool.eq_iff_iff]
  simp only [Bool.and_eq_true, decide_eq_true_eq, List.all_eq_true, List.mem_range, dblCol]
  constructor
  · rintro ⟨hm, hp⟩
    have hall : ∀ x ∈ sumsL zss ++ downL zss.length zss, x = mn := fun x hx => by have := a2 x hx; have := b2 x hx; omega
    have e1 : ∀ k, k < zss.length → (zss.getD k []).sum = mn := fun k hk => hall _ (List.mem_append_left _ (hrow k hk))
    have e2 : ∀ k, k < zss.length → (downL zss.length zss).getD k 0 = mn := fun k hk => hall _ (List.mem_append_right _ (hcol k hk))
    refine ⟨fun k hk => ⟨by rw [e1 k hk, e2 0 h1], by rw [e2 k hk, e2 0 h1]⟩, ?_⟩
    rw [e2 0 h1, ← e1 0 h1]; exact hp
  · rintro ⟨hc, hp⟩
    have hall : ∀ x ∈ sumsL zss ++ downL zss.length zss, x = (downL zss.length zss).getD 0 0 := fun x hx => by
      rcases List.mem_append.1 hx with hx | hx
      · obtain ⟨z, hz, rfl⟩ := List.mem_map.1 hx
        obtain ⟨k, hk, rfl⟩ := List.getElem_of_mem hz
        have := (hc k hk).1
        rwa [getDD_get zss k hk] at this
      · obtain ⟨k, hk, rfl⟩ := List.getElem_of_mem hx
        have := (hc k (by omega)).2
        rwa [getD_get _ k hk] at this
    exact ⟨by rw [hall mn a1, hall mx b1], by rw [(hc 0 h1).1]; exact hp⟩
theorem otherRow_any (n vb : Nat) (ad : Option Addr) (cap : Nat) (p : Option Addr) (d : Nat) (ls : List Int) (w : World) (hl : Ints w p ls) (c0 : w.cell? ⟨vb, 0, none⟩ = some (.slice ad n cap)) (hn : n ≤ 6) :
    Calls Try.prog 19 #[.slice p ls.length d, .pointer (some ⟨vb, 0, none⟩)] w fun e w' => e = .returned (.bool (!dblRow n ls)) ∧ Keep w w' := by
  have hs := hl.small
  by_cases h : ls.length = n
  · have hne : ((ls.length : Int) != (n : Int)) = false := by simp; omega
    have HR : Hid (dblRow n ls = ls.all fun x => inB x 0 1000) := Lib.hid (by unfold dblRow shB; rw [decide_eq_true h, Bool.true_and])
    clear h
    go_enter Try.func19, Try.ntmps19
    go_wp2_with fail
    refine (areUpTo_any 1000 p d ls _ hl).mono ?_
    rintro e w' ⟨rfl, k1⟩
    go_wp2
    go_ret
    exact ⟨ret_bool (by rw [HR.out]), k1⟩
  · have hne : ((ls.length : Int) != (n : Int)) = true := by simp; omega
    have HR : Hid (dblRow n ls = false) := Lib.hid (by unfold dblRow; rw [decide_eq_false h, Bool.false_and])
    go_enter Try.func19, Try.ntmps19
    go_wp2
    go_ret
    exact ⟨ret_bool (by rw [HR.out]; rfl), Below.refl _ _⟩
set_option maxHeartbeats 800000 in
theorem idxOtherRow_any (n vb : Nat) (rd : Option Addr) (rc : Nat) (ad : Option Addr) (cap : Nat) (zss : List (List Int)) (w : World) (hz : Intss w ad zss) (c0 : w.cell? ⟨vb, 0, none⟩ = some (.slice rd n rc)) (hn : n ≤ 6) :
    Calls Try.prog 44 #[.slice ad zss.length cap, .func (.func 19) #[] #[.pointer (some ⟨vb, 0, none⟩)]] w fun e w' =>
      (∃ r, e = .returned (.int .i64 r) ∧ idxOk (fun z => !dblRow n z) zss r) ∧ Keep w w' := by
  have hs := hz.small
  have hvb : vb < w.heap.size := World.block_lt_of_cell? _ _ c0
  go_enter Try.func44, Try.ntmps44
  go_wp2
  go_loopw [5, 8] (fun _ i wr => ∃ k : Nat, k ≤ zss.length ∧ i = .int .i64 k ∧ Hid ((zss.take k).any (fun z => !dblRow n z) = false) ∧ Hid (Keep w wr)) (fun _ i _ => zss.length - (intOf i).toNat)
  case atStart => exact ⟨0, Nat.zero_le _, rfl, Lib.hid (by simp), Lib.hid (Below.refl _ _)⟩
  case round =>
    obtain ⟨k, hk, rfl, HA, HK⟩ := hrel
    by_cases hlt : k < zss.length
    · rcases (hz.keep HK.out (Nat.le_refl _)).at_ with h | ⟨b, off, rfl, hb, hc⟩
      · subst h; simp at hlt
      obtain ⟨p, d, hcx, hd, hi⟩ := hc k hlt
      have e0 := (HK.out.cell (p := ⟨vb, 0, none⟩) (by exact hvb)).trans c0
      have HS := Lib.hid (any_take_succ (fun z => !dblRow n z) zss k [] hlt)
      have HN := Lib.hid (fun h => any_no (p := fun z => !dblRow n z) [] hlt h)
      have HC := Lib.hid (otherRow_any n vb rd rc p d (zss.getD k []) wr hi e0 hn)
      clear hc hi
      generalize zss.getD k [] = x at *
      cases hin : dblRow n x
      · have HR := Lib.hid (HN.out (by rw [hin]; rfl))
        rw [hin] at HC
        go_wp2_with (go_at_call 19; refine HC.out.mono ?_; rintro e w' ⟨rfl, k1⟩)
        go_ret
        exact ⟨⟨_, rfl, by omega, by omega, by rw [HR.out]; simp⟩, HK.out.next k1⟩
      · rw [hin] at HC
        go_wp2_with (go_at_call 19; refine HC.out.mono ?_; rintro e w' ⟨rfl, k1⟩)
        go_roundw
        case rel => exact ⟨k + 1, by omega, by go_num, Lib.hid (by rw [HS.out, HA.out, hin]; rfl), Lib.hid (HK.out.next k1)⟩
        case measure => simp [intOf]; omega
    · have HE := Lib.hid (show k = zss.length by omega)
      go_wp2
      go_ret
      have h := HA.out
      rw [HE.out, List.take_length] at h
      exact ⟨⟨-1, rfl, by omega, by omega, by rw [h]; rfl⟩, HK.out⟩
theorem hasOtherRow_any (n vb : Nat) (rd : Option Addr) (rc : Nat) (ad : Option Addr) (cap : Nat) (zss : List (List Int)) (w : World) (hz : Intss w ad zss) (c0 : w.cell? ⟨vb, 0, none⟩ = some (.slice rd n rc)) (hn : n ≤ 6) :
    Calls Try.prog 21 #[.slice ad zss.length cap, .func (.func 19) #[] #[.pointer (some ⟨vb, 0, none⟩)]] w fun e w' =>
      e = .returned (.bool (!(List.range zss.length).all (fun k => dblRow n (zss.getD k [])))) ∧ Keep w w' := by
  go_enter Try.func21, Try.ntmps21
  go_wp2_with fail
  refine (idxOtherRow_any n vb rd rc ad cap zss _ hz c0 hn).mono ?_
  rintro e w' ⟨⟨r, rfl, h1, h2, h3⟩, k1⟩
  rw [not_any, dbl_all] at h3
  have H3 := Lib.hid h3; clear h3
  go_wp2
  go_ret
  exact ⟨ret_bool H3.out, k1⟩
theorem Concat_two (W : World) (A C : List Int) (ra : Option Addr) (ca : Nat) (rb : Option Addr) (cb T : Nat) (hA : Ints W ra A) (hC : Ints W rb C) (h1 : A.length ≤ ca) (h2 : C.length ≤ cb) (h3 : 1 ≤ A.length + C.length) (h4 : A.length + C.length ≤ 1048576) :
    Calls Try.prog 22 #[.slice (some ⟨W.heap.size, 0, none⟩) 2 2] (W.alloc (.cells #[.slice ra A.length ca, .slice rb C.length cb] T)) fun e w' => ∃ rd rc, e = .returned (.slice rd (A ++ C).length rc) ∧ Own w' W.heap.size rd rc (A ++ C) ∧ Keep W w' := by
  have h := Concat_any (some ⟨W.heap.size, 0, none⟩) 2 [A, C] _ (intss_two (T := T) hA hC h1 h2) (by simp only [tot]; omega) (by simp only [tot]; omega)
  refine h.mono ?_
  rintro e w' ⟨rd, rc, rfl, o, k⟩
  have e1 : [A, C].flatten = A ++ C := by simp
  rw [e1] at o ⊢
  exact ⟨rd, rc, rfl, o.mono (by simp), Keep.next (by go_grown) k⟩
set_option maxHeartbeats 3200000 in
set_option maxRecDepth 100000 in
theorem IsDoubly_any (ad : Option Addr) (cap : Nat) (zss : List (List Int)) (w : World) (hz : Intss w ad zss) :
    Calls Try.prog 8 #[.slice ad zss.length cap] w fun e w' => e = .returned (.bool (dblB zss)) ∧ Keep w w' := by
  have hlen := hz.small
  cases h1 : inB (zss.length : Int) 1 6
  · rw [show dblB zss = false from by unfold dblB; rw [h1]; rfl]
    have hn := inB_not.1 h1
    by_cases h0 : (zss.length : Int) < 1
    · go_enter Try.func8, Try.ntmps8
      go_wp2
      go_ret
      exact ⟨rfl, by go_grown⟩
    · have h6 : 6 < (zss.length : Int) := by omega
      go_enter Try.func8, Try.ntmps8
      go_wp2
      go_ret
      exact ⟨rfl, by go_grown⟩
  have hn := inB_iff.1 h1
  have hn6 : zss.length ≤ 6 := by omega
  have hn1 : 1 ≤ zss.length := by omega
  have HZ := Lib.hid hz
  have HH := Lib.hid (hasOtherRow_any zss.length w.heap.size ad cap ad cap zss (w.alloc (.cells #[.slice ad zss.length cap] 22)) (hz.keep (B := w.heap.size) (by go_grown) (Nat.le_refl _)) (by simp) hn6)
  cases h2 : (List.range zss.length).all (fun k => dblRow zss.length (zss.getD k []))
  · rw [show dblB zss = false from by unfold dblB; rw [h2]; simp]
    rw [h2] at HH
    clear hz
    go_enter Try.func8, Try.ntmps8
    go_wp2_with fail
    refine HH.out.mono ?_
    rintro e w1 ⟨rfl, k1⟩
    have g1 : Keep w w1 := Keep.next (by go_grown) k1
    go_wp2
    go_ret
    exact ⟨rfl, g1⟩
  have HRW := Lib.hid (fun k (hk : k < zss.length) => dbl_row h2 hk)
  have HEQ : Hid (dblB zss = ((List.range zss.length).all (dblCol zss.length zss) && decide (0 < (downL zss.length zss).getD 0 0))) := Lib.hid (by unfold dblB; rw [h1, h2]; rfl)
  rw [h2] at HH
  rw [HEQ.out]
  have HRS := Lib.hid (fun W (k : Keep w W) => rowSums_any ad cap zss W (HZ.out.keep k (Nat.le_refl _)) (by omega) (fun k hk => ⟨by rw [(HRW.out k hk).1]; omega, fun x hx => by have := (HRW.out k hk).2 x hx; omega⟩))
  have HCS := Lib.hid (fun W (k : Keep w W) => columnSums_any ad cap zss zss.length W (HZ.out.keep k (Nat.le_refl _)) hn1 (by omega) (by omega) (fun k hk => ⟨(HRW.out k hk).1, fun x hx => by have := (HRW.out k hk).2 x hx; omega⟩))
  have HSA := Lib.hid (fun mn mx => dbl_same (zss := zss) (mn := mn) (mx := mx) hn1)
  have hSl : (sumsL zss ++ downL zss.length zss).length = zss.length + zss.length := by simp [sumsL, downL, downT]
  have hAl : (sumsL zss).length = zss.length := by simp [sumsL]
  have hCl : (downL zss.length zss).length = zss.length := by simp [downL, downT]
  have HAl := Lib.hid hAl; have HCl := Lib.hid hCl; have HSl := Lib.hid hSl
  have HBX := Lib.hid (show (w.alloc (.cells #[.slice ad zss.length cap] 22)).cell? ⟨w.heap.size, 0, none⟩ = some (.slice ad zss.length cap) by simp)
  have HBS := Lib.hid (show w.heap.size < (w.alloc (.cells #[.slice ad zss.length cap] 22)).heap.size by simp)
  clear h1 h2 hz hSl hAl hCl HEQ
  generalize sumsL zss = A at *
  generalize downL zss.length zss = C at *
  go_enter Try.func8, Try.ntmps8
  go_wp2_with fail
  refine HH.out.mono ?_
  rintro e w1 ⟨rfl, k1⟩
  have g1 := Lib.hid (show Keep w w1 from Keep.next (by go_grown) k1)
  have e0 := (k1.cell (p := ⟨w.heap.size, 0, none⟩) (by exact HBS.out)).trans HBX.out
  have hb1 : w.heap.size < w1.heap.size := Nat.lt_of_lt_of_le HBS.out k1.size
  clear k1
  have HAC1 : Hid (1 ≤ A.length + C.length) := Lib.hid (by rw [HAl.out, HCl.out]; omega)
  have HAC2 : Hid (A.length + C.length ≤ 1048576) := Lib.hid (by rw [HAl.out, HCl.out]; omega)
  obtain ⟨S, hS⟩ : ∃ S, S = A ++ C := ⟨_, rfl⟩
  have HSE := Lib.hid hS
  have HSB := Lib.hid HSA.out
  rw [← hS] at HSB HSl
  clear hS HSA
  go_upto_region 6 with fail
  go_cut [4] (fun s4 wx => ∃ rd rc, s4 = .slice rd S.length rc ∧ Hid (Own wx w.heap.size rd rc S) ∧ Hid (Keep w wx))
  case first =>
    have HX := Lib.hid (fun W (k : Keep w1 W) => (k.cell (p := ⟨w.heap.size, 0, none⟩) (by exact hb1)).trans e0)
    go_region_law
      (first
        | (refine at_fn 23 _ _ rfl ?_; go_simp
           refine (HRS.out _ (g1.out.next (by go_grown))).mono ?_; rintro e w6 ⟨ra, ca, rfl, o6, k6⟩
           have K6 := Lib.hid (show Keep w1 w6 from Keep.next (by go_grown) k6)
           have HO6 := Lib.hid o6
           have c6 := HX.out w6 K6.out
           clear o6)
        | (refine at_fn 24 _ _ rfl ?_; go_simp
           refine (HCS.out _ (g1.out.next (K6.out.next (by go_grown)))).mono ?_; rintro e w7 ⟨rb, cb, rfl, o7, k7⟩
           have K7 := Lib.hid (show Keep w1 w7 from K6.out.next (Keep.next (by go_grown) k7))
           have HO7 := Lib.hid o7
           have c7 := HX.out w7 K7.out
           clear o7)
        | (refine at_fn 22 _ _ rfl ?_; go_simp
           refine (Concat_two w7 A C ra ca rb cb 27 (HO6.out.keep k7).ints HO7.out.ints (own_cap HO6.out) (own_cap HO7.out) HAC1.out HAC2.out).mono ?_; rintro e w8 ⟨rd, rc, rfl, o8, k8⟩
           have K8 := Lib.hid (show Keep w1 w8 from K7.out.next k8)
           have HO8 := Lib.hid (o8.mono (B' := w.heap.size) (g1.out.next K7.out).size)
           clear o8))
    all_goals go_wp2_with fail
    all_goals go_meet
    all_goals exact ⟨rd, rc, by rw [HSE.out]; simp, by rw [HSE.out]; exact HO8, Lib.hid (g1.out.next K8.out)⟩
  case rest =>
    obtain ⟨rd, rc, rfl, HO, HK⟩ := hcut
    have hI := HO.out.ints
    have hl1 : 1 ≤ S.length := by rw [HSl.out]; omega
    have h0g : 0 < S.length := by omega
    have hsm := hI.small
    rcases hI.at_ with h | ⟨b, off, rfl, hb, hc⟩
    · rw [h] at h0g; simp at h0g
    have hc0 := hc 0 h0g
    rw [Nat.add_zero] at hc0
    have HI := Lib.hid hI
    clear hc hI
    go_wp2_with fail
    refine (Min_any _ rc S _ HI.out hl1).mono ?_
    rintro e w3 ⟨⟨mn, rfl, a1, a2⟩, rfl⟩
    have HA1 := Lib.hid a1; have HA2 := Lib.hid a2
    clear a1 a2
    go_wp2_with fail
    refine (Max_any _ rc S _ HI.out hl1).mono ?_
    rintro e w3 ⟨⟨mx, rfl, b1, b2⟩, rfl⟩
    have HV := Lib.hid (HSB.out mn mx HA1.out HA2.out b1 b2)
    clear b1 b2
    generalize S.getD 0 0 = s0 at *
    by_cases hq : mn = mx
    · have hq1 : (mn == mx) = true := by simp [hq]
      go_wp2
      go_ret
      exact ⟨ret_bool (by rw [← HV.out, decide_eq_true hq, Bool.true_and]), HK.out⟩
    · have hq1 : (mn == mx) = false := by simp [hq]
      go_wp2
      go_ret
      exact ⟨ret_bool (by rw [← HV.out, decide_eq_false hq, Bool.false_and]), HK.out⟩
end Go.Proofs.Ytgpnlnmljeahdab
