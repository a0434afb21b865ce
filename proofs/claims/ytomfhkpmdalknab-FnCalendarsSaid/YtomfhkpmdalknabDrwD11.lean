/- What the laws draw: a valid calendar, drawn. -/
import Derived.Test.YtomfhkpmdalknabDrwC11
import Derived.Deep.DeepCutAuto
import Derived.Deep.LoopGhost
namespace Go.Proofs.Ytomfhkpmdalknab
open Go.ChangeShapes Go.WideShapes Go.ChangeAt Go.RowKit Go.Deep
set_option linter.unusedVariables false
/-- An increasing list of numbers below j. -/
def IncTo (vs : List Int) (j : Int) : Prop := vs.Pairwise (· < ·) ∧ ∀ z ∈ vs, 0 ≤ z ∧ z < j
theorem IncTo.up {vs : List Int} {j : Int} (h : IncTo vs j) : IncTo vs (j + 1) := ⟨h.1, fun z hz => by have := h.2 z hz; omega⟩
theorem IncTo.app {vs : List Int} {j : Int} (h : IncTo vs j) (h0 : 0 ≤ j) : IncTo (vs ++ [j]) (j + 1) := by
  refine ⟨?_, fun z hz => ?_⟩
  · rw [List.pairwise_append]
    exact ⟨h.1, List.pairwise_singleton _ _, fun a ha b hb => by rw [List.mem_singleton] at hb; subst hb; exact (h.2 a ha).2⟩
  · rcases List.mem_append.1 hz with hz | hz
    · have := h.2 z hz; omega
    · rw [List.mem_singleton] at hz; subst hz; omega
theorem IncTo.nil (j : Int) : IncTo [] j := ⟨List.Pairwise.nil, fun z hz => by simp at hz⟩
theorem IncTo.ok {vs : List Int} {n : Nat} {gh : Int} (h : IncTo vs (n : Int)) (n1 : 1 ≤ n) (n2 : n ≤ 400) (h1 : 1 ≤ gh) (h2 : gh ≤ 1000) : okC (n : Int) gh vs = true := by
  unfold okC
  rw [inB_iff.2 (by omega), inB_iff.2 ⟨h1, h2⟩, inc_of_pw h.1, Bool.and_true]
  simp only [Bool.true_and, List.all_eq_true]
  intro z hz
  have := h.2 z hz
  exact inB_iff.2 (by omega)
theorem IncTo.of_pick (p : Nat → Bool) (n : Nat) : IncTo (pickL p n) (n : Int) := ⟨pickL_get, fun z hz => by obtain ⟨i, rfl, hi, _⟩ := pickL_mem.1 hz; omega⟩
theorem IncTo.len {vs : List Int} {n : Nat} (h : IncTo vs (n : Int)) (n1 : 1 ≤ n) (n2 : n ≤ 400) : vs.length ≤ 400 := by
  have := okC_len (IncTo.ok (gh := 1) h n1 n2 (by omega) (by omega)); omega
set_option maxHeartbeats 3200000 in
set_option maxRecDepth 100000 in
theorem l11DrawOk_any (wb : World) (sb : Nat) (ad : Option Addr) (cap : Nat) (zs : List Int) (w : World) (hz : Bytes wb ad zs) (kb : Keep wb w) (S0 : SrcAt w sb ad cap zs 0) (sg : wb.heap.size ≤ sb) :
    Calls Try.prog 30 #[.pointer (some ⟨sb, 0, none⟩)] w fun e w' => ∃ (n : Nat) (gh : Int) (vs : List Int) (rd : Option Addr) (rc : Nat), e = .returned (calV n gh rd vs.length rc) ∧ Own w' wb.heap.size rd rc vs ∧ okC n gh vs = true ∧ Keep wb w' := by
  obtain ⟨lo, hlo⟩ : ∃ lo, lo = w.heap.size + 1 := ⟨_, rfl⟩
  have HZ := Lib.hid (fun W (k : Keep wb W) => hz.keep k (Nat.le_refl _))
  have HZ2 := Lib.hid (fun W (k : Keep wb W) => fun W' (g : W.grownBy W' (some sb)) => hz.keep (k.grown g k.size (fun j hj => by simp at hj; omega)) (Nat.le_refl _))
  obtain ⟨w0, hw0⟩ : ∃ x, x = w.alloc (.cells #[.int .i64 0, .int .i64 0, .slice none 0 0] 27) := ⟨_, rfl⟩
  have D0 : DrC wb w0 sb w.heap.size lo ad cap zs 0 := by
    have kk : Keep w w0 := by rw [hw0]; go_grown
    exact ⟨S0.keep kk S0.lt, by rw [hw0]; exact ResC.new w _ _ _ _, Keep.next kb kk, sg, S0.lt, by omega, by rw [hw0, hlo]; simp⟩
  have HD0 := Lib.hid D0
  have HW0 := Lib.hid hw0
  have HLO := Lib.hid hlo
  clear hw0 D0 S0 kb hlo
  go_enter Try.func30, Try.ntmps30
  go_wp2_with fail
  rw [← HW0.out]
  refine (pickX_any sb ad cap zs 0 30 _ HD0.out.s (HZ.out _ HD0.out.k) (HZ2.out _ HD0.out.k) (by omega) (by omega) (by omega)).mono ?_
  rintro e w1 ⟨x1, ⟨x10, x11⟩, rfl, s1, g1, z1⟩
  have D1 := Lib.hid (HD0.out.pick s1 g1)
  clear z1 s1 g1 HD0
  go_wp2_with fail
  refine (oneX_any sb ad cap zs 2 12 _ D1.out.s (HZ.out _ D1.out.k) (by omega) (by omega) (by omega)).mono ?_
  rintro e w2 ⟨b2, rfl, s2, g2, z2⟩
  have D2 := Lib.hid (D1.out.pick s2 g2)
  clear z2 s2 g2 D1
  cases b2
  case' false =>
    obtain ⟨n, hn⟩ : ∃ n : Nat, 1 + x1 = n := ⟨(1 + x1).toNat, by omega⟩
    have hn1 : 1 ≤ n ∧ n ≤ 400 := by omega
    obtain rfl : x1 = (n : Int) - 1 := by omega
    clear hn
    go_upto_region 4 with fail
    rw [show 1 + ((n : Int) - 1) = n from by omega]
  case' true =>
    go_upto_region 4 with fail
    obtain ⟨n, hn⟩ : ∃ n : Nat, (400 : Int) = (n : Int) := ⟨400, rfl⟩
    conv => enter [4]; rw [hn]
    have hn1 : 1 ≤ n ∧ n ≤ 400 := by omega
    clear hn
  all_goals
    go_wp2_with fail
    refine (pickX_any sb ad cap zs (2 + 1) ((n : Int) + 1) _ D2.out.s (HZ.out _ D2.out.k) (HZ2.out _ D2.out.k) (by omega) (by omega) (by omega)).mono ?_
    rintro e w3 ⟨l, ⟨l0, l1⟩, rfl, s3, g3, z3⟩
    have D3 := Lib.hid (D2.out.pick s3 g3)
    clear z3 s3 g3 D2
    go_wp2_with fail
    refine (pickX_any sb ad cap zs (2 + 1 + 2) 400 _ D3.out.s (HZ.out _ D3.out.k) (HZ2.out _ D3.out.k) (by omega) (by omega) (by omega)).mono ?_
    rintro e w4 ⟨x4, ⟨x40, x41⟩, rfl, s4, g4, z4⟩
    have D4 := Lib.hid (D3.out.pick s4 g4)
    clear z4 s4 g4 D3
    obtain ⟨gh, hgh⟩ : ∃ gh, gh = 1 + x4 := ⟨_, rfl⟩
    have hg1 : 1 ≤ gh ∧ gh ≤ 400 := by omega
    obtain rfl : x4 = gh - 1 := by omega
    clear hgh x40 x41
    go_wp2_with fail
    rw [show 1 + (gh - 1) = gh from by omega]
    refine (pickX_any sb ad cap zs (2 + 1 + 2 + 2) (n : Int) _ D4.out.s (HZ.out _ D4.out.k) (HZ2.out _ D4.out.k) (by omega) (by omega) (by omega)).mono ?_
    rintro e w5 ⟨sh, ⟨h0, h1⟩, rfl, s5, g5, z5⟩
    have D5 := Lib.hid (D4.out.pick s5 g5)
    clear z5 s5 g5 D4
    go_wp2_with fail
    refine (l11Even_any n l gh sh w5 hn1.1 hn1.2 l0 (by omega) h0 (by omega)).mono ?_
    rintro e w6 ⟨rd, rc, rfl, o6, k6⟩
    have D6 := Lib.hid (D5.out.keep k6)
    have HO6 := Lib.hid (o6.mono D5.out.ll)
    have HI6 := Lib.hid (IncTo.of_pick (evP l n sh) n)
    have hl6 := IncTo.len HI6.out hn1.1 hn1.2
    generalize pickL (evP l n sh) n = L at *
    have HNE : Hid (∀ a, rd = some a → a.block < w6.heap.size) := Lib.hid (fun a ha => by
      rcases own_block HO6.out.1 with ⟨e, _⟩ | ⟨k, e, _, h2, _⟩
      · rw [e] at ha; cases ha
      · rw [e] at ha; cases ha; exact h2)
    clear o6 k6 D5
    go_wp2_with fail
    have E7 : DrD wb (w6.alloc (.cells #[.int .i64 (n : Nat), .int .i64 gh, .slice rd L.length rc] 27)) sb w.heap.size lo ad cap zs (2 + 1 + 2 + 2 + 2) w6.heap.size n gh rd rc L :=
      ⟨D6.out.keep (by go_grown), ResC.new _ _ _ _ _, HO6.out.keep (by go_grown), D6.out.ll, fun a ha => by have := HNE.out a ha; omega⟩
    have HE7 := Lib.hid E7
    clear E7 HNE HO6 D6
    generalize w6.alloc (.cells #[.int .i64 (n : Nat), .int .i64 gh, .slice rd L.length rc] 27) = w7 at *
    refine (oneX_any sb ad cap zs _ 3 _ HE7.out.d.s (HZ.out _ HE7.out.d.k) (by omega) (by omega) (by omega)).mono ?_
    rintro e w8 ⟨b8, rfl, s8, g8, z8⟩
    have HE8 := Lib.hid (HE7.out.pick s8 g8)
    clear z8 s8 g8 HE7
    cases b8
    · obtain ⟨c0, c1, c2, _, _, _⟩ := HE8.out.q
      obtain ⟨r0, r1, r2, q0, q1, q2⟩ := HE8.out.d.r
      have HF := Lib.hid (HE8.out.fin (.int .i64 (n : Nat)) (.int .i64 gh) (.slice rd L.length rc))
      have HOK := Lib.hid (HI6.out.ok (gh := gh) hn1.1 hn1.2 (by omega) (by omega))
      go_wp2
      refine bodyPost_ret (v := calV (n : Nat) gh rd L.length rc) (by simp [results, Try.results30, go_sem, HF.out.1.c0, HF.out.1.c1, HF.out.1.c2]) rfl ?_
      exact ⟨n, gh, L, rd, rc, rfl, HF.out.2.1, HOK.out, HF.out.2.2⟩
    · have E9 := Lib.hid HE8.out.reset
      obtain ⟨c0, c1, c2, f0, f1, f2⟩ := HE8.out.q
      clear HI6 hl6
      have hs8 : lo ≤ w8.heap.size := HE8.out.d.ll
      have hb8 : w6.heap.size < w8.heap.size := HE8.out.q.lt
      have c2a : ∀ X, (w8.alloc X).cell? ⟨w6.heap.size, 2, none⟩ = some (.slice rd L.length rc) := fun X => (HE8.out.q.keep (show Keep w8 (w8.alloc X) by go_grown) HE8.out.q.lt).c2
      have f2a : ∀ X, (w8.alloc X).frozen? ⟨w6.heap.size, 2, none⟩ = false := fun X => (HE8.out.q.keep (show Keep w8 (w8.alloc X) by go_grown) HE8.out.q.lt).f2
      clear HE8
      go_wp2_with fail
      clear c0 c1 c2 f0 f1 f2 c2a f2a
      generalize (w8.setCell ⟨w6.heap.size, 2, none⟩ (.slice (some ⟨w8.heap.size, 0, none⟩) 0 0)).alloc (.cells #[] 2) = w9 at *
      refine (pickX_any sb ad cap zs _ 3 _ E9.out.d.s (HZ.out _ E9.out.d.k) (HZ2.out _ E9.out.d.k) (by omega) (by omega) (by omega)).mono ?_
      rintro e w10 ⟨x10, ⟨x100, x101⟩, rfl, s10, g10, z10⟩
      have E10 := Lib.hid ((E9.out.pick s10 g10).more (show _ ≤ 50 by omega))
      clear z10 s10 g10 E9
      obtain ⟨t, ht⟩ : ∃ t, t = 2 + x10 := ⟨_, rfl⟩
      have ht1 : 2 ≤ t ∧ t ≤ 4 := by omega
      obtain rfl : x10 = t - 2 := by omega
      clear ht x100 x101
      go_upto_region 10 with fail
      rw [show 2 + (t - 2) = t from by omega]
      go_wp2
      go_loopg [8] n (fun kk i wr => ∃ (j : Nat) (vs : List Int) (rd : Option Addr) (rc : Nat), j ≤ n ∧ kk = n - j ∧ i = .int .i64 j ∧ Hid (DrD wb wr sb w.heap.size lo ad cap zs (50 + j) w6.heap.size n gh rd rc vs) ∧ Hid (IncTo vs (j : Int)))
      case atStart => exact ⟨0, [], _, _, by omega, rfl, rfl, E10, Lib.hid (IncTo.nil _)⟩
      case round =>
        obtain ⟨j, vs, rd2, rc2, hj, rfl, rfl, HG, HI⟩ := hrel
        by_cases hlt : j < n
        · have hle : (j : Int) < (n : Int) := by omega
          have HON := Lib.hid (oneX_any sb ad cap zs (50 + j) t wr HG.out.d.s (HZ.out _ HG.out.d.k) (by omega) (by omega) (by omega))
          go_wp2_with fail
          refine HON.out.mono ?_
          rintro e w11 ⟨b11, rfl, s11, g11, z11⟩
          have HG2 := Lib.hid (HG.out.pick s11 g11)
          clear z11 s11 g11 HON HG
          cases b11
          · go_wp2
            go_roundg (n - (j + 1))
            case measure => omega
            case rel => exact ⟨j + 1, vs, rd2, rc2, by omega, rfl, by go_num, Lib.hid (HG2.out.more (by omega)), Lib.hid (by have h := HI.out.up; rwa [show (j : Int) + 1 = ((j + 1 : Nat) : Int) from by omega] at h)⟩
          · have HI2 : Hid (IncTo (vs ++ [(j : Int)]) ((j + 1 : Nat) : Int)) := Lib.hid (by have h := HI.out.app (by omega); rwa [show (j : Int) + 1 = ((j + 1 : Nat) : Int) from by omega] at h)
            have hvl := IncTo.len (vs := vs) (n := n) ⟨HI.out.1, fun z hz => by have := HI.out.2 z hz; omega⟩ hn1.1 hn1.2
            have c2 := HG2.out.q.c2
            have hws := HG2.out.d.ll
            have hbl := HG2.out.q.lt
            obtain ⟨m, hm⟩ : ∃ m, m = vs.length := ⟨_, rfl⟩
            rw [← hm] at c2
            have HM := Lib.hid hm
            clear hm HI
            go_wp2_with (refine list_app2 (by rfl) _ _ (by rfl) lo rd2 rc2 m vs (j : Int) (by rfl) (HG2.out.o.keep (by go_grown)) HM.out w11.heap.size (by rfl) (by simp) ⟨by omega, by omega⟩ (by have := HM.out; omega) (by simp; omega) ?_; intro g3 cap3 w12 hown3 hgr3 hat3 hlt3; obtain ⟨⟨h1c, h1f⟩, hg3⟩ := (HG2.out.keep (W' := w11.alloc (.cells #[.int .i64 (j : Nat)] 2)) (by go_grown)).app hown3 (by rw [← HM.out]; exact hgr3) (by simpa using hat3); rw [← HM.out] at h1c hg3; have HG3 := Lib.hid hg3; clear hown3 hgr3 hat3 hg3)
            go_roundg (n - (j + 1))
            case measure => omega
            case rel => exact ⟨j + 1, _, _, _, by omega, rfl, by go_num, Lib.hid (HG3.out.more (by omega)), HI2⟩
        · obtain rfl : j = n := by omega
          have hle : ¬ (j : Int) < (j : Int) := by omega
          obtain ⟨c0, c1, c2, _, _, _⟩ := HG.out.q
          obtain ⟨r0, r1, r2, q0, q1, q2⟩ := HG.out.d.r
          have HF := Lib.hid (HG.out.fin (.int .i64 (j : Nat)) (.int .i64 gh) (.slice rd2 vs.length rc2))
          have HOK := Lib.hid (HI.out.ok (gh := gh) hn1.1 hn1.2 (by omega) (by omega))
          have hvl := IncTo.len HI.out hn1.1 hn1.2
          go_wp2
          refine bodyPost_ret (v := calV (j : Nat) gh rd2 vs.length rc2) (by simp [results, Try.results30, go_sem, HF.out.1.c0, HF.out.1.c1, HF.out.1.c2]) rfl ?_
          exact ⟨j, gh, vs, rd2, rc2, rfl, HF.out.2.1, HOK.out, HF.out.2.2⟩
end Go.Proofs.Ytomfhkpmdalknab
