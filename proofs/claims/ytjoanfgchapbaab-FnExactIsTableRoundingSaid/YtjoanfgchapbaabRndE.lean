/- Table roundings, element by element: the program's side. -/
import Derived.Test.YtjoanfgchapbaabSumI
import Derived.Test.YtjoanfgchapbaabRnd5
import Derived.Test.YtjoanfgchapbaabErrs
namespace Go.Proofs.Ytjoanfgchapbaab
open Go.ChangeShapes Go.WideShapes Go.ChangeAt Go.RowKit Go.Deep
set_option linter.unusedVariables false
theorem tab_okV {g : Int} {zss : List (List Int)} (h : tabB g zss = true) {k : Nat} (hk : k < zss.length) : okV g (zss.getD k []) = true := by
  have hs := tab_size h
  have hr := tab_rows h k hk
  unfold okV listOk allIn
  simp only [Bool.and_eq_true, decide_eq_true_eq, List.all_eq_true]
  exact ⟨inB_iff.2 hs.1, by omega, fun x hx => inB_iff.2 (hr.2 x hx)⟩
theorem okV_of {g : Int} {zs : List Int} (hg : 1 ≤ g ∧ g ≤ 1000) (hl : zs.length ≤ 40) (hb : ∀ z ∈ zs, -1000000 ≤ z ∧ z ≤ 1000000) : okV g zs = true := by
  unfold okV listOk allIn
  simp only [Bool.and_eq_true, decide_eq_true_eq, List.all_eq_true]
  exact ⟨inB_iff.2 hg, hl, fun x hx => inB_iff.2 (hb x hx)⟩
theorem rB_iff (g n x : Int) : rB g n x = true ↔ n = fl x g ∨ n = ce x g := by simp [rB]
theorem rnd_pr {g : Int} {zs ls : List Int} (h : okV g zs = true) (hl : ls.length = zs.length) : rndB g zs ls = prB g zs ls := by
  unfold rndB prB
  rw [h, decide_eq_true hl, Bool.true_and, Bool.true_and, Bool.eq_iff_iff, decide_eq_true_eq, List.all_eq_true]
  constructor
  · intro q i hi
    rw [List.mem_range] at hi
    exact (rB_iff _ _ _).2 (q i (by omega))
  · intro q i hi
    exact (rB_iff _ _ _).1 (q i (List.mem_range.2 (by omega)))
theorem rnd_el {g : Int} {zs ls : List Int} (h : okV g zs = true) : rndB g zs ls = elR g zs ls := by
  by_cases hl : ls.length = zs.length
  · rw [rnd_pr h hl]; unfold prB elR; rw [decide_eq_true hl, Bool.true_and, hl]
  · unfold rndB elR; rw [decide_eq_false hl]; simp
theorem ce_fl5 {a b : Int} (hb : 1 ≤ b) : fl a b ≤ ce a b ∧ ce a b ≤ fl a b + 1 := by
  have h1 := fl_mul (a := a) hb
  have h2 := fl_mul (a := -a) hb
  rw [ce_eq]
  generalize fl a b = x at *
  generalize fl (-a) b = y at *
  have h3 : b * (x + y) ≤ 0 := by rw [Int.mul_add]; omega
  have h4 : -(2 * b) < b * (x + y) := by rw [Int.mul_add]; omega
  have h5 : x + y ≤ 0 := by
    by_cases h : x + y ≤ 0
    · exact h
    · have : b * 1 ≤ b * (x + y) := Int.mul_le_mul_of_nonneg_left (by omega) (by omega)
      omega
  have h6 : -2 < x + y := by
    by_cases h : -2 < x + y
    · exact h
    · have : b * (x + y) ≤ b * (-2) := Int.mul_le_mul_of_nonneg_left (by omega) (by omega)
      omega
  omega
theorem in_rB {g n x : Int} (hg : 1 ≤ g) : inB n (fl x g) (ce x g) = rB g n x := by
  have := ce_fl5 (a := x) hg
  unfold rB inB
  generalize fl x g = y at *
  generalize ce x g = z at *
  by_cases h1 : y ≤ n <;> by_cases h2 : n ≤ z <;> by_cases h3 : n = y <;> by_cases h4 : n = z <;> simp [h1, h2, h3, h4] <;> omega
theorem elRow_any (g : Int) (vb : Nat) (ad : Option Addr) (cap : Nat) (zs : List Int) (bd : Option Addr) (bcap : Nat) (ls : List Int) (w : World) (hz : Ints w ad zs) (hl : Ints w bd ls) (c0 : w.cell? ⟨vb, 0, none⟩ = some (.int .i64 g)) :
    Calls Try.prog 134 #[.slice ad zs.length cap, .slice bd ls.length bcap, .pointer (some ⟨vb, 0, none⟩)] w fun e w' => e = .returned (.bool (rndB g zs ls)) ∧ Keep w w' := by
  have HI := Lib.hid (IsRounding_any g ad cap zs bd bcap ls w hz hl)
  go_enter Try.func134, Try.ntmps134
  go_wp2_with fail
  refine HI.out.mono ?_
  rintro e w1 ⟨rfl, k1⟩
  go_wp2
  go_ret
  exact ⟨rfl, k1⟩
set_option maxHeartbeats 1600000 in
theorem elAll_any (g : Int) (vb : Nat) (ad : Option Addr) (cap : Nat) (zss : List (List Int)) (rd : Option Addr) (rc : Nat) (rss : List (List Int)) (w : World) (hz : Intss w ad zss) (hr : Intss w rd rss) (hv : tabB g zss = true) (c0 : w.cell? ⟨vb, 0, none⟩ = some (.int .i64 g)) :
    Calls Try.prog 133 #[.slice ad zss.length cap, .slice rd rss.length rc, .func (.func 134) #[] #[.pointer (some ⟨vb, 0, none⟩)]] w fun e w' => e = .returned (.bool (elB g zss rss)) ∧ Keep w w' := by
  have hlen := hz.small
  have hlen2 := hr.small
  have hvb : vb < w.heap.size := World.block_lt_of_cell? _ _ c0
  by_cases hl : rss.length = zss.length
  case neg =>
    have hne : ((zss.length : Int) != (rss.length : Int)) = true := by simp; omega
    have HR : Hid (elB g zss rss = false) := Lib.hid (by unfold elB; rw [decide_eq_false hl, Bool.false_and])
    go_enter Try.func133, Try.ntmps133
    go_wp2
    go_ret
    exact ⟨ret_bool HR.out.symm, Below.refl _ _⟩
  have hne : ((zss.length : Int) != (rss.length : Int)) = false := by simp; omega
  have HL := Lib.hid hl; clear hl
  have HEQ : Hid (elB g zss rss = (List.range rss.length).all fun i => elR g (zss.getD i []) (rss.getD i [])) := Lib.hid (by unfold elB; rw [decide_eq_true HL.out, Bool.true_and])
  rw [HEQ.out]
  have HOK := Lib.hid (fun k hk => tab_okV hv (k := k) hk)
  go_enter Try.func133, Try.ntmps133
  go_wp2
  go_loopw [7, 8, 9, 17] (fun _ _ _ i wr => ∃ k : Nat, k ≤ zss.length ∧ i = .int .i64 k ∧ Hid ((List.range k).all (fun i => elR g (zss.getD i []) (rss.getD i [])) = true) ∧ Hid (Keep w wr)) (fun _ _ _ i _ => zss.length - (intOf i).toNat)
  case atStart => exact ⟨0, Nat.zero_le _, rfl, Lib.hid (by simp), Lib.hid (Below.refl _ _)⟩
  case round =>
    obtain ⟨k, hk, rfl, HA, HK⟩ := hrel
    by_cases hlt : k < zss.length
    · have hlr : k < rss.length := by have := HL.out; omega
      rcases (hz.keep HK.out (Nat.le_refl _)).at_ with h | ⟨b, off, rfl, hb, hc⟩
      · subst h; simp at hlt
      rcases (hr.keep HK.out (Nat.le_refl _)).at_ with h | ⟨b2, off2, rfl, hb2, hc2⟩
      · subst h; simp at hlr
      obtain ⟨p, d, hcx, hd, hi⟩ := hc k hlt
      obtain ⟨p2, d2, hcy, hd2, hi2⟩ := hc2 k hlr
      have e0 := (HK.out.cell (p := ⟨vb, 0, none⟩) (by exact hvb)).trans c0
      have HS := Lib.hid (upto_succ (fun i => elR g (zss.getD i []) (rss.getD i [])) k)
      have HF := Lib.hid (fun h => upto_no (p := fun i => elR g (zss.getD i []) (rss.getD i [])) (n := rss.length) hlr h)
      have HO := Lib.hid (rnd_el (ls := rss.getD k []) (HOK.out k hlt))
      have HI := Lib.hid hi; have HI2 := Lib.hid hi2
      clear hc hc2 hi hi2
      generalize zss.getD k [] = x at *
      generalize rss.getD k [] = y at *
      cases hin : elR g x y
      · have HR := Lib.hid (HF.out hin)
        go_wp2_with (go_at_call 134; refine (elRow_any g vb p d x p2 d2 y _ HI.out HI2.out e0).mono ?_; rw [HO.out, hin]; rintro e w' ⟨rfl, k1⟩)
        go_ret
        exact ⟨ret_bool HR.out.symm, HK.out.next k1⟩
      · go_wp2_with (go_at_call 134; refine (elRow_any g vb p d x p2 d2 y _ HI.out HI2.out e0).mono ?_; rw [HO.out, hin]; rintro e w' ⟨rfl, k1⟩)
        go_roundw
        case rel => exact ⟨k + 1, by omega, by go_num, Lib.hid (by rw [HS.out, HA.out, hin]; rfl), Lib.hid (HK.out.next k1)⟩
        case measure => simp [intOf]; omega
    · have HE := Lib.hid (show k = zss.length by omega)
      go_wp2
      go_ret
      have h := HA.out
      rw [HE.out, ← HL.out] at h
      exact ⟨ret_bool h.symm, HK.out⟩
theorem areElementsRounded_any (g : Int) (ad : Option Addr) (cap : Nat) (zss : List (List Int)) (rd : Option Addr) (rc : Nat) (rss : List (List Int)) (w : World) (hz : Intss w ad zss) (hr : Intss w rd rss) (hv : tabB g zss = true) :
    Calls Try.prog 86 #[valV g ad zss.length cap, .slice rd rss.length rc] w fun e w' => e = .returned (.bool (elB g zss rss)) ∧ Keep w w' := by
  go_enter Try.func86, Try.ntmps86
  go_wp2_with fail
  refine (elAll_any g w.heap.size ad cap zss rd rc rss _ (hz.keep (B := _) (by go_grown) (Nat.le_refl _)) (hr.keep (B := _) (by go_grown) (Nat.le_refl _)) hv (by simp)).mono ?_
  rintro e w1 ⟨rfl, k1⟩
  have g1 : Keep w w1 := Keep.next (by go_grown) k1
  go_wp2
  go_ret
  exact ⟨rfl, g1⟩
theorem roundingsOf5_any (a b : Int) (w : World) (ha : -1000000000 ≤ a) (ha' : a ≤ 1000000000) (hb : 1 ≤ b) (hb' : b ≤ 1000000000) :
    Calls Try.prog 136 #[.int .i64 a, .int .i64 b] w fun e w' => e = .returned (.agg #[.int .i64 (fl a b), .int .i64 (ce a b)]) ∧ Keep w w' := by
  go_enter Try.func136, Try.ntmps136
  go_wp2_with (first | (go_at_call 158; refine (floorOf_any _ _ _ (by omega) (by omega) hb hb').mono ?_; rintro e w' ⟨rfl, rfl⟩) | (go_at_call 159; refine (ceilingOf_any _ _ _ (by omega) (by omega) hb hb').mono ?_; rintro e w' ⟨rfl, rfl⟩))
  refine bodyPost_ret (v := .agg #[.int .i64 (fl a b), .int .i64 (ce a b)]) (by simp [results, Try.results136, go_sem]) rfl ?_
  exact ⟨rfl, by go_grown⟩
end Go.Proofs.Ytjoanfgchapbaab
