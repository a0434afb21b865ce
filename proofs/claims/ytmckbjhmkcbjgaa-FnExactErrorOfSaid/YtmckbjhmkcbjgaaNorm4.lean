/- Norms of roundings: the model's side. -/
import Derived.Test.YtmckbjhmkcbjgaaErrs
import Derived.Test.YtmckbjhmkcbjgaaGreat
namespace Go.Proofs.Ytmckbjhmkcbjgaa
open Go.ChangeShapes Go.WideShapes Go.ChangeAt Go.RowKit
set_option linter.unusedVariables false
def nstep (norm s e : Int) : Int := if norm = 0 then s + ab e else if norm = 1 then s + ab e * ab e else mx s (ab e)
/-- The norm of errors. -/
def nrm (norm : Int) (es : List Int) : Int := es.foldl (fun s e => nstep norm s e) 0
theorem nrm_step (norm : Int) (es : List Int) (k : Nat) (h : k < es.length) : nrm norm (es.take (k + 1)) = nstep norm (nrm norm (es.take k)) (es.getD k 0) := by
  rw [take_succ_getD es k h]; unfold nrm; rw [List.foldl_append]; rfl
theorem nstep_bd {norm s e : Int} {k : Nat} (hs : 0 ≤ s ∧ s ≤ 1000000 * (k : Int)) (he : -1000 ≤ e ∧ e ≤ 1000) : 0 ≤ nstep norm s e ∧ nstep norm s e ≤ 1000000 * ((k + 1 : Nat) : Int) := by
  have h1 := ab_bd (M := 1000) (n := e) he
  have h2 : ab e * ab e ≤ 1000 * 1000 := Int.mul_le_mul h1.2 h1.2 h1.1 (by omega)
  have h3 : 0 ≤ ab e * ab e := Int.mul_nonneg h1.1 h1.1
  unfold nstep mx
  (repeat' split) <;> omega
theorem nrm_bd (norm : Int) (es : List Int) (h : ∀ e ∈ es, -1000 ≤ e ∧ e ≤ 1000) (k : Nat) (hk : k ≤ es.length) : 0 ≤ nrm norm (es.take k) ∧ nrm norm (es.take k) ≤ 1000000 * (k : Int) := by
  induction k with
  | zero => simp [nrm]
  | succ k ih =>
    rw [nrm_step norm es k (by omega)]
    exact nstep_bd (ih (by omega)) (h _ (getD_mem es k (by omega)))
theorem rnd_errs {g : Int} {zs ls : List Int} (h : rndB g zs ls = true) : ∀ e ∈ errsL g zs ls, -1000 ≤ e ∧ e ≤ 1000 := by
  unfold rndB at h
  simp only [Bool.and_eq_true, decide_eq_true_eq] at h
  obtain ⟨⟨h1, h2⟩, h3⟩ := h
  have hg := okV_den h1
  intro e he
  obtain ⟨k, hk, rfl⟩ := List.getElem_of_mem he
  have hk2 : k < ls.length := by rw [errsL_len g zs ls h2] at hk; exact hk
  have e1 := errsL_get g zs ls h2 k hk2
  rw [getD_get _ k hk] at e1
  rw [e1]
  have q := fl_mul (a := zs.getD k 0) hg.1
  have q2 := fl_mul (a := -zs.getD k 0) hg.1
  rcases h3 k hk2 with h4 | h4
  · rw [h4]; omega
  · rw [h4, ce_eq, Int.mul_neg]; omega
set_option maxHeartbeats 3200000 in
theorem l04Error_any (norm : Int) (hn : 0 ≤ norm) (hn2 : norm ≤ 2) (Bv : Nat) (g : Int) (ad : Option Addr) (cap : Nat) (zs : List Int) (bd : Option Addr) (bcap : Nat) (ls : List Int) (w : World) (hz1 : Ints w ad zs) (hl1 : Ints w bd ls) (hR : rndB g zs ls = true)
    (c0 : w.cell? ⟨Bv, 0, none⟩ = some (.int .i64 g)) (c1 : w.cell? ⟨Bv, 1, none⟩ = some (.slice ad zs.length cap)) :
    Calls Try.prog 79 #[.pointer (some ⟨Bv, 0, none⟩), .slice bd ls.length bcap, .int .i64 norm] w fun e w' => e = .returned (.int .i64 (nrm norm (errsL g zs ls))) ∧ Keep w w' := by
  have hR' := hR
  unfold rndB at hR'
  simp only [Bool.and_eq_true, decide_eq_true_eq] at hR'
  obtain ⟨⟨h1, h2⟩, h3⟩ := hR'
  have hlen := hz1.small
  have hlen2 := hl1.small
  have hget := errsL_get g zs ls h2
  have hEl := errsL_len g zs ls h2
  have heb := rnd_errs hR
  have dg := okV_den h1
  have N1 := Lib.hid (okV_num h1)
  have l40 := okV_len h1
  generalize errsL g zs ls = E at hget hEl heb ⊢
  have H2 := Lib.hid h2; have HG := Lib.hid hget; have HEl := Lib.hid hEl; have HEB := Lib.hid heb
  have HNS : Hid (∀ k, k < ls.length → nrm norm (E.take (k + 1)) = nstep norm (nrm norm (E.take k)) (E.getD k 0)) := Lib.hid (fun k hk => nrm_step norm E k (by omega))
  have HNB : Hid (∀ k, k ≤ ls.length → 0 ≤ nrm norm (E.take k) ∧ nrm norm (E.take k) ≤ 40000000) := Lib.hid (fun k hk => by have := nrm_bd norm E heb k (by omega); omega)
  have cl := World.block_lt_of_cell? _ _ c0
  have HX := Lib.hid (Box.mk c0 c1 cl)
  clear h2 h3 hget hEl heb hR c0 c1
  have hcase : norm = 0 ∨ norm = 1 ∨ norm = 2 := by omega
  go_enter Try.func79, Try.ntmps79
  go_wp2
  go_loopw [7, 8] (fun s i wr => ∃ k : Nat, k ≤ ls.length ∧ i = .int .i64 k ∧ s = .int .i64 (nrm norm (E.take k)) ∧ Keep w wr)
    (fun _ i _ => ls.length - (intOf i).toNat)
  case atStart => exact ⟨0, Nat.zero_le _, rfl, by simp [nrm], Below.refl _ _⟩
  case round =>
    obtain ⟨k, hk, rfl, rfl, hbel⟩ := hrel
    by_cases hlt : k < ls.length
    · have hzl := H2.out
      rcases (hz1.keep hbel (Nat.le_refl _)).at_ with h | ⟨b, off, rfl, hb, hc⟩
      · rw [h] at hzl; simp only [List.length_nil] at hzl; omega
      rcases (hl1.keep hbel (Nat.le_refl _)).at_ with h | ⟨b2, off2, rfl, hb2, hc2⟩
      · subst h; simp at hlt
      have hzk : k < zs.length := by omega
      have hcx := hc k hzk
      have hcy := hc2 k hlt
      obtain ⟨q0, q1, q2⟩ := HX.out.keep hbel
      have HE := Lib.hid (HG.out k hlt)
      have hE := HEB.out _ (getD_mem E k (by rw [HEl.out]; exact hlt))
      have nx := N1.out _ (getD_mem zs k hzk)
      have HS := Lib.hid (HNS.out k hlt)
      have hnb := HNB.out k hk
      have hnb2 := HNB.out (k + 1) (by omega)
      rw [HS.out] at hnb2
      clear hc hc2 hzl
      rw [HE.out] at HS hE hnb2
      generalize zs.getD k 0 = x at *
      generalize ls.getD k 0 = y at *
      generalize nrm norm (E.take k) = s at *
      have hgy : -1001000 ≤ g * y ∧ g * y ≤ 1001000 := by omega
      have ha := ab_bd (M := 1000) hE
      have HMX : Hid (∀ W, Calls Try.prog 64 #[.int .i64 (g * y - x), .int .i64 (-(g * y - x))] W fun e w' => e = .returned (.int .i64 (ab (g * y - x))) ∧ W = w') := Lib.hid (fun W => l00Max_any _ _ W)
      have hu2 : ab (g * y - x) * ab (g * y - x) ≤ 1000 * 1000 := Int.mul_le_mul ha.2 ha.2 ha.1 (by omega)
      have hu3 : 0 ≤ ab (g * y - x) * ab (g * y - x) := Int.mul_nonneg ha.1 ha.1
      clear HE
      unfold nstep at HS hnb2
      generalize ab (g * y - x) = u at *
      rcases hcase with rfl | rfl | rfl
      · have S1 : Hid (nrm 0 (E.take (k + 1)) = s + u) := Lib.hid (by rw [HS.out]; simp)
        clear HS
        go_wp2
        go_quiet (fail)
        go_wp2_with (go_at_call 64; refine (HMX.out _).mono ?_; rintro e w' ⟨rfl, rfl⟩)
        go_roundw
        case rel => exact ⟨k + 1, by omega, by go_num, by rw [S1.out], below_drewN hbel _⟩
        case measure => simp [intOf]; omega
      · have S1 : Hid (nrm 1 (E.take (k + 1)) = s + u * u) := Lib.hid (by rw [HS.out]; simp)
        clear HS
        go_wp2
        go_quiet (fail)
        go_wp2_with (go_at_call 64; refine (HMX.out _).mono ?_; rintro e w' ⟨rfl, rfl⟩)
        go_roundw
        case rel => exact ⟨k + 1, by omega, by go_num, by rw [S1.out], below_drewN hbel _⟩
        case measure => simp [intOf]; omega
      · have S1 : Hid (nrm 2 (E.take (k + 1)) = mx s u) := Lib.hid (by rw [HS.out]; simp)
        clear HS
        go_wp2
        go_quiet (fail)
        go_wp2_with (first | (go_at_call 64; refine (HMX.out _).mono ?_; clear HMX; rintro e w' ⟨rfl, rfl⟩) | (go_at_call 64; refine (l00Max_any s u _).mono ?_; rintro e w' ⟨rfl, rfl⟩))
        go_roundw
        case rel => exact ⟨k + 1, by omega, by go_num, by rw [S1.out], below_drewN hbel _⟩
        case measure => simp [intOf]; omega
    · have HE := Lib.hid (show k = ls.length from by omega)
      go_wp2
      go_ret
      exact ⟨ret_i64 (by rw [HE.out, ← HEl.out, List.take_length]), hbel⟩
def okN (norm g : Int) (zs ls : List Int) : Bool := rndB g zs ls && inB norm 0 2
def nrmV (norm g : Int) (zs ls : List Int) : Int := if okN norm g zs ls then nrm norm (errsL g zs ls) else 0
theorem l04Norm_any (n : Int) (w : World) : Calls Try.prog 78 #[.int .i64 n] w fun e w' => e = .returned (.bool (inB n 0 2)) ∧ w = w' := by
  go_enter Try.func78, Try.ntmps78
  go_wp2_with (go_at_call 92; refine (l00In_any _ _ _ _).mono ?_; rintro e w' ⟨rfl, rfl⟩)
  go_ret
  exact ⟨rfl, rfl⟩
theorem specErrorOf_any (g : Int) (ad : Option Addr) (cap : Nat) (zs : List Int) (bd : Option Addr) (bcap : Nat) (ls : List Int) (norm : Int) (w : World) (hz : Ints w ad zs) (hl : Ints w bd ls) (un : In64 norm) :
    Calls Try.prog 46 #[valV g ad zs.length cap, .slice bd ls.length bcap, .int .i64 norm] w fun e w' => e = .returned (.tuple #[.int .i64 (nrmV norm g zs ls), .bool (okN norm g zs ls)]) ∧ Keep w w' := by
  cases h1 : okV g zs
  · have e1 : rndB g zs ls = false := by simp [rndB, h1]
    rw [show nrmV norm g zs ls = 0 from by simp [nrmV, okN, e1], show okN norm g zs ls = false from by simp [okN, e1]]
    go_enter Try.func46, Try.ntmps46
    go_wp2_with fail
    refine (l01Is_any w.heap.size g ad cap zs _ (hz.keep (B := _) (by go_grown) (Nat.le_refl _)) (by simp) (by simp)).mono ?_
    rw [h1]
    rintro e w1 ⟨rfl, rfl⟩
    go_wp2
    go_ret2
    exact ⟨rfl, by go_grown⟩
  have B0 : Box (w.alloc (.cells #[.int .i64 g, .slice ad zs.length cap] 52)) w.heap.size g ad zs.length cap := ⟨by simp, by simp, by simp⟩
  cases h2 : rndB g zs ls
  · rw [show nrmV norm g zs ls = 0 from by simp [nrmV, okN, h2], show okN norm g zs ls = false from by simp [okN, h2]]
    go_enter Try.func46, Try.ntmps46
    go_wp2_with fail
    refine (l01Is_any w.heap.size g ad cap zs _ (hz.keep (B := _) (by go_grown) (Nat.le_refl _)) (by simp) (by simp)).mono ?_
    rw [h1]
    rintro e w1 ⟨rfl, rfl⟩
    go_wp2_with fail
    refine (l01Rounds_any w.heap.size g ad cap zs bd bcap ls _ (hz.keep (B := _) (by go_grown) (Nat.le_refl _)) (hl.keep (B := _) (by go_grown) (Nat.le_refl _)) h1 (by simp) (by simp)).mono ?_
    rw [h2]
    rintro e w2 ⟨rfl, k2⟩
    have g2 : Keep w w2 := Keep.next (by go_grown) k2
    go_wp2
    go_ret2
    exact ⟨rfl, g2⟩
  cases h3 : inB norm 0 2
  · rw [show nrmV norm g zs ls = 0 from by simp [nrmV, okN, h3], show okN norm g zs ls = false from by simp [okN, h3]]
    go_enter Try.func46, Try.ntmps46
    go_wp2_with fail
    refine (l01Is_any w.heap.size g ad cap zs _ (hz.keep (B := _) (by go_grown) (Nat.le_refl _)) (by simp) (by simp)).mono ?_
    rw [h1]
    rintro e w1 ⟨rfl, rfl⟩
    go_wp2_with fail
    refine (l01Rounds_any w.heap.size g ad cap zs bd bcap ls _ (hz.keep (B := _) (by go_grown) (Nat.le_refl _)) (hl.keep (B := _) (by go_grown) (Nat.le_refl _)) h1 (by simp) (by simp)).mono ?_
    rw [h2]
    rintro e w2 ⟨rfl, k2⟩
    have g2 : Keep w w2 := Keep.next (by go_grown) k2
    go_wp2_with (go_at_call 78; refine (l04Norm_any _ _).mono ?_; rw [h3]; rintro e w' ⟨rfl, rfl⟩)
    go_ret2
    exact ⟨rfl, g2⟩
  · rw [show nrmV norm g zs ls = nrm norm (errsL g zs ls) from by simp [nrmV, okN, h2, h3], show okN norm g zs ls = true from by simp [okN, h2, h3]]
    obtain ⟨n0, n2⟩ := inB_iff.1 h3
    go_enter Try.func46, Try.ntmps46
    go_wp2_with fail
    refine (l01Is_any w.heap.size g ad cap zs _ (hz.keep (B := _) (by go_grown) (Nat.le_refl _)) (by simp) (by simp)).mono ?_
    rw [h1]
    rintro e w1 ⟨rfl, rfl⟩
    go_wp2_with fail
    refine (l01Rounds_any w.heap.size g ad cap zs bd bcap ls _ (hz.keep (B := _) (by go_grown) (Nat.le_refl _)) (hl.keep (B := _) (by go_grown) (Nat.le_refl _)) h1 (by simp) (by simp)).mono ?_
    rw [h2]
    rintro e w2 ⟨rfl, k2⟩
    have g2 : Keep w w2 := Keep.next (by go_grown) k2
    obtain ⟨q0, q1, q2⟩ := B0.keep k2
    go_wp2_with (first | (go_at_call 78; refine (l04Norm_any _ _).mono ?_; rw [h3]; rintro e w' ⟨rfl, rfl⟩) | (go_at_call 79; refine (l04Error_any norm n0 n2 w.heap.size g ad cap zs bd bcap ls w2 (hz.keep g2 (Nat.le_refl _)) (hl.keep g2 (Nat.le_refl _)) h2 q0 q1).mono ?_; rintro e w3 ⟨rfl, k3⟩))
    go_ret2
    exact ⟨rfl, Keep.next g2 k3⟩
end Go.Proofs.Ytmckbjhmkcbjgaa
