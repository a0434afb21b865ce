/- Running errors; whether a list runs: the model's side. -/
import Derived.Test.YtlenmhefgpcmmaaRunning
namespace Go.Proofs.Ytlenmhefgpcmmaa
open Go.ChangeShapes Go.WideShapes Go.ChangeAt Go.RowKit
set_option linter.unusedVariables false
set_option maxHeartbeats 1600000 in
theorem specRunningErrors_any (g : Int) (ad : Option Addr) (cap : Nat) (zs : List Int) (bd : Option Addr) (bcap : Nat) (ls : List Int) (w : World) (hz : Ints w ad zs) (hl : Ints w bd ls) :
    Calls Try.prog 18 #[valV g ad zs.length cap, .slice bd ls.length bcap] w fun e w' =>
      ∃ rd rc, e = .returned (.tuple #[.slice rd (rnV g zs ls).length rc, .bool (okR g zs ls)]) ∧ Own w' w.heap.size rd rc (rnV g zs ls) ∧ Keep w w' := by
  have hbl : Below w.heap.size w (w.alloc (.cells #[.int .i64 g, .slice ad zs.length cap] 29)) := by go_grown
  have hlen := hz.small
  have hlen2 := hl.small
  cases h1 : okV g zs
  · rw [show okR g zs ls = false from by simp [okR, h1], show rnV g zs ls = [] from by simp [rnV, okR, h1]]
    go_enter Try.func18, Try.ntmps18
    go_wp2_with fail
    refine (l01Is_any w.heap.size g ad cap zs _ (hz.keep (B := _) (by go_grown) (Nat.le_refl _)) (by simp) (by simp)).mono ?_
    rw [h1]
    rintro e w1 ⟨rfl, rfl⟩
    go_wp2
    go_ret2
    exact ⟨none, 0, rfl, Own.nil _ _, by go_grown⟩
  by_cases h2 : ls.length = zs.length
  case neg =>
    rw [show okR g zs ls = false from by simp [okR, h2], show rnV g zs ls = [] from by simp [rnV, okR, h2]]
    have h3 : ((ls.length : Int) != (zs.length : Int)) = true := by simp; omega
    go_enter Try.func18, Try.ntmps18
    go_wp2_with fail
    refine (l01Is_any w.heap.size g ad cap zs _ (hz.keep (B := _) (by go_grown) (Nat.le_refl _)) (by simp) (by simp)).mono ?_
    rw [h1]
    rintro e w1 ⟨rfl, rfl⟩
    go_wp2
    go_ret2
    exact ⟨none, 0, rfl, Own.nil _ _, by go_grown⟩
  have h3 : ((ls.length : Int) != (zs.length : Int)) = false := by simp [h2]
  have hl40 : ls.length ≤ 40 := by have := okV_len h1; omega
  have hyes : allIn ls 1000000 = true → okR g zs ls = true := fun h => okR_iff.2 ⟨h1, h2, by unfold listOk; rw [h, decide_eq_true hl40]; rfl⟩
  have hno : allIn ls 1000000 = false → okR g zs ls = false := fun h => by simp [okR, listOk, h]
  have hrn : okR g zs ls = false → rnV g zs ls = [] := fun h => by simp [rnV, h]
  have hry : okR g zs ls = true → rnV g zs ls = preS (errsL g zs ls) := fun h => by simp [rnV, h]
  have HYES := Lib.hid hyes; have HNO := Lib.hid hno; have HRN := Lib.hid hrn; have HRY := Lib.hid hry
  have H2 := Lib.hid h2
  clear hyes hno hrn hry h2
  go_enter Try.func18, Try.ntmps18
  go_wp2_with fail
  refine (l01Is_any w.heap.size g ad cap zs _ (hz.keep (B := _) (by go_grown) (Nat.le_refl _)) (by simp) (by simp)).mono ?_
  rw [h1]
  rintro e w1 ⟨rfl, rfl⟩
  have HX := Lib.hid (Box.mk (w := w.alloc (.cells #[.int .i64 g, .slice ad zs.length cap] 29)) (b := w.heap.size) (g := g) (ad := ad) (n := zs.length) (cap := cap) (by simp) (by simp) (by simp))
  have hl1 := hl.keep hbl (Nat.le_refl _)
  have hz1 := hz.keep hbl (Nat.le_refl _)
  have HBL := Lib.hid hbl
  have hws : w.heap.size ≤ (w.alloc (.cells #[.int .i64 g, .slice ad zs.length cap] 29)).heap.size := hbl.size
  go_wp2
  generalize hA : w.alloc (.cells #[.int .i64 g, .slice ad zs.length cap] 29) = wa at *
  clear hA hbl
  go_loop [6] (fun i => ∃ k : Nat, k ≤ ls.length ∧ i = .int .i64 k ∧ Hid (allIn (ls.take k) 1000000 = true))
    (fun i => ls.length - (intOf i).toNat)
  case atStart => exact ⟨0, Nat.zero_le _, rfl, Lib.hid (by simp [allIn])⟩
  case round =>
    obtain ⟨k, hk, rfl, HA⟩ := hrel
    by_cases hlt : k < ls.length
    · rcases hl1.at_ with h | ⟨b, off, rfl, hb1, hc⟩
      · subst h; simp at hlt
      have hcx := hc k hlt
      have HF := Lib.hid (allIn_false_of ls 1000000 k hlt)
      have HS := Lib.hid (allIn_take_succ ls 1000000 k hlt)
      clear hc
      generalize ls.getD k 0 = x at hcx HF HS
      cases hin : inB x (-1000000) 1000000
      · go_wp2_with (go_at_call 44; refine (l00In_any _ _ _ _).mono ?_; rw [hin]; rintro e w' ⟨rfl, rfl⟩)
        go_ret2
        have h := HNO.out (HF.out hin)
        exact ⟨none, 0, by rw [h, HRN.out h]; rfl, by rw [HRN.out h]; exact Own.nil _ _, HBL.out⟩
      · go_wp2_with (go_at_call 44; refine (l00In_any _ _ _ _).mono ?_; rw [hin]; rintro e w' ⟨rfl, rfl⟩)
        go_round
        case rel => exact ⟨k + 1, by omega, by go_num, Lib.hid (by rw [HS.out, HA.out, hin]; rfl)⟩
        case measure => simp [intOf]; omega
    · have hall : allIn ls 1000000 = true := by have h := HA.out; rwa [show k = ls.length from by omega, List.take_length] at h
      have hR := HYES.out hall
      have HR := Lib.hid hR
      go_wp2_with fail
      refine (l03Running_any w.heap.size g ad cap zs bd bcap ls _ hz1 hl1 hR HX.out.c0 HX.out.c1).mono ?_
      clear hall hR
      rintro e w2 ⟨rd, rc, rfl, o2, k2⟩
      have g2 : Keep w w2 := Keep.next HBL.out k2
      have o3 := o2.mono (B' := w.heap.size) hws
      go_wp2
      go_ret2
      exact ⟨rd, rc, by rw [HR.out, HRY.out HR.out]; rfl, by rw [HRY.out HR.out]; exact o3, g2⟩
theorem runB_no {g : Int} {zs ls : List Int} {k : Nat} (hk : k < (preS (errsL g zs ls)).length) (h : (preS (errsL g zs ls)).getD k 0 ≤ -g ∨ g ≤ (preS (errsL g zs ls)).getD k 0) : runB g zs ls = false := by
  have hm := getD_mem _ k hk
  unfold runB
  rw [Bool.and_eq_false_iff]; right
  rw [decide_eq_false_iff_not]
  intro h2; have := h2 _ hm; omega
theorem runB_yes {g : Int} {zs ls : List Int} (hB : rndB g zs ls = true) (h : ∀ j, j < (preS (errsL g zs ls)).length → -g < (preS (errsL g zs ls)).getD j 0 ∧ (preS (errsL g zs ls)).getD j 0 < g) : runB g zs ls = true := by
  unfold runB
  rw [hB, Bool.true_and, decide_eq_true_eq]
  intro s hs
  obtain ⟨j, hj, rfl⟩ := List.getElem_of_mem hs
  have h2 := h j hj
  rwa [getD_get _ j hj] at h2
set_option maxHeartbeats 1600000 in
theorem l03Runs_any (B : Nat) (g : Int) (ad : Option Addr) (cap : Nat) (zs : List Int) (bd : Option Addr) (bcap : Nat) (ls : List Int) (w : World) (hz1 : Ints w ad zs) (hl1 : Ints w bd ls) (h1 : okV g zs = true)
    (c0 : w.cell? ⟨B, 0, none⟩ = some (.int .i64 g)) (c1 : w.cell? ⟨B, 1, none⟩ = some (.slice ad zs.length cap)) :
    Calls Try.prog 48 #[.pointer (some ⟨B, 0, none⟩), .slice bd ls.length bcap] w fun e w' => e = .returned (.bool (runB g zs ls)) ∧ Keep w w' := by
  have cl := World.block_lt_of_cell? _ _ c0
  cases hB : rndB g zs ls
  · rw [specRunB hB]
    go_enter Try.func48, Try.ntmps48
    go_wp2_with fail
    refine (l01Rounds_any B g ad cap zs bd bcap ls w hz1 hl1 h1 c0 c1).mono ?_
    rw [hB]
    rintro e w1 ⟨rfl, k1⟩
    go_wp2
    go_ret
    exact ⟨rfl, k1⟩
  · have hR := rndB_okR hB
    have dg := okV_den h1
    have HNO : Hid (∀ k, k < (preS (errsL g zs ls)).length → ((preS (errsL g zs ls)).getD k 0 ≤ -g ∨ g ≤ (preS (errsL g zs ls)).getD k 0) → runB g zs ls = false) := Lib.hid (fun k hk h => runB_no hk h)
    have HYES := Lib.hid (fun h => runB_yes hB h)
    have HRU := Lib.hid (fun W (h1 : Ints W ad zs) (h2 : Ints W bd ls) c0 c1 => l03Running_any B g ad cap zs bd bcap ls W h1 h2 hR c0 c1)
    have hpl : (preS (errsL g zs ls)).length ≤ 40 := by rw [preS_len, errsL_len g zs ls (okR_iff.1 hR).2.1]; exact listOk_len (okR_iff.1 hR).2.2
    have hpb : ∀ k, k < (preS (errsL g zs ls)).length → -80000000000 ≤ (preS (errsL g zs ls)).getD k 0 ∧ (preS (errsL g zs ls)).getD k 0 ≤ 80000000000 := fun k hk => by
      have h := preS_bd 2000000000 (by omega) (errsL g zs ls) (errsL_bd hR) (by rw [preS_len] at hpl; exact hpl) _ (getD_mem _ k hk)
      omega
    generalize preS (errsL g zs ls) = E at HNO HYES HRU hpl hpb
    have HPB := Lib.hid hpb; clear hpb
    go_enter Try.func48, Try.ntmps48
    go_wp2_with fail
    refine (l01Rounds_any B g ad cap zs bd bcap ls w hz1 hl1 h1 c0 c1).mono ?_
    rw [hB]
    rintro e w1 ⟨rfl, k1⟩
    obtain ⟨d0, d1, dl⟩ := (Box.mk c0 c1 cl).keep k1
    clear c0 c1
    go_wp2_with fail
    refine (HRU.out w1 (hz1.keep k1 (Nat.le_refl _)) (hl1.keep k1 (Nat.le_refl _)) d0 d1).mono ?_
    rintro e w2 ⟨rd, rc, rfl, o2, k2⟩
    obtain ⟨c0, c1, cl2⟩ := (Box.mk d0 d1 dl).keep k2
    have g2 := Keep.next k1 k2
    have e2 := o2.ints
    have HX := Lib.hid (Box.mk c0 c1 cl2)
    clear d0 d1 c0 c1
    have HG := Lib.hid g2
    go_wp2
    go_loopw [6] (fun i wr => ∃ k : Nat, k ≤ E.length ∧ i = .int .i64 k ∧ Hid (∀ j, j < k → -g < E.getD j 0 ∧ E.getD j 0 < g) ∧ Keep w2 wr)
      (fun i _ => E.length - (intOf i).toNat)
    case atStart => exact ⟨0, Nat.zero_le _, rfl, Lib.hid (fun j hj => by omega), Below.refl _ _⟩
    case round =>
      obtain ⟨k, hk, rfl, HA, hbel⟩ := hrel
      by_cases hlt : k < E.length
      · rcases e2.at_ with h | ⟨b, off, rfl, hb1, hc⟩
        · subst h; simp at hlt
        have hcx : wr.cell? ⟨b, off + k, none⟩ = some (.int .i64 (E.getD k 0)) := by rw [hbel.cell (by exact hb1)]; exact hc k hlt
        obtain ⟨c0, c1, cl3⟩ := HX.out.keep hbel
        have HN := Lib.hid (HNO.out k hlt)
        have hxb := HPB.out k hlt
        have HA2 : Hid (-g < E.getD k 0 ∧ E.getD k 0 < g → ∀ j, j < k + 1 → -g < E.getD j 0 ∧ E.getD j 0 < g) := Lib.hid (fun h j hj => by
          rcases Nat.lt_or_eq_of_le (Nat.le_of_lt_succ hj) with h3 | h3
          · exact HA.out j h3
          · rw [h3]; exact h)
        clear hc
        generalize E.getD k 0 = x at hcx HN HA2 hxb
        by_cases q1 : x ≤ -g
        · have q1b : decide (x ≤ -g) = true := by simp [q1]
          go_wp2
          go_quiet (fail)
          go_wp2
          go_ret
          exact ⟨ret_bool (HN.out (.inl q1)).symm, HG.out.next (below_drewN hbel _)⟩
        · have q1b : decide (x ≤ -g) = false := by simp; omega
          by_cases q2 : g ≤ x
          · have q2b : decide (g ≤ x) = true := by simp [q2]
            go_wp2
            go_quiet (fail)
            go_wp2
            go_ret
            exact ⟨ret_bool (HN.out (.inr q2)).symm, HG.out.next (below_drewN hbel _)⟩
          · have q2b : decide (g ≤ x) = false := by simp; omega
            go_wp2
            go_quiet (fail)
            go_wp2
            go_roundw
            case rel => exact ⟨k + 1, by omega, by go_num, Lib.hid (HA2.out (by omega)), below_drewN hbel _⟩
            case measure => simp [intOf]; omega
      · have HK := Lib.hid (show k = E.length from by omega)
        go_wp2
        go_ret
        exact ⟨ret_bool (HYES.out (by have h := HA.out; rw [HK.out] at h; exact h)).symm, HG.out.next hbel⟩
theorem specIsRunning_any (g : Int) (ad : Option Addr) (cap : Nat) (zs : List Int) (bd : Option Addr) (bcap : Nat) (ls : List Int) (w : World) (hz : Ints w ad zs) (hl : Ints w bd ls) :
    Calls Try.prog 27 #[valV g ad zs.length cap, .slice bd ls.length bcap] w fun e w' => e = .returned (.bool (runB g zs ls)) ∧ Keep w w' := by
  cases h1 : okV g zs
  · rw [show runB g zs ls = false from by simp [runB, rndB, h1]]
    go_enter Try.func27, Try.ntmps27
    go_wp2_with fail
    refine (l01Is_any w.heap.size g ad cap zs _ (hz.keep (B := _) (by go_grown) (Nat.le_refl _)) (by simp) (by simp)).mono ?_
    rw [h1]
    rintro e w1 ⟨rfl, rfl⟩
    go_wp2
    go_ret
    exact ⟨rfl, by go_grown⟩
  · go_enter Try.func27, Try.ntmps27
    go_wp2_with fail
    refine (l01Is_any w.heap.size g ad cap zs _ (hz.keep (B := _) (by go_grown) (Nat.le_refl _)) (by simp) (by simp)).mono ?_
    rw [h1]
    rintro e w1 ⟨rfl, rfl⟩
    go_wp2_with fail
    refine (l03Runs_any w.heap.size g ad cap zs bd bcap ls _ (hz.keep (B := _) (by go_grown) (Nat.le_refl _)) (hl.keep (B := _) (by go_grown) (Nat.le_refl _)) h1 (by simp) (by simp)).mono ?_
    rintro e w2 ⟨rfl, k2⟩
    have g2 : Keep w w2 := Keep.next (by go_grown) k2
    go_wp2
    go_ret
    exact ⟨rfl, g2⟩
end Go.Proofs.Ytlenmhefgpcmmaa
