/- Tables: what a valid one is; the model's look at one. -/
import Derived.Test.YtpdcmhnaedhkdaaDoorTabs
import Derived.Test.YtpdcmhnaedhkdaaDoorInts
import Derived.BigQuiet
import Derived.Deep.LoopGhost
namespace Go.Proofs.YtpdcmhnaedhkdaaDoor
open Go.ChangeShapes Go.WideShapes Go.ChangeAt Go.RowKit Go.Deep
set_option linter.unusedVariables false
def entB (z : List Int) : Bool := z.all fun x => inB x 0 100000
def rowB (m : Nat) (z : List Int) : Bool := decide (z.length = m) && entB z
/-- A valid table. -/
def tabB (g : Int) (zss : List (List Int)) : Bool := inB g 1 1000 && (inB (zss.length : Int) 1 5 && (inB ((zss.getD 0 []).length : Int) 1 5 && zss.all (rowB (zss.getD 0 []).length)))
theorem all_take_succ {α : Type} (p : α → Bool) (L : List α) (k : Nat) (d : α) (h : k < L.length) : (L.take (k + 1)).all p = ((L.take k).all p && p (L.getD k d)) := by
  have e : L.getD k d = L[k] := by simp [List.getD_eq_getElem?_getD, h]
  rw [List.take_succ_eq_append_getElem h, e, List.all_append]; simp
theorem all_no {α : Type} {p : α → Bool} {L : List α} {k : Nat} (d : α) (h : k < L.length) (hf : p (L.getD k d) = false) : L.all p = false := by
  rw [List.all_eq_false]
  refine ⟨L[k], List.getElem_mem h, ?_⟩
  have : L.getD k d = L[k] := by simp [List.getD_eq_getElem?_getD, h]
  rw [← this, hf]; simp
theorem all_get {α : Type} {p : α → Bool} {L : List α} (h : L.all p = true) (d : α) {k : Nat} (hk : k < L.length) : p (L.getD k d) = true := by
  have : L.getD k d = L[k] := by simp [List.getD_eq_getElem?_getD, hk]
  rw [this]; exact List.all_eq_true.1 h _ (List.getElem_mem hk)
theorem tab_row {g : Int} {zss : List (List Int)} (h : tabB g zss = true) {k : Nat} (hk : k < zss.length) : (zss.getD k []).length = (zss.getD 0 []).length ∧ ∀ x ∈ zss.getD k [], 0 ≤ x ∧ x ≤ 100000 := by
  unfold tabB at h
  simp only [Bool.and_eq_true] at h
  have := all_get h.2.2.2 [] hk
  unfold rowB entB at this
  simp only [Bool.and_eq_true, decide_eq_true_eq, List.all_eq_true] at this
  exact ⟨this.1, fun x hx => inB_iff.1 (this.2 x hx)⟩
theorem tab_size {g : Int} {zss : List (List Int)} (h : tabB g zss = true) : (1 ≤ g ∧ g ≤ 1000) ∧ (1 ≤ zss.length ∧ zss.length ≤ 5) ∧ (1 ≤ (zss.getD 0 []).length ∧ (zss.getD 0 []).length ≤ 5) := by
  unfold tabB at h
  simp only [Bool.and_eq_true] at h
  have a := inB_iff.1 h.1; have b := inB_iff.1 h.2.1; have c := inB_iff.1 h.2.2.1
  exact ⟨a, by omega, by omega⟩
theorem l05Side_any (n : Int) (w : World) : Calls Tryd.prog 68 #[.int .i64 n] w fun e w' => e = .returned (.bool (inB n 1 5)) ∧ w = w' := by
  go_enter Tryd.func68, Tryd.ntmps68
  go_wp2
  all_goals go_ret
  all_goals refine ⟨ret_bool ?_, rfl⟩
  all_goals first | (simp [inB, *]; done) | (symm; rw [inB_not]; omega) | (symm; rw [inB_iff]; omega)
set_option maxHeartbeats 1600000 in
set_option maxRecDepth 100000 in
theorem l05Is_any (B : Nat) (g : Int) (ad : Option Addr) (cap : Nat) (zss : List (List Int)) (w : World) (hz : Intss w ad zss)
    (c0 : w.cell? ⟨B, 0, none⟩ = some (.int .i64 g)) (c1 : w.cell? ⟨B, 1, none⟩ = some (.slice ad zss.length cap)) :
    Calls Tryd.prog 42 #[.pointer (some ⟨B, 0, none⟩)] w fun e w' => e = .returned (.bool (tabB g zss)) ∧ Keep w w' := by
  have hlen := hz.small
  have hBs : B < w.heap.size := World.block_lt_of_cell? _ _ c0
  cases h1 : inB g 1 1000
  · rw [show tabB g zss = false from by unfold tabB; rw [h1]; rfl]
    go_enter Tryd.func42, Tryd.ntmps42
    go_wp2_with (go_at_call 62; refine (l00In_any _ _ _ _).mono ?_; rw [h1]; rintro e w' ⟨rfl, rfl⟩)
    go_ret
    exact ⟨rfl, Below.refl _ _⟩
  cases h2 : inB (zss.length : Int) 1 5
  · rw [show tabB g zss = false from by unfold tabB; rw [h1, h2]; rfl]
    go_enter Tryd.func42, Tryd.ntmps42
    go_wp2_with (first | (go_at_call 62; refine (l00In_any _ _ _ _).mono ?_; rw [h1]; rintro e w' ⟨rfl, rfl⟩) | (go_at_call 68; refine (l05Side_any _ _).mono ?_; rw [h2]; rintro e w' ⟨rfl, rfl⟩))
    go_ret
    exact ⟨rfl, Below.refl _ _⟩
  have hn := inB_iff.1 h2
  rcases hz.at_ with h | ⟨b, off, rfl, hb, hc⟩
  · subst h; simp at hn
  obtain ⟨p0, d0, hc0, hd0, hi0⟩ := hc 0 (by omega)
  rw [Nat.add_zero] at hc0
  have hs0 := hi0.small
  have HC := Lib.hid hc; clear hc
  cases h3 : inB ((zss.getD 0 []).length : Int) 1 5
  · rw [show tabB g zss = false from by unfold tabB; rw [h1, h2, h3]; rfl]
    go_enter Tryd.func42, Tryd.ntmps42
    generalize (zss.getD 0 []).length = m at *
    go_wp2_with (first | (go_at_call 62; refine (l00In_any _ _ _ _).mono ?_; rw [h1]; rintro e w' ⟨rfl, rfl⟩) | (go_at_call 68; refine (l05Side_any _ _).mono ?_; first | (rw [h2]; rintro e w' ⟨rfl, rfl⟩) | (rw [h3]; rintro e w' ⟨rfl, rfl⟩)))
    go_ret
    exact ⟨rfl, Below.refl _ _⟩
  have HT : Hid (tabB g zss = zss.all (rowB (zss.getD 0 []).length)) := Lib.hid (by unfold tabB; rw [h1, h2, h3]; rfl)
  rw [HT.out]
  obtain ⟨m, hm⟩ : ∃ m, m = (zss.getD 0 []).length := ⟨_, rfl⟩
  rw [← hm] at h3 hc0 hd0 hs0
  rw [← hm]
  have HM := Lib.hid hm; clear hm hi0
  go_enter Tryd.func42, Tryd.ntmps42
  go_wp2_with (first | (go_at_call 62; refine (l00In_any _ _ _ _).mono ?_; rw [h1]; rintro e w' ⟨rfl, rfl⟩) | (go_at_call 68; refine (l05Side_any _ _).mono ?_; first | (rw [h2]; rintro e w' ⟨rfl, rfl⟩) | (rw [h3]; rintro e w' ⟨rfl, rfl⟩)))
  go_loopg [3, 4] zss.length (fun kk i _j wr => ∃ k : Nat, k ≤ zss.length ∧ kk = zss.length - k ∧ i = .int .i64 k ∧ Hid ((zss.take k).all (rowB m) = true) ∧ Hid (Keep w wr))
  case atStart => exact ⟨0, Nat.zero_le _, rfl, rfl, Lib.hid (by simp), Lib.hid (Below.refl _ _)⟩
  case round =>
    obtain ⟨k, hk, rfl, rfl, HA, HK⟩ := hrel
    obtain ⟨wo, rfl⟩ : ∃ x, x = wr := ⟨wr, rfl⟩
    have e0 := (HK.out.cell (p := ⟨B, 1, none⟩) (by exact hBs)).trans c1
    have e2 := (HK.out.cell (p := ⟨b, off, none⟩) (by exact hb)).trans hc0
    by_cases hlt : k < zss.length
    · obtain ⟨p, d, hcx, hd, hi⟩ := HC.out k hlt
      have e1 := (HK.out.cell (p := ⟨b, off + k, none⟩) (by exact hb)).trans hcx
      have HI := Lib.hid hi
      have hsm := hi.small
      have HS := Lib.hid (all_take_succ (rowB m) zss k [] hlt)
      have HF := Lib.hid (fun h => all_no (p := rowB m) [] hlt h)
      have HX := Lib.hid hcx
      clear hcx hi
      generalize zss.getD k [] = zk at *
      by_cases hl : zk.length = m
      · have hle : ((zk.length : Int) != (m : Int)) = false := by rw [hl]; simp
        have HL := Lib.hid hl; clear hl
        go_wp2
        go_quiet (fail)
        go_wp2
        go_loopg [4] zk.length (fun kk i wi => ∃ j : Nat, j ≤ zk.length ∧ kk = zk.length - j ∧ i = .int .i64 j ∧ Hid (entB (zk.take j) = true) ∧ Hid (Keep w wi))
        case atStart => exact ⟨0, Nat.zero_le _, rfl, rfl, Lib.hid (by simp [entB]), Lib.hid (below_drewN HK.out _)⟩
        case round =>
          obtain ⟨j, hj, rfl, rfl, HE, HK2⟩ := hrel
          have q0 := (HK2.out.cell (p := ⟨B, 1, none⟩) (by exact hBs)).trans c1
          have q1 := (HK2.out.cell (p := ⟨b, off + k, none⟩) (by exact hb)).trans HX.out
          by_cases hjt : j < zk.length
          · rcases HI.out.at_ with h | ⟨b2, off2, rfl, hb2, hc2⟩
            · subst h; simp at hjt
            have q2 := (HK2.out.cell (p := ⟨b2, off2 + j, none⟩) (by exact hb2)).trans (hc2 j hjt)
            have HS2 := Lib.hid (all_take_succ (fun x => inB x 0 100000) zk j 0 hjt)
            have HF2 := Lib.hid (fun h => all_no (p := fun x => inB x 0 100000) (0 : Int) hjt h)
            clear hc2
            generalize zk.getD j 0 = x at *
            cases hin : inB x 0 100000
            · have HR := Lib.hid (HF.out (by unfold rowB entB; rw [HF2.out hin, Bool.and_false]))
              go_wp2_with (go_at_call 62; refine (l00In_any _ _ _ _).mono ?_; rw [hin]; rintro e w' ⟨rfl, rfl⟩)
              go_ret
              exact ⟨ret_bool HR.out.symm, HK2.out⟩
            · go_wp2_with (go_at_call 62; refine (l00In_any _ _ _ _).mono ?_; rw [hin]; rintro e w' ⟨rfl, rfl⟩)
              go_roundg (zk.length - (j + 1))
              case measure => omega
              case rel => exact ⟨j + 1, by omega, rfl, by go_num, Lib.hid (by have h := HE.out; unfold entB at h ⊢; rw [HS2.out, h, hin]; rfl), HK2⟩
          · have HEJ := Lib.hid (show j = zk.length by omega)
            go_wp2
            go_roundg (zss.length - (k + 1))
            case measure => omega
            case rel =>
              refine ⟨k + 1, by omega, rfl, by go_num, Lib.hid ?_, HK2⟩
              have h := HE.out
              rw [HEJ.out, List.take_length] at h
              rw [HS.out, HA.out]
              unfold rowB
              rw [decide_eq_true HL.out, h]; rfl
      · have hle : ((zk.length : Int) != (m : Int)) = true := by simp; omega
        have HR := Lib.hid (HF.out (by unfold rowB; rw [decide_eq_false hl]; rfl))
        go_wp2
        go_quiet (fail)
        go_wp2
        go_ret
        exact ⟨ret_bool HR.out.symm, below_drewN HK.out _⟩
    · have HE := Lib.hid (show k = zss.length by omega)
      go_wp2
      go_ret
      have h := HA.out
      rw [HE.out, List.take_length] at h
      exact ⟨ret_bool h.symm, HK.out⟩
end Go.Proofs.YtpdcmhnaedhkdaaDoor
