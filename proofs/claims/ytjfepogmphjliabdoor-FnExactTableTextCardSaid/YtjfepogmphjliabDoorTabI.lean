/- Tables: the program's look at one. -/
import Derived.Test.YtjfepogmphjliabDoorTab5
import Derived.Test.YtjfepogmphjliabDoorVals
namespace Go.Proofs.YtjfepogmphjliabDoor
open Go.ChangeShapes Go.WideShapes Go.ChangeAt Go.RowKit Go.Deep
set_option linter.unusedVariables false
/-- What an index of the first element with a property is, as far as it counts. -/
def idxOk {α : Type} (p : α → Bool) (L : List α) (r : Int) : Prop := -1 ≤ r ∧ r < 9223372036854775807 ∧ (decide (0 ≤ r) = L.any p)
theorem any_no {α : Type} {p : α → Bool} {L : List α} {k : Nat} (d : α) (h : k < L.length) (hf : p (L.getD k d) = true) : L.any p = true := by
  rw [List.any_eq_true]
  have : L.getD k d = L[k] := by simp [List.getD_eq_getElem?_getD, h]
  exact ⟨L[k], List.getElem_mem h, by rw [← this]; exact hf⟩
theorem any_take_succ {α : Type} (p : α → Bool) (L : List α) (k : Nat) (d : α) (h : k < L.length) : (L.take (k + 1)).any p = ((L.take k).any p || p (L.getD k d)) := by
  have e : L.getD k d = L[k] := by simp [List.getD_eq_getElem?_getD, h]
  rw [List.take_succ_eq_append_getElem h, e, List.any_append]; simp
theorem not_any {α : Type} (p : α → Bool) (L : List α) : (L.any fun x => !p x) = !L.all p := by
  induction L with
  | nil => rfl
  | cons a t ih => simp only [List.any_cons, List.all_cons, ih]; cases p a <;> rfl
theorem isSide_any (n : Int) (w : World) : Calls Tryd.prog 35 #[.int .i64 n] w fun e w' => e = .returned (.bool (inB n 1 5)) ∧ w = w' := by
  go_enter Tryd.func35, Tryd.ntmps35
  go_wp2
  all_goals go_ret
  all_goals refine ⟨ret_bool ?_, rfl⟩
  all_goals first | (simp [inB, *]; done) | (symm; rw [inB_not]; omega) | (symm; rw [inB_iff]; omega)
theorem upTo_any (n m : Int) (vb : Nat) (w : World) (c0 : w.cell? ⟨vb, 0, none⟩ = some (.int .i64 m)) :
    Calls Tryd.prog 51 #[.int .i64 n, .pointer (some ⟨vb, 0, none⟩)] w fun e w' => e = .returned (.bool (!inB n 0 m)) ∧ w = w' := by
  go_enter Tryd.func51, Tryd.ntmps51
  go_wp2_with (go_at_call 34; refine (within_any _ _ _ _).mono ?_; rintro e w' ⟨rfl, rfl⟩)
  go_ret
  exact ⟨ret_bool (by cases inB n 0 m <;> rfl), rfl⟩
theorem idxUp_any (m : Int) (vb : Nat) (ad : Option Addr) (cap : Nat) (zs : List Int) (w : World) (hz : Ints w ad zs) (c0 : w.cell? ⟨vb, 0, none⟩ = some (.int .i64 m)) :
    Calls Tryd.prog 64 #[.slice ad zs.length cap, .func (.func 51) #[] #[.pointer (some ⟨vb, 0, none⟩)]] w fun e w' =>
      (∃ r, e = .returned (.int .i64 r) ∧ idxOk (fun n => !inB n 0 m) zs r) ∧ w = w' := by
  have hs := hz.small
  go_enter Tryd.func64, Tryd.ntmps64
  go_wp2
  go_loop [5, 8] (fun _ i => ∃ k : Nat, k ≤ zs.length ∧ i = .int .i64 k ∧ Hid ((zs.take k).any (fun n => !inB n 0 m) = false)) (fun _ i => zs.length - (intOf i).toNat)
  case atStart => exact ⟨0, Nat.zero_le _, rfl, Lib.hid (by simp)⟩
  case round =>
    obtain ⟨k, hk, rfl, HA⟩ := hrel
    by_cases hlt : k < zs.length
    · rcases hz.at_ with h | ⟨b, off, rfl, hb, hc⟩
      · subst h; simp at hlt
      have hcx := hc k hlt
      have HS := Lib.hid (any_take_succ (fun n => !inB n 0 m) zs k 0 hlt)
      have HN := Lib.hid (fun h => any_no (p := fun n => !inB n 0 m) (0 : Int) hlt h)
      clear hc
      generalize zs.getD k 0 = x at *
      cases hin : inB x 0 m
      · go_wp2_with (go_at_call 51; refine (upTo_any _ _ _ _ c0).mono ?_; rw [hin]; rintro e w' ⟨rfl, rfl⟩)
        go_ret
        exact ⟨⟨_, rfl, by omega, by omega, by rw [HN.out (by rw [hin]; rfl)]; simp⟩, rfl⟩
      · go_wp2_with (go_at_call 51; refine (upTo_any _ _ _ _ c0).mono ?_; rw [hin]; rintro e w' ⟨rfl, rfl⟩)
        go_round
        case rel => exact ⟨k + 1, by omega, by go_num, Lib.hid (by rw [HS.out, HA.out, hin]; rfl)⟩
        case measure => simp [intOf]; omega
    · have HE := Lib.hid (show k = zs.length by omega)
      go_wp2
      go_ret
      have h := HA.out
      rw [HE.out, List.take_length] at h
      exact ⟨⟨-1, rfl, by omega, by omega, by rw [h]; rfl⟩, rfl⟩
theorem hasUp_any (m : Int) (vb : Nat) (ad : Option Addr) (cap : Nat) (zs : List Int) (w : World) (hz : Ints w ad zs) (c0 : w.cell? ⟨vb, 0, none⟩ = some (.int .i64 m)) :
    Calls Tryd.prog 50 #[.slice ad zs.length cap, .func (.func 51) #[] #[.pointer (some ⟨vb, 0, none⟩)]] w fun e w' =>
      e = .returned (.bool (zs.any fun n => !inB n 0 m)) ∧ w = w' := by
  go_enter Tryd.func50, Tryd.ntmps50
  go_wp2_with fail
  refine (idxUp_any m vb ad cap zs _ hz c0).mono ?_
  rintro e w' ⟨⟨r, rfl, h1, h2, h3⟩, rfl⟩
  have H3 := Lib.hid h3; clear h3
  go_wp2
  go_ret
  exact ⟨ret_bool H3.out, rfl⟩
theorem areUpTo_any (m : Int) (ad : Option Addr) (cap : Nat) (zs : List Int) (w : World) (hz : Ints w ad zs) :
    Calls Tryd.prog 38 #[.slice ad zs.length cap, .int .i64 m] w fun e w' => e = .returned (.bool (zs.all fun x => inB x 0 m)) ∧ Keep w w' := by
  go_enter Tryd.func38, Tryd.ntmps38
  go_wp2_with fail
  refine (hasUp_any m w.heap.size ad cap zs _ (hz.keep (B := _) (by go_grown) (Nat.le_refl _)) (by simp)).mono ?_
  rintro e w' ⟨rfl, rfl⟩
  go_wp2
  go_ret
  exact ⟨ret_bool (by rw [not_any]; cases (zs.all fun x => inB x 0 m) <;> rfl), by go_grown⟩
/-- A row as a table's row: as long as the first one, its numbers within the limits. -/
theorem rowUp_any (m : Nat) (vb : Nat) (ad : Option Addr) (cap : Nat) (zs : List Int) (w : World) (hz : Ints w ad zs) (c0 : w.cell? ⟨vb, 0, none⟩ = some (.int .i64 (m : Nat))) :
    Calls Tryd.prog 37 #[.slice ad zs.length cap, .pointer (some ⟨vb, 0, none⟩)] w fun e w' => e = .returned (.bool (!rowB m zs)) ∧ Keep w w' := by
  have hs := hz.small
  by_cases hl : zs.length = m
  · have hne : ((zs.length : Int) != (m : Int)) = false := by simp; omega
    have HR : Hid (rowB m zs = zs.all fun x => inB x 0 100000) := Lib.hid (by unfold rowB entB; rw [decide_eq_true hl, Bool.true_and])
    clear hl
    go_enter Tryd.func37, Tryd.ntmps37
    go_wp2_with fail
    refine (areUpTo_any 100000 ad cap zs _ hz).mono ?_
    rintro e w' ⟨rfl, k1⟩
    go_wp2
    go_ret
    exact ⟨ret_bool (by rw [HR.out]), k1⟩
  · have hne : ((zs.length : Int) != (m : Int)) = true := by simp; omega
    have HR : Hid (rowB m zs = false) := Lib.hid (by unfold rowB; rw [decide_eq_false hl, Bool.false_and])
    go_enter Tryd.func37, Tryd.ntmps37
    go_wp2
    go_ret
    exact ⟨ret_bool (by rw [HR.out]; rfl), Below.refl _ _⟩
set_option maxHeartbeats 800000 in
theorem idxRow_any (m : Nat) (vb : Nat) (ad : Option Addr) (cap : Nat) (zss : List (List Int)) (w : World) (hz : Intss w ad zss) (c0 : w.cell? ⟨vb, 0, none⟩ = some (.int .i64 (m : Nat))) :
    Calls Tryd.prog 49 #[.slice ad zss.length cap, .func (.func 37) #[] #[.pointer (some ⟨vb, 0, none⟩)]] w fun e w' =>
      (∃ r, e = .returned (.int .i64 r) ∧ idxOk (fun z => !rowB m z) zss r) ∧ Keep w w' := by
  have hs := hz.small
  have hvb : vb < w.heap.size := World.block_lt_of_cell? _ _ c0
  go_enter Tryd.func49, Tryd.ntmps49
  go_wp2
  go_loopw [5, 8] (fun _ i wr => ∃ k : Nat, k ≤ zss.length ∧ i = .int .i64 k ∧ Hid ((zss.take k).any (fun z => !rowB m z) = false) ∧ Hid (Keep w wr)) (fun _ i _ => zss.length - (intOf i).toNat)
  case atStart => exact ⟨0, Nat.zero_le _, rfl, Lib.hid (by simp), Lib.hid (Below.refl _ _)⟩
  case round =>
    obtain ⟨k, hk, rfl, HA, HK⟩ := hrel
    by_cases hlt : k < zss.length
    · rcases (hz.keep HK.out (Nat.le_refl _)).at_ with h | ⟨b, off, rfl, hb, hc⟩
      · subst h; simp at hlt
      obtain ⟨p, d, hcx, hd, hi⟩ := hc k hlt
      have e0 := (HK.out.cell (p := ⟨vb, 0, none⟩) (by exact hvb)).trans c0
      have HS := Lib.hid (any_take_succ (fun z => !rowB m z) zss k [] hlt)
      have HN := Lib.hid (fun h => any_no (p := fun z => !rowB m z) [] hlt h)
      have HI := Lib.hid hi
      clear hc hi
      generalize zss.getD k [] = x at *
      cases hin : rowB m x
      · have HR := Lib.hid (HN.out (by rw [hin]; rfl))
        go_wp2_with (go_at_call 37; refine (rowUp_any m vb p d x _ HI.out e0).mono ?_; rw [hin]; rintro e w' ⟨rfl, k1⟩)
        go_ret
        exact ⟨⟨_, rfl, by omega, by omega, by rw [HR.out]; simp⟩, HK.out.next k1⟩
      · go_wp2_with (go_at_call 37; refine (rowUp_any m vb p d x _ HI.out e0).mono ?_; rw [hin]; rintro e w' ⟨rfl, k1⟩)
        go_roundw
        case rel => exact ⟨k + 1, by omega, by go_num, Lib.hid (by rw [HS.out, HA.out, hin]; rfl), Lib.hid (HK.out.next k1)⟩
        case measure => simp [intOf]; omega
    · have HE := Lib.hid (show k = zss.length by omega)
      go_wp2
      go_ret
      have h := HA.out
      rw [HE.out, List.take_length] at h
      exact ⟨⟨-1, rfl, by omega, by omega, by rw [h]; rfl⟩, HK.out⟩
theorem hasRow_any (m : Nat) (vb : Nat) (ad : Option Addr) (cap : Nat) (zss : List (List Int)) (w : World) (hz : Intss w ad zss) (c0 : w.cell? ⟨vb, 0, none⟩ = some (.int .i64 (m : Nat))) :
    Calls Tryd.prog 36 #[.slice ad zss.length cap, .func (.func 37) #[] #[.pointer (some ⟨vb, 0, none⟩)]] w fun e w' =>
      e = .returned (.bool (zss.any fun z => !rowB m z)) ∧ Keep w w' := by
  go_enter Tryd.func36, Tryd.ntmps36
  go_wp2_with fail
  refine (idxRow_any m vb ad cap zss _ hz c0).mono ?_
  rintro e w' ⟨⟨r, rfl, h1, h2, h3⟩, k1⟩
  have H3 := Lib.hid h3; clear h3
  go_wp2
  go_ret
  exact ⟨ret_bool H3.out, k1⟩
set_option maxHeartbeats 800000 in
theorem ValidTable_any (g : Int) (ad : Option Addr) (cap : Nat) (zss : List (List Int)) (w : World) (hz : Intss w ad zss) :
    Calls Tryd.prog 19 #[valV g ad zss.length cap] w fun e w' => e = .returned (.bool (tabB g zss)) ∧ Keep w w' := by
  have hlen := hz.small
  cases h1 : inB g 1 1000
  · rw [show tabB g zss = false from by unfold tabB; rw [h1]; rfl]
    go_enter Tryd.func19, Tryd.ntmps19
    go_wp2_with (go_at_call 34; refine (within_any _ _ _ _).mono ?_; rw [h1]; rintro e w' ⟨rfl, rfl⟩)
    go_ret
    exact ⟨rfl, by go_grown⟩
  cases h2 : inB (zss.length : Int) 1 5
  · rw [show tabB g zss = false from by unfold tabB; rw [h1, h2]; rfl]
    go_enter Tryd.func19, Tryd.ntmps19
    go_wp2_with (first | (go_at_call 34; refine (within_any _ _ _ _).mono ?_; rw [h1]; rintro e w' ⟨rfl, rfl⟩) | (go_at_call 35; refine (isSide_any _ _).mono ?_; rw [h2]; rintro e w' ⟨rfl, rfl⟩))
    go_ret
    exact ⟨rfl, by go_grown⟩
  have hn := inB_iff.1 h2
  have HZ := Lib.hid hz
  rcases hz.at_ with h | ⟨b, off, rfl, hb, hc⟩
  · subst h; simp at hn
  obtain ⟨p0, d0, hc0, hd0, hi0⟩ := hc 0 (by omega)
  rw [Nat.add_zero] at hc0
  have hs0 := hi0.small
  clear hc hz
  cases h3 : inB ((zss.getD 0 []).length : Int) 1 5
  · rw [show tabB g zss = false from by unfold tabB; rw [h1, h2, h3]; rfl]
    go_enter Tryd.func19, Tryd.ntmps19
    generalize (zss.getD 0 []).length = m at *
    go_wp2_with (first | (go_at_call 34; refine (within_any _ _ _ _).mono ?_; rw [h1]; rintro e w' ⟨rfl, rfl⟩) | (go_at_call 35; refine (isSide_any _ _).mono ?_; first | (rw [h2]; rintro e w' ⟨rfl, rfl⟩) | (rw [h3]; rintro e w' ⟨rfl, rfl⟩)))
    go_ret
    exact ⟨rfl, by go_grown⟩
  have HT : Hid (tabB g zss = zss.all (rowB (zss.getD 0 []).length)) := Lib.hid (by unfold tabB; rw [h1, h2, h3]; rfl)
  rw [HT.out]
  clear HT hi0
  generalize (zss.getD 0 []).length = m at *
  go_enter Tryd.func19, Tryd.ntmps19
  go_wp2_with (first | (go_at_call 34; refine (within_any _ _ _ _).mono ?_; rw [h1]; rintro e w' ⟨rfl, rfl⟩) | (go_at_call 35; refine (isSide_any _ _).mono ?_; first | (rw [h2]; rintro e w' ⟨rfl, rfl⟩) | (rw [h3]; rintro e w' ⟨rfl, rfl⟩)))
  refine (hasRow_any m (w.heap.size + 1) _ cap zss _ (HZ.out.keep (B := w.heap.size) (by go_grown) (Nat.le_refl _)) (by simp)).mono ?_
  rintro e w' ⟨rfl, k1⟩
  have g1 : Keep w w' := Keep.next (by go_grown) k1
  go_wp2
  go_ret
  exact ⟨ret_bool (by rw [not_any]; cases (zss.all (rowB m)) <;> rfl), g1⟩
end Go.Proofs.YtjfepogmphjliabDoor
