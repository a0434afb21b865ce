/- Tables: the program's look at one. -/
import Derived.Test.YtpdcmhnaedhkdaaDoorTab5
import Derived.Test.YtpdcmhnaedhkdaaDoorVals
import Derived.Test.YtpdcmhnaedhkdaaDoorGrd
namespace Go.Proofs.YtpdcmhnaedhkdaaDoor
open Go.ChangeShapes Go.WideShapes Go.ChangeAt Go.RowKit Go.Deep
set_option linter.unusedVariables false
/-- What an index of the first element with a property is, as far as it counts. -/
def idxOk {α : Type} (p : α → Bool) (L : List α) (r : Int) : Prop := -1 ≤ r ∧ r < 9223372036854775807 ∧ (decide (0 ≤ r) = L.any p)
theorem any_no {α : Type} {p : α → Bool} {L : List α} {k : Nat} (d : α) (h : k < L.length) (hf : p (L.getD k d) = true) : L.any p = true := by
  rw [List.any_eq_true]
  have : L.getD k d = L[k] := by simp [List.getD_eq_getElem?_getD, h]
  exact ⟨L[k], List.getElem_mem h, by rw [← this]; exact hf⟩
theorem any_take_succ {α : Type} (p : α → Bool) (L : List α) (k : Nat) (d : α) (h : k < L.length) : (L.take (k + 1)).any p = ((L.take k).any p || p (L.getD k d)) := by
  have e : L.getD k d = L[k] := by simp [List.getD_eq_getElem?_getD, h]
  rw [List.take_succ_eq_append_getElem h, e, List.any_append]; simp
theorem not_any {α : Type} (p : α → Bool) (L : List α) : (L.any fun x => !p x) = !L.all p := by
  induction L with
  | nil => rfl
  | cons a t ih => simp only [List.any_cons, List.all_cons, ih]; cases p a <;> rfl
theorem upTo_any (n m : Int) (vb : Nat) (w : World) (c0 : w.cell? ⟨vb, 0, none⟩ = some (.int .i64 m)) :
    Calls Tryd.prog 93 #[.int .i64 n, .pointer (some ⟨vb, 0, none⟩)] w fun e w' => e = .returned (.bool (!inB n 0 m)) ∧ w = w' := by
  go_enter Tryd.func93, Tryd.ntmps93
  go_wp2_with (go_at_call 64; refine (within_any _ _ _ _).mono ?_; rintro e w' ⟨rfl, rfl⟩)
  go_ret
  exact ⟨ret_bool (by cases inB n 0 m <;> rfl), rfl⟩
theorem idxUp_any (m : Int) (vb : Nat) (ad : Option Addr) (cap : Nat) (zs : List Int) (w : World) (hz : Ints w ad zs) (c0 : w.cell? ⟨vb, 0, none⟩ = some (.int .i64 m)) :
    Calls Tryd.prog 102 #[.slice ad zs.length cap, .func (.func 93) #[] #[.pointer (some ⟨vb, 0, none⟩)]] w fun e w' =>
      (∃ r, e = .returned (.int .i64 r) ∧ idxOk (fun n => !inB n 0 m) zs r) ∧ w = w' := by
  have hs := hz.small
  go_enter Tryd.func102, Tryd.ntmps102
  go_wp2
  go_loop [5, 8] (fun _ i => ∃ k : Nat, k ≤ zs.length ∧ i = .int .i64 k ∧ Hid ((zs.take k).any (fun n => !inB n 0 m) = false)) (fun _ i => zs.length - (intOf i).toNat)
  case atStart => exact ⟨0, Nat.zero_le _, rfl, Lib.hid (by simp)⟩
  case round =>
    obtain ⟨k, hk, rfl, HA⟩ := hrel
    by_cases hlt : k < zs.length
    · rcases hz.at_ with h | ⟨b, off, rfl, hb, hc⟩
      · subst h; simp at hlt
      have hcx := hc k hlt
      have HS := Lib.hid (any_take_succ (fun n => !inB n 0 m) zs k 0 hlt)
      have HN := Lib.hid (fun h => any_no (p := fun n => !inB n 0 m) (0 : Int) hlt h)
      clear hc
      generalize zs.getD k 0 = x at *
      cases hin : inB x 0 m
      · go_wp2_with (go_at_call 93; refine (upTo_any _ _ _ _ c0).mono ?_; rw [hin]; rintro e w' ⟨rfl, rfl⟩)
        go_ret
        exact ⟨⟨_, rfl, by omega, by omega, by rw [HN.out (by rw [hin]; rfl)]; simp⟩, rfl⟩
      · go_wp2_with (go_at_call 93; refine (upTo_any _ _ _ _ c0).mono ?_; rw [hin]; rintro e w' ⟨rfl, rfl⟩)
        go_round
        case rel => exact ⟨k + 1, by omega, by go_num, Lib.hid (by rw [HS.out, HA.out, hin]; rfl)⟩
        case measure => simp [intOf]; omega
    · have HE := Lib.hid (show k = zs.length by omega)
      go_wp2
      go_ret
      have h := HA.out
      rw [HE.out, List.take_length] at h
      exact ⟨⟨-1, rfl, by omega, by omega, by rw [h]; rfl⟩, rfl⟩
theorem hasUp_any (m : Int) (vb : Nat) (ad : Option Addr) (cap : Nat) (zs : List Int) (w : World) (hz : Ints w ad zs) (c0 : w.cell? ⟨vb, 0, none⟩ = some (.int .i64 m)) :
    Calls Tryd.prog 92 #[.slice ad zs.length cap, .func (.func 93) #[] #[.pointer (some ⟨vb, 0, none⟩)]] w fun e w' =>
      e = .returned (.bool (zs.any fun n => !inB n 0 m)) ∧ w = w' := by
  go_enter Tryd.func92, Tryd.ntmps92
  go_wp2_with fail
  refine (idxUp_any m vb ad cap zs _ hz c0).mono ?_
  rintro e w' ⟨⟨r, rfl, h1, h2, h3⟩, rfl⟩
  have H3 := Lib.hid h3; clear h3
  go_wp2
  go_ret
  exact ⟨ret_bool H3.out, rfl⟩
theorem areUpTo_any (m : Int) (ad : Option Addr) (cap : Nat) (zs : List Int) (w : World) (hz : Ints w ad zs) :
    Calls Tryd.prog 81 #[.slice ad zs.length cap, .int .i64 m] w fun e w' => e = .returned (.bool (zs.all fun x => inB x 0 m)) ∧ Keep w w' := by
  go_enter Tryd.func81, Tryd.ntmps81
  go_wp2_with fail
  refine (hasUp_any m w.heap.size ad cap zs _ (hz.keep (B := _) (by go_grown) (Nat.le_refl _)) (by simp)).mono ?_
  rintro e w' ⟨rfl, rfl⟩
  go_wp2
  go_ret
  exact ⟨ret_bool (by rw [not_any]; cases (zs.all fun x => inB x 0 m) <;> rfl), by go_grown⟩
theorem sideC_any (n s : Int) (vb : Nat) (w : World) (c0 : w.cell? ⟨vb, 0, none⟩ = some (.int .i64 s)) :
    Calls Tryd.prog 78 #[.int .i64 n, .pointer (some ⟨vb, 0, none⟩)] w fun e w' => e = .returned (.bool (inB n 1 s)) ∧ w = w' := by
  go_enter Tryd.func78, Tryd.ntmps78
  go_wp2
  all_goals go_ret
  all_goals refine ⟨ret_bool ?_, rfl⟩
  all_goals first | (simp [inB, *]; done) | (symm; rw [inB_not]; omega) | (symm; rw [inB_iff]; omega)
/-- A row as the others: as long as the first one, its numbers within the limits. -/
theorem rowM_any (most : Int) (m : Nat) (vb mb : Nat) (ad : Option Addr) (cap : Nat) (zs : List Int) (w : World) (hz : Ints w ad zs) (c0 : w.cell? ⟨vb, 0, none⟩ = some (.int .i64 (m : Nat))) (c1 : w.cell? ⟨mb, 0, none⟩ = some (.int .i64 most)) :
    Calls Tryd.prog 80 #[.slice ad zs.length cap, .pointer (some ⟨vb, 0, none⟩), .pointer (some ⟨mb, 0, none⟩)] w fun e w' => e = .returned (.bool (!rowM most m zs)) ∧ Keep w w' := by
  have hs := hz.small
  by_cases hl : zs.length = m
  · have hne : ((zs.length : Int) != (m : Int)) = false := by simp; omega
    have HR : Hid (rowM most m zs = zs.all fun x => inB x 0 most) := Lib.hid (by unfold rowM entM; rw [decide_eq_true hl, Bool.true_and])
    clear hl
    go_enter Tryd.func80, Tryd.ntmps80
    go_wp2_with fail
    refine (areUpTo_any most ad cap zs _ hz).mono ?_
    rintro e w' ⟨rfl, k1⟩
    go_wp2
    go_ret
    exact ⟨ret_bool (by rw [HR.out]), k1⟩
  · have hne : ((zs.length : Int) != (m : Int)) = true := by simp; omega
    have HR : Hid (rowM most m zs = false) := Lib.hid (by unfold rowM; rw [decide_eq_false hl, Bool.false_and])
    go_enter Tryd.func80, Tryd.ntmps80
    go_wp2
    go_ret
    exact ⟨ret_bool (by rw [HR.out]; rfl), Below.refl _ _⟩
set_option maxHeartbeats 800000 in
theorem idxRowM_any (most : Int) (m : Nat) (vb mb : Nat) (ad : Option Addr) (cap : Nat) (zss : List (List Int)) (w : World) (hz : Intss w ad zss) (c0 : w.cell? ⟨vb, 0, none⟩ = some (.int .i64 (m : Nat))) (c1 : w.cell? ⟨mb, 0, none⟩ = some (.int .i64 most)) :
    Calls Tryd.prog 91 #[.slice ad zss.length cap, .func (.func 80) #[] #[.pointer (some ⟨vb, 0, none⟩), .pointer (some ⟨mb, 0, none⟩)]] w fun e w' =>
      (∃ r, e = .returned (.int .i64 r) ∧ idxOk (fun z => !rowM most m z) zss r) ∧ Keep w w' := by
  have hs := hz.small
  have hvb : vb < w.heap.size := World.block_lt_of_cell? _ _ c0
  have hmb : mb < w.heap.size := World.block_lt_of_cell? _ _ c1
  go_enter Tryd.func91, Tryd.ntmps91
  go_wp2
  go_loopw [5, 8] (fun _ i wr => ∃ k : Nat, k ≤ zss.length ∧ i = .int .i64 k ∧ Hid ((zss.take k).any (fun z => !rowM most m z) = false) ∧ Hid (Keep w wr)) (fun _ i _ => zss.length - (intOf i).toNat)
  case atStart => exact ⟨0, Nat.zero_le _, rfl, Lib.hid (by simp), Lib.hid (Below.refl _ _)⟩
  case round =>
    obtain ⟨k, hk, rfl, HA, HK⟩ := hrel
    by_cases hlt : k < zss.length
    · rcases (hz.keep HK.out (Nat.le_refl _)).at_ with h | ⟨b, off, rfl, hb, hc⟩
      · subst h; simp at hlt
      obtain ⟨p, d, hcx, hd, hi⟩ := hc k hlt
      have e0 := (HK.out.cell (p := ⟨vb, 0, none⟩) (by exact hvb)).trans c0
      have e1 := (HK.out.cell (p := ⟨mb, 0, none⟩) (by exact hmb)).trans c1
      have HS := Lib.hid (any_take_succ (fun z => !rowM most m z) zss k [] hlt)
      have HN := Lib.hid (fun h => any_no (p := fun z => !rowM most m z) [] hlt h)
      have HI := Lib.hid hi
      clear hc hi
      generalize zss.getD k [] = x at *
      cases hin : rowM most m x
      · have HR := Lib.hid (HN.out (by rw [hin]; rfl))
        go_wp2_with (go_at_call 80; refine (rowM_any most m vb mb p d x _ HI.out e0 e1).mono ?_; rw [hin]; rintro e w' ⟨rfl, k1⟩)
        go_ret
        exact ⟨⟨_, rfl, by omega, by omega, by rw [HR.out]; simp⟩, HK.out.next k1⟩
      · go_wp2_with (go_at_call 80; refine (rowM_any most m vb mb p d x _ HI.out e0 e1).mono ?_; rw [hin]; rintro e w' ⟨rfl, k1⟩)
        go_roundw
        case rel => exact ⟨k + 1, by omega, by go_num, Lib.hid (by rw [HS.out, HA.out, hin]; rfl), Lib.hid (HK.out.next k1)⟩
        case measure => simp [intOf]; omega
    · have HE := Lib.hid (show k = zss.length by omega)
      go_wp2
      go_ret
      have h := HA.out
      rw [HE.out, List.take_length] at h
      exact ⟨⟨-1, rfl, by omega, by omega, by rw [h]; rfl⟩, HK.out⟩
theorem hasRowM_any (most : Int) (m : Nat) (vb mb : Nat) (ad : Option Addr) (cap : Nat) (zss : List (List Int)) (w : World) (hz : Intss w ad zss) (c0 : w.cell? ⟨vb, 0, none⟩ = some (.int .i64 (m : Nat))) (c1 : w.cell? ⟨mb, 0, none⟩ = some (.int .i64 most)) :
    Calls Tryd.prog 79 #[.slice ad zss.length cap, .func (.func 80) #[] #[.pointer (some ⟨vb, 0, none⟩), .pointer (some ⟨mb, 0, none⟩)]] w fun e w' =>
      e = .returned (.bool (zss.any fun z => !rowM most m z)) ∧ Keep w w' := by
  go_enter Tryd.func79, Tryd.ntmps79
  go_wp2_with fail
  refine (idxRowM_any most m vb mb ad cap zss _ hz c0 c1).mono ?_
  rintro e w' ⟨⟨r, rfl, h1, h2, h3⟩, k1⟩
  have H3 := Lib.hid h3; clear h3
  go_wp2
  go_ret
  exact ⟨ret_bool H3.out, k1⟩
set_option maxHeartbeats 800000 in
/-- Rows of as many numbers: the program's look. -/
theorem areRows_any (side most : Int) (ad : Option Addr) (cap : Nat) (zss : List (List Int)) (w : World) (hz : Intss w ad zss) :
    Calls Tryd.prog 69 #[.slice ad zss.length cap, .int .i64 side, .int .i64 most] w fun e w' => e = .returned (.bool (gridB side most zss)) ∧ Keep w w' := by
  have hlen := hz.small
  cases h2 : inB (zss.length : Int) 1 side
  · rw [show gridB side most zss = false from by unfold gridB; rw [h2]; rfl]
    go_enter Tryd.func69, Tryd.ntmps69
    go_wp2_with (go_at_call 78; refine (sideC_any _ side w.heap.size _ (by simp)).mono ?_; rw [h2]; rintro e w' ⟨rfl, rfl⟩)
    go_ret
    exact ⟨rfl, by go_grown⟩
  have hn := inB_iff.1 h2
  have HZ := Lib.hid hz
  rcases hz.at_ with h | ⟨b, off, rfl, hb, hc⟩
  · subst h; simp at hn
  obtain ⟨p0, d0, hc0, hd0, hi0⟩ := hc 0 (by omega)
  rw [Nat.add_zero] at hc0
  have hs0 := hi0.small
  clear hc hz
  cases h3 : inB ((zss.getD 0 []).length : Int) 1 side
  · rw [show gridB side most zss = false from by unfold gridB; rw [h2, h3]; rfl]
    go_enter Tryd.func69, Tryd.ntmps69
    generalize (zss.getD 0 []).length = m at *
    go_wp2_with (go_at_call 78; refine (sideC_any _ side w.heap.size _ (by simp)).mono ?_; first | (rw [h2]; rintro e w' ⟨rfl, rfl⟩) | (rw [h3]; rintro e w' ⟨rfl, rfl⟩))
    go_ret
    exact ⟨rfl, by go_grown⟩
  have HT : Hid (gridB side most zss = zss.all (rowM most (zss.getD 0 []).length)) := Lib.hid (by unfold gridB; rw [h2, h3]; rfl)
  rw [HT.out]
  clear HT hi0
  generalize (zss.getD 0 []).length = m at *
  go_enter Tryd.func69, Tryd.ntmps69
  go_wp2_with (go_at_call 78; refine (sideC_any _ side w.heap.size _ (by simp)).mono ?_; first | (rw [h2]; rintro e w' ⟨rfl, rfl⟩) | (rw [h3]; rintro e w' ⟨rfl, rfl⟩))
  refine (hasRowM_any most m (w.heap.size + 1 + 1) (w.heap.size + 1) _ cap zss _ (HZ.out.keep (B := w.heap.size) (by go_grown) (Nat.le_refl _)) (by simp [go_sem]) (by simp [go_sem])).mono ?_
  rintro e w' ⟨rfl, k1⟩
  have g1 : Keep w w' := Keep.next (by go_grown) k1
  go_wp2
  go_ret
  exact ⟨ret_bool (by rw [not_any]; cases (zss.all (rowM most m)) <;> rfl), g1⟩
-- 69
theorem tab_grid (g : Int) (zss : List (List Int)) : tabB g zss = (inB g 1 1000 && gridB 5 100000 zss) := rfl
theorem ValidTable_any (g : Int) (ad : Option Addr) (cap : Nat) (zss : List (List Int)) (w : World) (hz : Intss w ad zss) :
    Calls Tryd.prog 45 #[valV g ad zss.length cap] w fun e w' => e = .returned (.bool (tabB g zss)) ∧ Keep w w' := by
  rw [tab_grid]
  have HR := Lib.hid (fun W (k : Keep w W) => areRows_any 5 100000 ad cap zss W (hz.keep k (Nat.le_refl _)))
  clear hz
  cases h1 : inB g 1 1000
  · go_enter Tryd.func45, Tryd.ntmps45
    go_wp2_with (go_at_call 64; refine (within_any _ _ _ _).mono ?_; rw [h1]; rintro e w' ⟨rfl, rfl⟩)
    go_ret
    exact ⟨rfl, by go_grown⟩
  · rw [Bool.true_and]
    generalize gridB 5 100000 zss = V at *
    go_enter Tryd.func45, Tryd.ntmps45
    go_wp2_with (go_at_call 64; refine (within_any _ _ _ _).mono ?_; rw [h1]; rintro e w' ⟨rfl, rfl⟩)
    refine (HR.out _ (by go_grown)).mono ?_
    rintro e w' ⟨rfl, k1⟩
    have g1 : Keep w w' := Keep.next (by go_grown) k1
    go_wp2
    go_ret
    exact ⟨rfl, g1⟩
end Go.Proofs.YtpdcmhnaedhkdaaDoor
