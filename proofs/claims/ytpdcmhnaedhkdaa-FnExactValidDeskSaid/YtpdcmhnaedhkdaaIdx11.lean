/- Numbers of a list from 0 to a greatest one: the program's look (out of TabI, without tables). -/
import Derived.Test.YtpdcmhnaedhkdaaVals
namespace Go.Proofs.Ytpdcmhnaedhkdaa
open Go.ChangeShapes Go.WideShapes Go.ChangeAt Go.RowKit Go.Deep
set_option linter.unusedVariables false
/-- What an index of the first element with a property is, as far as it counts. -/
def idxOk {α : Type} (p : α → Bool) (L : List α) (r : Int) : Prop := -1 ≤ r ∧ r < 9223372036854775807 ∧ (decide (0 ≤ r) = L.any p)
theorem any_no {α : Type} {p : α → Bool} {L : List α} {k : Nat} (d : α) (h : k < L.length) (hf : p (L.getD k d) = true) : L.any p = true := by
  rw [List.any_eq_true]
  have : L.getD k d = L[k] := by simp [List.getD_eq_getElem?_getD, h]
  exact ⟨L[k], List.getElem_mem h, by rw [← this]; exact hf⟩
theorem any_take_succ {α : Type} (p : α → Bool) (L : List α) (k : Nat) (d : α) (h : k < L.length) : (L.take (k + 1)).any p = ((L.take k).any p || p (L.getD k d)) := by
  have e : L.getD k d = L[k] := by simp [List.getD_eq_getElem?_getD, h]
  rw [List.take_succ_eq_append_getElem h, e, List.any_append]; simp
theorem not_any {α : Type} (p : α → Bool) (L : List α) : (L.any fun x => !p x) = !L.all p := by
  induction L with
  | nil => rfl
  | cons a t ih => simp only [List.any_cons, List.all_cons, ih]; cases p a <;> rfl
theorem upTo_any (n m : Int) (vb : Nat) (w : World) (c0 : w.cell? ⟨vb, 0, none⟩ = some (.int .i64 m)) :
    Calls Try.prog 151 #[.int .i64 n, .pointer (some ⟨vb, 0, none⟩)] w fun e w' => e = .returned (.bool (!inB n 0 m)) ∧ w = w' := by
  go_enter Try.func151, Try.ntmps151
  go_wp2_with (go_at_call 47; refine (within_any _ _ _ _).mono ?_; rintro e w' ⟨rfl, rfl⟩)
  go_ret
  exact ⟨ret_bool (by cases inB n 0 m <;> rfl), rfl⟩
theorem idxUp_any (m : Int) (vb : Nat) (ad : Option Addr) (cap : Nat) (zs : List Int) (w : World) (hz : Ints w ad zs) (c0 : w.cell? ⟨vb, 0, none⟩ = some (.int .i64 m)) :
    Calls Try.prog 148 #[.slice ad zs.length cap, .func (.func 151) #[] #[.pointer (some ⟨vb, 0, none⟩)]] w fun e w' =>
      (∃ r, e = .returned (.int .i64 r) ∧ idxOk (fun n => !inB n 0 m) zs r) ∧ w = w' := by
  have hs := hz.small
  go_enter Try.func148, Try.ntmps148
  go_wp2
  go_loop [5, 8] (fun _ i => ∃ k : Nat, k ≤ zs.length ∧ i = .int .i64 k ∧ Hid ((zs.take k).any (fun n => !inB n 0 m) = false)) (fun _ i => zs.length - (intOf i).toNat)
  case atStart => exact ⟨0, Nat.zero_le _, rfl, Lib.hid (by simp)⟩
  case round =>
    obtain ⟨k, hk, rfl, HA⟩ := hrel
    by_cases hlt : k < zs.length
    · rcases hz.at_ with h | ⟨b, off, rfl, hb, hc⟩
      · subst h; simp at hlt
      have hcx := hc k hlt
      have HS := Lib.hid (any_take_succ (fun n => !inB n 0 m) zs k 0 hlt)
      have HN := Lib.hid (fun h => any_no (p := fun n => !inB n 0 m) (0 : Int) hlt h)
      clear hc
      generalize zs.getD k 0 = x at *
      cases hin : inB x 0 m
      · go_wp2_with (go_at_call 151; refine (upTo_any _ _ _ _ c0).mono ?_; rw [hin]; rintro e w' ⟨rfl, rfl⟩)
        go_ret
        exact ⟨⟨_, rfl, by omega, by omega, by rw [HN.out (by rw [hin]; rfl)]; simp⟩, rfl⟩
      · go_wp2_with (go_at_call 151; refine (upTo_any _ _ _ _ c0).mono ?_; rw [hin]; rintro e w' ⟨rfl, rfl⟩)
        go_round
        case rel => exact ⟨k + 1, by omega, by go_num, Lib.hid (by rw [HS.out, HA.out, hin]; rfl)⟩
        case measure => simp [intOf]; omega
    · have HE := Lib.hid (show k = zs.length by omega)
      go_wp2
      go_ret
      have h := HA.out
      rw [HE.out, List.take_length] at h
      exact ⟨⟨-1, rfl, by omega, by omega, by rw [h]; rfl⟩, rfl⟩
theorem hasUp_any (m : Int) (vb : Nat) (ad : Option Addr) (cap : Nat) (zs : List Int) (w : World) (hz : Ints w ad zs) (c0 : w.cell? ⟨vb, 0, none⟩ = some (.int .i64 m)) :
    Calls Try.prog 136 #[.slice ad zs.length cap, .func (.func 151) #[] #[.pointer (some ⟨vb, 0, none⟩)]] w fun e w' =>
      e = .returned (.bool (zs.any fun n => !inB n 0 m)) ∧ w = w' := by
  go_enter Try.func136, Try.ntmps136
  go_wp2_with fail
  refine (idxUp_any m vb ad cap zs _ hz c0).mono ?_
  rintro e w' ⟨⟨r, rfl, h1, h2, h3⟩, rfl⟩
  have H3 := Lib.hid h3; clear h3
  go_wp2
  go_ret
  exact ⟨ret_bool H3.out, rfl⟩
theorem areUpTo_any (m : Int) (ad : Option Addr) (cap : Nat) (zs : List Int) (w : World) (hz : Ints w ad zs) :
    Calls Try.prog 147 #[.slice ad zs.length cap, .int .i64 m] w fun e w' => e = .returned (.bool (zs.all fun x => inB x 0 m)) ∧ Keep w w' := by
  go_enter Try.func147, Try.ntmps147
  go_wp2_with fail
  refine (hasUp_any m w.heap.size ad cap zs _ (hz.keep (B := _) (by go_grown) (Nat.le_refl _)) (by simp)).mono ?_
  rintro e w' ⟨rfl, rfl⟩
  go_wp2
  go_ret
  exact ⟨ret_bool (by rw [not_any]; cases (zs.all fun x => inB x 0 m) <;> rfl), by go_grown⟩
end Go.Proofs.Ytpdcmhnaedhkdaa
