/- A valid desk: the library's search through names and through lists of values (the program's side). -/
import Derived.Test.YtpdcmhnaedhkdaaVdN11
namespace Go.Proofs.Ytpdcmhnaedhkdaa
open Go.ChangeShapes Go.WideShapes Go.ChangeAt Go.RowKit Go.Deep
set_option linter.unusedVariables false
theorem noName_any (s : ByteArray) (w : World) (hs : s.size ≤ 1048576) :
    Calls Try.prog 79 #[.string s] w fun e w' => e = .returned (.bool (!nameB s)) ∧ Keep w w' := by
  go_enter Try.func79, Try.ntmps79
  go_wp2_with (go_at_call 80; refine (IsName_any _ _ hs).mono ?_; rintro e w' ⟨rfl, k1⟩)
  go_ret
  exact ⟨ret_bool (by cases nameB s <;> rfl), Keep.next (by go_grown) k1⟩
theorem idxName_any (ad : Option Addr) (cap : Nat) (zs : List ByteArray) (w : World) (hz : Nms w ad zs) :
    Calls Try.prog 119 #[.slice ad zs.length cap, .func (.func 79) #[] #[]] w fun e w' =>
      (∃ r, e = .returned (.int .i64 r) ∧ idxOk (fun s => !nameB s) zs r) ∧ Keep w w' := by
  have hs := hz.small
  have HLN := Lib.hid hz.len
  go_enter Try.func119, Try.ntmps119
  go_wp2
  go_loopw [5, 8] (fun _ i wr => ∃ k : Nat, k ≤ zs.length ∧ i = .int .i64 k ∧ Hid ((zs.take k).any (fun s => !nameB s) = false) ∧ Hid (Keep w wr)) (fun _ i _ => zs.length - (intOf i).toNat)
  case atStart => exact ⟨0, Nat.zero_le _, rfl, Lib.hid (by simp), Lib.hid (by first | exact Below.refl _ _ | go_grown)⟩
  case round =>
    obtain ⟨k, hk, rfl, HA, HK⟩ := hrel
    by_cases hlt : k < zs.length
    · rcases (hz.keep HK.out (Nat.le_refl _)).at_ with h | ⟨b, off, rfl, hb, hc⟩
      · subst h; simp at hlt
      have hcx := hc k hlt
      have HS := Lib.hid (any_take_succ (fun s => !nameB s) zs k noN hlt)
      have HN := Lib.hid (fun h => any_no (p := fun s => !nameB s) noN hlt h)
      have HXS : Hid ((zs.getD k noN).size ≤ 1048576) := Lib.hid (HLN.out _ (by rw [List.getD_eq_getElem?_getD, List.getElem?_eq_getElem hlt]; exact List.getElem_mem hlt))
      clear hc
      generalize zs.getD k noN = x at *
      have HC := Lib.hid (fun W => noName_any x W HXS.out)
      cases hin : nameB x
      · go_wp2_with (go_at_call 79; refine (HC.out _).mono ?_; rw [hin]; rintro e w2 ⟨rfl, k2⟩)
        go_ret
        exact ⟨⟨_, rfl, by omega, by omega, by rw [HN.out (by rw [hin]; rfl)]; simp⟩, Keep.next HK.out (Keep.next (by go_grown) k2)⟩
      · go_wp2_with (go_at_call 79; refine (HC.out _).mono ?_; rw [hin]; rintro e w2 ⟨rfl, k2⟩)
        go_roundw
        case rel => exact ⟨k + 1, by omega, by go_num, Lib.hid (by rw [HS.out, HA.out, hin]; rfl), Lib.hid (Keep.next HK.out (Keep.next (by go_grown) k2))⟩
        case measure => simp [intOf]; omega
    · have HE := Lib.hid (show k = zs.length by omega)
      go_wp2
      go_ret
      have h := HA.out
      rw [HE.out, List.take_length] at h
      exact ⟨⟨-1, rfl, by omega, by omega, by rw [h]; rfl⟩, HK.out⟩
theorem hasName_any (ad : Option Addr) (cap : Nat) (zs : List ByteArray) (w : World) (hz : Nms w ad zs) :
    Calls Try.prog 83 #[.slice ad zs.length cap, .func (.func 79) #[] #[]] w fun e w' =>
      e = .returned (.bool (zs.any fun s => !nameB s)) ∧ Keep w w' := by
  go_enter Try.func83, Try.ntmps83
  go_wp2_with fail
  refine (idxName_any ad cap zs _ hz).mono ?_
  rintro e w' ⟨⟨r, rfl, h1, h2, h3⟩, k1⟩
  have H3 := Lib.hid h3; clear h3
  go_wp2
  go_ret
  exact ⟨ret_bool H3.out, k1⟩
end Go.Proofs.Ytpdcmhnaedhkdaa
