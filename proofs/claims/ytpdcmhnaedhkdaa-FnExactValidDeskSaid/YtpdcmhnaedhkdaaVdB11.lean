/- A valid desk: lists of values in memory, and the library's search through them (the program's side). -/
import Derived.Test.YtpdcmhnaedhkdaaVdA11
import Derived.Test.YtpdcmhnaedhkdaaVals
namespace Go.Proofs.Ytpdcmhnaedhkdaa
open Go.ChangeShapes Go.WideShapes Go.ChangeAt Go.RowKit Go.Deep
set_option linter.unusedVariables false
/-- A list of values in memory. -/
structure Vls (w : World) (ad : Option Addr) (L : List (Int × List Int)) : Prop where
  small : L.length ≤ 1048576
  at_ : L = [] ∨ ∃ b off, ad = some ⟨b, off, none⟩ ∧ b < w.heap.size ∧ ∀ i, i < L.length → ∃ p c, w.cell? ⟨b, off + i * 2, none⟩ = some (.int .i64 (L.getD i (0, [])).1) ∧ w.cell? ⟨b, off + i * 2 + 1, none⟩ = some (.slice p (L.getD i (0, [])).2.length c) ∧ Ints w p (L.getD i (0, [])).2
theorem Vls.keep {w w' : World} {ad : Option Addr} {L : List (Int × List Int)} {B : Nat} (h : Vls w ad L) (hb : Below B w w') (hB : w.heap.size ≤ B) : Vls w' ad L := by
  refine ⟨h.small, ?_⟩
  rcases h.at_ with h1 | ⟨b, off, h1, h2, h3⟩
  · exact .inl h1
  · refine .inr ⟨b, off, h1, Nat.lt_of_lt_of_le h2 hb.size, fun i hi => ?_⟩
    obtain ⟨p, c, g1, g2, g3⟩ := h3 i hi
    exact ⟨p, c, (hb.cell (p := ⟨b, off + i * 2, none⟩) (by show b < B; omega)).trans g1, (hb.cell (p := ⟨b, off + i * 2 + 1, none⟩) (by show b < B; omega)).trans g2, g3.keep hb hB⟩
theorem noVals_any (g : Int) (p : Option Addr) (c : Nat) (zs : List Int) (w : World) (hz : Ints w p zs) :
    Calls Try.prog 81 #[valV g p zs.length c] w fun e w' => e = .returned (.bool (!okV g zs)) ∧ Keep w w' := by
  go_enter Try.func81, Try.ntmps81
  go_wp2_with (go_at_call 82; refine (ValidValues_any _ _ _ _ _ (hz.keep (B := _) (by go_grown) (Nat.le_refl _))).mono ?_; rintro e w1 ⟨rfl, k1⟩)
  go_ret
  exact ⟨ret_bool (by cases okV g zs <;> rfl), Keep.next (by go_grown) k1⟩
theorem idxVals_any (ad : Option Addr) (cap : Nat) (L : List (Int × List Int)) (w : World) (hz : Vls w ad L) :
    Calls Try.prog 120 #[.slice ad L.length cap, .func (.func 81) #[] #[]] w fun e w' =>
      (∃ r, e = .returned (.int .i64 r) ∧ idxOk (fun v => !okV v.1 v.2) L r) ∧ Keep w w' := by
  have hs := hz.small
  go_enter Try.func120, Try.ntmps120
  go_wp2
  go_loopw [5, 8] (fun _ i wr => ∃ k : Nat, k ≤ L.length ∧ i = .int .i64 k ∧ Hid ((L.take k).any (fun v => !okV v.1 v.2) = false) ∧ Hid (Keep w wr)) (fun _ i _ => L.length - (intOf i).toNat)
  case atStart => exact ⟨0, Nat.zero_le _, rfl, Lib.hid (by simp), Lib.hid (by first | exact Below.refl _ _ | go_grown)⟩
  case round =>
    obtain ⟨k, hk, rfl, HA, HK⟩ := hrel
    by_cases hlt : k < L.length
    · rcases (hz.keep HK.out (Nat.le_refl _)).at_ with h | ⟨b, off, rfl, hb, hc⟩
      · subst h; simp at hlt
      obtain ⟨p, c, x0, x1, x2⟩ := hc k hlt
      have HS := Lib.hid (any_take_succ (fun v : Int × List Int => !okV v.1 v.2) L k (0, []) hlt)
      have HN := Lib.hid (fun h => any_no (p := fun v : Int × List Int => !okV v.1 v.2) (0, []) hlt h)
      have HC := Lib.hid (fun W (kk : Keep wr W) => noVals_any (L.getD k (0, [])).1 p c _ W (x2.keep kk (Nat.le_refl _)))
      clear hc x2
      obtain ⟨v, hv⟩ : ∃ v, v = L.getD k (0, []) := ⟨_, rfl⟩
      rw [← hv] at x0 x1 HS HN HC
      clear hv
      obtain ⟨g, zs⟩ := v
      simp only at x0 x1 HS HN HC
      cases hin : okV g zs
      · go_wp2_with (go_at_call 81; refine (HC.out _ (by go_grown)).mono ?_; rw [hin]; rintro e w2 ⟨rfl, k2⟩)
        go_ret
        exact ⟨⟨_, rfl, by omega, by omega, by rw [HN.out (by rw [hin]; rfl)]; simp⟩, Keep.next HK.out (Keep.next (by go_grown) k2)⟩
      · go_wp2_with (go_at_call 81; refine (HC.out _ (by go_grown)).mono ?_; rw [hin]; rintro e w2 ⟨rfl, k2⟩)
        go_roundw
        case rel => exact ⟨k + 1, by omega, by go_num, Lib.hid (by rw [HS.out, HA.out, hin]; rfl), Lib.hid (Keep.next HK.out (Keep.next (by go_grown) k2))⟩
        case measure => simp [intOf]; omega
    · have HE := Lib.hid (show k = L.length by omega)
      go_wp2
      go_ret
      have h := HA.out
      rw [HE.out, List.take_length] at h
      exact ⟨⟨-1, rfl, by omega, by omega, by rw [h]; rfl⟩, HK.out⟩
theorem hasVals_any (ad : Option Addr) (cap : Nat) (L : List (Int × List Int)) (w : World) (hz : Vls w ad L) :
    Calls Try.prog 84 #[.slice ad L.length cap, .func (.func 81) #[] #[]] w fun e w' =>
      e = .returned (.bool (L.any fun v => !okV v.1 v.2)) ∧ Keep w w' := by
  go_enter Try.func84, Try.ntmps84
  go_wp2_with fail
  refine (idxVals_any ad cap L _ hz).mono ?_
  rintro e w' ⟨⟨r, rfl, h1, h2, h3⟩, k1⟩
  have H3 := Lib.hid h3; clear h3
  go_wp2
  go_ret
  exact ⟨ret_bool H3.out, k1⟩
end Go.Proofs.Ytpdcmhnaedhkdaa
