/- Pictures: what a valid one is; the model's look at rows. -/
import Derived.Test.YtjoanfgchapbaaaGrd
import Derived.Test.YtjoanfgchapbaaaInts
import Derived.BigQuiet
import Derived.Deep.LoopGhost
namespace Go.Proofs.Ytjoanfgchapbaaa
open Go.ChangeShapes Go.WideShapes Go.ChangeAt Go.RowKit Go.Deep
set_option linter.unusedVariables false
theorem gall_take_succ {α : Type} (p : α → Bool) (L : List α) (k : Nat) (d : α) (h : k < L.length) : (L.take (k + 1)).all p = ((L.take k).all p && p (L.getD k d)) := by
  have e : L.getD k d = L[k] := by simp [List.getD_eq_getElem?_getD, h]
  rw [List.take_succ_eq_append_getElem h, e, List.all_append]; simp
theorem gall_no {α : Type} {p : α → Bool} {L : List α} {k : Nat} (d : α) (h : k < L.length) (hf : p (L.getD k d) = false) : L.all p = false := by
  rw [List.all_eq_false]
  refine ⟨L[k], List.getElem_mem h, ?_⟩
  have : L.getD k d = L[k] := by simp [List.getD_eq_getElem?_getD, h]
  rw [← this, hf]; simp
set_option maxHeartbeats 1600000 in
set_option maxRecDepth 100000 in
theorem l09Form_any (most : Int) (ad : Option Addr) (cap : Nat) (zss : List (List Int)) (w : World) (hz : Intss w ad zss) :
    Calls Try.prog 93 #[.slice ad zss.length cap, .int .i64 most] w fun e w' => e = .returned (.bool (gridB 12 most zss)) ∧ Keep w w' := by
  have hlen := hz.small
  by_cases h2 : 1 ≤ zss.length ∧ zss.length ≤ 12
  case neg =>
    have hg : gridB 12 most zss = false := by
      unfold gridB
      rw [show inB (zss.length : Int) 1 12 = false from inB_not.2 (by omega)]; rfl
    rw [hg]
    go_enter Try.func93, Try.ntmps93
    by_cases h3 : zss.length < 1
    · go_wp2
      go_ret
      exact ⟨rfl, Below.refl _ _⟩
    · have h4 : 12 < zss.length := by omega
      clear h2
      go_wp2
      go_ret
      exact ⟨rfl, Below.refl _ _⟩
  rcases hz.at_ with h | ⟨b, off, rfl, hb, hc⟩
  · subst h; simp at h2
  obtain ⟨p0, d0, hc0, hd0, hi0⟩ := hc 0 (by omega)
  rw [Nat.add_zero] at hc0
  have hs0 := hi0.small
  have HC := Lib.hid hc; clear hc
  obtain ⟨m, hm⟩ : ∃ m, m = (zss.getD 0 []).length := ⟨_, rfl⟩
  by_cases h5 : 1 ≤ m ∧ m ≤ 12
  case neg =>
    have hg : gridB 12 most zss = false := by
      unfold gridB
      rw [← hm, show inB (m : Int) 1 12 = false from inB_not.2 (by omega)]
      cases inB (zss.length : Int) 1 12 <;> rfl
    rw [hg]
    rw [← hm] at hc0 hd0 hs0
    clear hm hi0 hg
    have h6 := h2.1
    have h7 := h2.2
    clear h2
    go_enter Try.func93, Try.ntmps93
    by_cases h3 : m < 1
    · go_wp2
      go_ret
      exact ⟨rfl, Below.refl _ _⟩
    · have h4 : 12 < m := by omega
      clear h5
      go_wp2
      go_ret
      exact ⟨rfl, Below.refl _ _⟩
  have HT : Hid (gridB 12 most zss = zss.all (rowM most m)) := Lib.hid (by
    unfold gridB
    rw [← hm, inB_iff.2 ⟨by omega, by omega⟩, inB_iff.2 ⟨by omega, by omega⟩]; rfl)
  rw [HT.out]
  rw [← hm] at hc0 hd0 hs0
  clear hm hi0 HT
  have h6 := h2.1
  have h7 := h2.2
  have h8 := h5.1
  have h9 := h5.2
  clear h2 h5
  go_enter Try.func93, Try.ntmps93
  go_wp2
  go_loopg [5, 6] zss.length (fun kk i _j wr => ∃ k : Nat, k ≤ zss.length ∧ kk = zss.length - k ∧ i = .int .i64 k ∧ Hid ((zss.take k).all (rowM most m) = true) ∧ Hid (Keep w wr))
  case atStart => exact ⟨0, Nat.zero_le _, rfl, rfl, Lib.hid (by simp), Lib.hid (Below.refl _ _)⟩
  case round =>
    obtain ⟨k, hk, rfl, rfl, HA, HK⟩ := hrel
    obtain ⟨wo, rfl⟩ : ∃ x, x = wr := ⟨wr, rfl⟩
    have e2 := (HK.out.cell (p := ⟨b, off, none⟩) (by exact hb)).trans hc0
    by_cases hlt : k < zss.length
    · obtain ⟨p, d, hcx, hd, hi⟩ := HC.out k hlt
      have e1 := (HK.out.cell (p := ⟨b, off + k, none⟩) (by exact hb)).trans hcx
      have HI := Lib.hid hi
      have hsm := hi.small
      have HS := Lib.hid (gall_take_succ (rowM most m) zss k [] hlt)
      have HF := Lib.hid (fun h => gall_no (p := rowM most m) [] hlt h)
      have HX := Lib.hid hcx
      clear hcx hi
      generalize zss.getD k [] = zk at *
      by_cases hl : zk.length = m
      · have hle : ((zk.length : Int) != (m : Int)) = false := by rw [hl]; simp
        have HL := Lib.hid hl; clear hl
        go_wp2
        go_quiet (fail)
        go_wp2
        go_loopg [6] zk.length (fun kk i wi => ∃ j : Nat, j ≤ zk.length ∧ kk = zk.length - j ∧ i = .int .i64 j ∧ Hid (entM most (zk.take j) = true) ∧ Hid (Keep w wi))
        case atStart => exact ⟨0, Nat.zero_le _, rfl, rfl, Lib.hid (by simp [entM]), Lib.hid (below_drewN HK.out _)⟩
        case round =>
          obtain ⟨j, hj, rfl, rfl, HE, HK2⟩ := hrel
          have q1 := (HK2.out.cell (p := ⟨b, off + k, none⟩) (by exact hb)).trans HX.out
          by_cases hjt : j < zk.length
          · rcases HI.out.at_ with h | ⟨b2, off2, rfl, hb2, hc2⟩
            · subst h; simp at hjt
            have q2 := (HK2.out.cell (p := ⟨b2, off2 + j, none⟩) (by exact hb2)).trans (hc2 j hjt)
            have HS2 := Lib.hid (gall_take_succ (fun x => inB x 0 most) zk j 0 hjt)
            have HF2 := Lib.hid (fun h => gall_no (p := fun x => inB x 0 most) (0 : Int) hjt h)
            clear hc2
            generalize zk.getD j 0 = x at *
            cases hin : inB x 0 most
            · have HR := Lib.hid (HF.out (by unfold rowM entM; rw [HF2.out hin, Bool.and_false]))
              go_wp2_with (go_at_call 68; refine (l00In_any _ _ _ _).mono ?_; rw [hin]; rintro e w' ⟨rfl, rfl⟩)
              go_ret
              exact ⟨ret_bool HR.out.symm, HK2.out⟩
            · go_wp2_with (go_at_call 68; refine (l00In_any _ _ _ _).mono ?_; rw [hin]; rintro e w' ⟨rfl, rfl⟩)
              go_roundg (zk.length - (j + 1))
              case measure => omega
              case rel => exact ⟨j + 1, by omega, rfl, by go_num, Lib.hid (by have h := HE.out; unfold entM at h ⊢; rw [HS2.out, h, hin]; rfl), HK2⟩
          · have HEJ := Lib.hid (show j = zk.length by omega)
            go_wp2
            go_roundg (zss.length - (k + 1))
            case measure => omega
            case rel =>
              refine ⟨k + 1, by omega, rfl, by go_num, Lib.hid ?_, HK2⟩
              have h := HE.out
              rw [HEJ.out, List.take_length] at h
              rw [HS.out, HA.out]
              unfold rowM
              rw [h, decide_eq_true HL.out]; rfl
      · have hle : ((zk.length : Int) != (m : Int)) = true := by simp; omega
        have HR := Lib.hid (HF.out (by unfold rowM; rw [decide_eq_false hl, Bool.false_and]))
        clear hl
        go_wp2
        go_quiet (fail)
        go_wp2
        go_ret
        exact ⟨ret_bool HR.out.symm, below_drewN HK.out _⟩
    · have HE := Lib.hid (show k = zss.length by omega)
      go_wp2
      go_ret
      have h := HA.out
      rw [HE.out, List.take_length] at h
      exact ⟨ret_bool h.symm, HK.out⟩
/-- A valid picture. -/
def picB (zss : List (List Int)) : Bool := gridB 12 255 zss
theorem l09Is_any (B : Nat) (ad : Option Addr) (cap : Nat) (zss : List (List Int)) (w : World) (hz : Intss w ad zss) (c0 : w.cell? ⟨B, 0, none⟩ = some (.slice ad zss.length cap)) :
    Calls Try.prog 53 #[.pointer (some ⟨B, 0, none⟩)] w fun e w' => e = .returned (.bool (picB zss)) ∧ Keep w w' := by
  have HF := Lib.hid (l09Form_any 255 ad cap zss w hz)
  rw [show gridB 12 255 zss = picB zss from rfl] at HF
  generalize picB zss = V at *
  go_enter Try.func53, Try.ntmps53
  go_wp2_with fail
  refine HF.out.mono ?_
  rintro e w1 ⟨rfl, k1⟩
  go_wp2
  go_ret
  exact ⟨rfl, k1⟩
theorem specValidPicture_any (ad : Option Addr) (cap : Nat) (zss : List (List Int)) (w : World) (hz : Intss w ad zss) :
    Calls Try.prog 16 #[.agg #[.slice ad zss.length cap]] w fun e w' => e = .returned (.bool (picB zss)) ∧ Keep w w' := by
  have hbl : Below w.heap.size w (w.alloc (.cells #[.slice ad zss.length cap] 27)) := by go_grown
  go_enter Try.func16, Try.ntmps16
  go_wp2_with fail
  refine (l09Is_any w.heap.size ad cap zss _ (hz.keep hbl (Nat.le_refl _)) (by simp)).mono ?_
  rintro e w1 ⟨rfl, k1⟩
  have hk1 : Below w.heap.size w w1 := (Below.trans hbl (k1.mono (by simp <;> omega)))
  go_wp2
  go_ret
  exact ⟨rfl, hk1⟩
end Go.Proofs.Ytjoanfgchapbaaa
