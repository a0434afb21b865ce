/- Mixtures of values: the program's look. -/
import Derived.Test.YtgpnlnmljeahdaaDoorMeanO6
import Derived.Test.YtgpnlnmljeahdaaDoorMixI
import Derived.Test.YtgpnlnmljeahdaaDoorErrs
namespace Go.Proofs.YtgpnlnmljeahdaaDoor
open Go.ChangeShapes Go.WideShapes Go.ChangeAt Go.RowKit Go.Deep
set_option linter.unusedVariables false
/-- What an index of the first element with a property is, as far as it counts. -/
def idxOk6 {α : Type} (p : α → Bool) (L : List α) (r : Int) : Prop := -1 ≤ r ∧ r < 9223372036854775807 ∧ (decide (0 ≤ r) = L.any p)
theorem any_no6 {α : Type} {p : α → Bool} {L : List α} {k : Nat} (d : α) (h : k < L.length) (hf : p (L.getD k d) = true) : L.any p = true := by
  rw [List.any_eq_true]
  have : L.getD k d = L[k] := by simp [List.getD_eq_getElem?_getD, h]
  exact ⟨L[k], List.getElem_mem h, by rw [← this]; exact hf⟩
theorem any_take_succ6 {α : Type} (p : α → Bool) (L : List α) (k : Nat) (d : α) (h : k < L.length) : (L.take (k + 1)).any p = ((L.take k).any p || p (L.getD k d)) := by
  have e : L.getD k d = L[k] := by simp [List.getD_eq_getElem?_getD, h]
  rw [List.take_succ_eq_append_getElem h, e, List.any_append]; simp
theorem not_any6 {α : Type} (p : α → Bool) (L : List α) : (L.any fun x => !p x) = !L.all p := by
  induction L with
  | nil => rfl
  | cons a t ih => simp only [List.any_cons, List.all_cons, ih]; cases p a <;> rfl
theorem rowsRB_all (zss : List (List Int)) (g : Int) (zs : List Int) : zss.all (fun z => rndB g zs z) = rowsRB zss g zs := by
  unfold rowsRB
  rw [Bool.eq_iff_iff]
  simp only [List.all_eq_true, List.mem_range]
  constructor
  · intro h k hk
    rw [getDD_get zss k hk]; exact h _ (List.getElem_mem hk)
  · intro h x hx
    obtain ⟨k, hk, rfl⟩ := List.getElem_of_mem hx
    rw [← getDD_get zss k hk]; exact h k hk
theorem isOther_any (g : Int) (vd : Option Addr) (vc : Nat) (zs : List Int) (vb : Nat) (p : Option Addr) (d : Nat) (ls : List Int) (w : World) (hv : Ints w vd zs) (hl : Ints w p ls) (X : Box w vb g vd zs.length vc) :
    Calls Tryd.prog 72 #[.slice p ls.length d, .pointer (some ⟨vb, 0, none⟩)] w fun e w' => e = .returned (.bool (!rndB g zs ls)) ∧ Keep w w' := by
  obtain ⟨c0, c1, _⟩ := X
  go_enter Tryd.func72, Tryd.ntmps72
  go_wp2_with fail
  refine (IsRounding_any g vd vc zs p d ls w hv hl).mono ?_
  rintro e w1 ⟨rfl, k1⟩
  go_wp2
  go_ret
  exact ⟨rfl, k1⟩
set_option maxHeartbeats 800000 in
theorem idxOther_any (g : Int) (vd : Option Addr) (vc : Nat) (zs : List Int) (vb : Nat) (ad : Option Addr) (cap : Nat) (zss : List (List Int)) (w : World) (hz : Intss w ad zss) (hv : Ints w vd zs) (X : Box w vb g vd zs.length vc) :
    Calls Tryd.prog 123 #[.slice ad zss.length cap, .func (.func 72) #[] #[.pointer (some ⟨vb, 0, none⟩)]] w fun e w' =>
      (∃ r, e = .returned (.int .i64 r) ∧ idxOk6 (fun z => !rndB g zs z) zss r) ∧ Keep w w' := by
  have hs := hz.small
  have HX := Lib.hid X; clear X
  have HV := Lib.hid hv; clear hv
  go_enter Tryd.func123, Tryd.ntmps123
  go_wp2
  go_loopw [5, 8] (fun _ i wr => ∃ k : Nat, k ≤ zss.length ∧ i = .int .i64 k ∧ Hid ((zss.take k).any (fun z => !rndB g zs z) = false) ∧ Hid (Keep w wr)) (fun _ i _ => zss.length - (intOf i).toNat)
  case atStart => exact ⟨0, Nat.zero_le _, rfl, Lib.hid (by simp), Lib.hid (Below.refl _ _)⟩
  case round =>
    obtain ⟨k, hk, rfl, HA, HK⟩ := hrel
    by_cases hlt : k < zss.length
    · rcases (hz.keep HK.out (Nat.le_refl _)).at_ with h | ⟨b, off, rfl, hb, hc⟩
      · subst h; simp at hlt
      obtain ⟨p, d, hcx, hd, hi⟩ := hc k hlt
      have HS := Lib.hid (any_take_succ6 (fun z => !rndB g zs z) zss k [] hlt)
      have HN := Lib.hid (fun h => any_no6 (p := fun z => !rndB g zs z) [] hlt h)
      have HC := Lib.hid (isOther_any g vd vc zs vb p d (zss.getD k []) wr (HV.out.keep HK.out (Nat.le_refl _)) hi (HX.out.keep HK.out))
      clear hc hi
      generalize zss.getD k [] = x at *
      cases hin : rndB g zs x
      · have HR := Lib.hid (HN.out (by rw [hin]; rfl))
        rw [hin] at HC
        go_wp2_with (go_at_call 72; refine HC.out.mono ?_; rintro e w' ⟨rfl, k1⟩)
        go_ret
        exact ⟨⟨_, rfl, by omega, by omega, by rw [HR.out]; simp⟩, HK.out.next k1⟩
      · rw [hin] at HC
        go_wp2_with (go_at_call 72; refine HC.out.mono ?_; rintro e w' ⟨rfl, k1⟩)
        go_roundw
        case rel => exact ⟨k + 1, by omega, by go_num, Lib.hid (by rw [HS.out, HA.out, hin]; rfl), Lib.hid (HK.out.next k1)⟩
        case measure => simp [intOf]; omega
    · have HE := Lib.hid (show k = zss.length by omega)
      go_wp2
      go_ret
      have h := HA.out
      rw [HE.out, List.take_length] at h
      exact ⟨⟨-1, rfl, by omega, by omega, by rw [h]; rfl⟩, HK.out⟩
theorem hasOther_any (g : Int) (vd : Option Addr) (vc : Nat) (zs : List Int) (vb : Nat) (ad : Option Addr) (cap : Nat) (zss : List (List Int)) (w : World) (hz : Intss w ad zss) (hv : Ints w vd zs) (X : Box w vb g vd zs.length vc) :
    Calls Tryd.prog 74 #[.slice ad zss.length cap, .func (.func 72) #[] #[.pointer (some ⟨vb, 0, none⟩)]] w fun e w' =>
      e = .returned (.bool (!rowsRB zss g zs)) ∧ Keep w w' := by
  go_enter Tryd.func74, Tryd.ntmps74
  go_wp2_with fail
  refine (idxOther_any g vd vc zs vb ad cap zss _ hz hv X).mono ?_
  rintro e w' ⟨⟨r, rfl, h1, h2, h3⟩, k1⟩
  rw [not_any6, rowsRB_all] at h3
  have H3 := Lib.hid h3; clear h3
  go_wp2
  go_ret
  exact ⟨ret_bool H3.out, k1⟩
theorem sameMean_any (x y g tt : Int) (vb mb : Nat) (w : World) (c0 : w.cell? ⟨vb, 0, none⟩ = some (.int .i64 g)) (d0 : w.cell? ⟨mb, 0, none⟩ = some (.int .i64 tt)) (h1 : -9000000000000000000 ≤ x * g ∧ x * g ≤ 9000000000000000000) (h2 : -9000000000000000000 ≤ y * tt ∧ y * tt ≤ 9000000000000000000) :
    Calls Tryd.prog 77 #[.int .i64 x, .int .i64 y, .pointer (some ⟨vb, 0, none⟩), .pointer (some ⟨mb, 0, none⟩)] w fun e w' => e = .returned (.bool (decide (x * g = y * tt))) ∧ w = w' := by
  have W1 : IntKind.i64.wrap (x * g) = x * g := IntWalk.i64_in _ (by omega)
  have W2 : IntKind.i64.wrap (y * tt) = y * tt := IntWalk.i64_in _ (by omega)
  clear h1 h2
  go_enter Tryd.func77, Tryd.ntmps77
  go_wp2
  go_ret
  exact ⟨ret_bool (by rw [Bool.eq_iff_iff]; simp), rfl⟩
set_option maxHeartbeats 800000 in
theorem sameMeans_any (g tt : Int) (vb mb : Nat) (sd : Option Addr) (sc : Nat) (S : List Int) (vd : Option Addr) (vc : Nat) (zs : List Int) (w : World) (hS : Ints w sd S) (hv : Ints w vd zs) (hl : S.length = zs.length)
    (c0 : w.cell? ⟨vb, 0, none⟩ = some (.int .i64 g)) (d0 : w.cell? ⟨mb, 0, none⟩ = some (.int .i64 tt))
    (h1 : ∀ t, t < zs.length → (-9000000000000000000 ≤ S.getD t 0 * g ∧ S.getD t 0 * g ≤ 9000000000000000000) ∧ (-9000000000000000000 ≤ zs.getD t 0 * tt ∧ zs.getD t 0 * tt ≤ 9000000000000000000)) :
    Calls Tryd.prog 76 #[.slice sd S.length sc, .slice vd zs.length vc, .func (.func 77) #[] #[.pointer (some ⟨vb, 0, none⟩), .pointer (some ⟨mb, 0, none⟩)]] w fun e w' =>
      e = .returned (.bool ((List.range zs.length).all fun t => decide (S.getD t 0 * g = zs.getD t 0 * tt))) ∧ w = w' := by
  have hs := hv.small
  have hne : ((S.length : Int) != (zs.length : Int)) = false := by simp; omega
  have HL := Lib.hid hl; clear hl
  have H1 := Lib.hid h1; clear h1
  obtain ⟨V, hV⟩ : ∃ V, V = ((List.range zs.length).all fun t => decide (S.getD t 0 * g = zs.getD t 0 * tt)) := ⟨_, rfl⟩
  rw [← hV]
  have HV := Lib.hid hV; clear hV
  go_enter Tryd.func76, Tryd.ntmps76
  go_wp2
  go_loop [7, 8, 9, 17] (fun _ _ _ i => ∃ k : Nat, k ≤ S.length ∧ i = .int .i64 k ∧ Hid ((List.range k).all (fun t => decide (S.getD t 0 * g = zs.getD t 0 * tt)) = true)) (fun _ _ _ i => S.length - (intOf i).toNat)
  case atStart => exact ⟨0, Nat.zero_le _, rfl, Lib.hid (by simp)⟩
  case round =>
    obtain ⟨k, hk, rfl, HA⟩ := hrel
    by_cases hlt : k < S.length
    · have hlz : k < zs.length := by rw [← HL.out]; exact hlt
      rcases hS.at_ with h | ⟨b, off, rfl, hb, hc⟩
      · rw [h] at hlt; simp at hlt
      rcases hv.at_ with h | ⟨b2, off2, rfl, hb2, hc2⟩
      · rw [h] at hlz; simp at hlz
      have hcx := hc k hlt
      have hcy := hc2 k hlz
      have HS := Lib.hid (range_all_succ (fun t => decide (S.getD t 0 * g = zs.getD t 0 * tt)) k)
      have HF := Lib.hid (fun h => range_all_no (p := fun t => decide (S.getD t 0 * g = zs.getD t 0 * tt)) hlz h)
      have hbd := H1.out k hlz
      have HSM := Lib.hid (sameMean_any (S.getD k 0) (zs.getD k 0) g tt vb mb w c0 d0 hbd.1 hbd.2)
      clear hc hc2 hbd
      generalize S.getD k 0 = x at *
      generalize zs.getD k 0 = y at *
      cases hq : decide (x * g = y * tt)
      · have HNO : Hid (V = false) := Lib.hid (by rw [HV.out, HF.out hq])
        rw [hq] at HSM
        clear hq
        go_wp2_with (go_at_call 77; refine HSM.out.mono ?_; rintro e w' ⟨rfl, rfl⟩)
        go_ret
        exact ⟨ret_bool HNO.out.symm, rfl⟩
      · rw [hq] at HSM
        have HQ := Lib.hid hq; clear hq
        go_wp2_with (go_at_call 77; refine HSM.out.mono ?_; rintro e w' ⟨rfl, rfl⟩)
        go_round
        case rel => exact ⟨k + 1, by omega, by go_num, Lib.hid (by rw [HS.out, HA.out, HQ.out]; rfl)⟩
        case measure => simp [intOf]; omega
    · have HU : Hid (V = true) := Lib.hid (by have h := HA.out; rw [show k = S.length by omega, HL.out] at h; rw [HV.out]; exact h)
      go_wp2
      go_ret
      exact ⟨ret_bool HU.out.symm, rfl⟩
end Go.Proofs.YtgpnlnmljeahdaaDoor
