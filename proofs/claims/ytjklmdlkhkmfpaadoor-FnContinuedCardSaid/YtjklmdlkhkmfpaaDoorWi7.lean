/- Words: the program's look. -/
import Derived.Test.YtjklmdlkhkmfpaaDoorBl7
import Derived.Test.YtjklmdlkhkmfpaaDoorShelf
import Derived.Shelf.Strings.SlTrimAscii
import Derived.Deep.RegionHeld3
namespace Go.Proofs.YtjklmdlkhkmfpaaDoor
open Go.ChangeShapes Go.WideShapes Go.ChangeAt Go.RowKit Go.Deep
set_option linter.unusedVariables false
theorem dropWhile_none {p : UInt8 → Bool} : ∀ l : List UInt8, l.dropWhile p = [] ↔ ∀ b ∈ l, p b = true := by
  intro l
  induction l with
  | nil => simp
  | cons a r ih =>
    rw [List.dropWhile_cons]
    by_cases h : p a = true
    · rw [if_pos h, ih]; simp [h]
    · rw [if_neg h]; simp [h]
theorem trim_eq (s : ByteArray) : (Lib.trimLeftS s.data.toList [97, 98] = []) ↔ ∀ j (h : j < s.size), (s[j]'h).toNat = 97 ∨ (s[j]'h).toNat = 98 := by
  unfold Lib.trimLeftS
  rw [dropWhile_none]
  have hl : s.data.toList.length = s.size := Array.length_toList.trans rfl
  constructor
  · intro h j hj
    have e : s.data.toList[j]'(by rw [hl]; exact hj) = s[j]'hj := by rw [Array.getElem_toList]; rfl
    have := h (s[j]'hj) (e ▸ List.getElem_mem _)
    simp at this
    rcases this with q | q
    · left; rw [q]; rfl
    · right; rw [q]; rfl
  · intro h b hb
    obtain ⟨j, hj, rfl⟩ := List.mem_iff_getElem.1 hb
    have hj2 : j < s.size := by rw [← hl]; exact hj
    have := h j hj2
    have e : s.data.toList[j] = s[j]'hj2 := by rw [Array.getElem_toList]; rfl
    rw [e]
    simp
    rcases this with q | q
    · left; exact UInt8.toNat_inj.1 (by rw [q]; rfl)
    · right; exact UInt8.toNat_inj.1 (by rw [q]; rfl)
theorem trim_wd (s : ByteArray) (h : s.size ≤ 120) : decide ((⟨(Lib.trimLeftS s.data.toList [97, 98]).toArray⟩ : ByteArray) = ⟨#[]⟩) = wdB s := by
  unfold wdB
  rw [Bool.eq_iff_iff, decide_eq_true_eq, decide_eq_true_eq, ByteArray.mk.injEq]
  have e := trim_eq s
  constructor
  · intro q
    exact ⟨h, e.1 (by have := congrArg Array.toList q; simpa using this)⟩
  · intro q
    rw [e.2 q.2]
theorem TrimLeft_any (s : ByteArray) (w : World) :
    Calls Tryd.prog 28 #[.string s, .string ⟨#[97, 98]⟩] w fun e w' => e = .returned (.string ⟨(Lib.trimLeftS s.data.toList [97, 98]).toArray⟩) ∧ Keep w w' :=
  Any.strings_TrimLeft_laid Tryd.lays161 (by kernel_rfl) s ⟨#[97, 98]⟩ w (by decide) (ascii_of_all (by decide))
set_option maxHeartbeats 400000 in
theorem IsWord_any (s : ByteArray) (w : World) (hs : s.size ≤ 1048576) :
    Calls Tryd.prog 19 #[.string s] w fun e w' => e = .returned (.bool (wdB s)) ∧ Keep w w' := by
  by_cases q : s.size ≤ 120
  · have HT := Lib.hid (trim_wd s q)
    have HC := Lib.hid (TrimLeft_any s w)
    generalize Lib.trimLeftS s.data.toList [97, 98] = T at *
    have qi : (s.size : Int) ≤ 120 := by omega
    go_enter Tryd.func19, Tryd.ntmps19
    go_wp2_with (go_at_call 28; refine HC.out.mono ?_; rintro e w' ⟨rfl, k1⟩)
    go_ret
    exact ⟨ret_bool (by first | exact HT.out | (rw [← HT.out]; cases T <;> simp) | (rw [← HT.out]; rfl)), k1⟩
  · have HT : Hid (wdB s = false) := Lib.hid (by unfold wdB; exact decide_eq_false (fun h => q h.1))
    have qi : ¬ (s.size : Int) ≤ 120 := by omega
    go_enter Tryd.func19, Tryd.ntmps19
    go_wp2
    go_ret
    exact ⟨ret_bool HT.out.symm, Below.refl _ _⟩
end Go.Proofs.YtjklmdlkhkmfpaaDoor
