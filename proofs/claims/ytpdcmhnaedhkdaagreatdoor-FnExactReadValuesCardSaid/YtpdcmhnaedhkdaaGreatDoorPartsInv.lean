/- The model's loop over a text cut at commas: what holds at each byte. -/
import Derived.Test.YtpdcmhnaedhkdaaGreatDoorParts
namespace Go.Proofs.YtpdcmhnaedhkdaaGreatDoor
set_option linter.unusedVariables false
/-- Behind byte k, with the parts done, the next one begun at j. -/
def Inv (l : List UInt8) (j k : Nat) (done : List (List UInt8)) : Prop :=
  j ≤ k ∧ (∀ p ∈ done, rdOk p = true) ∧ done.length ≤ 40 ∧ ((k ≤ l.length ∧ parts l = done ++ parts (l.drop j) ∧ (44 : UInt8) ∉ (l.drop j).take (k - j)) ∨ (k = l.length + 1 ∧ parts l = done))
theorem Inv.start (l : List UInt8) : Inv l 0 0 [] := ⟨Nat.le_refl _, by simp, by simp, .inl ⟨Nat.zero_le _, by simp, by simp⟩⟩
theorem drop_cut (l : List UInt8) (j k : Nat) (h : j ≤ k) : l.drop j = (l.drop j).take (k - j) ++ l.drop k := by
  have h1 := (List.take_append_drop (k - j) (l.drop j)).symm
  rw [List.drop_drop, show j + (k - j) = k from by omega] at h1
  exact h1
theorem Inv.pass {l : List UInt8} {j k : Nat} {done : List (List UInt8)} (h : Inv l j k done) (hk : k < l.length) (hb : l[k]? ≠ some 44) : Inv l j (k + 1) done := by
  obtain ⟨h1, h2, h3, ⟨h4, h5, h6⟩ | ⟨h4, h5⟩⟩ := h
  · refine ⟨by omega, h2, h3, .inl ⟨by omega, h5, ?_⟩⟩
    rw [show k + 1 - j = (k - j) + 1 from by omega, List.take_add_one]
    intro hm
    rcases List.mem_append.1 hm with h | h
    · exact h6 h
    · rw [List.getElem?_drop, show j + (k - j) = k from by omega] at h
      exact hb (by simpa using h)
  · omega
theorem Inv.piece {l : List UInt8} {j k : Nat} {done : List (List UInt8)} (h : Inv l j k done) (hk : k ≤ l.length) (hb : k = l.length ∨ l[k]? = some 44) :
    parts l = done ++ (l.drop j).take (k - j) :: (if k = l.length then [] else parts (l.drop (k + 1))) := by
  obtain ⟨h1, h2, h3, ⟨h4, h5, h6⟩ | ⟨h4, h5⟩⟩ := h
  · have hc := drop_cut l j k h1
    by_cases he : k = l.length
    · rw [if_pos he, h5]
      have : l.drop k = [] := by rw [he]; exact List.drop_length
      rw [this, List.append_nil] at hc
      rw [← hc, parts_last (l.drop j) (by rw [hc]; exact h6)]
    · rw [if_neg he, h5]
      have hg : l[k]? = some 44 := hb.resolve_left he
      have hd : l.drop k = 44 :: l.drop (k + 1) := by
        obtain ⟨hlt, hv⟩ := List.getElem?_eq_some_iff.1 hg
        rw [← hv]; exact List.drop_eq_getElem_cons hlt
      rw [hd] at hc
      conv => lhs; rw [hc]
      rw [parts_comma _ _ h6]
  · omega
theorem Inv.bad {l : List UInt8} {j k : Nat} {done : List (List UInt8)} (h : Inv l j k done) (hd : l ≠ [45]) (hk : k ≤ l.length) (hb : k = l.length ∨ l[k]? = some 44)
    (hn : rdOk ((l.drop j).take (k - j)) = false ∨ done.length = 40) : rdsOk l = false := by
  have hp := h.piece hk hb
  have : (decide ((parts l).length ≤ 40) && (parts l).all rdOk) = false := by
    rcases hn with hn | hn
    · have h1 : (parts l).all rdOk = false := List.all_eq_false.2 ⟨(l.drop j).take (k - j), by rw [hp]; simp, by simp [hn]⟩
      rw [h1, Bool.and_false]
    · have h1 : ¬ (parts l).length ≤ 40 := by rw [hp, List.length_append, List.length_cons]; omega
      rw [decide_eq_false h1, Bool.false_and]
  unfold rdsOk
  rw [decide_eq_false hd, this]; rfl
theorem Inv.next {l : List UInt8} {j k : Nat} {done : List (List UInt8)} (h : Inv l j k done) (hk : k ≤ l.length) (hb : k = l.length ∨ l[k]? = some 44)
    (h1 : rdOk ((l.drop j).take (k - j)) = true) (h2 : done.length ≠ 40) : Inv l (k + 1) (k + 1) (done ++ [(l.drop j).take (k - j)]) := by
  have hp := h.piece hk hb
  obtain ⟨_, h3, h4, _⟩ := h
  refine ⟨Nat.le_refl _, ?_, by rw [List.length_append, List.length_cons, List.length_nil]; omega, ?_⟩
  · intro p hm
    rcases List.mem_append.1 hm with h | h
    · exact h3 p h
    · rw [List.mem_singleton.1 h]; exact h1
  · by_cases he : k = l.length
    · right
      rw [if_pos he] at hp
      exact ⟨by omega, hp⟩
    · left
      rw [if_neg he] at hp
      exact ⟨by omega, by rw [hp, List.append_assoc]; rfl, by simp⟩
theorem Inv.done {l : List UInt8} {j : Nat} {done : List (List UInt8)} (h : Inv l j (l.length + 1) done) (hd : l ≠ [45]) : rdsOk l = true ∧ rdsV l = done.map rdV := by
  obtain ⟨_, h2, h3, ⟨h4, _⟩ | ⟨_, h5⟩⟩ := h
  · omega
  · have h6 : rdsOk l = true := by
      unfold rdsOk
      rw [h5, decide_eq_true h3, List.all_eq_true.2 h2]; simp
    exact ⟨h6, by unfold rdsV; rw [if_neg hd, if_pos h6, h5]⟩
end Go.Proofs.YtpdcmhnaedhkdaaGreatDoor
