/- The text of a list is read as that list; the check number of a text is that of its second part, begun with that of its first part. -/
import Derived.Test.YtpdcmhnaedhkdaaGreatDoorParts
import Derived.Test.YtpdcmhnaedhkdaaGreatDoorJoin
import Derived.Test.YtpdcmhnaedhkdaaGreatDoorDec
import Derived.Test.YtpdcmhnaedhkdaaGreatDoorSums
import Derived.Lib.IndexMore
namespace Go.Proofs.YtpdcmhnaedhkdaaGreatDoor
set_option linter.unusedVariables false
theorem dec_digs (u : Nat) : ∀ c ∈ Lib.decDigits u, 48 ≤ c.toNat ∧ c.toNat ≤ 57 := by
  induction u using Nat.strongRecOn with
  | _ u ih =>
    have hd := dch_nat u
    unfold dch at hd
    by_cases h : u < 10
    · rw [dec_small h]
      rw [Nat.mod_eq_of_lt h] at hd
      intro c hc; simp only [List.mem_singleton] at hc; subst hc; omega
    · rw [dec_big h]
      intro c hc
      rcases List.mem_append.1 hc with hc | hc
      · exact ih (u / 10) (by omega) c hc
      · simp only [List.mem_singleton] at hc; subst hc; omega
/-- Neither a comma nor a colon is in a number's text. -/
theorem itoa_sign (n : Int) (b : UInt8) (h1 : b.toNat < 45 ∨ 57 < b.toNat) : b ∉ Lib.itoa n := by
  intro hb
  rw [Lib.itoa] at hb
  split at hb
  · rcases List.mem_cons.1 hb with h | h
    · rw [h] at h1; rcases h1 with h1 | h1 <;> revert h1 <;> decide
    · have := dec_digs _ b h; omega
  · have := dec_digs _ b hb; omega
theorem parts_join : ∀ (x : List UInt8) (r : List (List UInt8)), (44 : UInt8) ∉ x → (∀ y ∈ r, (44 : UInt8) ∉ y) → parts (Lib.join (x :: r) [44]) = x :: r := by
  intro x r
  induction r generalizing x with
  | nil => intro hx _; rw [Lib.join_one]; exact parts_last x hx
  | cons y t ih =>
    intro hx hr
    have h1 := ih y (hr y (by simp)) (fun z hz => hr z (by simp [hz]))
    rw [Lib.join_cons] at h1 ⊢
    have e : x ++ Lib.joinTail [44] (y :: t) = x ++ 44 :: (y ++ Lib.joinTail [44] t) := by simp [Lib.joinTail]
    rw [e, parts_comma x _ hx, h1]
theorem rd_dash : rdOk [45] = false := by
  rw [← Bool.not_eq_true, rdOk_iff]
  rintro ⟨n, _, _, h⟩
  rw [Lib.itoa] at h
  split at h
  · have h2 : Lib.decDigits n.natAbs = [] := by simpa using h
    obtain ⟨c, r, h3, _⟩ := dec_head n.natAbs
    rw [h3] at h2; cases h2
  · have := dec_digs n.toNat 45 (by rw [h]; simp)
    revert this; decide
/-- A list within the limits is read from its text. -/
theorem rds_txt (zs : List Int) (hl : zs.length ≤ 40) (hb : ∀ z ∈ zs, -1000000000 ≤ z ∧ z ≤ 1000000000) : rdsOk (txt zs) = true ∧ rdsV (txt zs) = zs := by
  cases zs with
  | nil => exact ⟨by simp [rdsOk, txt], by simp [rdsV, txt]⟩
  | cons x r =>
    have hp : parts (txt (x :: r)) = (x :: r).map Lib.itoa := by
      unfold txt; rw [if_neg (by simp), List.map_cons]
      exact parts_join _ _ (itoa_sign x 44 (by decide)) (fun y hy => by obtain ⟨z, _, rfl⟩ := List.mem_map.1 hy; exact itoa_sign z 44 (by decide))
    have hrd : ∀ z ∈ (x :: r), rdOk (Lib.itoa z) = true ∧ rdV (Lib.itoa z) = z := fun z hz => rd_of (hb z hz).1 (hb z hz).2 rfl
    have hall : ((x :: r).map Lib.itoa).all rdOk = true := by
      rw [List.all_map, List.all_eq_true]; intro z hz; exact (hrd z hz).1
    have hne : txt (x :: r) ≠ [45] := by
      intro h
      rw [h] at hp
      have h2 : parts [45] = [[45]] := by decide
      rw [h2] at hp
      rw [← hp] at hall
      simp [rd_dash] at hall
    have hok : rdsOk (txt (x :: r)) = true := by
      unfold rdsOk; rw [hp, hall, decide_eq_true (show ((x :: r).map Lib.itoa).length ≤ 40 from by rw [List.length_map]; exact hl)]; simp
    refine ⟨hok, ?_⟩
    unfold rdsV
    rw [if_neg hne, if_pos hok, hp, List.map_map]
    conv => rhs; rw [← List.map_id (x :: r)]
    exact List.map_congr_left (fun z hz => (hrd z hz).2)
theorem txt_pos (zs : List Int) : 0 < (txt zs).length := by
  cases zs with
  | nil => simp [txt]
  | cons x r =>
    unfold txt; rw [if_neg (by simp), List.map_cons, Lib.join_cons, List.length_append]
    have : 0 < (Lib.itoa x).length := by
      rw [Lib.itoa]; split
      · simp
      · obtain ⟨c, t, h, _⟩ := dec_head x.toNat; rw [h]; simp
    omega
theorem chk_append (n : Int) (a b : List UInt8) : chk n (a ++ b) = chk (chk n a) b := by unfold chk; rw [List.foldl_append]
end Go.Proofs.YtpdcmhnaedhkdaaGreatDoor
