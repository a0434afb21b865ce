/- A text cut at its commas, and the numbers of its parts. -/
import Derived.Test.YtpdcmhnaedhkdaaGreatDoorNum
import Derived.Lib.SplitLaws
namespace Go.Proofs.YtpdcmhnaedhkdaaGreatDoor
set_option linter.unusedVariables false
/-- The parts of a text between its commas. -/
def parts : List UInt8 → List (List UInt8)
  | [] => [[]]
  | b :: l => if b = 44 then [] :: parts l else match parts l with
    | p :: r => (b :: p) :: r
    | [] => [[b]]
theorem parts_ne (l : List UInt8) : parts l ≠ [] := by
  cases l with
  | nil => simp [parts]
  | cons b l =>
    unfold parts
    split
    · simp
    · split <;> simp
theorem parts_len (l : List UInt8) : (parts l).length = l.count 44 + 1 := by
  induction l with
  | nil => simp [parts]
  | cons b l ih =>
    unfold parts
    by_cases h : b = 44
    · rw [if_pos h, h]; simp [ih]
    · rw [if_neg h, List.count_cons_of_ne (by simpa using h)]
      split
      · rename_i p r he
        rw [he] at ih; simpa using ih
      · rename_i he
        exact absurd he (parts_ne l)
theorem parts_comma (p r : List UInt8) (h : (44 : UInt8) ∉ p) : parts (p ++ 44 :: r) = p :: parts r := by
  induction p with
  | nil => rw [List.nil_append, parts, if_pos rfl]
  | cons b p ih =>
    have h1 : b ≠ 44 := fun e => h (by rw [e]; exact List.mem_cons_self ..)
    have h2 := ih fun e => h (List.mem_cons_of_mem _ e)
    rw [List.cons_append, parts, if_neg h1, h2]
theorem parts_last (p : List UInt8) (h : (44 : UInt8) ∉ p) : parts p = [p] := by
  induction p with
  | nil => rfl
  | cons b p ih =>
    have h1 : b ≠ 44 := fun e => h (by rw [e]; exact List.mem_cons_self ..)
    have h2 := ih fun e => h (List.mem_cons_of_mem _ e)
    rw [parts, if_neg h1, h2]
theorem parts_short (l : List UInt8) : ∀ p ∈ parts l, p.length ≤ l.length := by
  induction l with
  | nil => intro p hp; simp [parts] at hp; simp [hp]
  | cons b l ih =>
    intro p hp
    unfold parts at hp
    split at hp
    · rcases List.mem_cons.1 hp with h | h
      · rw [h]; simp
      · have := ih p h; simp; omega
    · split at hp
      · rename_i q r he
        rcases List.mem_cons.1 hp with h | h
        · have := ih q (by rw [he]; exact List.mem_cons_self ..); rw [h]; simpa using this
        · have := ih p (by rw [he]; exact List.mem_cons_of_mem _ h); simp; omega
      · rename_i he
        exact absurd he (parts_ne l)
theorem split_comma (l : List UInt8) : Lib.split (44 :: l) [44] = [] :: Lib.split l [44] := by
  have hix : Lib.index (44 :: l) [44] = 0 := by rw [Lib.index]; simp [List.isPrefixOf]
  unfold Lib.split
  rw [Lib.count_cons_eq, Nat.add_comm, Lib.splitK, hix]
  simp
theorem split_other (b : UInt8) (l : List UInt8) (h : b ≠ 44) : Lib.split (b :: l) [44] = match Lib.split l [44] with | p :: r => (b :: p) :: r | [] => [[b]] := by
  have hp : ([44] : List UInt8).isPrefixOf (b :: l) = false := by simp [List.isPrefixOf, Ne.symm h]
  have hix : Lib.index (b :: l) [44] = if Lib.index l [44] == -1 then -1 else Lib.index l [44] + 1 := by rw [Lib.index, hp]; simp
  unfold Lib.split
  rw [Lib.count_cons_ne b 44 l h]
  by_cases hm : Lib.index l [44] = -1
  · rw [Lib.count_miss hm]; rfl
  · have hge := Lib.index_ge l [44]
    obtain ⟨j, hj⟩ : ∃ j : Nat, Lib.index l [44] = j := ⟨(Lib.index l [44]).toNat, by omega⟩
    have hix' : Lib.index (b :: l) [44] = ((j + 1 : Nat) : Int) := by rw [hix, if_neg (fun e => hm (beq_iff_eq.1 e)), hj]; omega
    have hm1 : ¬ ((((j + 1 : Nat) : Int)) == -1) = true := fun e => by have := beq_iff_eq.1 e; omega
    have hm2 : ¬ (((j : Nat) : Int) == -1) = true := fun e => by have := beq_iff_eq.1 e; omega
    rw [Lib.count_hit (by simp) hj, Nat.add_comm, Lib.splitK, Lib.splitK, hix', hj, if_neg hm1, if_neg hm2]
    simp
theorem split_parts (l : List UInt8) : Lib.split l [44] = parts l := by
  induction l with
  | nil => unfold Lib.split; rw [Lib.count_miss (by simp [Lib.index])]; rfl
  | cons b l ih =>
    by_cases h : b = 44
    · subst h; rw [split_comma, ih, parts, if_pos rfl]
    · rw [split_other b l h, ih, parts, if_neg h]
/-- The parts as strings.Split gives them. -/
theorem splitB_parts (s : ByteArray) : (Lib.splitB ⟨#[44]⟩ 0 (Lib.countB s ⟨#[44]⟩) s).map (·.data.toList) = parts s.data.toList := by
  rw [Lib.splitB_data, ← split_parts]; rfl
theorem rdV_bd (l : List UInt8) : -1000000000 ≤ rdV l ∧ rdV l ≤ 1000000000 := by
  unfold rdV
  by_cases h : rdOk l = true
  · rw [if_pos h]
    unfold rdOk at h
    rw [Bool.and_eq_true, inB_iff] at h
    exact h.1
  · rw [if_neg h]; omega
theorem rdV_in64 (l : List UInt8) : In64 (rdV l) := by have := rdV_bd l; exact ⟨by omega, by omega⟩
/-- Is this the text of a list? -/
def rdsOk (l : List UInt8) : Bool := decide (l = [45]) || (decide ((parts l).length ≤ 40) && (parts l).all rdOk)
/-- The list with this text. -/
def rdsV (l : List UInt8) : List Int := if l = [45] then [] else if rdsOk l then (parts l).map rdV else []
end Go.Proofs.YtpdcmhnaedhkdaaGreatDoor
