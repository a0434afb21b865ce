/- Lists compared: the model's l00Same, the program's slices.Equal. -/
import Derived.Test.YtjoanfgchapbaabMem
import Derived.BigQuiet
namespace Go.Proofs.Ytjoanfgchapbaab
open Go.ChangeShapes Go.WideShapes Go.ChangeAt Go.RowKit Go.Deep
set_option linter.unusedVariables false
theorem l00Same_any (ad bd : Option Addr) (ca cb : Nat) (xs ys : List Int) (w : World) (ha : Ints w ad xs) (hb : Ints w bd ys) :
    Calls Try.prog 90 #[.slice ad xs.length ca, .slice bd ys.length cb] w fun e w' => e = .returned (.bool (eqB xs ys)) ∧ Keep w w' := by
  have hla := ha.small
  have hlb := hb.small
  by_cases hl : xs.length = ys.length
  · have hl1 : ((xs.length : Int) == (ys.length : Int)) = true := by simp [hl]
    have hl2 : ((xs.length : Int) != (ys.length : Int)) = false := by simp [hl]
    have HL := Lib.hid hl; clear hl
    go_enter Try.func90, Try.ntmps90
    go_wp2
    go_loopw [5] (fun i wr => ∃ k : Nat, k ≤ xs.length ∧ i = .int .i64 k ∧ xs.take k = ys.take k ∧ Below w.heap.size w wr)
      (fun i _ => xs.length - (intOf i).toNat)
    case atStart => exact ⟨0, Nat.zero_le _, rfl, rfl, Below.refl _ _⟩
    case round =>
      obtain ⟨k, hk, rfl, heq, hbel⟩ := hrel
      have HQ := Lib.hid heq; clear heq
      by_cases hlt : k < xs.length
      · have hl := HL.out
        rcases ha.at_ with h | ⟨b, off, rfl, hb1, hc⟩
        · subst h; simp at hlt
        rcases hb.at_ with h | ⟨b2, off2, rfl, hb2, hc2⟩
        · rw [h] at hl; simp only [List.length_nil] at hl; omega
        have hcx : wr.cell? ⟨b, off + k, none⟩ = some (.int .i64 (xs.getD k 0)) := (hbel.cell (by show b < _; exact hb1)).trans (hc k hlt)
        have hcy : wr.cell? ⟨b2, off2 + k, none⟩ = some (.int .i64 (ys.getD k 0)) := (hbel.cell (by show b2 < _; exact hb2)).trans (hc2 k (by omega))
        have hlt2 : k < ys.length := by omega
        clear hl
        go_wp2
        go_quiet (fail)
        go_wp2
        · have hne : (xs[k] != ys[k]) = true := by assumption
          go_ret
          refine ⟨ret_bool ?_, below_drewN hbel _⟩
          symm; unfold eqB; apply decide_eq_false
          intro h; subst h; simp at hne
        · have hne : (xs[k] != ys[k]) = false := by assumption
          go_roundw
          case rel =>
            refine ⟨k + 1, by omega, by go_num, ?_, below_drewN hbel _⟩
            have hne2 : xs[k] = ys[k] := by simpa using hne
            rw [List.take_succ_eq_append_getElem hlt, List.take_succ_eq_append_getElem hlt2, HQ.out, hne2]
          case measure => simp [intOf]; omega
      · have he : k = xs.length := by omega
        have HE := Lib.hid he; clear he
        go_wp2
        go_ret
        refine ⟨ret_bool ?_, hbel⟩
        symm; unfold eqB; apply decide_eq_true
        have h1 := HQ.out
        rw [HE.out, List.take_length, HL.out, List.take_length] at h1
        exact h1
  · have hl1 : ((xs.length : Int) == (ys.length : Int)) = false := by simp; omega
    have hl2 : ((xs.length : Int) != (ys.length : Int)) = true := by simp; omega
    go_enter Try.func90, Try.ntmps90
    go_wp2
    go_ret
    refine ⟨ret_bool ?_, Below.refl _ _⟩
    symm; unfold eqB; apply decide_eq_false
    intro h; exact hl (by rw [h])
theorem sEqual_any (ad bd : Option Addr) (ca cb : Nat) (xs ys : List Int) (w : World) (ha : Ints w ad xs) (hb : Ints w bd ys) :
    Calls Try.prog 92 #[.slice ad xs.length ca, .slice bd ys.length cb] w fun e w' => e = .returned (.bool (eqB xs ys)) ∧ Keep w w' := by
  have hla := ha.small
  have hlb := hb.small
  by_cases hl : xs.length = ys.length
  · have hl1 : ((xs.length : Int) == (ys.length : Int)) = true := by simp [hl]
    have hl2 : ((xs.length : Int) != (ys.length : Int)) = false := by simp [hl]
    have HL := Lib.hid hl; clear hl
    go_enter Try.func92, Try.ntmps92
    go_wp2
    go_loopw [5, 13] (fun _ i wr => ∃ k : Nat, k ≤ xs.length ∧ i = .int .i64 k ∧ xs.take k = ys.take k ∧ Below w.heap.size w wr)
      (fun _ i _ => xs.length - (intOf i).toNat)
    case atStart => exact ⟨0, Nat.zero_le _, rfl, rfl, Below.refl _ _⟩
    case round =>
      obtain ⟨k, hk, rfl, heq, hbel⟩ := hrel
      have HQ := Lib.hid heq; clear heq
      by_cases hlt : k < xs.length
      · have hl := HL.out
        rcases ha.at_ with h | ⟨b, off, rfl, hb1, hc⟩
        · subst h; simp at hlt
        rcases hb.at_ with h | ⟨b2, off2, rfl, hb2, hc2⟩
        · rw [h] at hl; simp only [List.length_nil] at hl; omega
        have hcx : wr.cell? ⟨b, off + k, none⟩ = some (.int .i64 (xs.getD k 0)) := (hbel.cell (by show b < _; exact hb1)).trans (hc k hlt)
        have hcy : wr.cell? ⟨b2, off2 + k, none⟩ = some (.int .i64 (ys.getD k 0)) := (hbel.cell (by show b2 < _; exact hb2)).trans (hc2 k (by omega))
        have hlt2 : k < ys.length := by omega
        clear hl
        go_wp2
        go_quiet (fail)
        go_wp2
        · have hne : (xs[k] != ys[k]) = true := by assumption
          go_ret
          refine ⟨ret_bool ?_, below_drewN hbel _⟩
          symm; unfold eqB; apply decide_eq_false
          intro h; subst h; simp at hne
        · have hne : (xs[k] != ys[k]) = false := by assumption
          go_roundw
          case rel =>
            refine ⟨k + 1, by omega, by go_num, ?_, below_drewN hbel _⟩
            have hne2 : xs[k] = ys[k] := by simpa using hne
            rw [List.take_succ_eq_append_getElem hlt, List.take_succ_eq_append_getElem hlt2, HQ.out, hne2]
          case measure => simp [intOf]; omega
      · have he : k = xs.length := by omega
        have HE := Lib.hid he; clear he
        go_wp2
        go_ret
        refine ⟨ret_bool ?_, hbel⟩
        symm; unfold eqB; apply decide_eq_true
        have h1 := HQ.out
        rw [HE.out, List.take_length, HL.out, List.take_length] at h1
        exact h1
  · have hl1 : ((xs.length : Int) == (ys.length : Int)) = false := by simp; omega
    have hl2 : ((xs.length : Int) != (ys.length : Int)) = true := by simp; omega
    go_enter Try.func92, Try.ntmps92
    go_wp2
    go_ret
    refine ⟨ret_bool ?_, Below.refl _ _⟩
    symm; unfold eqB; apply decide_eq_false
    intro h; exact hl (by rw [h])
end Go.Proofs.Ytjoanfgchapbaab
