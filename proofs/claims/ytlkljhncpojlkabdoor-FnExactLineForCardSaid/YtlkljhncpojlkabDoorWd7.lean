/- Words over two letters: what they are, their heights; the model's look. -/
import Derived.Test.YtlkljhncpojlkabDoorInts
import Derived.Test.YtlkljhncpojlkabDoorMem
import Derived.Test.YtlkljhncpojlkabDoorCopyL
import Derived.Test.YtlkljhncpojlkabDoorStep
import Derived.Test.YtlkljhncpojlkabDoorGcd6
namespace Go.Proofs.YtlkljhncpojlkabDoor
open Go.ChangeShapes Go.WideShapes Go.ChangeAt Go.RowKit Go.Deep
set_option linter.unusedVariables false
/-- The first k bytes are letters a and b. -/
def AbTo (s : ByteArray) (k : Nat) : Prop := ∀ j (h : j < s.size), j < k → (s[j]'h).toNat = 97 ∨ (s[j]'h).toNat = 98
theorem AbTo.succ {s : ByteArray} {k : Nat} (h : AbTo s k) (hk : k < s.size) (h1 : (s[k]'hk).toNat = 97 ∨ (s[k]'hk).toNat = 98) : AbTo s (k + 1) := by
  intro j hj hjk
  rcases Nat.lt_or_eq_of_le (Nat.le_of_lt_succ hjk) with h3 | h3
  · exact h j hj h3
  · subst h3; exact h1
def wdB (s : ByteArray) : Bool := decide (s.size ≤ 120 ∧ ∀ j (h : j < s.size), (s[j]'h).toNat = 97 ∨ (s[j]'h).toNat = 98)
theorem wdB_no {s : ByteArray} {k : Nat} (hk : k < s.size) (h1 : (s[k]'hk).toNat ≠ 97) (h2 : (s[k]'hk).toNat ≠ 98) : wdB s = false := by
  unfold wdB; rw [decide_eq_false_iff_not]
  rintro ⟨_, h3⟩
  have := h3 k hk; omega
theorem wdB_yes {s : ByteArray} (h : AbTo s s.size) : wdB s = decide (s.size ≤ 120) := by
  unfold wdB
  by_cases q : s.size ≤ 120
  · rw [decide_eq_true q, decide_eq_true ⟨q, fun j hj => h j hj hj⟩]
  · rw [decide_eq_false q, decide_eq_false (fun h => q h.1)]
theorem wdB_iff {s : ByteArray} : wdB s = true ↔ s.size ≤ 120 ∧ ∀ j (h : j < s.size), (s[j]'h).toNat = 97 ∨ (s[j]'h).toNat = 98 := by unfold wdB; rw [decide_eq_true_eq]
/-- How many letters b are among the first k. -/
def hgt (s : ByteArray) (k : Nat) : Int := ((List.range k).map fun j => if h : j < s.size then ((s[j]'h).toNat : Int) - 97 else 0).sum
theorem hgt_succ (s : ByteArray) (k : Nat) (h : k < s.size) : hgt s (k + 1) = hgt s k + (((s[k]'h).toNat : Int) - 97) := by
  unfold hgt; rw [List.range_succ, List.map_append, List.sum_append]; simp [h]
theorem hgt_zero (s : ByteArray) : hgt s 0 = 0 := by simp [hgt]
theorem hgt_bd {s : ByteArray} (hw : wdB s = true) : ∀ k, k ≤ s.size → 0 ≤ hgt s k ∧ hgt s k ≤ k := by
  intro k
  induction k with
  | zero => intro _; rw [hgt_zero]; simp
  | succ k ih =>
    intro hk
    have h1 := ih (by omega)
    have h2 := (wdB_iff.1 hw).2 k (by omega)
    rw [hgt_succ s k (by omega)]; omega
def hgtL (s : ByteArray) (k : Nat) : List Int := (List.range (k + 1)).map (hgt s)
theorem hgtL_len (s : ByteArray) (k : Nat) : (hgtL s k).length = k + 1 := by simp [hgtL]
theorem hgtL_succ (s : ByteArray) (k : Nat) : hgtL s (k + 1) = hgtL s k ++ [hgt s (k + 1)] := by
  unfold hgtL; rw [List.range_succ (n := k + 1), List.map_append]; rfl
theorem hgtL_get (s : ByteArray) (k j : Nat) (h : j ≤ k) : (hgtL s k).getD j 0 = hgt s j := by
  unfold hgtL; simp [List.getD_eq_getElem?_getD, show j < k + 1 by omega]
def hgtV (s : ByteArray) : List Int := if wdB s then hgtL s s.size else []
set_option maxHeartbeats 400000 in
theorem l07Is_any (s : ByteArray) (w : World) (hs : s.size ≤ 1048576) :
    Calls Tryd.prog 30 #[.string s] w fun e w' => e = .returned (.bool (wdB s)) ∧ w = w' := by
  go_enter Tryd.func30, Tryd.ntmps30
  go_wp2
  go_loop [3] (fun i => ∃ k : Nat, k ≤ s.size ∧ i = .int .i64 k ∧ Hid (AbTo s k)) (fun i => s.size - (intOf i).toNat)
  case atStart => exact ⟨0, Nat.zero_le _, rfl, Lib.hid (fun j _ hj => by omega)⟩
  case round =>
    obtain ⟨k, hk, rfl, HL⟩ := hrel
    by_cases hlt : k < s.size
    · have HN := Lib.hid (fun h1 h2 => wdB_no hlt h1 h2)
      have HSU := Lib.hid (fun h1 => HL.out.succ hlt h1)
      have hb := (s[k]'hlt).toNat_lt
      by_cases q1 : (s[k]'hlt).toNat = 97
      · have q1i : ((((s[k]'hlt).toNat : Int)) != 97) = false := by simp; omega
        go_wp2
        go_round
        case rel => exact ⟨k + 1, by omega, by go_num, Lib.hid (HSU.out (.inl q1))⟩
        case measure => simp [intOf]; omega
      · have q1i : ((((s[k]'hlt).toNat : Int)) != 97) = true := by simp; omega
        by_cases q2 : (s[k]'hlt).toNat = 98
        · have q2i : ((((s[k]'hlt).toNat : Int)) != 98) = false := by simp; omega
          go_wp2
          go_round
          case rel => exact ⟨k + 1, by omega, by go_num, Lib.hid (HSU.out (.inr q2))⟩
          case measure => simp [intOf]; omega
        · have q2i : ((((s[k]'hlt).toNat : Int)) != 98) = true := by simp; omega
          have HNO := Lib.hid (HN.out q1 q2)
          go_wp2
          go_ret
          exact ⟨ret_bool HNO.out.symm, rfl⟩
    · have HY := Lib.hid (wdB_yes (s := s) (by have h := HL.out; rw [show k = s.size by omega] at h; exact h))
      by_cases q : s.size ≤ 120
      · have qi : (s.size : Int) ≤ 120 := by omega
        go_wp2
        go_ret
        exact ⟨ret_bool (by rw [HY.out, decide_eq_true q]), rfl⟩
      · have qi : ¬ (s.size : Int) ≤ 120 := by omega
        go_wp2
        go_ret
        exact ⟨ret_bool (by rw [HY.out, decide_eq_false q]), rfl⟩
set_option maxHeartbeats 1600000 in
theorem l07Heights_any (s : ByteArray) (w : World) (hw : wdB s = true) :
    Calls Tryd.prog 31 #[.string s] w fun e w' => ∃ rd rc, e = .returned (.slice rd (hgtL s s.size).length rc) ∧ Own w' w.heap.size rd rc (hgtL s s.size) ∧ Keep w w' := by
  have hwd := wdB_iff.1 hw
  have HAB := Lib.hid hwd.2
  have h120 := hwd.1
  have HHB := Lib.hid (hgt_bd hw)
  have HO0 : Hid (Own (w.alloc (.cells #[.int .i64 0] 2)) w.heap.size (some ⟨w.heap.size, 0, none⟩) 1 (hgtL s 0)) := Lib.hid (by
    have := World.ownsRow_lit (base := w.heap.size) (e := 2) (size := 1) w #[.int .i64 0] 1 (Nat.le_refl _) (by unfold maxLen; omega) rfl
    refine ⟨?_, by simp [hgtL], fun z hz => ?_⟩
    · simpa [hgtL, hgt, vals] using this
    · simp [hgtL, hgt] at hz; subst hz; exact ⟨by omega, by omega⟩)
  clear hwd hw
  have hK0 : Keep w (w.alloc (.cells #[.int .i64 0] 2)) := by go_grown
  have HK0 := Lib.hid hK0; clear hK0
  have hlt0 : w.heap.size < (w.alloc (.cells #[.int .i64 0] 2)).heap.size := by simp
  have HLT := Lib.hid hlt0; clear hlt0
  go_enter Tryd.func31, Tryd.ntmps31
  go_wp2
  go_loopw [3, 4] (fun v i wr => ∃ (k g c : Nat), k ≤ s.size ∧ i = .int .i64 k ∧ v = .slice (some ⟨g, 0, none⟩) (hgtL s k).length c ∧ Hid (Own wr w.heap.size (some ⟨g, 0, none⟩) c (hgtL s k)) ∧ Hid (Keep w wr) ∧ w.heap.size ≤ g ∧ g < wr.heap.size) (fun _ i _ => s.size - (intOf i).toNat)
  case atStart => exact ⟨0, w.heap.size, 1, Nat.zero_le _, rfl, rfl, HO0, HK0, Nat.le_refl _, HLT.out⟩
  case round =>
    obtain ⟨k, g, c, hk, rfl, rfl, HO, HK, hg1, hg2⟩ := hrel
    obtain ⟨L, hL⟩ : ∃ L, L = hgtL s k := ⟨_, rfl⟩
    rw [← hL] at HO ⊢
    have hkl : k < L.length := by rw [hL, hgtL_len]; omega
    have hls : L.length ≤ 121 := by rw [hL, hgtL_len]; omega
    have HLE := Lib.hid hL; clear hL
    by_cases hlt : k < s.size
    · have hb := (s[k]'hlt).toNat_lt
      have hab := HAB.out k hlt
      have hhb := HHB.out k hk
      have HS := Lib.hid (hgt_succ s k hlt)
      have HLS := Lib.hid (hgtL_succ s k)
      have hx : wr.cell? ⟨g, k, none⟩ = some (.int .i64 (hgt s k)) := by
        rw [HO.out.1.cellAt k (by omega)]
        have e := hgtL_get s k k (Nat.le_refl _)
        rw [← HLE.out, getD_get _ k hkl] at e
        simp only [vals, List.getElem?_map, List.getElem?_eq_getElem hkl, Option.map_some, e]
      rw [← HLE.out] at HLS
      have hsub : ((s[k]'hlt).toNat : Int) - 97 = 0 ∨ ((s[k]'hlt).toNat : Int) - 97 = 1 := by omega
      have W0 : IntKind.u8.wrap (((s[k]'hlt).toNat : Int) - 97) = ((s[k]'hlt).toNat : Int) - 97 := by rcases hsub with h | h <;> rw [h] <;> rfl
      have W2 : IntKind.i64.wrap (((s[k]'hlt).toNat : Int) - 97) = ((s[k]'hlt).toNat : Int) - 97 := IntWalk.i64_in _ (by omega)
      have W1 : IntKind.i64.wrap (hgt s k + (((s[k]'hlt).toNat : Int) - 97)) = hgt s k + (((s[k]'hlt).toNat : Int) - 97) := IntWalk.i64_in _ (by omega)
      have HIN : Hid (In64 (hgt s k + (((s[k]'hlt).toNat : Int) - 97))) := Lib.hid ⟨by omega, by omega⟩
      clear hab hsub
      generalize hgt s k = H at *
      go_wp2
      go_region_law
        (first
          | (refine step_app (by rfl) _ _ (by rfl) w.heap.size (some ⟨g, 0, none⟩) c L.length L (H + (((s[k]'hlt).toNat : Int) - 97)) (by rfl) (HO.out.keep (by go_grown)) rfl _ (by rfl) (by simp) HIN.out (by omega) (by simp; omega) ?_
             intro g8 cap8 w8 hown8 hgr8 hat8
             have O8 := Lib.hid hown8; have G8 := Lib.hid hgr8; have A8 := Lib.hid hat8
             clear hown8 hgr8 hat8))
      all_goals go_wp2
      all_goals
        go_roundw
        case rel =>
          have hk8 := (HK.out.next (show Keep wr _ by go_grown)).grown G8.out (by have := HK.out.size; simp; omega) (fun j h => by simp [Value.ownBlock] at h; omega)
          have hg8 : w.heap.size ≤ g8 ∧ g8 < w8.heap.size := by
            rcases own_block O8.out.1 with ⟨h, _⟩ | ⟨q, h, h2, h3, _⟩
            · cases h
            · simp at h; omega
          exact ⟨k + 1, g8, cap8, by omega, by go_num, by rw [HLS.out]; simp, Lib.hid (by rw [HLS.out, HS.out]; exact O8.out), Lib.hid hk8, hg8.1, hg8.2⟩
        case measure => simp [intOf]; omega
    · have HE := Lib.hid (show k = s.size by omega)
      go_wp2
      go_ret
      exact ⟨some ⟨g, 0, none⟩, c, by rw [← HE.out, ← HLE.out]; rfl, by rw [← HE.out, ← HLE.out]; exact HO.out, HK.out⟩
end Go.Proofs.YtlkljhncpojlkabDoor
