/- Whether a list, and values, keep the limits. -/
import Derived.Test.YtpdcmhnaedhkdaaInts
import Derived.Test.YtpdcmhnaedhkdaaMem
namespace Go.Proofs.Ytpdcmhnaedhkdaa
open Go.ChangeShapes Go.WideShapes Go.ChangeAt Go.RowKit
set_option linter.unusedVariables false

def allIn (zs : List Int) (lim : Int) : Bool := zs.all fun z => inB z (-lim) lim
def listOk (zs : List Int) (lim : Int) : Bool := decide (zs.length ≤ 40) && allIn zs lim
def okV (g : Int) (zs : List Int) : Bool := inB g 1 1000 && listOk zs 1000000
theorem allIn_take_succ (zs : List Int) (lim : Int) (k : Nat) (h : k < zs.length) : allIn (zs.take (k + 1)) lim = (allIn (zs.take k) lim && inB (zs.getD k 0) (-lim) lim) := by
  have e : zs.getD k 0 = zs[k] := by simp [List.getD_eq_getElem?_getD, h]
  rw [List.take_succ_eq_append_getElem h, e]
  unfold allIn
  rw [List.all_append]; simp
theorem allIn_false_of (zs : List Int) (lim : Int) (k : Nat) (h : k < zs.length) (hf : inB (zs.getD k 0) (-lim) lim = false) : allIn zs lim = false := by
  unfold allIn
  rw [List.all_eq_false]
  refine ⟨zs[k], List.getElem_mem h, ?_⟩
  have : zs.getD k 0 = zs[k] := by simp [List.getD_eq_getElem?_getD, h]
  rw [← this, hf]; simp
theorem okV_den {g : Int} {zs : List Int} (h : okV g zs = true) : 1 ≤ g ∧ g ≤ 1000 := by
  unfold okV at h; rw [Bool.and_eq_true, inB_iff] at h; exact h.1
theorem okV_len {g : Int} {zs : List Int} (h : okV g zs = true) : zs.length ≤ 40 := by
  unfold okV listOk at h; simp only [Bool.and_eq_true, decide_eq_true_eq] at h; exact h.2.1
theorem okV_num {g : Int} {zs : List Int} (h : okV g zs = true) : ∀ z ∈ zs, -1000000 ≤ z ∧ z ≤ 1000000 := by
  unfold okV listOk allIn at h; simp only [Bool.and_eq_true, decide_eq_true_eq, List.all_eq_true] at h
  intro z hz; exact inB_iff.1 (h.2.2 z hz)
set_option maxHeartbeats 400000 in
theorem allWithin_any (ad : Option Addr) (cap : Nat) (zs : List Int) (lim : Int) (w : World) (hz : Ints w ad zs) (h0 : 0 ≤ lim) (h1 : lim ≤ 1000000000) :
    Calls Try.prog 118 #[.slice ad zs.length cap, .int .i64 lim] w fun e w' => e = .returned (.bool (listOk zs lim)) ∧ w = w' := by
  have hlen := hz.small
  by_cases h40 : zs.length ≤ 40
  · have hE : listOk zs lim = allIn zs lim := by simp [listOk, h40]
    rw [hE]; clear hE
    go_enter Try.func118, Try.ntmps118
    go_wp2
    go_loop [6, 12] (fun _ i => ∃ k : Nat, k ≤ zs.length ∧ i = .int .i64 k ∧ allIn (zs.take k) lim = true)
      (fun _ i => zs.length - (intOf i).toNat)
    case atStart => exact ⟨0, Nat.zero_le _, rfl, by simp [allIn]⟩
    case round =>
      obtain ⟨k, hk, rfl, hall⟩ := hrel
      have HA := Lib.hid hall; clear hall
      by_cases hlt : k < zs.length
      · rcases hz.at_ with h | ⟨b, off, rfl, hb1, hc⟩
        · subst h; simp at hlt
        have hcx := hc k hlt
        have hf := allIn_false_of zs lim k hlt
        have hs := allIn_take_succ zs lim k hlt
        generalize zs.getD k 0 = x at hcx hf hs
        have HC := Lib.hid hc; clear hc
        have HS := Lib.hid hs; clear hs
        have HF := Lib.hid hf; clear hf
        cases hin : inB x (-lim) lim
        · go_wp2_with (go_at_call 47; refine (within_any _ _ _ _).mono ?_; rintro e w' ⟨rfl, rfl⟩)
          go_ret
          exact ⟨ret_bool (HF.out hin).symm, rfl⟩
        · go_wp2_with (go_at_call 47; refine (within_any _ _ _ _).mono ?_; rintro e w' ⟨rfl, rfl⟩)
          go_round
          case rel => exact ⟨k + 1, by omega, by go_num, by rw [HS.out, HA.out, hin]; rfl⟩
          case measure => simp [intOf]; omega
      · have HE : Hid (k = zs.length) := (by omega : k = zs.length)
        go_wp2
        go_ret
        refine ⟨ret_bool ?_, rfl⟩
        have := HA.out
        rw [HE.out, List.take_length] at this
        exact this.symm
  · have hE : listOk zs lim = false := by simp [listOk, h40]
    rw [hE]; clear hE
    go_enter Try.func118, Try.ntmps118
    go_wp2
    go_ret
    exact ⟨rfl, rfl⟩
theorem ValidValues_any (g : Int) (ad : Option Addr) (cap : Nat) (zs : List Int) (w : World) (hz : Ints w ad zs) :
    Calls Try.prog 82 #[valV g ad zs.length cap] w fun e w' => e = .returned (.bool (okV g zs)) ∧ Keep w w' := by
  have hbl : Below w.heap.size w (w.alloc (.cells #[.int .i64 g, .slice ad zs.length cap] 57)) := by go_grown
  cases h1 : inB g 1 1000
  · rw [show okV g zs = false from by simp [okV, h1]]
    go_enter Try.func82, Try.ntmps82
    go_wp2_with (go_at_call 47; refine (within_any _ _ _ _).mono ?_; rintro e w' ⟨rfl, rfl⟩)
    go_ret
    exact ⟨rfl, by go_grown⟩
  · rw [show okV g zs = listOk zs 1000000 from by simp [okV, h1]]
    go_enter Try.func82, Try.ntmps82
    go_wp2_with (first | (go_at_call 47; refine (within_any _ _ _ _).mono ?_; rintro e w' ⟨rfl, rfl⟩) | (go_at_call 118; refine (allWithin_any _ _ _ _ _ (hz.keep hbl (Nat.le_refl _)) (by omega) (by omega)).mono ?_; rintro e w' ⟨rfl, rfl⟩))
    go_ret
    exact ⟨rfl, by go_grown⟩
/-- The model's look at values behind a pointer. -/
theorem l01Is_any (B : Nat) (g : Int) (ad : Option Addr) (cap : Nat) (zs : List Int) (w : World) (hz : Ints w ad zs)
    (c0 : w.cell? ⟨B, 0, none⟩ = some (.int .i64 g)) (c1 : w.cell? ⟨B, 1, none⟩ = some (.slice ad zs.length cap)) :
    Calls Try.prog 106 #[.pointer (some ⟨B, 0, none⟩)] w fun e w' => e = .returned (.bool (okV g zs)) ∧ w = w' := by
  have hlen := hz.small
  go_enter Try.func106, Try.ntmps106
  go_wp2
  go_loop [3] (fun i => ∃ k : Nat, k ≤ zs.length ∧ i = .int .i64 k ∧ allIn (zs.take k) 1000000 = true)
    (fun i => zs.length - (intOf i).toNat)
  case atStart => exact ⟨0, Nat.zero_le _, rfl, by simp [allIn]⟩
  case round =>
    obtain ⟨k, hk, rfl, hall⟩ := hrel
    have HA := Lib.hid hall; clear hall
    by_cases hlt : k < zs.length
    · rcases hz.at_ with h | ⟨b, off, rfl, hb1, hc⟩
      · subst h; simp at hlt
      have hcx := hc k hlt
      have hf := allIn_false_of zs 1000000 k hlt
      have hs := allIn_take_succ zs 1000000 k hlt
      generalize zs.getD k 0 = x at hcx hf hs
      have HC := Lib.hid hc; clear hc
      have HS := Lib.hid hs; clear hs
      have HF := Lib.hid hf; clear hf
      cases hin : inB x (-1000000) 1000000
      · go_wp2_with (go_at_call 45; refine (l00In_any _ _ _ _).mono ?_; rintro e w' ⟨rfl, rfl⟩)
        go_ret
        refine ⟨ret_bool ?_, rfl⟩
        unfold okV listOk
        rw [HF.out hin]; simp
      · go_wp2_with (go_at_call 45; refine (l00In_any _ _ _ _).mono ?_; rintro e w' ⟨rfl, rfl⟩)
        go_round
        case rel => exact ⟨k + 1, by omega, by go_num, by rw [HS.out, HA.out, hin]; rfl⟩
        case measure => simp [intOf]; omega
    · have HE : Hid (k = zs.length) := (by omega : k = zs.length)
      have HA2 : Hid (allIn zs 1000000 = true) := (by have := HA.out; rw [HE.out, List.take_length] at this; exact this)
      clear HA
      cases h1 : inB g 1 1000
      · go_wp2_with (go_at_call 45; refine (l00In_any _ _ _ _).mono ?_; rintro e w' ⟨rfl, rfl⟩)
        go_ret
        exact ⟨ret_bool (by simp [okV, h1]), rfl⟩
      · by_cases h40 : zs.length ≤ 40
        · have h41 : (zs.length : Int) ≤ 40 := by omega
          go_wp2_with (go_at_call 45; refine (l00In_any _ _ _ _).mono ?_; rintro e w' ⟨rfl, rfl⟩)
          go_ret
          refine ⟨ret_bool ?_, rfl⟩
          unfold okV listOk
          rw [h1, HA2.out]; simp [h40]
        · have h41 : ¬ (zs.length : Int) ≤ 40 := by omega
          go_wp2_with (go_at_call 45; refine (l00In_any _ _ _ _).mono ?_; rintro e w' ⟨rfl, rfl⟩)
          go_ret
          refine ⟨ret_bool ?_, rfl⟩
          unfold okV listOk
          simp [h40]; omega

theorem listOk_num {zs : List Int} {lim : Int} (h : listOk zs lim = true) : ∀ z ∈ zs, -lim ≤ z ∧ z ≤ lim := by
  unfold listOk allIn at h; simp only [Bool.and_eq_true, decide_eq_true_eq, List.all_eq_true] at h
  intro z hz; exact inB_iff.1 (h.2 z hz)
theorem listOk_len {zs : List Int} {lim : Int} (h : listOk zs lim = true) : zs.length ≤ 40 := by
  unfold listOk at h; simp only [Bool.and_eq_true, decide_eq_true_eq] at h; exact h.1
end Go.Proofs.Ytpdcmhnaedhkdaa
