/- Votes and seats: whether lists keep the limits of chapter 2. -/
import Derived.Test.YtmdapfjafocdnaaMem
import Derived.Test.YtmdapfjafocdnaaTot
namespace Go.Proofs.Ytmdapfjafocdnaa
open Go.ChangeShapes Go.WideShapes Go.ChangeAt Go.RowKit
set_option linter.unusedVariables false

def allB (zs : List Int) (lo hi : Int) : Bool := zs.all fun z => inB z lo hi
def okVotes (zs : List Int) : Bool := decide (zs.length ≤ 12) && allB zs 0 1000000 && decide (0 < zs.sum)
theorem allB_take_succ (zs : List Int) (lo hi : Int) (k : Nat) (h : k < zs.length) : allB (zs.take (k + 1)) lo hi = (allB (zs.take k) lo hi && inB (zs.getD k 0) lo hi) := by
  have e : zs.getD k 0 = zs[k] := by simp [List.getD_eq_getElem?_getD, h]
  rw [List.take_succ_eq_append_getElem h, e]
  unfold allB
  rw [List.all_append]; simp
theorem allB_false_of (zs : List Int) (lo hi : Int) (k : Nat) (h : k < zs.length) (hf : inB (zs.getD k 0) lo hi = false) : allB zs lo hi = false := by
  unfold allB
  rw [List.all_eq_false]
  refine ⟨zs[k], List.getElem_mem h, ?_⟩
  have : zs.getD k 0 = zs[k] := by simp [List.getD_eq_getElem?_getD, h]
  rw [← this, hf]; simp
theorem allB_mem {zs : List Int} {lo hi : Int} (h : allB zs lo hi = true) : ∀ z ∈ zs, lo ≤ z ∧ z ≤ hi := by
  unfold allB at h; rw [List.all_eq_true] at h
  intro z hz; exact inB_iff.1 (h z hz)
theorem okVotes_len {zs : List Int} (h : okVotes zs = true) : zs.length ≤ 12 := by
  unfold okVotes at h; simp only [Bool.and_eq_true, decide_eq_true_eq] at h; exact h.1.1
theorem okVotes_num {zs : List Int} (h : okVotes zs = true) : ∀ z ∈ zs, 0 ≤ z ∧ z ≤ 1000000 := by
  unfold okVotes at h; simp only [Bool.and_eq_true, decide_eq_true_eq] at h; exact allB_mem h.1.2
theorem okVotes_sum {zs : List Int} (h : okVotes zs = true) : 0 < zs.sum ∧ zs.sum ≤ 12000000 := by
  have h1 := okVotes_len h
  have h2 := okVotes_num h
  have h3 := sum_bd 1000000 (by omega) zs (fun z hz => by have := h2 z hz; omega)
  unfold okVotes at h; simp only [Bool.and_eq_true, decide_eq_true_eq] at h
  exact ⟨h.2, by omega⟩
theorem sum_nonneg_take {zs : List Int} {hi : Int} (h : allB zs 0 hi = true) : 0 ≤ zs.sum := by
  have h2 := allB_mem h
  clear h
  induction zs with
  | nil => simp
  | cons a t ih =>
    have h3 := h2 a (by simp)
    have h4 := ih (fun z hz => h2 z (by simp [hz]))
    simp only [List.sum_cons]; omega
set_option maxHeartbeats 400000 in
theorem ValidVotes_any (ad : Option Addr) (cap : Nat) (zs : List Int) (w : World) (hz : Ints w ad zs) :
    Calls Try.prog 83 #[.slice ad zs.length cap] w fun e w' => e = .returned (.bool (okVotes zs)) ∧ w = w' := by
  have hlen := hz.small
  by_cases h12 : zs.length ≤ 12
  · go_enter Try.func83, Try.ntmps83
    go_wp2
    go_loop [4, 10] (fun _ i => ∃ k : Nat, k ≤ zs.length ∧ i = .int .i64 k ∧ allB (zs.take k) 0 1000000 = true)
      (fun _ i => zs.length - (intOf i).toNat)
    case atStart => exact ⟨0, Nat.zero_le _, rfl, by simp [allB]⟩
    case round =>
      obtain ⟨k, hk, rfl, hall⟩ := hrel
      have HA := Lib.hid hall; clear hall
      by_cases hlt : k < zs.length
      · rcases hz.at_ with h | ⟨b, off, rfl, hb1, hc⟩
        · subst h; simp at hlt
        have hcx := hc k hlt
        have hf := allB_false_of zs 0 1000000 k hlt
        have hs := allB_take_succ zs 0 1000000 k hlt
        generalize zs.getD k 0 = x at hcx hf hs
        have HC := Lib.hid hc; clear hc
        have HS := Lib.hid hs; clear hs
        have HF := Lib.hid hf; clear hf
        cases hin : inB x 0 1000000
        · go_wp2_with (go_at_call 72; refine (within_any _ _ _ _).mono ?_; rintro e w' ⟨rfl, rfl⟩)
          go_ret
          exact ⟨ret_bool (by unfold okVotes; rw [HF.out hin]; simp), rfl⟩
        · go_wp2_with (go_at_call 72; refine (within_any _ _ _ _).mono ?_; rintro e w' ⟨rfl, rfl⟩)
          go_round
          case rel => exact ⟨k + 1, by omega, by go_num, by rw [HS.out, HA.out, hin]; rfl⟩
          case measure => simp [intOf]; omega
      · have HE : Hid (k = zs.length) := (by omega : k = zs.length)
        have HA2 : Hid (allB zs 0 1000000 = true) := (by have := HA.out; rw [HE.out, List.take_length] at this; exact this)
        clear HA
        go_wp2_with fail
        refine (total_any ad cap zs _ hz (fun z hz => by have := allB_mem HA2.out z hz; omega) (by omega)).mono ?_
        rintro e w2 ⟨rfl, rfl⟩
        go_wp2
        go_ret
        exact ⟨ret_bool (by unfold okVotes; rw [HA2.out]; simp [h12]), rfl⟩
  · rw [show okVotes zs = false from by simp [okVotes, h12]]
    go_enter Try.func83, Try.ntmps83
    go_wp2
    go_ret
    exact ⟨rfl, rfl⟩
theorem pos_or {s x : Int} (hs : 0 ≤ s) (hx : 0 ≤ x) : (decide (0 < s) || decide (0 < x)) = decide (0 < s + x) := by
  rw [← Bool.decide_or]; exact decide_eq_decide.2 ⟨fun h => by omega, fun h => by omega⟩
theorem sum_take_nonneg {zs : List Int} {hi : Int} (k : Nat) (h : allB (zs.take k) 0 hi = true) : 0 ≤ (zs.take k).sum := sum_nonneg_take h
set_option maxHeartbeats 400000 in
theorem l02Is_any (ad : Option Addr) (cap : Nat) (zs : List Int) (w : World) (hz : Ints w ad zs) :
    Calls Try.prog 57 #[.slice ad zs.length cap] w fun e w' => e = .returned (.bool (okVotes zs)) ∧ w = w' := by
  have hlen := hz.small
  cases h12 : inB (zs.length : Int) 1 12
  · rw [show okVotes zs = false from by
      rcases inB_not.1 h12 with h | h
      · have h0 : zs = [] := List.eq_nil_of_length_eq_zero (by omega)
        subst h0; rfl
      · simp [okVotes]; omega]
    go_enter Try.func57, Try.ntmps57
    go_wp2_with (go_at_call 52; refine (l00In_any _ _ _ _).mono ?_; rintro e w' ⟨rfl, rfl⟩)
    go_ret
    exact ⟨rfl, rfl⟩
  · have hle : zs.length ≤ 12 := by have := (inB_iff.1 h12).2; omega
    go_enter Try.func57, Try.ntmps57
    go_wp2_with (go_at_call 52; refine (l00In_any _ _ _ _).mono ?_; rintro e w' ⟨rfl, rfl⟩)
    have H12 := Lib.hid h12; clear h12
    go_loop [3, 4] (fun s i => ∃ k : Nat, k ≤ zs.length ∧ i = .int .i64 k ∧ s = .bool (decide (0 < (zs.take k).sum)) ∧ allB (zs.take k) 0 1000000 = true)
      (fun _ i => zs.length - (intOf i).toNat)
    case atStart => exact ⟨0, Nat.zero_le _, rfl, by simp, by simp [allB]⟩
    case round =>
      obtain ⟨k, hk, rfl, rfl, hall⟩ := hrel
      have HA := Lib.hid hall; clear hall
      by_cases hlt : k < zs.length
      · rcases hz.at_ with h | ⟨b, off, rfl, hb1, hc⟩
        · subst h; simp at hlt
        have hcx := hc k hlt
        have hf := allB_false_of zs 0 1000000 k hlt
        have hs := allB_take_succ zs 0 1000000 k hlt
        have hsum := sum_take_succ zs k hlt
        have hnn := sum_take_nonneg k HA.out
        generalize zs.getD k 0 = x at hcx hf hs hsum
        have HC := Lib.hid hc; clear hc
        have HS := Lib.hid hs; clear hs
        have HF := Lib.hid hf; clear hf
        generalize (zs.take k).sum = s at hsum hnn
        have HSM := Lib.hid hsum; clear hsum
        cases hin : inB x 0 1000000
        · go_wp2_with (go_at_call 52; refine (l00In_any _ _ _ _).mono ?_; rintro e w' ⟨rfl, rfl⟩)
          go_ret
          exact ⟨ret_bool (by unfold okVotes; rw [HF.out hin]; simp), rfl⟩
        · have hx := (inB_iff.1 hin).1
          by_cases hs0 : 0 < s
          all_goals
            go_wp2_with (go_at_call 52; refine (l00In_any _ _ _ _).mono ?_; rintro e w' ⟨rfl, rfl⟩)
            go_round
            case rel => exact ⟨k + 1, by omega, by go_num, by rw [HSM.out]; first | exact congrArg Value.bool (decide_eq_true (by omega)).symm | exact congrArg Value.bool (pos_or hnn hx), by rw [HS.out, HA.out, hin]; rfl⟩
            case measure => simp [intOf]; omega
      · have HE : Hid (k = zs.length) := (by omega : k = zs.length)
        have HA2 : Hid (allB zs 0 1000000 = true) := (by have := HA.out; rw [HE.out, List.take_length] at this; exact this)
        clear HA
        go_wp2
        go_ret
        exact ⟨ret_bool (by unfold okVotes; rw [HA2.out, HE.out, List.take_length]; simp [hle]), rfl⟩
/-- Seats for as many parties. -/
def seatsOk (ls : List Int) (n : Nat) : Bool := decide (ls.length = n) && allB ls 0 100 && decide (ls.sum ≤ 100)
theorem seatsOk_num {ls : List Int} {n : Nat} (h : seatsOk ls n = true) : ∀ z ∈ ls, 0 ≤ z ∧ z ≤ 100 := by
  unfold seatsOk at h; simp only [Bool.and_eq_true, decide_eq_true_eq] at h; exact allB_mem h.1.2
theorem seatsOk_len {ls : List Int} {n : Nat} (h : seatsOk ls n = true) : ls.length = n := by
  unfold seatsOk at h; simp only [Bool.and_eq_true, decide_eq_true_eq] at h; exact h.1.1
theorem seatsOk_sum {ls : List Int} {n : Nat} (h : seatsOk ls n = true) : 0 ≤ ls.sum ∧ ls.sum ≤ 100 := by
  unfold seatsOk at h; simp only [Bool.and_eq_true, decide_eq_true_eq] at h
  exact ⟨sum_nonneg_take h.1.2, h.2⟩
set_option maxHeartbeats 400000 in
theorem areSeats_any (ad : Option Addr) (cap : Nat) (ls : List Int) (n : Nat) (w : World) (hz : Ints w ad ls) (hn : n ≤ 12) :
    Calls Try.prog 61 #[.slice ad ls.length cap, .int .i64 n] w fun e w' => e = .returned (.bool (seatsOk ls n)) ∧ w = w' := by
  have hlen := hz.small
  by_cases hl : ls.length = n
  · subst hl
    have hne : ((ls.length : Int) != (ls.length : Int)) = false := by simp
    go_enter Try.func61, Try.ntmps61
    go_wp2
    go_loop [6, 13] (fun _ i => ∃ k : Nat, k ≤ ls.length ∧ i = .int .i64 k ∧ allB (ls.take k) 0 100 = true)
      (fun _ i => ls.length - (intOf i).toNat)
    case atStart => exact ⟨0, Nat.zero_le _, rfl, by simp [allB]⟩
    case round =>
      obtain ⟨k, hk, rfl, hall⟩ := hrel
      have HA := Lib.hid hall; clear hall
      by_cases hlt : k < ls.length
      · rcases hz.at_ with h | ⟨b, off, rfl, hb1, hc⟩
        · subst h; simp at hlt
        have hcx := hc k hlt
        have hf := allB_false_of ls 0 100 k hlt
        have hs := allB_take_succ ls 0 100 k hlt
        generalize ls.getD k 0 = x at hcx hf hs
        have HC := Lib.hid hc; clear hc
        have HS := Lib.hid hs; clear hs
        have HF := Lib.hid hf; clear hf
        cases hin : inB x 0 100
        · go_wp2_with (go_at_call 72; refine (within_any _ _ _ _).mono ?_; rintro e w' ⟨rfl, rfl⟩)
          go_ret
          exact ⟨ret_bool (by unfold seatsOk; rw [HF.out hin]; simp), rfl⟩
        · go_wp2_with (go_at_call 72; refine (within_any _ _ _ _).mono ?_; rintro e w' ⟨rfl, rfl⟩)
          go_round
          case rel => exact ⟨k + 1, by omega, by go_num, by rw [HS.out, HA.out, hin]; rfl⟩
          case measure => simp [intOf]; omega
      · have HE : Hid (k = ls.length) := (by omega : k = ls.length)
        have HA2 : Hid (allB ls 0 100 = true) := (by have := HA.out; rw [HE.out, List.take_length] at this; exact this)
        clear HA
        go_wp2_with fail
        refine (total_any ad cap ls _ hz (fun z hz => by have := allB_mem HA2.out z hz; omega) (by omega)).mono ?_
        rintro e w2 ⟨rfl, rfl⟩
        go_wp2
        go_ret
        exact ⟨ret_bool (by unfold seatsOk; rw [HA2.out]; simp), rfl⟩
  · have hne : ((ls.length : Int) != (n : Int)) = true := by simp; omega
    rw [show seatsOk ls n = false from by simp [seatsOk, hl]]
    go_enter Try.func61, Try.ntmps61
    go_wp2
    go_ret
    exact ⟨rfl, rfl⟩
theorem l02Seats_any (n : Int) (w : World) :
    Calls Try.prog 81 #[.int .i64 n] w fun e w' => e = .returned (.bool (inB n 0 100)) ∧ w = w' := by
  go_enter Try.func81, Try.ntmps81
  go_wp2_with (go_at_call 52; refine (l00In_any _ _ _ _).mono ?_; rintro e w' ⟨rfl, rfl⟩)
  go_ret
  exact ⟨rfl, rfl⟩
set_option maxHeartbeats 400000 in
theorem l02List_any (vd : Option Addr) (n vcap : Nat) (ad : Option Addr) (cap : Nat) (ls : List Int) (w : World) (hz : Ints w ad ls) (hl : ls.length ≤ 1073741824) (hn : n ≤ 9223372036854775807) :
    Calls Try.prog 58 #[.slice vd n vcap, .slice ad ls.length cap] w fun e w' => e = .returned (.bool (seatsOk ls n)) ∧ w = w' := by
  go_enter Try.func58, Try.ntmps58
  go_wp2
  go_loop [5, 6] (fun s i => ∃ k : Nat, k ≤ ls.length ∧ i = .int .i64 k ∧ s = .int .i64 (ls.take k).sum ∧ allB (ls.take k) 0 100 = true)
    (fun _ i => ls.length - (intOf i).toNat)
  case atStart => exact ⟨0, Nat.zero_le _, rfl, by simp, by simp [allB]⟩
  case round =>
    obtain ⟨k, hk, rfl, rfl, hall⟩ := hrel
    have HA := Lib.hid hall; clear hall
    by_cases hlt : k < ls.length
    · rcases hz.at_ with h | ⟨b, off, rfl, hb1, hc⟩
      · subst h; simp at hlt
      have hcx := hc k hlt
      have hf := allB_false_of ls 0 100 k hlt
      have hs := allB_take_succ ls 0 100 k hlt
      have hsum := sum_take_succ ls k hlt
      have hnn := sum_bd 100 (by omega) (ls.take k) (fun z hz => by have := allB_mem HA.out z hz; omega)
      have htl : (ls.take k).length = k := by rw [List.length_take]; omega
      rw [htl] at hnn; clear htl
      generalize ls.getD k 0 = x at hcx hf hs hsum
      have HC := Lib.hid hc; clear hc
      have HS := Lib.hid hs; clear hs
      have HF := Lib.hid hf; clear hf
      generalize (ls.take k).sum = s at hsum hnn
      have HSM := Lib.hid hsum; clear hsum
      cases hin : inB x 0 100
      · go_wp2_with (go_at_call 81; refine (l02Seats_any _ _).mono ?_; rintro e w' ⟨rfl, rfl⟩)
        go_ret
        exact ⟨ret_bool (by unfold seatsOk; rw [HF.out hin]; simp), rfl⟩
      · have hx := inB_iff.1 hin
        go_wp2_with (go_at_call 81; refine (l02Seats_any _ _).mono ?_; rintro e w' ⟨rfl, rfl⟩)
        go_round
        case rel => exact ⟨k + 1, by omega, by go_num, by rw [HSM.out], by rw [HS.out, HA.out, hin]; rfl⟩
        case measure => simp [intOf]; omega
    · have HE : Hid (k = ls.length) := (by omega : k = ls.length)
      have HA2 : Hid (allB ls 0 100 = true) := (by have := HA.out; rw [HE.out, List.take_length] at this; exact this)
      clear HA
      have HT : Hid ((ls.take k).sum = ls.sum) := Lib.hid (by rw [HE.out, List.take_length])
      generalize (ls.take k).sum = s at HT
      by_cases hln : ls.length = n
      · have he1 : ((ls.length : Int) == (n : Int)) = true := by simp [hln]
        go_wp2
        go_ret
        exact ⟨ret_bool (by unfold seatsOk; rw [HA2.out, ← HT.out]; simp [hln]), rfl⟩
      · have he1 : ((ls.length : Int) == (n : Int)) = false := by simp; omega
        go_wp2
        go_ret
        exact ⟨ret_bool (by unfold seatsOk; simp [hln]), rfl⟩
end Go.Proofs.Ytmdapfjafocdnaa
