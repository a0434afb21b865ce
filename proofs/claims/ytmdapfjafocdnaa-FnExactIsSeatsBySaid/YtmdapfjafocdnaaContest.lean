/- Contests: the function that tells worths, for each method; whether a list are seats. -/
import Derived.Test.YtmdapfjafocdnaaClaims
import Derived.Test.YtmdapfjafocdnaaVotes
import Derived.Laws.EntriesVeiled
namespace Go.Proofs.Ytmdapfjafocdnaa
open Go.ChangeShapes Go.WideShapes Go.ChangeAt Go.RowKit
set_option linter.unusedVariables false
structure Two2 (W : World) (b : Nat) (u0 u1 : Value) : Prop where
  c0 : W.cell? ⟨b, 0, none⟩ = some u0
  c1 : W.cell? ⟨b, 1, none⟩ = some u1
  f0 : W.frozen? ⟨b, 0, none⟩ = false
  f1 : W.frozen? ⟨b, 1, none⟩ = false
def noCon : Value := .agg #[.slice none 0 0, .nilFunc]
theorem contestOf_bad (M : Int) (ad : Option Addr) (cap : Nat) (zs : List Int) (w : World) (hz : Ints w ad zs) (hv : okVotes zs = false) :
    Calls Try.prog 60 #[.int .i64 M, .slice ad zs.length cap] w fun e w' => e = .returned (.tuple #[noCon, .bool false]) ∧ Keep w w' := by
  have B0 : Two2 (w.alloc (.cells #[.slice none 0 0, .nilFunc] 75)) w.heap.size (.slice none 0 0) .nilFunc := ⟨by simp, by simp, by simp, by simp⟩
  obtain ⟨c0, c1, f0, f1⟩ := B0
  go_enter Try.func60, Try.ntmps60
  go_wp2_with (go_at_call 83; refine (ValidVotes_any ad cap zs _ (hz.keep (B := _) (by go_grown) (Nat.le_refl _))).mono ?_; rw [hv]; rintro e w' ⟨rfl, rfl⟩)
  refine bodyPost_ret (v := .tuple #[noCon, .bool false]) (by simp [results, Try.results60, go_sem, noCon]) rfl ?_
  exact ⟨rfl, by go_grown⟩
theorem contestOf_none (M : Int) (ad : Option Addr) (cap : Nat) (zs : List Int) (w : World) (hz : Ints w ad zs) (hv : okVotes zs = true) (h0 : M ≠ 0) (h1 : M ≠ 1) (h2 : M ≠ 2) (h3 : M ≠ 3) :
    Calls Try.prog 60 #[.int .i64 M, .slice ad zs.length cap] w fun e w' => e = .returned (.tuple #[noCon, .bool false]) ∧ Keep w w' := by
  have g0 : (M == 0) = false := by simp [h0]
  have g1 : (M == 1) = false := by simp [h1]
  have g2 : (M == 2) = false := by simp [h2]
  have g3 : (M == 3) = false := by simp [h3]
  have B0 : Two2 (w.alloc (.cells #[.slice none 0 0, .nilFunc] 75)) w.heap.size (.slice none 0 0) .nilFunc := ⟨by simp, by simp, by simp, by simp⟩
  obtain ⟨c0, c1, f0, f1⟩ := B0
  go_enter Try.func60, Try.ntmps60
  go_wp2_with (go_at_call 83; refine (ValidVotes_any ad cap zs _ (hz.keep (B := _) (by go_grown) (Nat.le_refl _))).mono ?_; rw [hv]; rintro e w' ⟨rfl, rfl⟩)
  refine bodyPost_ret (v := .tuple #[noCon, .bool false]) (by simp [results, Try.results60, go_sem, noCon]) rfl ?_
  exact ⟨rfl, by go_grown⟩
theorem contestOf_0 (ad : Option Addr) (cap : Nat) (zs : List Int) (w : World) (hz : Ints w ad zs) (hv : okVotes zs = true) :
    Calls Try.prog 60 #[.int .i64 0, .slice ad zs.length cap] w fun e w' => e = .returned (.tuple #[conV ad zs.length cap (.func (.func 84) #[.int .i64 0] #[]), .bool true]) ∧ Keep w w' := by
  have B0 : Two2 (w.alloc (.cells #[.slice none 0 0, .nilFunc] 75)) w.heap.size (.slice none 0 0) .nilFunc := ⟨by simp, by simp, by simp, by simp⟩
  obtain ⟨c0, c1, f0, f1⟩ := B0
  go_enter Try.func60, Try.ntmps60
  go_wp2_with (go_at_call 83; refine (ValidVotes_any ad cap zs _ (hz.keep (B := _) (by go_grown) (Nat.le_refl _))).mono ?_; rw [hv]; rintro e w' ⟨rfl, rfl⟩)
  refine bodyPost_ret (v := .tuple #[conV ad zs.length cap (.func (.func 84) #[.int .i64 0] #[]), .bool true]) (by simp [results, Try.results60, go_sem, conV]) rfl ?_
  exact ⟨rfl, by go_grown⟩
theorem contestOf_1 (ad : Option Addr) (cap : Nat) (zs : List Int) (w : World) (hz : Ints w ad zs) (hv : okVotes zs = true) :
    Calls Try.prog 60 #[.int .i64 1, .slice ad zs.length cap] w fun e w' => e = .returned (.tuple #[conV ad zs.length cap (.func (.func 85) #[] #[]), .bool true]) ∧ Keep w w' := by
  have B0 : Two2 (w.alloc (.cells #[.slice none 0 0, .nilFunc] 75)) w.heap.size (.slice none 0 0) .nilFunc := ⟨by simp, by simp, by simp, by simp⟩
  obtain ⟨c0, c1, f0, f1⟩ := B0
  go_enter Try.func60, Try.ntmps60
  go_wp2_with (go_at_call 83; refine (ValidVotes_any ad cap zs _ (hz.keep (B := _) (by go_grown) (Nat.le_refl _))).mono ?_; rw [hv]; rintro e w' ⟨rfl, rfl⟩)
  refine bodyPost_ret (v := .tuple #[conV ad zs.length cap (.func (.func 85) #[] #[]), .bool true]) (by simp [results, Try.results60, go_sem, conV]) rfl ?_
  exact ⟨rfl, by go_grown⟩
theorem contestOf_2 (ad : Option Addr) (cap : Nat) (zs : List Int) (w : World) (hz : Ints w ad zs) (hv : okVotes zs = true) :
    Calls Try.prog 60 #[.int .i64 2, .slice ad zs.length cap] w fun e w' => e = .returned (.tuple #[conV ad zs.length cap (.func (.func 84) #[.int .i64 1] #[]), .bool true]) ∧ Keep w w' := by
  have B0 : Two2 (w.alloc (.cells #[.slice none 0 0, .nilFunc] 75)) w.heap.size (.slice none 0 0) .nilFunc := ⟨by simp, by simp, by simp, by simp⟩
  obtain ⟨c0, c1, f0, f1⟩ := B0
  go_enter Try.func60, Try.ntmps60
  go_wp2_with (go_at_call 83; refine (ValidVotes_any ad cap zs _ (hz.keep (B := _) (by go_grown) (Nat.le_refl _))).mono ?_; rw [hv]; rintro e w' ⟨rfl, rfl⟩)
  refine bodyPost_ret (v := .tuple #[conV ad zs.length cap (.func (.func 84) #[.int .i64 1] #[]), .bool true]) (by simp [results, Try.results60, go_sem, conV]) rfl ?_
  exact ⟨rfl, by go_grown⟩
theorem contestOf_3 (ad : Option Addr) (cap : Nat) (zs : List Int) (w : World) (hz : Ints w ad zs) (hv : okVotes zs = true) :
    Calls Try.prog 60 #[.int .i64 3, .slice ad zs.length cap] w fun e w' => e = .returned (.tuple #[conV ad zs.length cap (.func (.func 84) #[.int .i64 2] #[]), .bool true]) ∧ Keep w w' := by
  have B0 : Two2 (w.alloc (.cells #[.slice none 0 0, .nilFunc] 75)) w.heap.size (.slice none 0 0) .nilFunc := ⟨by simp, by simp, by simp, by simp⟩
  obtain ⟨c0, c1, f0, f1⟩ := B0
  go_enter Try.func60, Try.ntmps60
  go_wp2_with (go_at_call 83; refine (ValidVotes_any ad cap zs _ (hz.keep (B := _) (by go_grown) (Nat.le_refl _))).mono ?_; rw [hv]; rintro e w' ⟨rfl, rfl⟩)
  refine bodyPost_ret (v := .tuple #[conV ad zs.length cap (.func (.func 84) #[.int .i64 2] #[]), .bool true]) (by simp [results, Try.results60, go_sem, conV]) rfl ?_
  exact ⟨rfl, by go_grown⟩
/-- Whether all parties with seats stand against all others. -/
def allStand (ls : List Int) (cn cd : Nat → Int → Int) : Bool := decide (∀ i, i < ls.length → 0 < ls.getD i 0 → ∀ j, j < ls.length → j = i ∨ 0 ≤ cmpW (cn i (ls.getD i 0 - 1)) (cd i (ls.getD i 0 - 1)) (cn j (ls.getD j 0)) (cd j (ls.getD j 0)))
set_option maxHeartbeats 1600000 in
set_option maxRecDepth 100000 in
theorem IsSeatsBy_of (M : Int) (F : Nat) (bd : Array Value) (ad : Option Addr) (cap : Nat) (zs : List Int) (ld : Option Addr) (lcap : Nat) (ls : List Int) (cn cd : Nat → Int → Int) (w : World) (hz : Ints w ad zs) (hl : Ints w ld ls) (h1 : 1 ≤ zs.length) (h12 : zs.length ≤ 12)
    (hcon : ∀ W, Ints W ad zs → Calls Try.prog 60 #[.int .i64 M, .slice ad zs.length cap] W fun e w' => e = .returned (.tuple #[conV ad zs.length cap (.func (.func F) bd #[]), .bool true]) ∧ Keep W w')
    (HCO : ∀ (p : Nat) (k : Int) (W : World), Ints W ad zs → p < zs.length → 0 ≤ k → k ≤ 1000 → Calls Try.prog 63 #[conV ad zs.length cap (.func (.func F) bd #[]), .int .i64 p, .int .i64 k] W fun e w' => e = .returned (cV p k (cn p k) (cd p k)) ∧ Keep W w')
    (HBD : ∀ (p : Nat) (k : Int), p < zs.length → 0 ≤ k → k ≤ 100 → 0 ≤ cn p k ∧ cn p k ≤ 1000000000000 ∧ 0 ≤ cd p k ∧ cd p k ≤ 1001000) :
    Calls Try.prog 23 #[.int .i64 M, .slice ad zs.length cap, .slice ld ls.length lcap] w fun e w' => e = .returned (.bool (seatsOk ls zs.length && allStand ls cn cd)) ∧ Keep w w' := by
  have HC := Lib.hid HCO; have HB := Lib.hid HBD; have HN := Lib.hid hcon; clear HCO HBD hcon
  have hlen := hl.small
  go_enter Try.func23, Try.ntmps23
  go_wp2_with fail
  refine (HN.out w hz).mono ?_
  rintro e w1 ⟨rfl, k1⟩
  have k2 : Keep w1 (w1.alloc (.cells #[.slice ad zs.length cap, .func (.func F) bd #[]] 75)) := by go_grown
  have T2 : Two2 (w1.alloc (.cells #[.slice ad zs.length cap, .func (.func F) bd #[]] 75)) w1.heap.size (.slice ad zs.length cap) (.func (.func F) bd #[]) := ⟨by simp, by simp, by simp, by simp⟩
  have hws : (w1.alloc (.cells #[.slice ad zs.length cap, .func (.func F) bd #[]] 75)).heap.size = w1.heap.size + 1 := by simp
  unfold conV at HC HN ⊢
  go_wp2_with fail
  generalize w1.alloc (.cells #[.slice ad zs.length cap, .func (.func F) bd #[]] 75) = w2 at *
  have K2 := Lib.hid (Keep.next k1 k2); have HT := Lib.hid T2; clear k2 T2 HN
  refine (areSeats_any ld lcap ls zs.length w2 (hl.keep K2.out (Nat.le_refl _)) h12).mono ?_
  cases hs : seatsOk ls zs.length
  · rintro e w3 ⟨rfl, rfl⟩
    go_wp2
    go_ret
    exact ⟨ret_bool (by rw [hs]; rfl), K2.out⟩
  rintro e w3 ⟨rfl, rfl⟩
  have hll := seatsOk_len hs
  have hln := seatsOk_num hs
  have HLN := Lib.hid hln; have HLL := Lib.hid hll; clear hln
  have hpos : 1 ≤ ls.length := by omega
  have hmax : ls.length ≤ 12 := by omega
  have HCL := Lib.hid (claimsAt_any F bd ad cap zs ld lcap ls cn cd w2 (hz.keep K2.out (Nat.le_refl _)) (hl.keep K2.out (Nat.le_refl _)) hll hpos hmax HLN.out HC.out)
  clear hll
  obtain ⟨c0, c1, f0, f1⟩ := HT.out
  go_wp2_with fail
  refine HCL.out.mono ?_
  clear HCL c0 c1 f0 f1
  rintro e w4 ⟨g, rfl, hg, hca, k4⟩
  have HCA := Lib.hid hca; have K4 := Lib.hid k4; clear hca k4
  have HNO : Hid (∀ i, i < ls.length → 0 < ls.getD i 0 → standsB (cn i (ls.getD i 0 - 1)) (cd i (ls.getD i 0 - 1)) i ls cn cd = false → allStand ls cn cd = false) := Lib.hid (fun i hi h0 h => by
    unfold standsB at h; rw [decide_eq_false_iff_not] at h
    unfold allStand; rw [decide_eq_false_iff_not]
    exact fun h2 => h (h2 i hi h0))
  have HYES : Hid ((∀ i, i < ls.length → 0 < ls.getD i 0 → standsB (cn i (ls.getD i 0 - 1)) (cd i (ls.getD i 0 - 1)) i ls cn cd = true) → allStand ls cn cd = true) := Lib.hid (fun h => by
    unfold allStand; rw [decide_eq_true_eq]
    intro i hi h0
    have h3 := h i hi h0
    unfold standsB at h3; rw [decide_eq_true_eq] at h3; exact h3)
  have hs4 := K4.out.size
  go_wp2
  go_loopw [10, 11, 32] (fun _ _ i wr => ∃ j : Nat, j ≤ ls.length ∧ i = .int .i64 j ∧ Hid (Keep w4 wr) ∧ Hid (∀ i', i' < j → 0 < ls.getD i' 0 → standsB (cn i' (ls.getD i' 0 - 1)) (cd i' (ls.getD i' 0 - 1)) i' ls cn cd = true))
    (fun _ _ i _ => ls.length - (intOf i).toNat)
  case atStart => exact ⟨0, Nat.zero_le _, rfl, Lib.hid (Below.refl _ _), Lib.hid (fun j' h => by omega)⟩
  case round =>
    obtain ⟨j, hj, rfl, HKW, HALL⟩ := hrel
    have KW := Lib.hid (Keep.next (Keep.next K2.out K4.out) HKW.out)
    by_cases hlt : j < ls.length
    · rcases (hl.keep KW.out (Nat.le_refl _)).at_ with h | ⟨b, off, rfl, hb, hc⟩
      · subst h; simp at hlt
      have hcx := hc j hlt
      have hx := HLN.out _ (getD_mem ls j hlt)
      have HNJ := Lib.hid (HNO.out j hlt)
      have HALL2 : Hid ((0 < ls.getD j 0 → standsB (cn j (ls.getD j 0 - 1)) (cd j (ls.getD j 0 - 1)) j ls cn cd = true) → ∀ i', i' < j + 1 → 0 < ls.getD i' 0 → standsB (cn i' (ls.getD i' 0 - 1)) (cd i' (ls.getD i' 0 - 1)) i' ls cn cd = true) := Lib.hid (fun h i' hi' => by
        rcases Nat.lt_or_eq_of_le (Nat.le_of_lt_succ hi') with h3 | h3
        · exact HALL.out i' h3
        · rw [h3]; exact h)
      clear hc
      generalize ls.getD j 0 = x at hcx hx HNJ HALL2
      have hsr := HKW.out.size
      have T5 : Two2 wr w1.heap.size (.slice ad zs.length cap) (.func (.func F) bd #[]) := by
        obtain ⟨c0, c1, f0, f1⟩ := HT.out
        have kk := K4.out.trans (HKW.out.mono hs4)
        exact ⟨(kk.cell (p := ⟨w1.heap.size, 0, none⟩) (by show w1.heap.size < _; omega)).trans c0, (kk.cell (p := ⟨w1.heap.size, 1, none⟩) (by show w1.heap.size < _; omega)).trans c1, (kk.frozen (p := ⟨w1.heap.size, 0, none⟩) (by show w1.heap.size < _; omega)).trans f0, (kk.frozen (p := ⟨w1.heap.size, 1, none⟩) (by show w1.heap.size < _; omega)).trans f1⟩
      obtain ⟨c0, c1, f0, f1⟩ := T5
      by_cases hx0 : 0 < x
      · have HCJ := Lib.hid (HC.out j (x - 1) wr (hz.keep KW.out (Nat.le_refl _)) (by rw [← HLL.out]; exact hlt) (by omega) (by omega))
        have hbd := HB.out j (x - 1) (by rw [← HLL.out]; exact hlt) (by omega) (by omega)
        have HST : Hid (∀ W, Keep wr W → Calls Try.prog 64 #[cV j (x - 1) (cn j (x - 1)) (cd j (x - 1)), .slice (some ⟨g, 0, none⟩) ls.length ls.length] W fun e w' => e = .returned (.bool (standsB (cn j (x - 1)) (cd j (x - 1)) j ls cn cd)) ∧ Keep W w') := Lib.hid (fun W k =>
          standsAgainst_any j (x - 1) _ _ g ls cn cd W (by have := k.size; omega) (HCA.out.keep (Keep.next HKW.out k) hg) hmax hbd.1 hbd.2.1 hbd.2.2.1 hbd.2.2.2 (fun j' hj' => HB.out j' _ (by rw [← HLL.out]; exact hj') (HLN.out _ (getD_mem ls j' hj')).1 (HLN.out _ (getD_mem ls j' hj')).2))
        generalize cn j (x - 1) = n1 at *
        generalize cd j (x - 1) = d1 at *
        cases hst : standsB n1 d1 j ls cn cd
        · rw [hst] at HST
          go_wp2_with fail
          refine HCJ.out.mono ?_
          rintro e w5 ⟨rfl, k5⟩
          unfold cV at HST ⊢
          go_wp2_with fail
          refine (HST.out w5 k5).mono ?_
          rintro e w6 ⟨rfl, k6⟩
          go_wp2
          go_ret
          exact ⟨ret_bool (by rw [HNJ.out hx0 hst, Bool.and_false]), Keep.next (Keep.next KW.out k5) k6⟩
        · rw [hst] at HST
          go_wp2_with fail
          refine HCJ.out.mono ?_
          rintro e w5 ⟨rfl, k5⟩
          unfold cV at HST ⊢
          go_wp2_with fail
          refine (HST.out w5 k5).mono ?_
          rintro e w6 ⟨rfl, k6⟩
          go_wp2
          go_roundw
          case rel => exact ⟨j + 1, by omega, by go_num, Lib.hid (Keep.next (Keep.next HKW.out k5) k6), Lib.hid (HALL2.out (fun _ => hst))⟩
          case measure => simp [intOf]; omega
      · go_wp2
        go_roundw
        case rel => exact ⟨j + 1, by omega, by go_num, HKW, Lib.hid (HALL2.out (fun h => absurd h (by omega)))⟩
        case measure => simp [intOf]; omega
    · have hjn : j = ls.length := by omega
      subst hjn
      go_wp2
      go_ret
      exact ⟨ret_bool (by rw [HYES.out HALL.out, hs]; rfl), KW.out⟩
end Go.Proofs.Ytmdapfjafocdnaa
