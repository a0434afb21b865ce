/- Numbers read from their texts. -/
import Derived.Test.YtpdcmhnaedhkdaaGreatDoorNum
import Derived.Test.YtpdcmhnaedhkdaaGreatDoorAs
import Derived.Test.YtpdcmhnaedhkdaaGreatDoorShelf
import Derived.Lib.SmallJoins
import Derived.Lib.LaidTab
import Derived.Lib.AppendIntMem
import Derived.WalkSmall
namespace Go.Proofs.YtpdcmhnaedhkdaaGreatDoor
open Go.ChangeShapes Go.WideShapes Go.ChangeAt Go.RowKit
set_option linter.unusedVariables false
theorem gPow : Tryz.prog.globalNamed "internal/strconv.uint64pow10" = some 2 := by kernel_rfl
theorem gSyn : Tryz.prog.globalNamed "strconv.ErrSyntax" = some 3 := by kernel_rfl
theorem gRan : Tryz.prog.globalNamed "strconv.ErrRange" = some 4 := by kernel_rfl
/-- What the library's variables hold, as far as these functions read them. -/
structure LibVars (w : World) : Prop where
  tab : Lib.TabIs Tryz.prog w "internal/strconv.uint64pow10" .u64 Lib.pow10Tab
  syn : ∃ t p, w.var? Tryz.prog "strconv.ErrSyntax" = some #[.iface t p]
  ran : ∃ t p, w.var? Tryz.prog "strconv.ErrRange" = some #[.iface t p]
  et : w.cell? ⟨0, 0, none⟩ = some (.iface 132 (.agg #[th 61]))
theorem LibVars.keep {w w' : World} (h : LibVars w) (k : Keep0 w w') : LibVars w' := by
  obtain ⟨h1, ⟨t2, p2, h2⟩, ⟨t3, p3, h3⟩, h4⟩ := h
  exact ⟨var?_below k gPow (World.block_lt_of_cell? _ _ (h1.cell gPow 0 (by decide))) h1,
    ⟨t2, p2, var?_below k gSyn (World.block_lt_of_cell? _ _ (World.var?_cell gSyn h2 0)) h2⟩,
    ⟨t3, p3, var?_below k gRan (World.block_lt_of_cell? _ _ (World.var?_cell gRan h3 0)) h3⟩,
    by rw [k.cell (World.block_lt_of_cell? _ _ h4)]; exact h4⟩
theorem Decimal_any (n : Int) (w : World) (hn : In64 n) (h : Lib.TabIs Tryz.prog w "internal/strconv.uint64pow10" .u64 Lib.pow10Tab) :
    Calls Tryz.prog 25 #[.int .i64 n] w fun e w' => e = .returned (.string ⟨(Lib.itoa n).toArray⟩) ∧ Keep0 w w' := by
  go_enter Tryz.func25, Tryz.ntmps25
  go_wp2_with fail
  refine (Tryz.strconv_FormatInt_10 n hn.1 hn.2 w h).mono ?_
  rintro e w' ⟨rfl, k, os, rfl⟩
  go_wp2
  go_ret
  exact ⟨rfl, Lib.below_grow _ w (Nat.le_refl _) k os⟩
theorem within_one (n lo hi : Int) (w : World) :
    Calls Tryz.prog 47 #[.int .i64 n, .int .i64 lo, .int .i64 hi] w fun e w' => e = .returned (.bool (inB n lo hi)) ∧ w = w' := by
  go_enter Tryz.func47, Tryz.ntmps47
  go_wp2
  · go_ret
    exact ⟨by simp [inB, *], rfl⟩
  · go_ret
    exact ⟨ret_bool (by symm; rw [inB_not]; omega), rfl⟩
/-- What strconv.ParseInt returns for 64 bits: a number, or an error that is not nil. -/
def Parsed (l : List UInt8) (w : World) (e : Ending) (w' : World) : Prop :=
  Keep0 w w' ∧ ((∃ v, Lib.parseIntB 64 l = .ok v ∧ e = .returned (.tuple #[.int .i64 v, .nilIface])) ∨ ((∀ v, Lib.parseIntB 64 l ≠ .ok v) ∧ ∃ v N, e = .returned (.tuple #[.int .i64 v, .iface 149 (.pointer (some ⟨N, 0, none⟩))])))
theorem ParseInt_any (s : ByteArray) (w : World) (hs : s.size ≤ 1048576) (hv : LibVars w) :
    Calls Tryz.prog 64 #[.string s, .int .i64 10, .int .i64 64] w (Parsed s.data.toList w) := by
  obtain ⟨t2, p2, h2⟩ := hv.syn
  obtain ⟨t3, p3, h3⟩ := hv.ran
  cases h : Lib.parseIntB 64 s.data.toList with
  | ok v =>
    refine (Tryz.strconv_ParseInt_10_at64_ok s (by omega) v h w).mono fun e w' hh => ?_
    obtain ⟨rfl, hw⟩ := hh
    refine ⟨?_, .inl ⟨v, h, rfl⟩⟩
    rcases hw with rfl | ⟨t, rfl⟩
    · exact Below.refl _ _
    · exact Joins.below_bytesWorld _ w _ t (Nat.le_refl _)
  | «syntax» =>
    refine (Tryz.strconv_ParseInt_10_at64_syntax_var s (by omega) h t2 p2 w h2).mono fun e w' hh => ?_
    obtain ⟨N, rfl, _, _, hb⟩ := hh
    exact ⟨hb,   .inr ⟨by simp [h], _, _, rfl⟩⟩
  | range =>
    refine (Tryz.strconv_ParseInt_10_at64_range_var s (by omega) h t3 p3 w h3).mono fun e w' hh => ?_
    obtain ⟨N, rfl, _, _, hb⟩ := hh
    exact ⟨hb,   .inr ⟨by simp [h], _, _, rfl⟩⟩
/-- What the reader of a number returns: the number and no error, or a *fault. -/
def NumRead (l : List UInt8) (w : World) (e : Ending) (w' : World) : Prop :=
  Keep0 w w' ∧ ((rdOk l = true ∧ e = .returned (.tuple #[.int .i64 (rdV l), .nilIface])) ∨ (rdOk l = false ∧ rdV l = 0 ∧ ∃ N, e = .returned (.tuple #[.int .i64 0, .iface 80 (.pointer (some ⟨N, 0, none⟩))])))
theorem NumRead.no {l : List UInt8} {w w' : World} {N : Nat} (k : Keep0 w w') (h : ∀ n, -1000000000 ≤ n → n ≤ 1000000000 → Lib.itoa n ≠ l) :
    NumRead l w (.returned (.tuple #[.int .i64 0, .iface 80 (.pointer (some ⟨N, 0, none⟩))])) w' := ⟨k, .inr ⟨(rd_no h).1, (rd_no h).2, N, rfl⟩⟩
theorem bytes_list (s : ByteArray) : s.toList = s.data.toList := ByteArray.toList_eq s
set_option maxHeartbeats 1600000 in
theorem readNumber_any (s : ByteArray) (w : World) (hs : s.size ≤ 1048576) (hv : LibVars w) :
    Calls Tryz.prog 49 #[.string s] w (NumRead s.data.toList w) := by
  go_enter Tryz.func49, Tryz.ntmps49
  go_wp2_with fail
  refine (ParseInt_any s w hs hv).mono ?_
  rintro e w1 ⟨k1, ⟨v, h1, rfl⟩ | ⟨h1, v, N, rfl⟩⟩
  · have HNO : Hid (∀ n, n ≠ v → -1000000000 ≤ n → n ≤ 1000000000 → Lib.itoa n ≠ s.data.toList) := Lib.hid (fun n hn h2 h3 h4 => by
      have := parse_itoa n h2 h3
      rw [h4, h1] at this; cases this; exact hn rfl)
    have hv1 := hv.keep k1
    cases hin : inB v (-1000000000) 1000000000
    · have hq := inB_not.1 hin
      have HNO2 := Lib.hid (fun n h2 h3 => HNO.out n (by omega) h2 h3)
      go_wp2_with (go_at_call 47; refine (within_one _ _ _ _).mono ?_; rintro e w' ⟨rfl, rfl⟩)
      go_ret2
      exact NumRead.no (Keep0.step k1) HNO2.out
    · obtain ⟨hq1, hq2⟩ := inB_iff.1 hin
      go_wp2_with (first | (go_at_call 47; refine (within_one _ _ _ _).mono ?_; rintro e w' ⟨rfl, rfl⟩) | (go_at_call 25; refine (Decimal_any v _ ⟨by omega, by omega⟩ hv1.tab).mono ?_; rintro e w2 ⟨rfl, k2⟩))
      · have hne : (!Lib.itoa v == s.toList) = true := by assumption
        go_ret2
        refine NumRead.no (Keep0.step (k1.trans (k2.mono k1.size))) fun n h2 h3 h4 => ?_
        have h5 : n = v := Decidable.byContradiction fun h6 => HNO.out n h6 h2 h3 h4
        subst h5
        rw [h4, ← bytes_list] at hne
        simp at hne
      · have heq : (!Lib.itoa v == s.toList) = false := by assumption
        go_ret2
        have he : Lib.itoa v = s.data.toList := by rw [← bytes_list]; simpa using heq
        obtain ⟨r1, r2⟩ := rd_of hq1 hq2 he
        exact ⟨k1.trans (k2.mono k1.size), .inl ⟨r1, by rw [r2]; rfl⟩⟩
  · have HNO : Hid (∀ n, -1000000000 ≤ n → n ≤ 1000000000 → Lib.itoa n ≠ s.data.toList) := Lib.hid (fun n h2 h3 h4 => by
      have := parse_itoa n h2 h3
      rw [h4] at this; exact h1 n this)
    go_wp2
    go_ret2
    exact NumRead.no (Keep0.step k1) HNO.out

set_option maxHeartbeats 1600000 in
theorem outcome_yes (v : Int) (w : World) :
    Calls Tryz.prog 48 #[.int .i64 v, .nilIface] w fun e w' => e = .returned (.tuple #[.int .i64 v, .bool true]) ∧ Keep0 w w' := by
  go_enter Tryz.func48, Tryz.ntmps48
  go_wp2_with (go_at_call 58; refine (as_none _ _).mono ?_; rintro e w' ⟨rfl, rfl⟩)
  go_ret2
  exact ⟨rfl, by go_grown⟩
set_option maxHeartbeats 1600000 in
theorem outcome_no (v : Int) (N : Nat) (w : World) (hv : LibVars w) :
    Calls Tryz.prog 48 #[.int .i64 v, .iface 80 (.pointer (some ⟨N, 0, none⟩))] w fun e w' => e = .returned (.tuple #[.int .i64 0, .bool false]) ∧ Keep0 w w' := by
  have hv1 := hv.keep (w' := w.alloc (.cells #[.pointer none] 80)) (by go_grown)
  go_enter Tryz.func48, Tryz.ntmps48
  go_wp2_with fail
  refine (as_fault ⟨N, 0, none⟩ ⟨w.heap.size, 0, none⟩ (.pointer none) _ hv1.et (by simp) (by simp)).mono ?_
  rintro e w1 ⟨rfl, k1⟩
  have g1 : Keep0 w w1 := Below.trans (by go_grown) k1
  go_wp2
  go_ret2
  exact ⟨rfl, g1⟩
theorem ReadDecimal_any (s : ByteArray) (w : World) (hs : s.size ≤ 1048576) (hv : LibVars w) :
    Calls Tryz.prog 24 #[.string s] w fun e w' => e = .returned (.tuple #[.int .i64 (rdV s.data.toList), .bool (rdOk s.data.toList)]) ∧ Keep0 w w' := by
  go_enter Tryz.func24, Tryz.ntmps24
  go_wp2_with fail
  refine (readNumber_any s w hs hv).mono ?_
  rintro e w1 ⟨k1, ⟨h1, rfl⟩ | ⟨h1, h2, N, rfl⟩⟩
  · go_wp2_with fail
    refine (outcome_yes _ _).mono ?_
    rintro e w2 ⟨rfl, k2⟩
    go_wp2
    go_ret2
    exact ⟨by rw [h1]; rfl, k1.trans (k2.mono k1.size)⟩
  · have HH := Lib.hid (And.intro h1 h2); clear h1 h2
    go_wp2_with fail
    refine (outcome_no _ _ _ (hv.keep k1)).mono ?_
    rintro e w2 ⟨rfl, k2⟩
    go_wp2
    go_ret2
    exact ⟨by rw [HH.out.1, HH.out.2]; rfl, k1.trans (k2.mono k1.size)⟩
end Go.Proofs.YtpdcmhnaedhkdaaGreatDoor
