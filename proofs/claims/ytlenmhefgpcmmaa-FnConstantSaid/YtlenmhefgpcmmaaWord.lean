/- The word of a fraction, byte for byte. -/
import Derived.Test.YtlenmhefgpcmmaaInts
import Derived.Test.YtlenmhefgpcmmaaMem
import Derived.Laws.BytesArg
namespace Go.Proofs.Ytlenmhefgpcmmaa
open Go.ChangeShapes Go.WideShapes Go.ChangeAt Go.RowKit
set_option linter.unusedVariables false
theorem Try.infoB : (Try.prog.info? 5).map (fun i => (i.zero, i.size, i.bytes)) = some (some (.int .u8 0), 1, 1) := by kernel_rfl
abbrev bvals (zs : List Int) : List Value := zs.map (Value.int .u8)
def wB (a den : Int) (i : Int) : Int := if fl (i * a) den < fl ((i + 1) * a) den then 49 else 48
def wordN (a den : Int) (n : Nat) : List Int := (List.range n).map fun (i : Nat) => wB a den i
theorem wordN_len (a den : Int) (n : Nat) : (wordN a den n).length = n := by simp [wordN]
theorem wordN_succ (a den : Int) (n : Nat) : wordN a den (n + 1) = wordN a den n ++ [wB a den n] := by simp [wordN, List.range_succ]
theorem wB_bd (a den i : Int) : 0 ≤ wB a den i ∧ wB a den i ≤ 255 := by unfold wB; split <;> omega
def okW (a den count : Int) : Bool := inB den 1 1000 && inB a 0 den && inB count 0 400
def wordS (a den count : Int) : ByteArray := if okW a den count then strOfNums (wordN a den count.toNat) else ByteArray.empty
theorem mul_small {k : Nat} {a d : Int} (hk : k ≤ 400) (h0 : 0 ≤ a) (h1 : a ≤ d) (h2 : d ≤ 1000) : (0 ≤ (k : Int) * a ∧ (k : Int) * a ≤ 400000) ∧ (0 ≤ ((k : Int) + 1) * a ∧ ((k : Int) + 1) * a ≤ 401000) := by
  have e1 : (k : Int) * a ≤ 400 * 1000 := Int.mul_le_mul (by omega) (by omega) (by omega) (by omega)
  have e2 : 0 ≤ (k : Int) * a := Int.mul_nonneg (by omega) h0
  have e3 : ((k : Int) + 1) * a = (k : Int) * a + a := by rw [Int.add_mul, Int.one_mul]
  omega
theorem row_set (xs : List Value) (n k : Nat) (hx : xs.length = k) (h : k < n) (z v : Value) : (xs ++ List.replicate (n - k) z).set k v = (xs ++ [v]) ++ List.replicate (n - (k + 1)) z := by
  subst hx
  have e : List.replicate (n - xs.length) z = z :: List.replicate (n - (xs.length + 1)) z := by
    rw [show n - xs.length = (n - (xs.length + 1)) + 1 from by omega, List.replicate_succ]
  rw [e, List.set_append_right _ _ (Nat.le_refl _), Nat.sub_self, List.set_cons_zero]; simp
theorem row_set2 (xs ys : List Value) (k : Nat) (hx : xs.length = k) (u v : Value) : ((xs ++ [u]) ++ ys).set k v = (xs ++ [v]) ++ ys := by
  subst hx
  simp
theorem row_get (xs ys : List Value) (k : Nat) (hx : xs.length = k) (u : Value) : ((xs ++ [u]) ++ ys)[k]? = some u := by
  subst hx
  simp
theorem row_get0 (xs : List Value) (n k : Nat) (hx : xs.length = k) (h : k < n) (z : Value) : (xs ++ List.replicate (n - k) z)[k]? = some z := by
  subst hx
  rw [List.getElem?_append_right (by omega), List.getElem?_replicate, if_pos (by omega)]
/-- The string of a slice of bytes of the call's own. -/
theorem conv_row (W : World) (B : Nat) (ad : Option Addr) (cap n : Nat) (zs : List Int) (h : W.ownsRow B 5 1 (.slice ad n cap) n (bvals zs)) (hn : zs.length = n) :
    (convert 22 9 (.slice ad n cap)).run Try.prog W = .ok (.string (strOfNums zs)) W := by
  rcases own_block h with ⟨rfl, h2, _⟩ | ⟨g, rfl, h1, h2, _⟩
  · have := List.eq_nil_of_length_eq_zero (hn.trans h2)
    subst this
    exact run_convert_bytes_nil W 22 5 Try.underlying22 Try.underlying5 _ _ 9 Try.underlying9
  · refine run_convert_bytes_arg W 22 5 Try.underlying22 Try.underlying5 g 0 n cap zs hn (fun i hi => ?_) 9 Try.underlying9
    rw [Nat.zero_add, h.cellAt i (by omega)]
    simp [hn, hi]
set_option maxHeartbeats 1600000 in
theorem ConstantWord_any (a den count : Int) (w : World) (ua : In64 a) (ud : In64 den) (uc : In64 count) :
    Calls Try.prog 13 #[.int .i64 a, .int .i64 den, .int .i64 count] w fun e w' => e = .returned (.tuple #[.string (wordS a den count), .bool (okW a den count)]) ∧ Keep w w' := by
  cases hok : okW a den count
  · rw [show wordS a den count = ByteArray.empty from by simp [wordS, hok]]
    have ho : inB den 1 1000 = false ∨ (inB den 1 1000 = true ∧ inB a 0 den = false) ∨ (inB den 1 1000 = true ∧ inB a 0 den = true ∧ inB count 0 400 = false) := by
      unfold okW at hok
      cases h1 : inB den 1 1000 <;> cases h2 : inB a 0 den <;> cases h3 : inB count 0 400 <;> simp_all
    clear hok
    rcases ho with h1 | ⟨h1, h2⟩ | ⟨h1, h2, h3⟩
    all_goals
      go_enter Try.func13, Try.ntmps13
      go_wp2_with (go_at_call 36; refine (within_any _ _ _ _).mono ?_; rintro e w' ⟨rfl, rfl⟩)
      go_ret2
      exact ⟨rfl, Below.refl _ _⟩
  · have h := hok
    unfold okW at h
    simp only [Bool.and_eq_true] at h
    obtain ⟨⟨h1, h2⟩, h3⟩ := h
    obtain ⟨d1, d2⟩ := inB_iff.1 h1
    obtain ⟨a1, a2⟩ := inB_iff.1 h2
    obtain ⟨n1, n2⟩ := inB_iff.1 h3
    rw [show wordS a den count = strOfNums (wordN a den count.toNat) from by simp [wordS, hok]]
    clear hok
    obtain ⟨n, rfl⟩ : ∃ n : Nat, count = n := ⟨count.toNat, by omega⟩
    rw [Int.toNat_natCast]
    obtain ⟨i0, hi, hz0, hz1, hz2⟩ := info_parts Try.infoB
    have hb8 : i0.bytes * n ≤ 281474976710656 := by rw [hz2]; omega
    have hml : n ≤ maxLen := by unfold maxLen; omega
    go_enter Try.func13, Try.ntmps13
    go_wp2_with (first | (go_at_call 36; refine (within_any _ _ _ _).mono ?_; rintro e w' ⟨rfl, rfl⟩) | (at_make; refine wpList_make_full w rfl _ _ 22 rfl w.heap.size 5 i0 (.int .u8 0) 1 Try.underlying22 hi hz0 hz1 .i64 .i64 _ _ n rfl rfl rfl rfl hb8 hml (Nat.le_refl _) ?_))
    intro w0 hown0 hgrow0
    have hown0 : w0.ownsRow w.heap.size 5 1 (.slice (some ⟨w.heap.size, 0, none⟩) n n) n (List.replicate n (.int .u8 0)) := by simpa [Value.cells, toList_madeCells_one] using hown0
    have hk0 : Keep w w0 := (Below.refl _ _).grown hgrow0 (Nat.le_refl _) (fun k h => by cases h)
    clear hgrow0
    obtain ⟨B, hB⟩ : ∃ B, B = w.heap.size := ⟨_, rfl⟩
    rw [← hB] at hown0 ⊢
    have HB := Lib.hid hB; clear hB
    have HM := Lib.hid (fun (k : Nat) (hk : k ≤ 400) => mul_small hk a1 a2 d2)
    go_wp2
    go_loopw [9, 27] (fun _ i wr => ∃ k : Nat, k ≤ n ∧ i = .int .i64 k ∧ wr.ownsRow B 5 1 (.slice (some ⟨B, 0, none⟩) n n) n (bvals (wordN a den k) ++ List.replicate (n - k) (.int .u8 0)) ∧ Below B w wr)
      (fun _ i _ => n - (intOf i).toNat)
    case atStart => exact ⟨0, Nat.zero_le _, rfl, by simpa [wordN] using hown0, by rw [HB.out]; exact hk0⟩
    case round =>
      obtain ⟨k, hk, rfl, hown, hbel⟩ := hrel
      by_cases hlt : k < n
      · have hxl : (bvals (wordN a den k)).length = k := by simp [wordN_len]
        have hcy : wr.cell? ⟨B, k, none⟩ = some (.int .u8 0) := by rw [hown.cellAt k (by omega), row_get0 _ n k hxl hlt]
        have hfy := hown.frozenAt k
        have hs1 := (hown.stored k (.int .u8 48)).1
        rw [row_set _ n k hxl hlt] at hs1
        have hcy2 : (wr.setCell ⟨B, k, none⟩ (.int .u8 48)).cell? ⟨B, k, none⟩ = some (.int .u8 48) := by rw [hs1.cellAt k (by omega), row_get _ _ k hxl]
        have hfy2 := hs1.frozenAt k
        have hs2 := (hs1.stored k (.int .u8 49)).1
        rw [row_set2 _ _ k hxl] at hs2
        have HS1 := Lib.hid hs1; have HS2 := Lib.hid hs2; clear hs1 hs2 hown
        obtain ⟨⟨m1, m2⟩, m3, m4⟩ := HM.out k (by omega)
        by_cases hq : fl ((k : Int) * a) den < fl (((k : Int) + 1) * a) den
        · have HW : Hid (bvals (wordN a den (k + 1)) = bvals (wordN a den k) ++ [.int .u8 49]) := Lib.hid (by rw [wordN_succ, bvals, List.map_append]; simp [wB, hq])
          go_wp2_with (go_at_call 37; refine (floorOf_any _ _ _ (by omega) (by omega) (by omega) (by omega)).mono ?_; rintro e w' ⟨rfl, rfl⟩)
          go_roundw
          case rel => exact ⟨k + 1, by omega, by go_num, by rw [HW.out]; exact HS2.out, (hbel.setCell (Nat.le_refl _) _).setCell (Nat.le_refl _) _⟩
          case measure => simp [intOf]; omega
        · have HW : Hid (bvals (wordN a den (k + 1)) = bvals (wordN a den k) ++ [.int .u8 48]) := Lib.hid (by rw [wordN_succ, bvals, List.map_append]; simp [wB, hq])
          go_wp2_with (go_at_call 37; refine (floorOf_any _ _ _ (by omega) (by omega) (by omega) (by omega)).mono ?_; rintro e w' ⟨rfl, rfl⟩)
          go_roundw
          case rel => exact ⟨k + 1, by omega, by go_num, by rw [HW.out]; exact HS1.out, hbel.setCell (Nat.le_refl _) _⟩
          case measure => simp [intOf]; omega
      · have he : k = n := by omega
        subst he
        have hcv := conv_row wr B (some ⟨B, 0, none⟩) k k (wordN a den k) (by simpa using hown) (wordN_len a den k)
        go_wp2
        go_ret2
        exact ⟨rfl, by rw [HB.out] at hbel; exact hbel⟩
/-- An append of one byte to a slice of the call's own. -/
theorem list_appB {ops : Array Oper} {rest : List Oper} {o : Oper} {a : Act} {w : World} {Q : Exit → Act → World → Prop} (hgd : o.guard = none) (s x : Operand)
    (ho : o.op = .call { callee := .builtin .append, args := #[s, x], argTypes := #[22, 22] })
    (B : Nat) (ad : Option Addr) (cap n : Nat) (zs : List Int) (y : Int) (hs : a.eval s = .slice ad n cap) (hown : w.ownsRow B 5 1 (.slice ad n cap) n (bvals zs)) (hn : n = zs.length) (nb : Nat) (hx : a.eval x = .slice (some ⟨nb, 0, none⟩) 1 1)
    (hc : w.cell? ⟨nb, 0, none⟩ = some (.int .u8 y)) (hl : zs.length < 1099511627776) (hB : B ≤ w.heap.size)
    (h : ∀ ad' cap' w', w'.ownsRow B 5 1 (.slice ad' (n + 1) cap') (n + 1) (bvals (zs ++ [y])) → w.grownBy w' (Value.slice ad n cap).ownBlock → wpList Try.prog ops Q rest (a.put o.dst (.slice ad' (n + 1) cap')) w') : wpList Try.prog ops Q (o :: rest) a w := by
  obtain ⟨i0, hi, hz0, hz1, hz2⟩ := info_parts Try.infoB
  subst hn
  refine wpList_append_lies w hgd s x 22 ho B 5 i0 (.int .u8 0) 1 1 Try.underlying22 hi hz0 hz1 hz2 rfl (by omega) (.slice ad zs.length cap) zs.length (bvals zs) hs hown ⟨nb, 0, none⟩ 1 1 [.int .u8 y] hx rfl ?_ ?_ (by omega) (by unfold maxLen; omega) (by omega) hB _ rfl ?_
  · intro j u hj
    match j, hj with
    | 0, hj => simp at hj; subst hj; simpa [Addr.add] using hc
  · intro u hu; simp at hu; subst hu; rfl
  · intro g cap' w' h1 h2 _ _
    exact h (some ⟨g, 0, none⟩) cap' w' (by simpa [bvals] using h1) h2
theorem below_row {w0 w w' : World} {B lo n cap : Nat} {ad : Option Addr} {zs : List Int} (h : Below B w0 w) (o : w.ownsRow lo 5 1 (.slice ad n cap) n (bvals zs)) (m : w.grownBy w' (Value.slice ad n cap).ownBlock) (hB : B ≤ w.heap.size) (hlo : B ≤ lo) : Below B w0 w' := by
  refine h.grown m hB fun k hk => ?_
  rcases own_block o with ⟨rfl, _⟩ | ⟨k2, rfl, h4, _⟩
  · simp [Value.ownBlock] at hk
  · simp [Value.ownBlock] at hk; omega
theorem row_keep {w w' : World} {B n cap : Nat} {ad : Option Addr} {zs : List Int} (h : w.ownsRow B 5 1 (.slice ad n cap) n (bvals zs)) (k : Keep w w') : w'.ownsRow B 5 1 (.slice ad n cap) n (bvals zs) := by
  refine h.kept (row := none) ⟨k.os, k.tape, k.output, k.size, fun j hj _ => k.block j hj⟩ ?_
  rcases own_block h with ⟨rfl, _⟩ | ⟨g, rfl, _⟩
  · exact .inl rfl
  · right; simp [Value.ownBlock]
set_option maxHeartbeats 1600000 in
theorem l03Word_any (a den : Int) (n : Nat) (w : World) (d1 : 1 ≤ den) (d2 : den ≤ 1000) (a1 : 0 ≤ a) (a2 : a ≤ den) (hn : n ≤ 400) :
    Calls Try.prog 57 #[.int .i64 a, .int .i64 den, .int .i64 n] w fun e w' => e = .returned (.string (strOfNums (wordN a den n))) ∧ Keep w w' := by
  have HM := Lib.hid (fun (k : Nat) (hk : k ≤ 400) => mul_small hk a1 a2 d2)
  have hown0 : (w.alloc (.cells #[] 5)).ownsRow w.heap.size 5 1 (.slice (some ⟨w.heap.size, 0, none⟩) 0 0) 0 (bvals []) := by
    have := World.ownsRow_lit (base := w.heap.size) (e := 5) (size := 1) w #[] 0 (by simp) (by simp) rfl
    simpa using this
  have hbl1 : Keep w (w.alloc (.cells #[] 5)) := by go_grown
  go_enter Try.func57, Try.ntmps57
  go_wp2
  go_loopw [7, 8, 9] (fun v i _ wr => ∃ (k : Nat) (rd : Option Addr) (rc : Nat), k ≤ n ∧ i = .int .i64 k ∧ v = .slice rd k rc ∧ wr.ownsRow w.heap.size 5 1 (.slice rd k rc) k (bvals (wordN a den k)) ∧ Keep w wr)
    (fun _ i _ _ => n - (intOf i).toNat)
  case atStart => exact ⟨0, _, _, Nat.zero_le _, rfl, rfl, by simpa [wordN] using hown0, hbl1⟩
  case round =>
    obtain ⟨k, rd, rc, hk, rfl, rfl, hown, hbel⟩ := hrel
    by_cases hlt : k < n
    · obtain ⟨⟨m1, m2⟩, m3, m4⟩ := HM.out k (by omega)
      have HO := Lib.hid hown; clear hown
      have hsr := hbel.size
      have HKL := Lib.hid (wordN_len a den k)
      by_cases hq : fl ((k : Int) * a) den < fl (((k : Int) + 1) * a) den
      · have HW : Hid (bvals (wordN a den (k + 1)) = bvals (wordN a den k ++ [49])) := Lib.hid (by rw [wordN_succ]; simp [wB, hq])
        go_wp2_with (first | (go_at_call 51; refine (l01Floor_any _ _ _ (by omega) (by omega) (by omega) (by omega)).mono ?_; rintro e w' ⟨rfl, rfl⟩) | (refine list_appB (by rfl) _ _ (by rfl) w.heap.size rd rc k _ 49 (by rfl) (row_keep HO.out (by go_grown)) HKL.out.symm wr.heap.size (by rfl) (by simp) (by rw [HKL.out]; omega) (by simp; omega) ?_; intro ad' cap' w2 hown2 hgr2; have hbel2 : Below w.heap.size wr w2 := below_row (by go_grown) (row_keep HO.out (by go_grown)) hgr2 (by simp; omega) (Nat.le_refl _)))
        go_roundw
        case rel => exact ⟨k + 1, ad', cap', by omega, by go_num, rfl, by rw [HW.out]; exact hown2, hbel.trans hbel2⟩
        case measure => simp [intOf]; omega
      · have HW : Hid (bvals (wordN a den (k + 1)) = bvals (wordN a den k ++ [48])) := Lib.hid (by rw [wordN_succ]; simp [wB, hq])
        go_wp2_with (first | (go_at_call 51; refine (l01Floor_any _ _ _ (by omega) (by omega) (by omega) (by omega)).mono ?_; rintro e w' ⟨rfl, rfl⟩) | (refine list_appB (by rfl) _ _ (by rfl) w.heap.size rd rc k _ 48 (by rfl) (row_keep HO.out (by go_grown)) HKL.out.symm wr.heap.size (by rfl) (by simp) (by rw [HKL.out]; omega) (by simp; omega) ?_; intro ad' cap' w2 hown2 hgr2; have hbel2 : Below w.heap.size wr w2 := below_row (by go_grown) (row_keep HO.out (by go_grown)) hgr2 (by simp; omega) (Nat.le_refl _)))
        go_roundw
        case rel => exact ⟨k + 1, ad', cap', by omega, by go_num, rfl, by rw [HW.out]; exact hown2, hbel.trans hbel2⟩
        case measure => simp [intOf]; omega
    · have he : k = n := by omega
      subst he
      have hcv := conv_row wr w.heap.size rd rc k (wordN a den k) hown (wordN_len a den k)
      go_wp2
      go_ret
      exact ⟨rfl, hbel⟩
theorem specConstantWord_any (a den count : Int) (w : World) (ua : In64 a) (ud : In64 den) (uc : In64 count) :
    Calls Try.prog 34 #[.int .i64 a, .int .i64 den, .int .i64 count] w fun e w' => e = .returned (.tuple #[.string (wordS a den count), .bool (okW a den count)]) ∧ Keep w w' := by
  cases hok : okW a den count
  · rw [show wordS a den count = ByteArray.empty from by simp [wordS, hok]]
    have ho : inB den 1 1000 = false ∨ (inB den 1 1000 = true ∧ inB a 0 den = false) ∨ (inB den 1 1000 = true ∧ inB a 0 den = true ∧ inB count 0 400 = false) := by
      unfold okW at hok
      cases h1 : inB den 1 1000 <;> cases h2 : inB a 0 den <;> cases h3 : inB count 0 400 <;> simp_all
    clear hok
    rcases ho with h1 | ⟨h1, h2⟩ | ⟨h1, h2, h3⟩
    all_goals
      go_enter Try.func34, Try.ntmps34
      go_wp2_with (go_at_call 44; refine (l00In_any _ _ _ _).mono ?_; rintro e w' ⟨rfl, rfl⟩)
      go_ret2
      exact ⟨rfl, Below.refl _ _⟩
  · have h := hok
    unfold okW at h
    simp only [Bool.and_eq_true] at h
    obtain ⟨⟨h1, h2⟩, h3⟩ := h
    obtain ⟨d1, d2⟩ := inB_iff.1 h1
    obtain ⟨a1, a2⟩ := inB_iff.1 h2
    obtain ⟨n1, n2⟩ := inB_iff.1 h3
    rw [show wordS a den count = strOfNums (wordN a den count.toNat) from by simp [wordS, hok]]
    clear hok
    obtain ⟨n, rfl⟩ : ∃ n : Nat, count = n := ⟨count.toNat, by omega⟩
    rw [Int.toNat_natCast]
    go_enter Try.func34, Try.ntmps34
    go_wp2_with (go_at_call 44; refine (l00In_any _ _ _ _).mono ?_; rintro e w' ⟨rfl, rfl⟩)
    refine (l03Word_any a den n w d1 d2 a1 a2 (by omega)).mono ?_
    rintro e w1 ⟨rfl, k1⟩
    go_wp2
    go_ret2
    exact ⟨rfl, k1⟩
end Go.Proofs.Ytlenmhefgpcmmaa
