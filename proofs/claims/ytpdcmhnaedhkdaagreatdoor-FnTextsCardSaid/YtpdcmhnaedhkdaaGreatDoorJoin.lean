/- Lists as texts: the images under Decimal, joined. -/
import Derived.Test.YtpdcmhnaedhkdaaGreatDoorVals
import Derived.Test.YtpdcmhnaedhkdaaGreatDoorDec
import Derived.Test.YtpdcmhnaedhkdaaGreatDoorShelf
import Derived.Lib.SmallJoins
import Derived.Lib.LaidTab
import Derived.Lib.AppendIntMem
import Derived.Lib.Join
import Derived.WalkSmall
namespace Go.Proofs.YtpdcmhnaedhkdaaGreatDoor
open Go.ChangeShapes Go.WideShapes Go.ChangeAt Go.RowKit
set_option linter.unusedVariables false
theorem gPowJ : Tryz.prog.globalNamed "internal/strconv.uint64pow10" = some 2 := by kernel_rfl
/-- The library's powers of ten are in place. -/
def Pows (w : World) : Prop := Lib.TabIs Tryz.prog w "internal/strconv.uint64pow10" .u64 Lib.pow10Tab
theorem Pows.keep {w w' : World} (h : Pows w) (k : Keep w w') : Pows w' := var?_below k gPowJ (World.block_lt_of_cell? _ _ (Lib.TabIs.cell h gPowJ 0 (by decide))) h
theorem Decimal_tab (n : Int) (w : World) (hn : In64 n) (h : Pows w) :
    Calls Tryz.prog 25 #[.int .i64 n] w fun e w' => e = .returned (.string ⟨(Lib.itoa n).toArray⟩) ∧ Keep w w' := by
  go_enter Tryz.func25, Tryz.ntmps25
  go_wp2_with fail
  refine (Tryz.strconv_FormatInt_10 n hn.1 hn.2 w h).mono ?_
  rintro e w' ⟨rfl, k, os, rfl⟩
  go_wp2
  go_ret
  exact ⟨rfl, Lib.below_grow _ w (Nat.le_refl _) k os⟩
def bstr (l : List UInt8) : ByteArray := ⟨l.toArray⟩
def decs (zs : List Int) : List ByteArray := zs.map fun z => bstr (Lib.itoa z)
abbrev svals (xs : List ByteArray) : List Value := xs.map Value.string
/-- The text of a list. -/
def txt (zs : List Int) : List UInt8 := if zs = [] then [45] else Lib.join (zs.map Lib.itoa) [44]
theorem itoa_len (n : Int) (h : In64 n) : (Lib.itoa n).length ≤ 20 := by
  have h1 := h.1
  have h2 := h.2
  rw [Lib.itoa]
  split
  · have := dec_len n.natAbs 19 (by omega) (by omega)
    simp; omega
  · have := dec_len n.toNat 19 (by omega) (by omega)
    omega
theorem joinTail_len20 (zs : List Int) (h : ∀ z ∈ zs, In64 z) : (Lib.joinTail [44] (zs.map Lib.itoa)).length ≤ 21 * zs.length := by
  induction zs with
  | nil => simp [Lib.joinTail]
  | cons z r ih =>
    have h1 := ih fun y hy => h y (List.mem_cons_of_mem _ hy)
    have h2 := itoa_len z (h z (List.mem_cons_self ..))
    simp only [Lib.joinTail, List.map_cons, List.flatten_cons, List.length_append, List.length_cons, List.length_nil] at h1 ⊢
    omega
theorem txt_len (zs : List Int) (h : ∀ z ∈ zs, In64 z) : (Lib.join (zs.map Lib.itoa) [44]).length ≤ 21 * zs.length := by
  cases zs with
  | nil => simp [Lib.join_nil]
  | cons z r =>
    have h1 := joinTail_len20 r fun y hy => h y (List.mem_cons_of_mem _ hy)
    have h2 := itoa_len z (h z (List.mem_cons_self ..))
    rw [List.map_cons, Lib.join_cons, List.length_append, List.length_cons]; omega
theorem join_step (zs : List Int) (k : Nat) (h0 : 1 ≤ k) (h : k < zs.length) : Lib.join ((zs.take (k + 1)).map Lib.itoa) [44] = Lib.join ((zs.take k).map Lib.itoa) [44] ++ [44] ++ Lib.itoa (zs.getD k 0) := by
  cases zs with
  | nil => simp at h
  | cons z r =>
    obtain ⟨j, rfl⟩ : ∃ j, k = j + 1 := ⟨k - 1, by omega⟩
    have hj : j < r.length := by simpa using h
    have e : (r.map Lib.itoa)[j]? = some (Lib.itoa ((z :: r).getD (j + 1) 0)) := by simp [List.getD_eq_getElem?_getD, hj]
    have h1 := Lib.joinTail_take_succ [44] (r.map Lib.itoa) j _ e
    rw [List.take_succ_cons, List.take_succ_cons, List.map_cons, List.map_cons, Lib.join_cons, Lib.join_cons, List.map_take, List.map_take, h1]
    simp [List.append_assoc]
theorem fillv_get (xs : List Value) (k : Nat) (h : k < xs.length) (z : Value) : (xs.take k ++ List.replicate (xs.length - k) z)[k]? = some z := by
  rw [List.getElem?_append_right (by simp; omega), List.getElem?_replicate, if_pos (by simp; omega)]
theorem fillv_set (xs : List Value) (k : Nat) (h : k < xs.length) (z y : Value) (hy : xs[k]? = some y) : (xs.take k ++ List.replicate (xs.length - k) z).set k y = xs.take (k + 1) ++ List.replicate (xs.length - (k + 1)) z := by
  have e : List.replicate (xs.length - k) z = z :: List.replicate (xs.length - (k + 1)) z := by
    rw [show xs.length - k = (xs.length - (k + 1)) + 1 from by omega, List.replicate_succ]
  rw [e, List.set_append_right _ _ (by simp; omega)]
  have : k - (List.take k xs).length = 0 := by simp; omega
  rw [this, List.set_cons_zero, List.take_add_one, hy]
  simp [List.append_assoc]
theorem Tryz.infoS : (Tryz.prog.info? 9).map (fun i => (i.zero, i.size, i.bytes)) = some (some (.string ⟨#[]⟩), 1, 16) := by kernel_rfl
set_option maxHeartbeats 1600000 in
/-- The texts of the numbers of a list. -/
theorem mapped_dec (ad : Option Addr) (cap : Nat) (zs : List Int) (w : World) (hz : Ints w ad zs) (hs : zs.length ≤ 1099511627776) (hp : Pows w) :
    Calls Tryz.prog 57 #[.slice ad zs.length cap, .func (.func 25) #[] #[]] w fun e w' =>
      e = .returned (.slice (some ⟨w.heap.size, 0, none⟩) zs.length zs.length) ∧ w'.ownsRow w.heap.size 9 1 (.slice (some ⟨w.heap.size, 0, none⟩) zs.length zs.length) zs.length (svals (decs zs)) ∧ Keep w w' := by
  obtain ⟨i0, hi, hz0, hz1, hz2⟩ := info_parts Tryz.infoS
  have hb8 : i0.bytes * zs.length ≤ 281474976710656 := by rw [hz2]; omega
  have hml : zs.length ≤ maxLen := by unfold maxLen; omega
  have hvl : (svals (decs zs)).length = zs.length := by simp [decs]
  have HVL := Lib.hid hvl; clear hvl
  have HP := Lib.hid hp; clear hp
  go_enter Tryz.func57, Tryz.ntmps57
  go_wp2_with (at_make; refine wpList_make_full w rfl _ _ 78 rfl w.heap.size 9 i0 (.string ⟨#[]⟩) 1 Tryz.underlying78 hi hz0 hz1 .i64 .i64 _ _ zs.length rfl rfl rfl rfl hb8 hml (Nat.le_refl _) ?_)
  intro w0 hown0 hgrow0
  have hown0 : w0.ownsRow w.heap.size 9 1 (.slice (some ⟨w.heap.size, 0, none⟩) zs.length zs.length) zs.length (List.replicate zs.length (.string ⟨#[]⟩)) := by simpa [Value.cells, toList_madeCells_one] using hown0
  have hk0 : Keep w w0 := (Below.refl _ _).grown hgrow0 (Nat.le_refl _) (fun k h => by cases h)
  clear hgrow0
  obtain ⟨B, hB⟩ : ∃ B, B = w.heap.size := ⟨_, rfl⟩
  rw [← hB] at hown0 ⊢
  have HB := Lib.hid hB; clear hB
  have hlen := hz.small
  go_wp2
  go_loopw [6, 7, 13] (fun _ _ i wr => ∃ k : Nat, k ≤ zs.length ∧ i = .int .i64 k ∧ wr.ownsRow B 9 1 (.slice (some ⟨B, 0, none⟩) zs.length zs.length) zs.length ((svals (decs zs)).take k ++ List.replicate ((svals (decs zs)).length - k) (.string ⟨#[]⟩)) ∧ Below B w wr)
    (fun _ _ i _ => zs.length - (intOf i).toNat)
  case atStart => exact ⟨0, Nat.zero_le _, rfl, by rw [HVL.out]; simpa using hown0, by rw [HB.out]; exact hk0⟩
  case round =>
    obtain ⟨k, hk, rfl, hown, hbel⟩ := hrel
    by_cases hlt : k < zs.length
    · rcases hz.at_ with h | ⟨b, off, rfl, hb, hc⟩
      · subst h; simp at hlt
      have hcx : wr.cell? ⟨b, off + k, none⟩ = some (.int .i64 (zs.getD k 0)) := (hbel.cell (by show b < B; rw [HB.out]; exact hb)).trans (hc k hlt)
      have hmem : zs.getD k 0 ∈ zs := by rw [List.getD_eq_getElem?_getD, List.getElem?_eq_getElem hlt]; exact List.getElem_mem hlt
      have hBw : B < wr.heap.size := by
        rcases own_block hown with ⟨h, _⟩ | ⟨g, h, _, h2, _⟩
        · cases h
        · simp at h; omega
      have HBW := Lib.hid hBw; clear hBw
      have HX := Lib.hid (show (svals (decs zs))[k]? = some (.string (bstr (Lib.itoa (zs.getD k 0)))) from by simp [decs, List.getD_eq_getElem?_getD, hlt])
      have HDC := Lib.hid (Decimal_tab (zs.getD k 0) wr (hz.wf _ hmem) (HP.out.keep (by have h := hbel; rw [HB.out] at h; exact h)))
      clear hc hmem
      generalize zs.getD k 0 = x at hcx HX HDC
      have HO := Lib.hid hown; clear hown
      have HL := Lib.hid hbel; clear hbel
      go_wp2_with (go_at_call 25; refine HDC.out.mono ?_)
      rintro e w2 ⟨rfl, k2⟩
      have HO2 := Lib.hid (World.ownsRow.kept (row := none) HO.out (keep_grown k2 none) (.inr (by simp [Value.ownBlock])))
      have HL2 := Lib.hid (HL.out.trans (k2.mono (Nat.le_of_lt HBW.out)))
      have hcy : w2.cell? ⟨B, k, none⟩ = some (.string ⟨#[]⟩) := by rw [HO2.out.cellAt k (by omega), fillv_get _ k (by rw [HVL.out]; exact hlt)]
      have hfy := HO2.out.frozenAt k
      have HST := Lib.hid (HO2.out.stored k (.string (bstr (Lib.itoa x))))
      have HE := Lib.hid (fillv_set (svals (decs zs)) k (by rw [HVL.out]; exact hlt) (.string ⟨#[]⟩) _ HX.out)
      have hbs : (⟨(Lib.itoa x).toArray⟩ : ByteArray) = bstr (Lib.itoa x) := rfl
      rw [hbs]
      go_wp2
      go_roundw
      case rel =>
        obtain ⟨s1, s2⟩ := HST.out
        rw [HE.out] at s1
        refine ⟨k + 1, by omega, by go_num, s1, ?_⟩
        exact HL2.out.setCell (Nat.le_refl _) _
      case measure => simp [intOf]; omega
    · go_wp2
      go_ret
      have he : k = zs.length := by omega
      subst he
      have e := HB.out
      subst e
      have h1 := HVL.out
      refine ⟨rfl, ?_, hbel⟩
      rw [h1, Nat.sub_self, List.replicate_zero, List.append_nil, List.take_of_length_le (by omega)] at hown
      exact hown
theorem decs_lists (zs : List Int) : (decs zs).map (·.data.toList) = zs.map Lib.itoa := by simp [decs, bstr]
set_option maxHeartbeats 1600000 in
theorem joined_any (ad : Option Addr) (cap : Nat) (zs : List Int) (w : World) (hz : Ints w ad zs) (hs : zs.length ≤ 40) (hp : Pows w) :
    Calls Tryz.prog 38 #[.slice ad zs.length cap] w fun e w' => e = .returned (.string (bstr (txt zs))) ∧ Keep w w' := by
  by_cases h0 : zs = []
  · subst h0
    go_enter Tryz.func38, Tryz.ntmps38
    go_wp2
    go_ret
    exact ⟨rfl, Below.refl _ _⟩
  · have hl : zs.length ≠ 0 := fun h => h0 (List.eq_nil_of_length_eq_zero h)
    have hl1 : ((zs.length : Int) == 0) = false := by simp; exact h0
    have HT := Lib.hid (show bstr (txt zs) = ⟨(Lib.join ((decs zs).map (·.data.toList)) (⟨#[44]⟩ : ByteArray).data.toList).toArray⟩ from by rw [decs_lists, txt, if_neg h0]; rfl)
    have HL := Lib.hid (show (Lib.join ((decs zs).map (·.data.toList)) (⟨#[44]⟩ : ByteArray).data.toList).length ≤ 140737488355328 from by
      rw [decs_lists]
      have := txt_len zs hz.wf
      show (Lib.join (zs.map Lib.itoa) [44]).length ≤ _
      omega)
    have hdl : (decs zs).length = zs.length := by simp [decs]
    have HD := Lib.hid hdl; clear hdl
    have H0 := Lib.hid h0; clear h0
    go_enter Tryz.func38, Tryz.ntmps38
    go_wp2_with fail
    refine (mapped_dec ad cap zs w hz (by omega) hp).mono ?_
    rintro e w1 ⟨rfl, o1, k1⟩
    have HS := Lib.hid (Tryz.strings_Join w.heap.size 0 zs.length (decs zs) ⟨#[44]⟩ w1
      (fun j x hx => by
        have hj := (List.getElem?_eq_some_iff.1 hx).1
        rw [HD.out] at hj
        rw [Nat.zero_add, o1.cellAt j (by omega)]; simp [svals, hx])
      (by
        rcases own_block o1 with ⟨h, _⟩ | ⟨g, h, _, h2, _⟩
        · cases h
        · simp at h; omega)
      (by rw [HD.out]; omega) (by rw [HD.out]; omega) HL.out)
    rw [HD.out, ← HT.out] at HS
    have HK := Lib.hid k1
    clear o1
    go_wp2_with fail
    refine HS.out.mono ?_
    rintro e w2 ⟨rfl, k2⟩
    go_wp2
    go_ret
    exact ⟨rfl, HK.out.trans (k2.mono HK.out.size)⟩
set_option maxHeartbeats 1600000 in
theorem ListText_any (ad : Option Addr) (cap : Nat) (zs : List Int) (w : World) (hz : Ints w ad zs) (hp : Pows w) :
    Calls Tryz.prog 20 #[.slice ad zs.length cap] w fun e w' => e = .returned (.tuple #[.string (if listOk zs 1000000000 then bstr (txt zs) else ⟨#[]⟩), .bool (listOk zs 1000000000)]) ∧ Keep w w' := by
  cases hok : listOk zs 1000000000
  · go_enter Tryz.func20, Tryz.ntmps20
    have HA := Lib.hid (allWithin_any ad cap zs 1000000000 w hz (by omega) (by omega))
    rw [hok] at HA
    go_wp2_with (go_at_call 36; refine HA.out.mono ?_; rintro e w' ⟨rfl, rfl⟩)
    go_ret2
    exact ⟨rfl, Below.refl _ _⟩
  · have hl : zs.length ≤ 40 := by unfold listOk at hok; simp only [Bool.and_eq_true, decide_eq_true_eq] at hok; exact hok.1
    have HA := Lib.hid (allWithin_any ad cap zs 1000000000 w hz (by omega) (by omega))
    rw [hok] at HA
    have HJ := Lib.hid (joined_any ad cap zs w hz hl hp)
    clear hok hp
    go_enter Tryz.func20, Tryz.ntmps20
    go_wp2_with (first | (go_at_call 36; refine HA.out.mono ?_; rintro e w' ⟨rfl, rfl⟩) | (go_at_call 38; refine HJ.out.mono ?_; rintro e w' ⟨rfl, k1⟩))
    go_ret2
    exact ⟨by simp, by assumption⟩
end Go.Proofs.YtpdcmhnaedhkdaaGreatDoor
