/- Journals: the program's. -/
import Derived.Test.YtpdcmhnaedhkdabDoorJrP11
import Derived.Test.YtpdcmhnaedhkdabDoorBuS
import Derived.Deep.LoopGhost
import Derived.Lib.IndexAny
namespace Go.Proofs.YtpdcmhnaedhkdabDoor
open Go.ChangeShapes Go.WideShapes Go.ChangeAt Go.RowKit Go.Deep
set_option linter.unusedVariables false
/-- A builder, in a world that has new blocks alone. -/
theorem builder_keep {T e : TypeId} {B b : Nat} {p : Value} {bs : List Value} {w w' : World} (h : Lib.BuilderAt T e B b p bs w) (k : Keep w w') : Lib.BuilderAt T e B b p bs w' := by
  have hl := h.lt
  obtain ⟨hB, v, hb, hown, hne⟩ := h
  refine ⟨hB, v, (k.block b hl).trans hb, hown.kept (keep_grown k none) ?_, hne⟩
  rcases hown.2 with ⟨rfl, _⟩ | ⟨g, cap, cur, rfl, _⟩
  · exact .inl rfl
  · exact .inr (by simp [Value.ownBlock])
theorem isBuilder_keep {T e : TypeId} {B b : Nat} {bs : List Value} {w w' : World} (h : Lib.IsBuilder T e B b bs w) (k : Keep w w') : Lib.IsBuilder T e B b bs w' := by
  rcases h with h | h
  · exact .inl (builder_keep h k)
  · exact .inr (builder_keep h k)
theorem hasEnd_any (s : ByteArray) (w : World) :
    Calls Tryd.prog 17 #[.string s, .string ⟨#[10]⟩] w fun e w' => e = .returned (.bool (!noE s)) ∧ w' = w := by
  refine (Tryd.strings_Contains_one s 10 w).mono ?_
  rintro e w' ⟨rfl, rfl⟩
  exact ⟨ret_bool (by rw [← Lib.contains_iff_indexByte]; unfold noE; rw [Bool.not_not]), rfl⟩
set_option maxHeartbeats 800000 in
theorem entryOf_any (c : Int) (s : ByteArray) (w : World) (hc : 0 ≤ c ∧ c < 65521) (hs : s.size ≤ 1048576) (hp : Pows w) :
    Calls Tryd.prog 15 #[.int .i64 c, .string s] w fun e w' => e = .returned (.tuple #[.string (bstr (enL (chk c s.data.toList) s.data.toList)), .int .i64 (chk c s.data.toList)]) ∧ Keep w w' := by
  have hin : inB c 0 65520 = true := inB_iff.2 (by omega)
  have HC := Lib.hid (fun W => CheckOf_any c s W ⟨by omega, by omega⟩ hs)
  rw [hin, if_pos rfl] at HC
  have hb := chk_bd c s.data.toList hc
  have HCAT := Lib.hid (enL_cat (chk c s.data.toList) s)
  generalize chk c s.data.toList = n at *
  have hil := itoa_len n ⟨by omega, by omega⟩
  have HD := Lib.hid (fun W (k : Keep w W) => Decimal_tab n W ⟨by omega, by omega⟩ (hp.keep k))
  have hd : (⟨(Lib.itoa n).toArray⟩ : ByteArray).size ≤ 20 := by show (bstr (Lib.itoa n)).size ≤ 20; rw [bstr_size2]; exact hil
  generalize (⟨(Lib.itoa n).toArray⟩ : ByteArray) = D at *
  have h1 : ¬ 9223372036854775807 < D.size + 1 := by omega
  have h2 : ¬ 9223372036854775807 < D.size + 1 + s.size := by omega
  have h3 : ¬ 9223372036854775807 < D.size + 1 + s.size + 1 := by omega
  have HR : Hid (D ++ (⟨#[32]⟩ : ByteArray) ++ s ++ ⟨#[10]⟩ = bstr (enL n s.data.toList)) := HCAT
  clear hp hil hc HCAT
  go_enter Tryd.func15, Tryd.ntmps15
  go_wp2_with fail
  refine (HC.out _).mono ?_
  rintro e w1 ⟨rfl, k1⟩
  have g1 : Keep w w1 := Keep.next (by go_grown) k1
  go_wp2_with fail
  refine (HD.out _ g1).mono ?_
  rintro e w2 ⟨rfl, k2⟩
  go_wp2
  go_ret2
  exact ⟨by rw [← HR.out]; rfl, g1.next k2⟩
theorem cells_cat (l : List UInt8) (r : List UInt8) : Lib.byteCells l ++ Lib.strCells (bstr r) = Lib.byteCells (l ++ r) := by unfold Lib.byteCells Lib.strCells bstr; rw [List.map_append]; first | done | rfl
set_option maxHeartbeats 3200000 in
set_option maxRecDepth 100000 in
theorem JournalOf_any (ad : Option Addr) (cap : Nat) (zs : List ByteArray) (w : World) (hz : Txs w ad zs) (hn : zs.length ≤ 1048576) (ht : totT zs ≤ 1048576) (hp : Pows w) :
    Calls Tryd.prog 8 #[.slice ad zs.length cap] w fun e w' => e = .returned (.tuple #[.string (jrV zs), .bool (okJ zs)]) ∧ Keep w w' := by
  have HZ := Lib.hid hz
  have HP := Lib.hid hp
  have HT := Lib.hid ht
  obtain ⟨b0, hb0⟩ : ∃ b0, b0 = w.heap.size := ⟨_, rfl⟩
  have HB0 := Lib.hid hb0
  have HI0 : Hid (IsBu b0 b0 (Lib.byteCells (jrT zs 0)) (w.alloc (.cells #[.pointer none, .slice none 0 0] 36))) := Lib.hid (by
    subst hb0
    refine .inl ⟨Nat.le_refl _, .slice none 0 0, by show (w.heap.push _)[w.heap.size]? = _; simp, ?_, by simp [Value.ownBlock]⟩
    have := World.ownsRow_nil (w.alloc (.cells #[.pointer none, .slice none 0 0] 36)) w.heap.size 5 1
    simpa [jrT, Lib.byteCells] using this)
  have HK0 : Hid (Keep w (w.alloc (.cells #[.pointer none, .slice none 0 0] 36)) ∧ b0 ≤ (w.alloc (.cells #[.pointer none, .slice none 0 0] 36)).heap.size) := Lib.hid ⟨by go_grown, by rw [hb0]; simp⟩
  have HJ0 : Hid (jrT zs 0 = []) := Lib.hid rfl
  have HC0 : Hid (ckT zs 0 = 0) := Lib.hid rfl
  have HCS : Hid (∀ k, ckT zs (k + 1) = chk (ckT zs k) (zs.getD k noT).data.toList) := Lib.hid (fun _ => rfl)
  have HJS : Hid (∀ k, jrT zs (k + 1) = jrT zs k ++ enL (ckT zs (k + 1)) (zs.getD k noT).data.toList) := Lib.hid (fun _ => rfl)
  have HCB := Lib.hid (ckT_bd zs)
  have HLG := Lib.hid (fun k (h1 : k ≤ zs.length) (h2 : 4000 < (jrT zs k).length) => okJ_long h1 h2)
  have HEN := Lib.hid (fun k (h1 : k < zs.length) h2 => okJ_end h1 h2)
  have HYS := Lib.hid (fun h1 h2 => okJ_yes (zs := zs) h1 h2)
  have HV0 : Hid (okJ zs = false → jrV zs = ⟨#[]⟩) := Lib.hid (fun h => by unfold jrV; rw [h]; rfl)
  have HV1 : Hid (okJ zs = true → jrV zs = bstr (jrT zs zs.length)) := Lib.hid (fun h => by unfold jrV; rw [h, if_pos rfl])
  have HSZ := Lib.hid (fun k (h : k < zs.length) => Nat.le_trans (totT_mem (getT_mem zs k h)) ht)
  have HEL := Lib.hid (fun c (hc : 0 ≤ c ∧ c < 65521) l => (enL_len c hc l).2)
  generalize okJ zs = OK at *
  generalize jrV zs = JV at *
  clear hz hp ht
  go_enter Tryd.func8, Tryd.ntmps8
  go_wp2_with fail
  rw [← HB0.out]
  clear hb0
  go_wp2
  go_loopg [5, 7, 8, 11] zs.length (fun kk c _ _ i wr => ∃ k : Nat, k ≤ zs.length ∧ kk = zs.length - k ∧ i = .int .i64 k ∧ c = .int .i64 (ckT zs k) ∧ Hid (IsBu b0 b0 (Lib.byteCells (jrT zs k)) wr) ∧ Hid (Keep w wr ∧ b0 ≤ wr.heap.size) ∧ Hid ((jrT zs k).length ≤ 4000 ∧ ∀ j, j < k → noE (zs.getD j noT) = true))
  case atStart => exact ⟨0, Nat.zero_le _, rfl, rfl, by rw [HC0.out], HI0, HK0, Lib.hid ⟨by rw [HJ0.out]; simp, fun j h => by omega⟩⟩
  case round =>
    obtain ⟨k, hk, rfl, rfl, rfl, HI, HK, HL⟩ := hrel
    by_cases hlt : k < zs.length
    · rcases HZ.out.at_ with h | ⟨b, off, rfl, hb, hc⟩
      · subst h; simp at hlt
      have q := (HK.out.1.cell (p := ⟨b, off + k, none⟩) (by exact hb)).trans (hc k hlt)
      have hsz := HSZ.out k hlt
      have HCk := Lib.hid (HCS.out k)
      have HJk := Lib.hid (HJS.out k)
      have HENk := Lib.hid (HEN.out k hlt)
      have HLGk := Lib.hid (HLG.out (k + 1) (by omega))
      have HNE : Hid (∀ x, noE (zs.getD k noT) = x → ∀ j, j < k + 1 → x = true → noE (zs.getD j noT) = true) := Lib.hid (fun x hx j hj h => by
        rcases Nat.lt_or_eq_of_le (Nat.le_of_lt_succ hj) with h1 | h1
        · exact HL.out.2 j h1
        · rw [h1, hx]; exact h)
      have HE := Lib.hid (fun W (k' : Keep wr W) => entryOf_any (ckT zs k) (zs.getD k noT) W (HCB.out k) hsz ((HP.out.keep HK.out.1).keep k'))
      rw [← HCk.out] at HE
      have hcb1 := HCB.out (k + 1)
      have hel := HEL.out (ckT zs (k + 1)) hcb1 (zs.getD k noT).data.toList
      rw [size_list] at hel
      have hll := HL.out.1
      clear hc hcb1
      generalize hc1 : ckT zs (k + 1) = c1 at *
      have HC1 := Lib.hid hc1
      clear hc1
      generalize hxx : zs.getD k noT = x at *
      have hes : (bstr (enL c1 x.data.toList)).size ≤ 1048598 := by rw [bstr_size2]; omega
      have HBS := Lib.hid (fun W (hI : IsBu b0 b0 (Lib.byteCells (jrT zs k)) W) (hs : b0 ≤ W.heap.size) => bu_str b0 b0 (Lib.byteCells (jrT zs k)) (bstr (enL c1 x.data.toList)) W hI (by rw [Lib.byteCells_length]; omega) hs)
      rw [cells_cat, ← HJk.out] at HBS
      have HLN := Lib.hid (fun W (hI : IsBu b0 b0 (Lib.byteCells (jrT zs (k + 1))) W) => Tryd.Builder_Len b0 b0 (Lib.byteCells (jrT zs (k + 1))) W hI)
      rw [Lib.byteCells_length] at HLN
      have HHE := Lib.hid (fun W => hasEnd_any x W)
      generalize bstr (enL c1 x.data.toList) = en at *
      clear hel hes
      have hbw : w.heap.size ≤ b0 := by rw [HB0.out]; exact Nat.le_refl _
      cases hne : noE x
      case false =>
        rw [hne] at HHE
        have HOK := Lib.hid (HENk.out hne)
        go_wp2_with (first | (go_at_call 15; refine (HE.out _ (by go_grown)).mono ?_; rintro e w1 ⟨rfl, k1⟩; have HI1 := Lib.hid (isBuilder_keep HI.out k1); have hsz1 := Nat.le_trans HK.out.2 k1.size) | (go_at_call 16; refine (HBS.out _ HI1.out hsz1).mono ?_; rintro e w2 ⟨rfl, h2, k2⟩) | (go_at_call 17; refine (HHE.out _).mono ?_; rintro e w3 ⟨rfl, rfl⟩))
        go_ret2
        have h := HOK.out
        exact ⟨by rw [h, HV0.out h]; rfl, (HK.out.1.next k1).trans (k2.mono hbw)⟩
      case true =>
        rw [hne] at HHE
        by_cases h4 : 4000 < (jrT zs (k + 1)).length
        · have HOK := Lib.hid (HLGk.out h4)
          generalize (jrT zs (k + 1)).length = m at *
          have h4i : (4000 : Int) < (m : Int) := by omega
          go_wp2_with (first | (go_at_call 15; refine (HE.out _ (by go_grown)).mono ?_; rintro e w1 ⟨rfl, k1⟩; have HI1 := Lib.hid (isBuilder_keep HI.out k1); have hsz1 := Nat.le_trans HK.out.2 k1.size) | (go_at_call 16; refine (HBS.out _ HI1.out hsz1).mono ?_; rintro e w2 ⟨rfl, h2, k2⟩; have HI2 := Lib.hid h2; clear h2) | (go_at_call 17; refine (HHE.out _).mono ?_; rintro e w3 ⟨rfl, rfl⟩) | (go_at_call 18; refine (HLN.out _ (.inr HI2.out)).mono ?_; rintro e w4 ⟨rfl, rfl⟩))
          go_ret2
          have h := HOK.out
          exact ⟨by rw [h, HV0.out h]; rfl, (HK.out.1.next k1).trans (k2.mono hbw)⟩
        · have HL4 := Lib.hid (Nat.not_lt.1 h4)
          generalize hm : (jrT zs (k + 1)).length = m at HLN h4
          clear hm
          have h4i : ¬ (4000 : Int) < (m : Int) := by omega
          go_wp2_with (first | (go_at_call 15; refine (HE.out _ (by go_grown)).mono ?_; rintro e w1 ⟨rfl, k1⟩; have HI1 := Lib.hid (isBuilder_keep HI.out k1); have hsz1 := Nat.le_trans HK.out.2 k1.size) | (go_at_call 16; refine (HBS.out _ HI1.out hsz1).mono ?_; rintro e w2 ⟨rfl, h2, k2⟩; have HI2 := Lib.hid h2; clear h2) | (go_at_call 17; refine (HHE.out _).mono ?_; rintro e w3 ⟨rfl, rfl⟩) | (go_at_call 18; refine (HLN.out _ (.inr HI2.out)).mono ?_; rintro e w4 ⟨rfl, rfl⟩))
          go_roundg (zs.length - (k + 1))
          case measure => omega
          case rel => exact ⟨k + 1, by omega, rfl, by go_num, by rw [HC1.out], Lib.hid (.inr HI2.out), Lib.hid ⟨(HK.out.1.next k1).trans (k2.mono hbw), Nat.le_trans hsz1 k2.size⟩, Lib.hid ⟨HL4.out, fun j hj => HNE.out true hne j hj rfl⟩⟩
    · have HE := Lib.hid (show k = zs.length by omega)
      have HOK : Hid (OK = true) := Lib.hid (HYS.out (by rw [← HE.out]; exact HL.out.1) (fun j hj => HL.out.2 j (by rw [HE.out]; exact hj)))
      have hbw : w.heap.size ≤ b0 := by rw [HB0.out]; exact Nat.le_refl _
      have HS : Hid (∀ W, IsBu b0 b0 (Lib.byteCells (jrT zs k)) W → b0 ≤ W.heap.size → Calls Tryd.prog 19 #[.pointer (some ⟨b0, 0, none⟩)] W fun e w' => e = .returned (.string JV) ∧ Below b0 W w') := Lib.hid (fun W hI hs => by
        have := Tryd.Builder_String_any b0 b0 (jrT zs k) W hI hs
        rw [HE.out] at this
        rw [HV1.out HOK.out]; exact this)
      go_wp2_with (go_at_call 19; refine (HS.out _ HI.out HK.out.2).mono ?_; rintro e w2 ⟨rfl, k2⟩)
      go_ret2
      exact ⟨by rw [HOK.out]; rfl, HK.out.1.trans (k2.mono hbw)⟩
end Go.Proofs.YtpdcmhnaedhkdabDoor
