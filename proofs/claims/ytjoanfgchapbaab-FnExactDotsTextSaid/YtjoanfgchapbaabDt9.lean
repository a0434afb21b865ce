/- The text of dots: the program's and the model's. -/
import Derived.Test.YtjoanfgchapbaabBu7
import Derived.Test.YtjoanfgchapbaabPicI
import Derived.Lib.AppendStr
import Derived.Lib.AppendIntMem
import Derived.Deep.LoopGhost
namespace Go.Proofs.Ytjoanfgchapbaab
open Go.ChangeShapes Go.WideShapes Go.ChangeAt Go.RowKit Go.Deep
set_option linter.unusedVariables false
def dstr (l : List UInt8) : ByteArray := ⟨l.toArray⟩
theorem dstr_size (a : List UInt8) : (dstr a).size = a.length := by simp [dstr, ByteArray.size]
theorem dstr_cat (a b : List UInt8) : dstr a ++ dstr b = dstr (a ++ b) := by unfold dstr; rw [ByteArray.mk_append_mk]; first | done | simp
def bT (x : Int) : UInt8 := if x = 1 then 35 else 46
def rT (z : List Int) : List UInt8 := z.map bT ++ [10]
/-- The text of the first k rows and of the first j dots of the next one. -/
def dT (zss : List (List Int)) (k j : Nat) : List UInt8 := ((zss.take k).map rT).flatten ++ ((zss.getD k []).take j).map bT
theorem dT_start (zss : List (List Int)) : dT zss 0 0 = [] := by simp [dT]
theorem dT_step (zss : List (List Int)) (k j : Nat) (h : j < (zss.getD k []).length) : dT zss k (j + 1) = dT zss k j ++ [bT ((zss.getD k []).getD j 0)] := by
  unfold dT
  have : (zss.getD k []).take (j + 1) = (zss.getD k []).take j ++ [(zss.getD k []).getD j 0] := by
    rw [List.take_add_one, List.getElem?_eq_getElem h, getD_get _ j h]; rfl
  rw [this]; simp
theorem dT_row (zss : List (List Int)) (k : Nat) (h : k < zss.length) : dT zss k (zss.getD k []).length ++ [10] = dT zss (k + 1) 0 := by
  unfold dT
  have : zss.take (k + 1) = zss.take k ++ [zss.getD k []] := by
    rw [List.take_add_one, List.getElem?_eq_getElem h]; simp [List.getD_eq_getElem?_getD, h]
  rw [this, List.take_length]; simp [rT]
theorem dT_len {zss : List (List Int)} (h : gridB 12 1 zss = true) : ∀ k j, k ≤ zss.length → j ≤ 12 → (dT zss k j).length ≤ 168
  | 0, j, _, hj => by simp [dT]; omega
  | k + 1, j, hk, hj => by
    have g := grid_size h
    have key : ∀ i, i ≤ zss.length → (((zss.take i).map rT).flatten).length ≤ 13 * i := by
      intro i
      induction i with
      | zero => intro _; simp
      | succ i ih =>
        intro hi
        have r := (grid_row h (k := i) (by omega)).1
        have : zss.take (i + 1) = zss.take i ++ [zss.getD i []] := by
          rw [List.take_add_one, List.getElem?_eq_getElem (by omega)]; simp [List.getD_eq_getElem?_getD, show i < zss.length by omega]
        rw [this, List.map_append, List.flatten_append, List.length_append]
        have := ih (by omega)
        simp only [List.map_cons, List.map_nil, List.flatten_cons, List.flatten_nil, List.append_nil, rT, List.length_append, List.length_map, List.length_cons, List.length_nil]
        omega
    have a := key (k + 1) hk
    unfold dT
    rw [List.length_append, List.length_map, List.length_take]
    omega
theorem dots_of {zss : List (List Int)} (h : gridB 12 1 zss = true) {k j : Nat} (hk : k < zss.length) (hj : j < (zss.getD k []).length) : (zss.getD k []).getD j 0 = 0 ∨ (zss.getD k []).getD j 0 = 1 := by
  have := (grid_row h hk).2 _ (getD_mem _ j hj)
  omega
theorem bc_46 (l : List UInt8) : Lib.byteCells (l ++ [bT 0]) = Lib.byteCells l ++ [.int .u8 46] := by simp [Lib.byteCells, bT]
theorem bc_35 (l : List UInt8) : Lib.byteCells (l ++ [bT 1]) = Lib.byteCells l ++ [.int .u8 35] := by simp [Lib.byteCells, bT]
theorem bc_end (l : List UInt8) : Lib.byteCells (l ++ [10]) = Lib.byteCells l ++ Lib.strCells ⟨#[10]⟩ := by unfold Lib.byteCells Lib.strCells; rw [List.map_append]; first | done | rfl
def dtS (zss : List (List Int)) : ByteArray := if gridB 12 1 zss then dstr (dT zss zss.length 0) else ⟨#[]⟩
set_option maxHeartbeats 1600000 in
set_option maxRecDepth 100000 in
theorem bu_str (B b : Nat) (bs : List Value) (s : ByteArray) (w : World) (h : IsBu B b bs w) (hlen : bs.length + s.size ≤ 140737488355328) (hBw : B ≤ w.heap.size) :
    Calls Try.prog 102 #[.pointer (some ⟨b, 0, none⟩), .string s] w fun e w' => e = .returned (.tuple #[.int .i64 s.size, .nilIface]) ∧ (Lib.BuilderAt 115 5 B b (.pointer (some ⟨b, 0, none⟩)) (bs ++ Lib.strCells s) w' ∧ Below B w w') := by
  obtain ⟨i0, hi, hz0, hz1, hz2⟩ := info_parts Try.infoB
  go_enter Try.func102, Try.ntmps102
  go_wp2_with (go_at_call 145; refine (bu_check B b bs _ h).mono ?_)
  rintro e w1 ⟨rfl, h1, hb1⟩
  obtain ⟨hB, v, hbk, hown, hne⟩ := h1
  have c0 : w1.cell? ⟨b, 0, none⟩ = some (.pointer (some ⟨b, 0, none⟩)) := by rw [Lib.cell_of_heap hbk]; rfl
  have c1 : w1.cell? ⟨b, 1, none⟩ = some v := by rw [Lib.cell_of_heap hbk]; rfl
  go_wp2_with (at_builtin; refine Lib.wpList_append_own_string _ rfl _ _ 22 9 rfl B 5 i0 Try.underlying22 Try.underlying9 hi hz0 hz1 hz2 _ _ _ rfl hown s rfl ?c3 ?c4 ?c5 ?_)
  case c3 => unfold maxLen; omega
  case c4 => omega
  case c5 => have := hb1.size; omega
  intro v' w2 hown' hgrow _
  have hlt : b < w1.heap.size := by
    rcases Nat.lt_or_ge b w1.heap.size with h' | h'
    · exact h'
    · simp [Array.getElem?_eq_none h'] at hbk
  have hb2 : w2.heap[b]? = some (.cells #[.pointer (some ⟨b, 0, none⟩), v] 115 (0, 0)) := by
    rw [hgrow.block b hlt (fun e => hne e.symm)]
    exact hbk
  have d0 : w2.cell? ⟨b, 0, none⟩ = some (.pointer (some ⟨b, 0, none⟩)) := by rw [Lib.cell_of_heap hb2]; rfl
  have d1 : w2.cell? ⟨b, 1, none⟩ = some v := by rw [Lib.cell_of_heap hb2]; rfl
  have f1 : w2.frozen? ⟨b, 1, none⟩ = false := Lib.frozen_of_heap hb2 1
  obtain ⟨ao, n', cap, rfl⟩ : ∃ ao n' cap, v' = .slice ao n' cap := by
    rcases hown'.2 with ⟨hv, _⟩ | ⟨g, cap, cur, hv, _⟩
    · exact ⟨_, _, _, hv⟩
    · exact ⟨_, _, _, hv⟩
  go_wp2
  go_ret2
  refine ⟨rfl, ?_, ?_⟩
  · exact Lib.BuilderAt.put (T := 115) (e := 5) hB hb2 (bs' := bs ++ Lib.strCells s) (by simpa [Lib.strCells_length] using hown') (by decide)
  · exact (hb1.grown hgrow (by have := hb1.size; omega) (fun k hk => (hown.lt k hk).1)).setCell (p := ⟨b, 1, none⟩) hB _
set_option maxHeartbeats 3200000 in
set_option maxRecDepth 100000 in
theorem DotsText_any (ad : Option Addr) (cap : Nat) (zss : List (List Int)) (w : World) (hz : Intss w ad zss) :
    Calls Try.prog 54 #[.slice ad zss.length cap] w fun e w' => e = .returned (.tuple #[.string (dtS zss), .bool (gridB 12 1 zss)]) ∧ Keep w w' := by
  have HD := Lib.hid (areDots_any ad cap zss w hz)
  cases hg : gridB 12 1 zss
  · rw [hg] at HD
    rw [show dtS zss = ⟨#[]⟩ from by simp [dtS, hg]]
    clear hz
    go_enter Try.func54, Try.ntmps54
    go_wp2_with fail
    refine HD.out.mono ?_
    rintro e w1 ⟨rfl, k1⟩
    go_wp2
    go_ret2
    exact ⟨rfl, k1⟩
  rw [hg] at HD
  rw [show dtS zss = dstr (dT zss zss.length 0) from by simp [dtS, hg]]
  have gs := grid_size hg
  have HLN := Lib.hid (dT_len hg)
  have HGR := Lib.hid (fun k (h : k < zss.length) => (grid_row hg h).1)
  have HDO := Lib.hid (fun k j h1 h2 => dots_of hg (k := k) (j := j) h1 h2)
  have HST := Lib.hid (dT_step zss)
  have HRW := Lib.hid (dT_row zss)
  have HZ := Lib.hid hz
  have hsm := hz.small
  clear hz hg
  go_enter Try.func54, Try.ntmps54
  go_wp2_with fail
  refine HD.out.mono ?_
  rintro e w1 ⟨rfl, k1⟩
  have hBw : w.heap.size ≤ w1.heap.size := k1.size
  have HI0 : Hid (IsBu w1.heap.size w1.heap.size (Lib.byteCells (dT zss 0 0)) (w1.alloc (.cells #[.pointer none, .slice none 0 0] 115))) := Lib.hid (by
    refine .inl ⟨Nat.le_refl _, .slice none 0 0, by show (w1.heap.push _)[w1.heap.size]? = _; simp, ?_, by simp [Value.ownBlock]⟩
    have := World.ownsRow_nil (w1.alloc (.cells #[.pointer none, .slice none 0 0] 115)) w1.heap.size 5 1
    simpa [dT_start, Lib.byteCells] using this)
  have HK0 : Hid (Keep w (w1.alloc (.cells #[.pointer none, .slice none 0 0] 115)) ∧ w1.heap.size ≤ (w1.alloc (.cells #[.pointer none, .slice none 0 0] 115)).heap.size) := Lib.hid ⟨Keep.next k1 (by go_grown), by simp⟩
  clear k1 HD
  go_wp2
  go_loopg [14] zss.length (fun kk i wr => ∃ k : Nat, k ≤ zss.length ∧ kk = zss.length - k ∧ i = .int .i64 k ∧ Hid (IsBu w1.heap.size w1.heap.size (Lib.byteCells (dT zss k 0)) wr) ∧ Hid (Keep w wr ∧ w1.heap.size ≤ wr.heap.size))
  case atStart => exact ⟨0, Nat.zero_le _, rfl, rfl, HI0, HK0⟩
  case round =>
    obtain ⟨k, hk, rfl, rfl, HI, HK⟩ := hrel
    obtain ⟨wo, rfl⟩ : ∃ x, x = wr := ⟨wr, rfl⟩
    by_cases hlt : k < zss.length
    · rcases HZ.out.at_ with h | ⟨b, off, rfl, hb, hc⟩
      · subst h; simp at hlt
      obtain ⟨p, d, hcx, hpd, hin⟩ := hc k hlt
      have q := (HK.out.1.cell (p := ⟨b, off + k, none⟩) (by exact hb)).trans hcx
      have HIN := Lib.hid hin
      have hrl := HGR.out k hlt
      have HSTk := Lib.hid (HST.out k)
      have HRWk := Lib.hid (HRW.out k hlt)
      have HDOk := Lib.hid (fun j h => HDO.out k j hlt h)
      have HLNk := Lib.hid (fun j (h : j ≤ 12) => HLN.out k j hk h)
      clear hc hcx hpd hin
      have hx12 : (zss.getD k []).length ≤ 12 := by omega
      generalize zss.getD k [] = x at *
      clear hrl
      go_wp2
      go_loopg [20] x.length (fun kk j wi => ∃ t : Nat, t ≤ x.length ∧ kk = x.length - t ∧ j = .int .i64 t ∧ Hid (IsBu w1.heap.size w1.heap.size (Lib.byteCells (dT zss k t)) wi) ∧ Hid (Keep w wi ∧ w1.heap.size ≤ wi.heap.size))
      case atStart => exact ⟨0, Nat.zero_le _, rfl, rfl, HI, HK⟩
      case round =>
        obtain ⟨t, ht, rfl, rfl, HI2, HK2⟩ := hrel
        have hl := HLNk.out t (by omega)
        by_cases htm : t < x.length
        · rcases HIN.out.at_ with h | ⟨b2, off2, rfl, hb2, hc2⟩
          · rw [h] at htm; simp at htm
          have q2 := (HK2.out.1.cell (p := ⟨b2, off2 + t, none⟩) (by exact hb2)).trans (hc2 t htm)
          have HS := Lib.hid (HSTk.out t htm)
          have HOR := HDOk.out t htm
          clear hc2
          generalize x.getD t 0 = y at *
          rcases HOR with rfl | rfl
          · have HBY := Lib.hid (fun W (hI : IsBu w1.heap.size w1.heap.size (Lib.byteCells (dT zss k t)) W) (hs : w1.heap.size ≤ W.heap.size) => bu_byte w1.heap.size w1.heap.size (Lib.byteCells (dT zss k t)) 46 W hI (by rw [Lib.byteCells_length]; omega) hs)
            go_wp2_with (go_at_call 101; refine (HBY.out _ HI2.out HK2.out.2).mono ?_; rintro e w2 ⟨rfl, h2, k2⟩)
            go_roundg (x.length - (t + 1))
            case measure => omega
            case rel => exact ⟨t + 1, by omega, rfl, by go_num, Lib.hid (.inr (by rw [HS.out, bc_46]; exact h2)), Lib.hid ⟨HK2.out.1.trans (k2.mono hBw), Nat.le_trans HK2.out.2 k2.size⟩⟩
          · have HBY := Lib.hid (fun W (hI : IsBu w1.heap.size w1.heap.size (Lib.byteCells (dT zss k t)) W) (hs : w1.heap.size ≤ W.heap.size) => bu_byte w1.heap.size w1.heap.size (Lib.byteCells (dT zss k t)) 35 W hI (by rw [Lib.byteCells_length]; omega) hs)
            go_wp2_with (go_at_call 101; refine (HBY.out _ HI2.out HK2.out.2).mono ?_; rintro e w2 ⟨rfl, h2, k2⟩)
            go_roundg (x.length - (t + 1))
            case measure => omega
            case rel => exact ⟨t + 1, by omega, rfl, by go_num, Lib.hid (.inr (by rw [HS.out, bc_35]; exact h2)), Lib.hid ⟨HK2.out.1.trans (k2.mono hBw), Nat.le_trans HK2.out.2 k2.size⟩⟩
        · have HE : Hid (t = x.length) := Lib.hid (by omega)
          have HBS := Lib.hid (fun W (hI : IsBu w1.heap.size w1.heap.size (Lib.byteCells (dT zss k t)) W) (hs : w1.heap.size ≤ W.heap.size) => bu_str w1.heap.size w1.heap.size (Lib.byteCells (dT zss k t)) ⟨#[10]⟩ W hI (by rw [Lib.byteCells_length]; show _ + 1 ≤ _; omega) hs)
          go_wp2_with (go_at_call 102; refine (HBS.out _ HI2.out HK2.out.2).mono ?_; rintro e w2 ⟨rfl, h2, k2⟩)
          go_roundg (zss.length - (k + 1))
          case measure => omega
          case rel => exact ⟨k + 1, by omega, rfl, by go_num, Lib.hid (.inr (by rw [← HRWk.out, ← HE.out, bc_end]; exact h2)), Lib.hid ⟨HK2.out.1.trans (k2.mono hBw), Nat.le_trans HK2.out.2 k2.size⟩⟩
    · have HE := Lib.hid (show k = zss.length by omega)
      have HS : Hid (∀ W, IsBu w1.heap.size w1.heap.size (Lib.byteCells (dT zss k 0)) W → w1.heap.size ≤ W.heap.size → Calls Try.prog 103 #[.pointer (some ⟨w1.heap.size, 0, none⟩)] W fun e w' => e = .returned (.string (dstr (dT zss zss.length 0))) ∧ Below w1.heap.size W w') := Lib.hid (fun W hI hs => by
        have := Try.Builder_String_any w1.heap.size w1.heap.size (dT zss k 0) W hI hs
        rw [← HE.out]; exact this)
      go_wp2_with (go_at_call 103; refine (HS.out _ HI.out HK.out.2).mono ?_; rintro e w2 ⟨rfl, k2⟩)
      go_ret2
      exact ⟨rfl, HK.out.1.trans (k2.mono hBw)⟩
end Go.Proofs.Ytjoanfgchapbaab
