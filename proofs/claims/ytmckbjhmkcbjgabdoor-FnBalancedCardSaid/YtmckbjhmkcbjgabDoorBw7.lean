/- The word that the law draws. -/
import Derived.Test.YtmckbjhmkcbjgabDoorSrc
import Derived.Test.YtmckbjhmkcbjgabDoorHgt7
import Derived.Test.YtmckbjhmkcbjgabDoorLn7
import Derived.Test.YtmckbjhmkcbjgabDoorLi7
import Derived.Laws.IdiomStrings
import Derived.Laws.BytesArg
namespace Go.Proofs.YtmckbjhmkcbjgabDoor
open Go.ChangeShapes Go.WideShapes Go.ChangeAt Go.RowKit Go.Deep
set_option linter.unusedVariables false
theorem oneW_any (b : Nat) (ad : Option Addr) (cap : Nat) (zs : List Int) (n : Nat) (m : Int) (w : World) (h : SrcAt w b ad cap zs n) (hz : Bytes w ad zs) (hn : n ≤ 1099511627776) (hm : 1 ≤ m) (hm2 : m ≤ 200) :
    Calls Tryd.prog 25 #[.pointer (some ⟨b, 0, none⟩), .int .i64 m] w fun e w' =>
      ∃ r : Bool, e = .returned (.bool r) ∧ SrcAt w' b ad cap zs (n + 1) ∧ w.grownBy w' (some b) ∧ w'.heap.size = w.heap.size := by
  go_enter Tryd.func25, Tryd.ntmps25
  go_wp2_with fail
  refine (pick_any b ad cap zs n m w h hz hn hm hm2).mono ?_
  rintro e w1 ⟨r, r0, r1, rfl, hs, hg, hsz⟩
  have HS := Lib.hid hs; have HG := Lib.hid hg; have HZ := Lib.hid hsz
  clear hs hg hsz
  by_cases h0 : r = 0
  · subst h0
    go_wp2
    go_ret
    exact ⟨true, rfl, HS.out, HG.out, HZ.out⟩
  · go_wp2
    go_ret
    exact ⟨false, ret_bool (by simp [h0]), HS.out, HG.out, HZ.out⟩
/-- Bytes of letters in a block. -/
def LetAt (w : World) (g n : Nat) (ys : List Int) : Prop := ys.length = n ∧ Ab7 ys ∧ ∀ j, j < n → w.cell? ⟨g, j, none⟩ = some (.int .u8 (ys.getD j 0)) ∧ w.frozen? ⟨g, j, none⟩ = false
theorem LetAt.block {w w' : World} {g n : Nat} {ys : List Int} (h : LetAt w g n ys) (e : w'.heap[g]? = w.heap[g]?) : LetAt w' g n ys :=
  ⟨h.1, h.2.1, fun j hj => ⟨(World.cell?_of_block (w := w) e).trans (h.2.2 j hj).1, (World.frozen?_of_block (w := w) e).trans (h.2.2 j hj).2⟩⟩
theorem LetAt.set {w : World} {g n : Nat} {ys : List Int} (h : LetAt w g n ys) (x : Nat) (hx : x < n) (v : Int) (hv : v = 97 ∨ v = 98) : LetAt (w.setCell ⟨g, x, none⟩ (.int .u8 v)) g n (ys.set x v) := by
  refine ⟨by simp [h.1], fun z hz => ?_, fun j hj => ?_⟩
  · rcases List.mem_or_eq_of_mem_set hz with h1 | h1
    · exact h.2.1 z h1
    · rw [h1]; exact hv
  · obtain ⟨c1, c2⟩ := h.2.2 j hj
    refine ⟨?_, by simpa using c2⟩
    by_cases e : x = j
    · subst e
      rw [World.cell?_setCell_same _ _ _ c1]
      simp [List.getD_eq_getElem?_getD, h.1, hj]
    · rw [World.cell?_setCell_other _ _ _ _ (by intro h; cases h; exact e rfl), c1]
      simp [List.getD_eq_getElem?_getD, e]
theorem LetAt.conv {w : World} {g n cap : Nat} {ys : List Int} (h : LetAt w g n ys) : (convert 22 9 (.slice (some ⟨g, 0, none⟩) n cap)).run Tryd.prog w = .ok (.string (strOfNums ys)) w :=
  run_convert_bytes_arg w 22 5 Tryd.underlying22 Tryd.underlying5 g 0 n cap ys h.1 (fun i hi => by rw [Nat.zero_add]; exact (h.2.2 i hi).1) 9 Tryd.underlying9
set_option maxHeartbeats 3200000 in
theorem B10Word_any (ad : Option Addr) (cap : Nat) (zs : List Int) (w : World) (hz : Bytes w ad zs) :
    Calls Tryd.prog 6 #[.slice ad zs.length cap] w fun e w' => ∃ s : ByteArray, e = .returned (.string s) ∧ wdB s = true ∧ 1 ≤ s.size ∧ s.size ≤ 23 ∧ Keep w w' := by
  have S0 : SrcAt (w.alloc (.cells #[.slice ad zs.length cap, .int .i64 0, .int .u64 0] 81)) w.heap.size ad cap zs 0 :=
    ⟨by simp, ⟨0, Nat.le_refl _, by simp⟩, ⟨0, by omega, by omega, by simp⟩, by simp, by simp⟩
  have k0 : Keep w (w.alloc (.cells #[.slice ad zs.length cap, .int .i64 0, .int .u64 0] 81)) := by go_grown
  have z0 := hz.keep k0 (Nat.le_refl _)
  have hz0 : (w.alloc (.cells #[.slice ad zs.length cap, .int .i64 0, .int .u64 0] 81)).heap.size = w.heap.size + 1 := by simp
  have HA : Hid (∀ a o, ad = some ⟨a, o, none⟩ → zs ≠ [] → a ≠ w.heap.size) := Lib.hid (fun a o h hne => by
    rcases hz.at_ with h1 | ⟨a', o', h1, h2, _⟩
    · exact absurd h1 hne
    · rw [h1] at h; simp at h; omega)
  go_enter Tryd.func6, Tryd.ntmps6
  go_wp2_with fail
  refine (l00From_any ad cap zs.length w).mono ?_
  rintro e w0 ⟨rfl, rfl⟩
  generalize w.alloc (.cells #[.slice ad zs.length cap, .int .i64 0, .int .u64 0] 81) = w0 at *
  obtain ⟨sb, hsb⟩ : ∃ b, b = w.heap.size := ⟨_, rfl⟩
  rw [← hsb] at S0 hz0 HA
  rw [← hsb]
  have HSB := Lib.hid hsb; clear hsb
  have HK0 := Lib.hid k0
  clear k0
  go_wp2_with fail
  refine (pick_any sb ad cap zs 0 20 _ S0 z0 (by omega) (by omega) (by omega)).mono ?_
  rintro e w1 ⟨r, r0, r1, rfl, s1, g1, e1⟩
  have HS1 := Lib.hid s1; have HZ1 := Lib.hid (z0.grown g1 HA.out)
  have HK1 : Hid (Below sb w w1) := Lib.hid ((HK0.out.mono (by rw [HSB.out]; exact Nat.le_refl _)).grown g1 (by omega) (fun k h => by cases h; exact Nat.le_refl _))
  clear s1 g1 S0 z0
  have V1 : IntKind.i64.wrap (1 + r) = 1 + r := IntWalk.i64_in _ (by omega)
  have V2 : IntKind.i64.wrap (1 + r + 1) = 1 + r + 1 := IntWalk.i64_in _ (by omega)
  go_wp2_with fail
  refine (pick_any sb ad cap zs 1 (1 + r + 1) _ HS1.out HZ1.out (by omega) (by omega) (by omega)).mono ?_
  rintro e w2 ⟨a, a0, a1, rfl, s2, g2, e2⟩
  have HS2 := Lib.hid s2; have HZ2 := Lib.hid (HZ1.out.grown g2 HA.out)
  have HK2 : Hid (Below sb w w2) := Lib.hid (HK1.out.grown g2 (by omega) (fun k h => by cases h; exact Nat.le_refl _))
  clear s2 g2
  go_wp2_with fail
  refine (pick_any sb ad cap zs 2 (1 + r) _ HS2.out HZ2.out (by omega) (by omega) (by omega)).mono ?_
  rintro e w3 ⟨sh, h0, h1, rfl, s3, g3, e3⟩
  have HS3 := Lib.hid s3; have HZ3 := Lib.hid (HZ2.out.grown g3 HA.out)
  have HK3 : Hid (Below sb w w3) := Lib.hid (HK2.out.grown g3 (by omega) (fun k h => by cases h; exact Nat.le_refl _))
  clear s3 g3
  go_wp2_with fail
  refine (pick_any sb ad cap zs 3 23 _ HS3.out HZ3.out (by omega) (by omega) (by omega)).mono ?_
  rintro e w4 ⟨c, c0, c1, rfl, s4, g4, e4⟩
  have HS4 := Lib.hid s4; have HZ4 := Lib.hid (HZ3.out.grown g4 HA.out)
  have HK4 : Hid (Below sb w w4) := Lib.hid (HK3.out.grown g4 (by omega) (fun k h => by cases h; exact Nat.le_refl _))
  clear s4 g4
  obtain ⟨n, hn⟩ : ∃ n : Nat, 1 + c = n := ⟨(1 + c).toNat, by omega⟩
  have hn1 : 1 ≤ n ∧ n ≤ 23 := by omega
  have V3 : IntKind.i64.wrap (1 + c) = (n : Int) := by rw [hn]; exact IntWalk.i64_in _ (by omega)
  have HLN := Lib.hid (l07Line_any a (1 + r) sh n w4 (by omega) (by omega) a0 (by omega) h0 (by omega) (by omega))
  clear hn
  go_wp2_with fail
  refine HLN.out.mono ?_
  rintro e w5 ⟨rfl, k5⟩
  have HS5 := Lib.hid (HS4.out.keep k5 HS4.out.lt)
  have HZ5 := Lib.hid (HZ4.out.keep k5 (Nat.le_refl _))
  have hs5 := k5.size
  have HK5 : Hid (Below sb w w5) := Lib.hid (HK4.out.trans (k5.mono (by omega)))
  have hAb := lnN_ab a (1 + r) sh n
  have hLl := lnN_len a (1 + r) sh n
  clear k5 HLN
  generalize lnN a (1 + r) sh n = ys at *
  have hcv := run_bytes_of_string (P := Tryd.prog) w5 9 22 5 (strOfNums ys) Tryd.underlying9 Tryd.underlying22 Tryd.underlying5
  have hsz : (strOfNums ys).size = n := by rw [strOfNums_size, hLl]
  rw [hsz] at hcv
  generalize hcap : grownCap w5 n 0 5 = cp at *
  clear hcap
  obtain ⟨w6, hw6⟩ : ∃ w6, w6 = w5.drew.alloc (.cells (bytesRow (strOfNums ys) cp) 5 ((bytesRow (strOfNums ys) cp).size, (bytesRow (strOfNums ys) cp).size + 1)) := ⟨_, rfl⟩
  rw [← hw6] at hcv
  have HK56 : Hid (Keep w5 w6) := Lib.hid (by rw [hw6]; go_grown)
  have hs6 : w6.heap.size = w5.heap.size + 1 := by rw [hw6]; simp
  have HL6 : Hid (LetAt w6 w5.heap.size n ys) := Lib.hid ⟨hLl, hAb, fun j hj => by
    have hjs : j < (strOfNums ys).size := by rw [hsz]; exact hj
    have hb := byte7 ys j (by rw [hLl]; exact hj) hAb hjs
    have hsize : n ≤ (bytesRow (strOfNums ys) cp).size := by
      unfold bytesRow; simp
      have : (strOfNums ys).data.size = n := hsz
      omega
    rw [hw6]
    constructor
    · have e := World.cell?_alloc_mark w5.drew (bytesRow (strOfNums ys) cp) 5 ((bytesRow (strOfNums ys) cp).size, (bytesRow (strOfNums ys) cp).size + 1) j
      have e0 : w5.drew.heap.size = w5.heap.size := rfl
      rw [e0] at e
      rw [e, bytesRow_at (strOfNums ys) cp j hjs]
      have : (((strOfNums ys).data[j]'hjs).toNat : Int) = ys[j]'(by rw [hLl]; exact hj) := hb
      rw [this, getD_get ys j (by rw [hLl]; exact hj)]
    · have e := World.frozen?_alloc_mark w5.drew (bytesRow (strOfNums ys) cp) 5 (bytesRow (strOfNums ys) cp).size ((bytesRow (strOfNums ys) cp).size + 1) j
      have e0 : w5.drew.heap.size = w5.heap.size := rfl
      rw [e0] at e
      rw [e]
      simp; omega⟩
  clear hw6 hsz hLl hAb
  have HS6 := Lib.hid (HS5.out.keep HK56.out HS5.out.lt)
  have HZ6 := Lib.hid (HZ5.out.keep HK56.out (Nat.le_refl _))
  have HK6 : Hid (Below sb w w6) := Lib.hid (HK5.out.trans (HK56.out.mono (by omega)))
  have hgs : sb < w5.heap.size := HS5.out.lt
  generalize hG : w5.heap.size = g at *
  clear hG
  go_wp2_with fail
  refine (oneW_any sb ad cap zs 4 3 _ HS6.out HZ6.out (by omega) (by omega) (by omega)).mono ?_
  rintro e w7 ⟨b, rfl, s7, g7, e7⟩
  have HS7 := Lib.hid s7; have HZ7 := Lib.hid (HZ6.out.grown g7 HA.out)
  have HK7 : Hid (Below sb w w7) := Lib.hid (HK6.out.grown g7 (by omega) (fun k h => by cases h; exact Nat.le_refl _))
  have HL7 : Hid (LetAt w7 g n ys) := Lib.hid (HL6.out.block (g7.block g (by omega) (by simp; omega)))
  clear s7 g7 hcv
  have HFIN : Hid (∀ ys : List Int, ys.length = n → Ab7 ys → wdB (strOfNums ys) = true ∧ 1 ≤ (strOfNums ys).size ∧ (strOfNums ys).size ≤ 23) := Lib.hid (fun ys h1 h2 => ⟨wdB_ab ys h2 (by omega), by rw [strOfNums_size, h1]; exact hn1.1, by rw [strOfNums_size, h1]; exact hn1.2⟩)
  cases b
  · have hcv := HL7.out.conv (cap := cp)
    go_wp2
    go_ret
    obtain ⟨f1, f2, f3⟩ := HFIN.out ys HL7.out.1 HL7.out.2.1
    exact ⟨_, rfl, f1, f2, f3, by have h := HK7.out; rw [HSB.out] at h; exact h⟩
  · go_wp2_with fail
    refine (pick_any sb ad cap zs 5 n _ HS7.out HZ7.out (by omega) (by omega) (by omega)).mono ?_
    rintro e w8 ⟨x, x0, x1, rfl, s8, g8, e8⟩
    have HS8 := Lib.hid s8; have HZ8 := Lib.hid (HZ7.out.grown g8 HA.out)
    have HK8 : Hid (Below sb w w8) := Lib.hid (HK7.out.grown g8 (by omega) (fun k h => by cases h; exact Nat.le_refl _))
    have HL8 : Hid (LetAt w8 g n ys) := Lib.hid (HL7.out.block (g8.block g (by omega) (by simp; omega)))
    clear s8 g8
    go_wp2_with fail
    refine (pick_any sb ad cap zs 6 2 _ HS8.out HZ8.out (by omega) (by omega) (by omega)).mono ?_
    rintro e w9 ⟨y, y0, y1, rfl, s9, g9, e9⟩
    have HK9 : Hid (Below sb w w9) := Lib.hid (HK8.out.grown g9 (by omega) (fun k h => by cases h; exact Nat.le_refl _))
    have HL9 : Hid (LetAt w9 g n ys) := Lib.hid (HL8.out.block (g9.block g (by omega) (by simp; omega)))
    clear s9 g9
    obtain ⟨x, rfl⟩ : ∃ q : Nat, x = q := ⟨x.toNat, by omega⟩
    have hxn : x < n := by omega
    obtain ⟨q1, q2⟩ := HL9.out.2.2 x hxn
    have V4 : IntKind.i64.wrap (97 + y) = 97 + y := IntWalk.i64_in _ (by omega)
    have V5 : IntKind.u8.wrap (97 + y) = 97 + y := by
      rcases (by omega : y = 0 ∨ y = 1) with rfl | rfl <;> rfl
    have HLS : Hid (LetAt (w9.setCell ⟨g, x, none⟩ (.int .u8 (97 + y))) g n (ys.set x (97 + y))) := Lib.hid (HL9.out.set x hxn (97 + y) (by omega))
    have hcv := HLS.out.conv (cap := cp)
    go_wp2
    go_ret
    obtain ⟨f1, f2, f3⟩ := HFIN.out _ HLS.out.1 HLS.out.2.1
    exact ⟨_, rfl, f1, f2, f3, by have h := HK9.out.setCell (p := ⟨g, x, none⟩) (by show sb ≤ g; omega) (.int .u8 (97 + y)); rw [HSB.out] at h; exact h⟩
end Go.Proofs.YtmckbjhmkcbjgabDoor
