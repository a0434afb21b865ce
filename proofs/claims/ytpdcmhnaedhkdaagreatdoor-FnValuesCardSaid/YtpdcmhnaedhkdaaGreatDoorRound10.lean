/- What the laws draw: a rounding of values. -/
import Derived.Test.YtpdcmhnaedhkdaaGreatDoorDraw10
import Derived.Test.YtpdcmhnaedhkdaaGreatDoorDivs
namespace Go.Proofs.YtpdcmhnaedhkdaaGreatDoor
open Go.ChangeShapes Go.WideShapes Go.ChangeAt Go.RowKit
set_option linter.unusedVariables false
theorem drawn_start (w : World) (u0 u1 c0 c1 c2 : Value) (S T : Nat) : ∃ W, W = ((w.alloc (.cells #[u0, u1] T)).alloc (.cells #[c0, c1, c2] S)).alloc (.cells #[] 2) ∧ W.heap.size = w.heap.size + 3 ∧ Keep w W ∧ Two W w.heap.size u0 u1 ∧
    (W.cell? ⟨w.heap.size + 1, 0, none⟩ = some c0 ∧ W.cell? ⟨w.heap.size + 1, 1, none⟩ = some c1 ∧ W.cell? ⟨w.heap.size + 1, 2, none⟩ = some c2 ∧ W.frozen? ⟨w.heap.size + 1, 1, none⟩ = false ∧ W.frozen? ⟨w.heap.size + 1, 2, none⟩ = false) ∧ Own W (w.heap.size + 2) (some ⟨w.heap.size + 2, 0, none⟩) 0 [] := by
  have T0 : Two (w.alloc (.cells #[u0, u1] T)) w.heap.size u0 u1 := ⟨by simp, by simp, by simp, by simp⟩
  have k0 : Keep w (w.alloc (.cells #[u0, u1] T)) := by go_grown
  have h0 : (w.alloc (.cells #[u0, u1] T)).heap.size = w.heap.size + 1 := by simp
  generalize w.alloc (.cells #[u0, u1] T) = wa at *
  have T1 := T0.alloc (.cells #[c0, c1, c2] S)
  have k1 : Keep wa (wa.alloc (.cells #[c0, c1, c2] S)) := by go_grown
  have h1 : (wa.alloc (.cells #[c0, c1, c2] S)).heap.size = wa.heap.size + 1 := by simp
  have e0 : (wa.alloc (.cells #[c0, c1, c2] S)).cell? ⟨wa.heap.size, 0, none⟩ = some c0 := by simp
  have e1 : (wa.alloc (.cells #[c0, c1, c2] S)).cell? ⟨wa.heap.size, 1, none⟩ = some c1 := by simp
  have e2 : (wa.alloc (.cells #[c0, c1, c2] S)).cell? ⟨wa.heap.size, 2, none⟩ = some c2 := by simp
  have f1 : (wa.alloc (.cells #[c0, c1, c2] S)).frozen? ⟨wa.heap.size, 1, none⟩ = false := by simp
  have f2 : (wa.alloc (.cells #[c0, c1, c2] S)).frozen? ⟨wa.heap.size, 2, none⟩ = false := by simp
  generalize wa.alloc (.cells #[c0, c1, c2] S) = wb at *
  rw [h0] at e0 e1 e2 f1 f2 h1
  have k2 : Keep wb (wb.alloc (.cells #[] 2)) := by go_grown
  have o : Own (wb.alloc (.cells #[] 2)) (w.heap.size + 2) (some ⟨w.heap.size + 2, 0, none⟩) 0 [] := by
    have := World.ownsRow_lit (base := w.heap.size + 2) (e := 2) (size := 1) wb #[] 0 (by omega) (by simp) rfl
    rw [h1] at this
    exact ⟨by simpa using this, by simp, by simp⟩
  have lb : w.heap.size + 1 < wb.heap.size := by omega
  refine ⟨_, rfl, by simp; omega, Keep.next (Keep.next k0 k1) k2, T1.alloc _, ⟨?_, ?_, ?_, ?_, ?_⟩, o⟩
  · exact (k2.cell (p := ⟨w.heap.size + 1, 0, none⟩) lb).trans e0
  · exact (k2.cell (p := ⟨w.heap.size + 1, 1, none⟩) lb).trans e1
  · exact (k2.cell (p := ⟨w.heap.size + 1, 2, none⟩) lb).trans e2
  · exact (k2.frozen (p := ⟨w.heap.size + 1, 1, none⟩) lb).trans f1
  · exact (k2.frozen (p := ⟨w.heap.size + 1, 2, none⟩) lb).trans f2
/-- What holds of the world at each round of a rounding's draw. -/
structure Rounds (w W : World) (ad : Option Addr) (cap : Nat) (zs : List Int) (n : Nat) (g : Int) (xd : Option Addr) (xc : Nat) (xs : List Int) (rd : Option Addr) (rc : Nat) (rs : List Int) : Prop where
  t : Two W w.heap.size (.int .i64 g) (.slice xd xs.length xc)
  s : SrcAt W (w.heap.size + 1) ad cap zs n
  o : Own W (w.heap.size + 2) rd rc rs
  k : Keep w W
  l : rs.length = n
  v : ∀ k, k < n → rs.getD k 0 = fl (xs.getD k 0) g ∨ rs.getD k 0 = ce (xs.getD k 0) g
theorem Rounds.keep {w W W' : World} {ad : Option Addr} {cap : Nat} {zs : List Int} {n : Nat} {g : Int} {xd : Option Addr} {xc : Nat} {xs : List Int} {rd : Option Addr} {rc : Nat} {rs : List Int} (h : Rounds w W ad cap zs n g xd xc xs rd rc rs) (k : Keep W W') : Rounds w W' ad cap zs n g xd xc xs rd rc rs :=
  ⟨h.t.keep k h.t.lt, h.s.keep k h.s.lt, h.o.keep k, Keep.next h.k k, h.l, h.v⟩
theorem Rounds.step {w W W2 W3 : World} {ad : Option Addr} {cap : Nat} {zs : List Int} {n : Nat} {g : Int} {xd : Option Addr} {xc : Nat} {xs : List Int} {rd : Option Addr} {rc : Nat} {rs : List Int} {rd' : Option Addr} {rc' : Nat} {y : Int} (h : Rounds w W ad cap zs n g xd xc xs rd rc rs)
    (s : SrcAt W2 (w.heap.size + 1) ad cap zs (n + 1)) (gr : W.grownBy W2 (some (w.heap.size + 1))) (k : Below (w.heap.size + 2) W2 W3) (o : Own W3 (w.heap.size + 2) rd' rc' (rs ++ [y])) (hy : y = fl (xs.getD n 0) g ∨ y = ce (xs.getD n 0) g) : Rounds w W3 ad cap zs (n + 1) g xd xc xs rd' rc' (rs ++ [y]) := by
  have hs := h.s.lt
  refine ⟨(h.t.grown gr (by simp)).keep k (by omega), s.keep k (by omega), o, ((below_beside h.k gr (by omega) (by omega)).trans (k.mono (by omega))), by simp [h.l], fun j hj => ?_⟩
  rcases Nat.lt_or_ge j n with hj2 | hj2
  · have e : (rs ++ [y]).getD j 0 = rs.getD j 0 := by simp [List.getD_eq_getElem?_getD, List.getElem?_append_left (show j < rs.length by rw [h.l]; exact hj2)]
    rw [e]; exact h.v j hj2
  · obtain rfl : j = n := by omega
    have e : (rs ++ [y]).getD j 0 = y := by rw [← h.l]; simp [List.getD_eq_getElem?_getD]
    rw [e]; exact hy
set_option maxHeartbeats 3200000 in
set_option maxRecDepth 100000 in
theorem B10Rounding_any (ad : Option Addr) (cap : Nat) (zs : List Int) (g : Int) (xd : Option Addr) (xc : Nat) (xs : List Int) (w : World) (hz : Bytes w ad zs) (hx : Ints w xd xs) (hg : 1 ≤ g ∧ g ≤ 12) (hl : xs.length ≤ 40) (hv : ∀ z ∈ xs, -20 ≤ z ∧ z ≤ 39) :
    Calls Tryz.prog 8 #[.slice ad zs.length cap, valV g xd xs.length xc] w fun e w' => ∃ (rs : List Int) (rd : Option Addr) (rc : Nat), e = .returned (.slice rd rs.length rc) ∧ Own w' w.heap.size rd rc rs ∧ rs.length = xs.length ∧ (∀ k, k < xs.length → rs.getD k 0 = fl (xs.getD k 0) g ∨ rs.getD k 0 = ce (xs.getD k 0) g) ∧ Keep w w' := by
  obtain ⟨W, hW, hWs, hWk, hWt, ⟨q0, q1, q2, q3, q4⟩, hWo⟩ := drawn_start w (.int .i64 g) (.slice xd xs.length xc) (.slice ad zs.length cap) (.int .i64 0) (.int .u64 0) 76 26
  have HR := Lib.hid (Rounds.mk hWt ⟨q0, ⟨0, Nat.le_refl _, q1⟩, ⟨0, by omega, by omega, q2⟩, q3, q4⟩ hWo hWk rfl (fun k hk => by omega) : Rounds w W ad cap zs 0 g xd xc xs _ _ [])
  have HWs := Lib.hid hWs
  have HV := Lib.hid hv
  clear hWt q0 q1 q2 q3 q4 hWo hWk hWs hv
  go_enter Tryz.func8, Tryz.ntmps8
  go_wp2_with fail
  refine (l00From_any ad cap zs.length _).mono ?_
  rintro e w0 ⟨rfl, rfl⟩
  go_wp2
  rw [← hW]
  clear hW
  go_loopg [6, 7] xs.length (fun kk out i wr => ∃ (j : Nat) (rd : Option Addr) (rc : Nat) (rs : List Int), j ≤ xs.length ∧ kk = xs.length - j ∧ i = .int .i64 j ∧ out = .slice rd rs.length rc ∧ Hid (Rounds w wr ad cap zs j g xd xc xs rd rc rs))
  case atStart => exact ⟨0, _, _, [], Nat.zero_le _, rfl, rfl, rfl, HR⟩
  case round =>
    obtain ⟨j, rd, rc, rs, hj, rfl, rfl, rfl, H⟩ := hrel
    obtain ⟨c0, c1, f0, f1⟩ := H.out.t
    by_cases hjn : j < xs.length
    · rcases hx.at_ with h | ⟨b1, off1, rfl, hb1, hc1⟩
      · subst h; simp at hjn
      have hcx := (H.out.k.cell (p := ⟨b1, off1 + j, none⟩) (by exact hb1)).trans (hc1 j hjn)
      have hxv := HV.out _ (getD_mem xs j hjn)
      have HXE : Hid (∃ x, x = xs.getD j 0) := Lib.hid ⟨_, rfl⟩
      obtain ⟨x, hxe⟩ := HXE.out
      rw [← hxe] at hcx hxv
      have HXE2 := Lib.hid hxe
      clear hc1 hxe HXE
      go_wp2
      go_quiet ((go_at_call 32; exact Calls.quiet_of_same ((l01Floor_any _ _ _ (by omega) (by omega) (by omega) (by omega)).mono fun _ _ h => ⟨h.1, h.2.symm⟩)))
      go_wp2_with fail
      have Hn := Lib.hid (H.out.keep (below_drewN (Below.refl _ wr) nq))
      have hcxn : (wr.drewN nq).cell? ⟨b1, off1 + j, none⟩ = some (.int .i64 x) := by simpa using hcx
      have hbn : b1 < (wr.drewN nq).heap.size := World.block_lt_of_cell? _ _ hcxn
      generalize wr.drewN nq = wn at *
      clear H c0 c1 f0 f1 hcx
      have HW3 := HWs.out
      have hnb : w.heap.size + 1 < wn.heap.size := Hn.out.s.lt
      clear HW3
      refine (one_any (w.heap.size + 1) ad cap zs j 2 wn Hn.out.s (hz.keep Hn.out.k (Nat.le_refl _)) (by omega) (by omega) (by omega)).mono ?_
      rintro e w4 ⟨b, rfl, s4, g4, e4⟩
      obtain ⟨c0, c1, f0, f1⟩ := Hn.out.t.grown g4 (by simp)
      have hcx4 : w4.cell? ⟨b1, off1 + j, none⟩ = some (.int .i64 x) := (World.cell?_of_block (a := ⟨b1, off1 + j, none⟩) (g4.block b1 hbn (by simp; omega))).trans hcxn
      have HS4 := Lib.hid s4; have HG4 := Lib.hid g4; have HE4 := Lib.hid e4
      have HO4 := Lib.hid (Own.beside Hn.out.o g4 (by omega))
      have hw4 : w.heap.size + 2 ≤ w4.heap.size := by omega
      have hrl : rs.length = j := Hn.out.l
      have HRL := Lib.hid hrl
      clear s4 g4 e4 hcxn hbn hrl
      cases b
      case false =>
        have hfb := fl_bd (a := x) (b := g) (M := 1000000) (by omega) (by omega) (by omega) (by omega)
        go_wp2_with (refine list_app1 (by rfl) _ _ (by rfl) (w.heap.size + 2) rd rc rs.length rs (fl x g) (by rfl) (HO4.out.keep (by go_grown)) rfl w4.heap.size (by rfl) (by simp) ⟨by omega, by omega⟩ (by rw [HRL.out]; omega) (by simp; omega) ?_; intro ad' cap' w6 hown6 hgr6; have hbel6 : Below (w.heap.size + 2) w4 w6 := below_own (by go_grown) (HO4.out.keep (by go_grown)) hgr6 (by simp; omega) (Nat.le_refl _))
        go_roundg (xs.length - (j + 1))
        case measure => omega
        case rel => exact ⟨j + 1, ad', cap', rs ++ [fl x g], by omega, rfl, by go_num, by simp, Lib.hid (Hn.out.step HS4.out HG4.out hbel6 hown6 (by rw [← HXE2.out]; exact .inl rfl))⟩
      case true =>
        go_wp2
        go_quiet ((go_at_call 34; exact Calls.quiet_of_same ((l01Ceil_any _ _ _ (by omega) (by omega) (by omega) (by omega)).mono fun _ _ h => ⟨h.1, h.2.symm⟩)))
        have kd : Below w4.heap.size w4 (w4.drewN nq) := below_drewN (Below.refl _ w4) nq
        have HS5 := Lib.hid (HS4.out.keep kd HS4.out.lt)
        have HG5 := Lib.hid (grownBy_trans HG4.out (keep_grown kd _))
        have HO5 := Lib.hid (HO4.out.keep kd)
        have hw5 : w.heap.size + 2 ≤ (w4.drewN nq).heap.size := Nat.le_trans hw4 kd.size
        clear kd c0 c1 f0 f1 hcx4
        generalize w4.drewN nq = w5 at *
        have hfb := ce_bd (a := x) (b := g) (M := 1000000) (by omega) (by omega) (by omega) (by omega)
        go_wp2_with (refine list_app1 (by rfl) _ _ (by rfl) (w.heap.size + 2) rd rc rs.length rs (ce x g) (by rfl) (HO5.out.keep (by go_grown)) rfl w5.heap.size (by rfl) (by simp) ⟨by omega, by omega⟩ (by rw [HRL.out]; omega) (by simp; omega) ?_; intro ad' cap' w6 hown6 hgr6; have hbel6 : Below (w.heap.size + 2) w5 w6 := below_own (by go_grown) (HO5.out.keep (by go_grown)) hgr6 (by simp; omega) (Nat.le_refl _))
        go_roundg (xs.length - (j + 1))
        case measure => omega
        case rel => exact ⟨j + 1, ad', cap', rs ++ [ce x g], by omega, rfl, by go_num, by simp, Lib.hid (Hn.out.step HS5.out HG5.out hbel6 hown6 (by rw [← HXE2.out]; exact .inr rfl))⟩
    · have HJ : Hid (j = xs.length) := Lib.hid (by omega)
      go_wp2
      go_ret
      exact ⟨rs, rd, rc, rfl, H.out.o.mono (by omega), by rw [H.out.l, HJ.out], fun k hk => H.out.v k (by rw [HJ.out]; exact hk), H.out.k⟩
end Go.Proofs.YtpdcmhnaedhkdaaGreatDoor
