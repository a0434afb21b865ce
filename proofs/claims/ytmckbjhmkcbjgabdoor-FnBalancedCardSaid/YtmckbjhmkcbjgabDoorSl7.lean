/- The ends of possible slopes: the program's SlopesOf. -/
import Derived.Test.YtmckbjhmkcbjgabDoorSp7
import Derived.Deep.RegionHeld3
import Derived.Deep.DeepCutAuto
import Derived.Deep.RegionLaw
import Derived.Test.YtmckbjhmkcbjgabDoorStep
namespace Go.Proofs.YtmckbjhmkcbjgabDoor
open Go.ChangeShapes Go.WideShapes Go.ChangeAt Go.RowKit Go.Deep
set_option linter.unusedVariables false
theorem rd_bd {l d : Int} (hl : -1 ≤ l ∧ l ≤ 121) (hd : 1 ≤ d ∧ d ≤ 120) : (-200 ≤ rdN l d ∧ rdN l d ≤ 200) ∧ (-200 ≤ rdD l d ∧ rdD l d ≤ 200) := by
  have hg := gcd_pos7 (l := l) hd.1
  exact ⟨tdiv_in hg (by omega), tdiv_in hg (by omega)⟩
/-- Two cells that can be read and written. -/
structure Du7 (W : World) (b : Nat) (x y : Value) : Prop where
  c0 : W.cell? ⟨b, 0, none⟩ = some x
  c1 : W.cell? ⟨b, 1, none⟩ = some y
  f0 : W.frozen? ⟨b, 0, none⟩ = false
  f1 : W.frozen? ⟨b, 1, none⟩ = false
theorem Du7.lt {W : World} {b : Nat} {x y : Value} (h : Du7 W b x y) : b < W.heap.size := World.block_lt_of_cell? _ _ h.c0
theorem Du7.keep {W W' : World} {b : Nat} {x y : Value} (h : Du7 W b x y) (k : Below W.heap.size W W') : Du7 W' b x y := by
  have e := k.block b h.lt
  exact ⟨(World.cell?_of_block (a := ⟨b, 0, none⟩) e).trans h.c0, (World.cell?_of_block (a := ⟨b, 1, none⟩) e).trans h.c1, (World.frozen?_of_block (a := ⟨b, 0, none⟩) e).trans h.f0, (World.frozen?_of_block (a := ⟨b, 1, none⟩) e).trans h.f1⟩
theorem Du7.alloc {W : World} {b : Nat} {x y : Value} (h : Du7 W b x y) (o : Obj) : Du7 (W.alloc o) b x y := h.keep ((Below.refl _ _).alloc (Nat.le_refl _) o)
theorem Du7.new (W : World) (x y : Value) (T : Nat) : Du7 (W.alloc (.cells #[x, y] T)) W.heap.size x y := ⟨by simp, by simp, by simp, by simp⟩
theorem Du7.new2 (W : World) (x y : Value) (T : Nat) (o : Obj) : Du7 ((W.alloc (.cells #[x, y] T)).alloc o) W.heap.size x y := (Du7.new W x y T).alloc o
theorem Du7.new3 (W : World) (x y : Value) (T : Nat) (o : Obj) : Du7 ((W.alloc o).alloc (.cells #[x, y] T)) (W.heap.size + 1) x y := by
  have h := Du7.new (W.alloc o) x y T
  rw [show (W.alloc o).heap.size = W.heap.size + 1 by simp] at h; exact h
theorem Du7.drew {W : World} {b : Nat} {x y : Value} (h : Du7 W b x y) : Du7 W.drew b x y := h.keep ((Below.refl _ _).drew)
theorem Du7.newD (W : World) (x y : Value) (T : Nat) : Du7 (W.alloc (.cells #[x, y] T)).drew W.heap.size x y := (Du7.new W x y T).drew
theorem Du7.new2D (W : World) (x y : Value) (T : Nat) (o : Obj) : Du7 ((W.alloc (.cells #[x, y] T)).alloc o).drew W.heap.size x y := (Du7.new2 W x y T o).drew
theorem Du7.new3D (W : World) (x y : Value) (T : Nat) (o : Obj) : Du7 ((W.alloc o).alloc (.cells #[x, y] T)).drew (W.heap.size + 1) x y := (Du7.new3 W x y T o).drew
set_option maxHeartbeats 800000 in
theorem isPossible_any (l d u q : Int) (w : World) (h1 : -1000000000 ≤ l * q ∧ l * q ≤ 1000000000) (h2 : -1000000000 ≤ u * d ∧ u * d ≤ 1000000000) :
    Calls Tryd.prog 29 #[.agg #[.int .i64 l, .int .i64 d, .int .i64 u, .int .i64 q]] w fun e w' => e = .returned (.bool (decide (l * q < u * d))) ∧ Keep w w' := by
  have HS := Lib.hid (fun W => side_any l d u q W h1 h2)
  have HV : Hid (decide (sgn7 (l * q) (u * d) < 0) = decide (l * q < u * d)) := Lib.hid (by
    rw [Bool.eq_iff_iff, decide_eq_true_eq, decide_eq_true_eq]; unfold sgn7; split <;> (try split) <;> omega)
  generalize sgn7 (l * q) (u * d) = S at *
  go_enter Tryd.func29, Tryd.ntmps29
  go_wp2_with (go_at_call 54; refine (HS.out _).mono ?_; rintro e w' ⟨rfl, k1⟩)
  go_ret
  exact ⟨ret_bool HV.out, Keep.next (by go_grown) k1⟩
set_option maxHeartbeats 1600000 in
theorem lowest_any (l d : Int) (w : World) (hl : -1 ≤ l ∧ l ≤ 121) (hd : 1 ≤ d ∧ d ≤ 120) :
    Calls Tryd.prog 30 #[frV l d] w fun e w' => e = .returned (frV (rdN l d) (rdD l d)) ∧ Keep w w' := by
  have HG := Lib.hid (fun W => commonDivisor_any d l W (by omega) (by omega) (by omega) (by omega))
  rw [Int.gcd_comm] at HG
  have hg1 : 1 ≤ (Int.gcd l d : Int) := gcd_pos7 hd.1
  have t1 := tdiv_in (x := l) (M := 200) hg1 (by omega)
  have t2 := tdiv_in (x := d) (M := 200) hg1 (by omega)
  have HR1 : Hid (rdN l d = l.tdiv (Int.gcd l d) ∧ rdD l d = d.tdiv (Int.gcd l d)) := Lib.hid ⟨rfl, rfl⟩
  generalize rdN l d = R1 at *
  generalize rdD l d = R2 at *
  generalize (Int.gcd l d : Int) = G at *
  go_enter Tryd.func30, Tryd.ntmps30
  go_wp2_with (go_at_call 56; refine (HG.out _).mono ?_; rintro e w' ⟨rfl, nd, rfl⟩)
  go_region
  go_wp2
  refine bodyPost_ret (v := .agg #[.int .i64 (l.tdiv G), .int .i64 (d.tdiv G)]) (by simp [results, Tryd.results30, go_sem]) rfl ?_
  refine ⟨by rw [HR1.out.1, HR1.out.2], ?_⟩
  refine Below.setCell (Below.setCell (below_drewN ?_ _) (by simp) _) (by simp) _
  show Keep w _
  go_grown
set_option maxHeartbeats 3200000 in
set_option maxRecDepth 100000 in
theorem SlopesOf_any (s : ByteArray) (w : World) (hs : s.size ≤ 1048576) :
    Calls Tryd.prog 7 #[.string s] w fun e w' => e = .returned (slR s) ∧ Keep w w' := by
  cases hw : wdB s
  · rw [slR_no (slB_nw hw)]
    go_enter Tryd.func7, Tryd.ntmps7
    go_wp2_with (go_at_call 26; refine (IsWord_any s _ hs).mono ?_; rw [hw]; rintro e w1 ⟨rfl, k1⟩)
    refine bodyPost_ret (v := .tuple #[.int .i64 0, .int .i64 0, .int .i64 0, .int .i64 0, .bool false]) (by simp [results, Tryd.results7, go_sem]) rfl ?_
    exact ⟨rfl, k1⟩
  by_cases h0 : s.size = 0
  · rw [slR_no (slB_empty h0)]
    have h0b : s.toList.isEmpty = true := by
      rw [Lib.toList_data]
      have hl : s.data.toList.length = 0 := (Array.length_toList.trans rfl : s.data.toList.length = s.size).trans h0
      rw [List.eq_nil_of_length_eq_zero hl]; rfl
    go_enter Tryd.func7, Tryd.ntmps7
    go_wp2_with (go_at_call 26; refine (IsWord_any s _ hs).mono ?_; rw [hw]; rintro e w1 ⟨rfl, k1⟩)
    refine bodyPost_ret (v := .tuple #[.int .i64 0, .int .i64 0, .int .i64 0, .int .i64 0, .bool false]) (by simp [results, Tryd.results7, go_sem]) rfl ?_
    exact ⟨rfl, k1⟩
  have h0b : s.toList.isEmpty = false := by
    rw [Lib.toList_data]
    have hl : s.data.toList.length = s.size := Array.length_toList.trans rfl
    cases h : s.data.toList with
    | nil => rw [h] at hl; simp at hl; omega
    | cons _ _ => rfl
  have HH := Lib.hid (fun W => heightsOf_any s W hw)
  have HE := Lib.hid (fun ad cap W hz => endsOf_any s ad cap W hw hz)
  have HY := Lib.hid (fun l d u q a b c => slR_yes (s := s) (l := l) (d := d) (u := u) (q := q) hw h0 a b c)
  have HN := Lib.hid (fun l d u q a b c => slR_no (slR_imp (s := s) (l := l) (d := d) (u := u) (q := q) hw a b c))
  have HBL := Lib.hid (fun l d (h : ILo s allP l d) => h.1.bd hw)
  have HBU := Lib.hid (fun l d (h : IHi s allP l d) => h.1.bd hw)
  generalize hgtL s s.size = L at *
  generalize slR s = V at *
  go_enter Tryd.func7, Tryd.ntmps7
  go_wp2_with (go_at_call 26; refine (IsWord_any s _ hs).mono ?_; rw [hw]; rintro e w1 ⟨rfl, k1⟩)
  refine (HH.out _).mono ?_
  rintro e w2 ⟨rd, rc, rfl, o2, k2⟩
  have I2 := Lib.hid o2.ints
  have K2 : Hid (Keep w w2) := Lib.hid (k1.next k2)
  clear o2 k1 k2
  go_wp2_with fail
  refine (HE.out _ _ _ I2.out).mono ?_
  rintro e w3 ⟨l, d, u, q, rfl, hl, hu, k3⟩
  have HL := Lib.hid hl
  have HU := Lib.hid hu
  have K3 : Hid (Keep w w3) := Lib.hid (K2.out.next k3)
  have bl := HBL.out l d hl
  have bu := HBU.out u q hu
  clear hl hu k3
  have m1 := mul_sl (l := 0) (n := 0) (a := l) (d := q) (by omega) (by omega)
  have m2 := mul_sl (l := 0) (n := 0) (a := u) (d := d) (by omega) (by omega)
  have HP := Lib.hid (fun W => isPossible_any l d u q W (by omega) (by omega))
  clear m1 m2
  by_cases hp : l * q < u * d
  · have HV := Lib.hid (HY.out l d u q HL.out HU.out hp)
    rw [decide_eq_true hp] at HP
    have HL1 := Lib.hid (fun W => lowest_any l d W (by omega) (by omega))
    have HL2 := Lib.hid (fun W => lowest_any u q W (by omega) (by omega))
    generalize rdN l d = r1 at *
    generalize rdD l d = r2 at *
    generalize rdN u q = r3 at *
    generalize rdD u q = r4 at *
    go_wp2_with fail
    refine (HP.out _).mono ?_
    rintro e w4 ⟨rfl, k4⟩
    have K4 : Hid (Keep w3 w4) := Lib.hid (Keep.next (by go_grown) k4)
    have hlt34 : w3.heap.size < w4.heap.size := by have := k4.size; simp at this; omega
    have HC : Hid (∀ W, Keep w4 W → W.cell? ⟨w3.heap.size, 0, none⟩ = some (.int .i64 l) ∧ W.cell? ⟨w3.heap.size, 1, none⟩ = some (.int .i64 d) ∧ W.cell? ⟨w3.heap.size, 2, none⟩ = some (.int .i64 u) ∧ W.cell? ⟨w3.heap.size, 3, none⟩ = some (.int .i64 q)) := Lib.hid (fun W k => by
      have hlt : w3.heap.size < w4.heap.size := by have := k4.size; simp at this; omega
      refine ⟨?_, ?_, ?_, ?_⟩
      · exact (k.cell (by exact hlt)).trans ((k4.cell (by simp)).trans (by simp))
      · exact (k.cell (by exact hlt)).trans ((k4.cell (by simp)).trans (by simp))
      · exact (k.cell (by exact hlt)).trans ((k4.cell (by simp)).trans (by simp))
      · exact (k.cell (by exact hlt)).trans ((k4.cell (by simp)).trans (by simp)))
    clear k4
    have SX : Hid (∀ W, Keep w4 W → (W.cell? ⟨w3.heap.size, 0, none⟩ = some (.int .i64 l) ∧ W.cell? ⟨w3.heap.size, 1, none⟩ = some (.int .i64 d) ∧ W.cell? ⟨w3.heap.size, 2, none⟩ = some (.int .i64 u) ∧ W.cell? ⟨w3.heap.size, 3, none⟩ = some (.int .i64 q)) ∧ Keep w4 W) := Lib.hid (fun W k => ⟨HC.out W k, k⟩)
    obtain ⟨p0, p1, p2, p3⟩ := HC.out w4 (Below.refl _ _)
    have hne34 := Nat.ne_of_lt hlt34
    go_upto_region 6 with fail
    go_cut [8, 9] (fun s8 s9 wx => ∃ b8 b9 : Nat, s8 = .pointer (some ⟨b8, 0, none⟩) ∧ s9 = .pointer (some ⟨b9, 0, none⟩) ∧ wx.cell? ⟨b8, 0, none⟩ = some (.int .i64 r1) ∧ wx.cell? ⟨b8, 1, none⟩ = some (.int .i64 r2) ∧ wx.cell? ⟨b9, 0, none⟩ = some (.int .i64 r3) ∧ wx.cell? ⟨b9, 1, none⟩ = some (.int .i64 r4) ∧ Keep w4 wx)
    case first =>
      go_region_law
        (first
          | (refine at_funcS 30 _ _ rfl ?_; go_simp
             first
               | (with_reducible refine (HL1.out _).mono ?_; rintro e wX ⟨rfl, kX⟩; have kz := kX.size; (try simp at kz); have SX := Lib.hid (fun W (k : Keep wX W) => SX.out W (Keep.next (Keep.next (by go_grown) kX) k)); obtain ⟨⟨q0, q1, q2, q3⟩, _⟩ := SX.out wX (Below.refl _ _); have ql : w3.heap.size < wX.heap.size := World.block_lt_of_cell? _ _ q0; have qn := Nat.ne_of_lt ql; (first | (have DA := Du7.keep (Du7.new2D _ _ _ _ _) kX; have DB := Du7.keep (Du7.new3D _ _ _ _ _) kX; have a0 := DA.c0; have a1 := DA.c1; have a2 := DA.f0; have a3 := DA.f1; have DAl := DA.lt; have DAn := Nat.ne_of_lt DA.lt; have b0 := DB.c0; have b1 := DB.c1; have b2 := DB.f0; have b3 := DB.f1; have DBl := DB.lt; have DBn := Nat.ne_of_lt DB.lt) | (have DA := Du7.keep (Du7.newD _ _ _ _) kX; have a0 := DA.c0; have a1 := DA.c1; have a2 := DA.f0; have a3 := DA.f1; have DAl := DA.lt; have DAn := Nat.ne_of_lt DA.lt) | skip))
               | (with_reducible refine (HL2.out _).mono ?_; rintro e wX ⟨rfl, kX⟩; have kz := kX.size; (try simp at kz); have SX := Lib.hid (fun W (k : Keep wX W) => SX.out W (Keep.next (Keep.next (by go_grown) kX) k)); obtain ⟨⟨q0, q1, q2, q3⟩, _⟩ := SX.out wX (Below.refl _ _); have ql : w3.heap.size < wX.heap.size := World.block_lt_of_cell? _ _ q0; have qn := Nat.ne_of_lt ql; (try (first | have DA := Du7.keep DA kX | have DA := Du7.keep (Du7.alloc DA _) kX | have DA := Du7.keep (Du7.alloc (Du7.alloc DA _) _) kX); have a0 := DA.c0; have a1 := DA.c1; have a2 := DA.f0; have a3 := DA.f1; have DAl := DA.lt; have DAn := Nat.ne_of_lt DA.lt); (try (first | have DB := Du7.keep DB kX | have DB := Du7.keep (Du7.alloc DB _) kX); have b0 := DB.c0; have b1 := DB.c1; have b2 := DB.f0; have b3 := DB.f1; have DBl := DB.lt; have DBn := Nat.ne_of_lt DB.lt); (first | (have DC := Du7.keep (Du7.new2 _ _ _ _ _) kX; have DD := Du7.keep (Du7.new3 _ _ _ _ _) kX; have u0 := DC.c0; have u1 := DC.c1; have u2 := DC.f0; have u3 := DC.f1; have DCl := DC.lt; have DCn := Nat.ne_of_lt DC.lt; have v0 := DD.c0; have v1 := DD.c1; have v2 := DD.f0; have v3 := DD.f1; have DDl := DD.lt; have DDn := Nat.ne_of_lt DD.lt) | (have DC := Du7.keep (Du7.new _ _ _ _) kX; have u0 := DC.c0; have u1 := DC.c1; have u2 := DC.f0; have u3 := DC.f1; have DCl := DC.lt; have DCn := Nat.ne_of_lt DC.lt) | skip))))
      all_goals go_wp2_with fail
      all_goals go_meet
      all_goals refine ⟨_, _, rfl, rfl, ?_, ?_, ?_, ?_, ?_⟩
      all_goals first
        | (simp; done)
        | (simp [*]; done)
        | (simp [go_sem, *]; done)
        | (repeat' (first | exact (SX.out _ (Below.refl _ _)).2 | refine Below.setCell ?_ ?_ _ | refine Below.alloc ?_ ?_ _ | refine Below.drew ?_ | (simp; done) | (simp; omega) | omega))
    case rest =>
      obtain ⟨b8, b9, rfl, rfl, c80, c81, c90, c91, kx⟩ := hcut
      go_wp2
      go_region
      go_wp2
      refine bodyPost_ret (v := .tuple #[.int .i64 r1, .int .i64 r2, .int .i64 r3, .int .i64 r4, .bool true]) (by simp [results, Tryd.results7, go_sem]) rfl ?_
      exact ⟨by rw [HV.out], (K3.out.next K4.out).next (Keep.next kx (by go_grown))⟩
  · have HV := Lib.hid (HN.out l d u q HL.out HU.out (by first | exact hp | exact Int.not_lt.1 hp))
    rw [decide_eq_false hp] at HP
    go_wp2_with fail
    refine (HP.out _).mono ?_
    rintro e w4 ⟨rfl, k4⟩
    have K4 : Hid (Keep w3 w4) := Lib.hid (Keep.next (by go_grown) k4)
    go_wp2
    refine bodyPost_ret (v := .tuple #[.int .i64 0, .int .i64 0, .int .i64 0, .int .i64 0, .bool false]) (by simp [results, Tryd.results7, go_sem]) rfl ?_
    exact ⟨by rw [HV.out], K3.out.next K4.out⟩
end Go.Proofs.YtmckbjhmkcbjgabDoor
