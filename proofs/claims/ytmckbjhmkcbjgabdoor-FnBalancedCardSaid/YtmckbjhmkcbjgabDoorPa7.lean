/- The program's tree of Stern and Brocot, where a Christoffel word is cut. -/
import Derived.Test.YtmckbjhmkcbjgabDoorCs7
import Derived.Test.YtmckbjhmkcbjgabDoorLi7
import Derived.Test.YtmckbjhmkcbjgabDoorInts
import Derived.Handy
namespace Go.Proofs.YtmckbjhmkcbjgabDoor
open Go.ChangeShapes Go.WideShapes Go.ChangeAt Go.RowKit Go.Deep
set_option linter.unusedVariables false
def sgnP (x y : Int) : Int := if x < y then -1 else if y < x then 1 else 0
abbrev frP (a b : Int) : Value := .agg #[.int .i64 a, .int .i64 b]
theorem sgnP_lt {x y : Int} (h : x < y) : sgnP x y = -1 := by unfold sgnP; rw [if_pos h]
theorem sgnP_gt {x y : Int} (h : y < x) : sgnP x y = 1 := by unfold sgnP; rw [if_neg (by omega), if_pos h]
theorem sgnP_eq {x y : Int} (h : x = y) : sgnP x y = 0 := by unfold sgnP; rw [if_neg (by omega), if_neg (by omega)]
theorem Nb7.small {b n p q r t : Int} (h : Nb7 b n p q r t) (hb : 0 ≤ b) (hbn : b < n) : p < q ∧ r ≤ t := by
  have hq := h.q1; have ht := h.t1; have hd := h.det; have hl := h.lo
  have e1 : p < q := by
    by_cases c : q ≤ p
    · exfalso
      have m1 : q * n ≤ p * n := Int.mul_le_mul_of_nonneg_right c (by omega)
      have m2 : b * q ≤ (n - 1) * q := Int.mul_le_mul_of_nonneg_right (by omega) (by omega)
      rw [Int.sub_mul, Int.one_mul, Int.mul_comm n q] at m2
      omega
    · omega
  refine ⟨e1, ?_⟩
  have m3 : p * t ≤ (q - 1) * t := Int.mul_le_mul_of_nonneg_right (by omega) (by omega)
  rw [Int.sub_mul, Int.one_mul] at m3
  have m4 : r * q ≤ t * q := by rw [Int.mul_comm t q]; omega
  exact Int.le_of_mul_le_mul_right m4 (by omega)
set_option maxHeartbeats 800000 in
theorem sideP_any (a b c d : Int) (w : World) (h1 : -1000000000 ≤ a * d ∧ a * d ≤ 1000000000) (h2 : -1000000000 ≤ c * b ∧ c * b ≤ 1000000000) :
    Calls Tryd.prog 54 #[frP a b, frP c d] w fun e w' => e = .returned (.int .i64 (sgnP (a * d) (c * b))) ∧ Keep w w' := by
  have V1 : IntKind.i64.wrap (a * d) = a * d := IntWalk.i64_in _ (by omega)
  have V2 : IntKind.i64.wrap (c * b) = c * b := IntWalk.i64_in _ (by omega)
  have HC := Lib.hid (fun W => Compare64_any (a * d) (c * b) W)
  have HS : Hid ((if a * d < c * b then -1 else if c * b < a * d then 1 else 0) = sgnP (a * d) (c * b)) := Lib.hid rfl
  rw [HS.out] at HC
  generalize sgnP (a * d) (c * b) = S at *
  go_enter Tryd.func54, Tryd.ntmps54
  go_wp2_with (go_at_call 75; refine (HC.out _).mono ?_; rintro e w' ⟨rfl, rfl⟩)
  go_ret
  exact ⟨rfl, by go_grown⟩
set_option maxHeartbeats 800000 in
theorem between_any (p q r t : Int) (w : World) (h1 : 0 ≤ p ∧ p ≤ 1000) (h2 : 0 ≤ q ∧ q ≤ 1000) (h3 : 0 ≤ r ∧ r ≤ 1000) (h4 : 0 ≤ t ∧ t ≤ 1000) :
    Calls Tryd.prog 58 #[frP p q, frP r t] w fun e w' => e = .returned (frP (p + r) (q + t)) ∧ Keep w w' := by
  have V1 : IntKind.i64.wrap (p + r) = p + r := IntWalk.i64_in _ (by omega)
  have V2 : IntKind.i64.wrap (q + t) = q + t := IntWalk.i64_in _ (by omega)
  go_enter Tryd.func58, Tryd.ntmps58
  go_wp2
  refine bodyPost_ret (v := frP (p + r) (q + t)) (by simp [results, Tryd.results58, go_sem]) rfl ?_
  exact ⟨rfl, by go_grown⟩
theorem keepP {w0 w1 W : World} (k1 : Keep w0 w1) (k : Keep w1 W) (a : Addr) (h : a.block < w0.heap.size) : W.cell? a = w0.cell? a ∧ W.frozen? a = w0.frozen? a := ⟨(Keep.next k1 k).cell h, (Keep.next k1 k).frozen h⟩
theorem pa_cells {w W0 w1 : World} {p q r t : Int} (k1 : Keep W0 w1) (hW0 : W0 = (((w.alloc (Obj.cells #[.int .i64 p, .int .i64 q] 54)).alloc (Obj.cells #[.int .i64 r, .int .i64 t] 54)).alloc (Obj.cells #[.int .i64 0, .int .i64 0] 54)).alloc (Obj.cells #[.int .i64 0, .int .i64 0] 54)) (W : World) (k : Keep w1 W) :
    W.cell? ⟨w.heap.size, 0, none⟩ = some (.int .i64 p) ∧ W.cell? ⟨w.heap.size, 1, none⟩ = some (.int .i64 q) ∧ W.cell? ⟨w.heap.size + 1, 0, none⟩ = some (.int .i64 r) ∧ W.cell? ⟨w.heap.size + 1, 1, none⟩ = some (.int .i64 t) ∧
    (W.cell? ⟨w.heap.size + 1 + 1, 0, none⟩ = some (.int .i64 0) ∧ W.cell? ⟨w.heap.size + 1 + 1, 1, none⟩ = some (.int .i64 0) ∧ W.frozen? ⟨w.heap.size + 1 + 1, 0, none⟩ = false ∧ W.frozen? ⟨w.heap.size + 1 + 1, 1, none⟩ = false) ∧
    (W.cell? ⟨w.heap.size + 1 + 1 + 1, 0, none⟩ = some (.int .i64 0) ∧ W.cell? ⟨w.heap.size + 1 + 1 + 1, 1, none⟩ = some (.int .i64 0) ∧ W.frozen? ⟨w.heap.size + 1 + 1 + 1, 0, none⟩ = false ∧ W.frozen? ⟨w.heap.size + 1 + 1 + 1, 1, none⟩ = false) := by
  have hb : ∀ j, j < 4 → w.heap.size + j < W0.heap.size := by intro j hj; rw [hW0]; simp; omega
  exact ⟨(keepP k1 k ⟨w.heap.size, 0, none⟩ (hb 0 (by omega))).1.trans (by rw [hW0]; simp [go_sem]), (keepP k1 k ⟨w.heap.size, 1, none⟩ (hb 0 (by omega))).1.trans (by rw [hW0]; simp [go_sem]), (keepP k1 k ⟨w.heap.size + 1, 0, none⟩ (hb 1 (by omega))).1.trans (by rw [hW0]; simp [go_sem]), (keepP k1 k ⟨w.heap.size + 1, 1, none⟩ (hb 1 (by omega))).1.trans (by rw [hW0]; simp [go_sem]),
    ⟨(keepP k1 k ⟨w.heap.size + 1 + 1, 0, none⟩ (hb 2 (by omega))).1.trans (by rw [hW0]; simp [go_sem]), (keepP k1 k ⟨w.heap.size + 1 + 1, 1, none⟩ (hb 2 (by omega))).1.trans (by rw [hW0]; simp [go_sem]), (keepP k1 k ⟨w.heap.size + 1 + 1, 0, none⟩ (hb 2 (by omega))).2.trans (by rw [hW0]; simp [go_sem]), (keepP k1 k ⟨w.heap.size + 1 + 1, 1, none⟩ (hb 2 (by omega))).2.trans (by rw [hW0]; simp [go_sem])⟩,
    ⟨(keepP k1 k ⟨w.heap.size + 1 + 1 + 1, 0, none⟩ (hb 3 (by omega))).1.trans (by rw [hW0]; simp [go_sem]), (keepP k1 k ⟨w.heap.size + 1 + 1 + 1, 1, none⟩ (hb 3 (by omega))).1.trans (by rw [hW0]; simp [go_sem]), (keepP k1 k ⟨w.heap.size + 1 + 1 + 1, 0, none⟩ (hb 3 (by omega))).2.trans (by rw [hW0]; simp [go_sem]), (keepP k1 k ⟨w.heap.size + 1 + 1 + 1, 1, none⟩ (hb 3 (by omega))).2.trans (by rw [hW0]; simp [go_sem])⟩⟩
/-- What the tree of Stern and Brocot ends in. -/
def PaAt (b n : Int) (v : Value) : Prop := ∃ p' q' r' t' : Int, v = .tuple #[frP p' q', frP r' t'] ∧ b * q' - p' * n = 1 ∧ 1 ≤ q' ∧ q' < n
set_option maxHeartbeats 3200000 in
theorem parentsOf_any (b n : Int) (hb : 1 ≤ b) (hbn : b < n) (hn : n ≤ 120) (hg : Int.gcd b n = 1) : ∀ (f : Nat) (p q r t : Int) (w : World), Nb7 b n p q r t → (n - (q + t)).toNat ≤ f →
    Calls Tryd.prog 59 #[.iface 54 (frP b n), frP p q, frP r t] w fun e w' => ∃ v, e = .returned v ∧ PaAt b n v ∧ Keep w w' := by
  intro f
  induction f using Nat.strongRecOn with
  | _ f ih =>
  intro p q r t w h hf
  have IH := Lib.hid ih
  clear ih
  have hs := h.sum
  have hq := h.q1; have ht := h.t1; have hp := h.p0; have hr := h.r0
  have hsm := h.small (by omega) hbn
  have m1 : b * (q + t) ≤ 120 * 120 := Int.mul_le_mul (by omega) (by omega) (by omega) (by omega)
  have m2 : (p + r) * n ≤ 240 * 120 := Int.mul_le_mul (by omega) (by omega) (by omega) (by omega)
  have m3 : 0 ≤ b * (q + t) := Int.mul_nonneg (by omega) (by omega)
  have m4 : 0 ≤ (p + r) * n := Int.mul_nonneg (by omega) (by omega)
  have HB := Lib.hid (fun W => between_any p q r t W (by omega) (by omega) (by omega) (by omega))
  have HS := Lib.hid (fun W => sideP_any b n (p + r) (q + t) W (by omega) (by omega))
  rcases Int.lt_trichotomy (b * (q + t)) ((p + r) * n) with c | c | c
  · have hl := h.left c
    have HR := Lib.hid (fun W => IH.out ((n - (q + (q + t))).toNat) (by have := hl.sum; omega) p q (p + r) (q + t) W hl (Nat.le_refl _))
    rw [sgnP_lt c] at HS
    have H := Lib.hid h
    clear h hl IH m1 m2 m3 m4 c hs hf
    generalize p + r = M at *
    generalize q + t = T at *
    go_enter Tryd.func59, Tryd.ntmps59
    go_wp2_with fail
    refine (HB.out _).mono ?_
    rintro e w1 ⟨rfl, k1⟩
    have PC := Lib.hid (pa_cells k1 rfl)
    have K1 : Hid (Keep w w1) := Lib.hid (Keep.next (by go_grown) k1)
    have hlt : w.heap.size + 4 ≤ w1.heap.size := by have := k1.size; simp at this; omega
    clear k1
    go_wp2_with fail
    refine (HS.out _).mono ?_
    rintro e w2 ⟨rfl, k2⟩
    have KX : Hid (Keep w1 w2) := Lib.hid (Keep.next (by go_grown) k2)
    have e0 : w2.cell? ⟨w1.heap.size, 0, none⟩ = some (.int .i64 M) := (k2.cell (by simp)).trans (by simp)
    have e1 : w2.cell? ⟨w1.heap.size, 1, none⟩ = some (.int .i64 T) := (k2.cell (by simp)).trans (by simp)
    have hlt2 : w1.heap.size < w2.heap.size := by have := k2.size; simp at this; omega
    clear k2
    obtain ⟨p0, p1, p2, p3, ⟨p4, p5, p6, p7⟩, ⟨p8, p9, p10, p11⟩⟩ := PC.out w2 KX.out
    go_wp2_with fail
    refine (HR.out _).mono ?_
    rintro e w3 ⟨v, rfl, ⟨p', q', r', t', rfl, hx1, hx2, hx3⟩, k3⟩
    clear p0 p1 p2 p3 p4 p5 p6 p7 p8 p9 p10 p11 e0 e1
    obtain ⟨p0, p1, p2, p3, ⟨p4, p5, p6, p7⟩, ⟨p8, p9, p10, p11⟩⟩ := PC.out w3 (KX.out.next k3)
    have KE : Hid (Keep w w3) := Lib.hid (K1.out.next (KX.out.next k3))
    have HX := Lib.hid (And.intro hx1 (And.intro hx2 hx3))
    clear hx1 hx2 hx3
    go_wp2
    refine bodyPost_ret (v := .tuple #[frP p' q', frP r' t']) (by simp [results, Tryd.results59, go_sem, p4, p5, p8, p9]) rfl ?_
    refine ⟨_, rfl, ⟨p', q', r', t', rfl, HX.out⟩, ?_⟩
    refine Below.setCell (Below.setCell (Below.setCell (Below.setCell ?_ (by simp <;> omega) _) (by simp <;> omega) _) (by simp <;> omega) _) (by simp <;> omega) _
    exact KE.out
  · have hqn : q < n := by have := (h.meet c hg).2.1; omega
    have e3 := (h.meet c hg).2.2
    rw [sgnP_eq c] at HS
    have H := Lib.hid h
    have E3 := Lib.hid e3
    clear h IH m1 m2 m3 m4 c hs hf e3
    generalize p + r = M at *
    generalize q + t = T at *
    go_enter Tryd.func59, Tryd.ntmps59
    go_wp2_with fail
    refine (HB.out _).mono ?_
    rintro e w1 ⟨rfl, k1⟩
    have PC := Lib.hid (pa_cells k1 rfl)
    have K1 : Hid (Keep w w1) := Lib.hid (Keep.next (by go_grown) k1)
    have hlt : w.heap.size + 4 ≤ w1.heap.size := by have := k1.size; simp at this; omega
    clear k1
    go_wp2_with fail
    refine (HS.out _).mono ?_
    rintro e w2 ⟨rfl, k2⟩
    have KX : Hid (Keep w1 w2) := Lib.hid (Keep.next (by go_grown) k2)
    have e0 : w2.cell? ⟨w1.heap.size, 0, none⟩ = some (.int .i64 M) := (k2.cell (by simp)).trans (by simp)
    have e1 : w2.cell? ⟨w1.heap.size, 1, none⟩ = some (.int .i64 T) := (k2.cell (by simp)).trans (by simp)
    have hlt2 : w1.heap.size < w2.heap.size := by have := k2.size; simp at this; omega
    clear k2
    obtain ⟨p0, p1, p2, p3, ⟨p4, p5, p6, p7⟩, ⟨p8, p9, p10, p11⟩⟩ := PC.out w2 KX.out
    have KE : Hid (Keep w w2) := Lib.hid (K1.out.next KX.out)
    go_wp2_with fail
    go_region
    go_wp2
    refine bodyPost_ret (v := .tuple #[frP p q, frP r t]) (by simp [results, Tryd.results59, go_sem, p4, p5, p8, p9]) rfl ?_
    refine ⟨_, rfl, ⟨p, q, r, t, rfl, E3.out, hq, hqn⟩, ?_⟩
    go_grown
    exact KE.out
  · have hl := h.right c
    have HR := Lib.hid (fun W => IH.out ((n - ((q + t) + t)).toNat) (by have := hl.sum; omega) (p + r) (q + t) r t W hl (Nat.le_refl _))
    rw [sgnP_gt c] at HS
    have H := Lib.hid h
    clear h hl IH m1 m2 m3 m4 c hs hf
    generalize p + r = M at *
    generalize q + t = T at *
    go_enter Tryd.func59, Tryd.ntmps59
    go_wp2_with fail
    refine (HB.out _).mono ?_
    rintro e w1 ⟨rfl, k1⟩
    have PC := Lib.hid (pa_cells k1 rfl)
    have K1 : Hid (Keep w w1) := Lib.hid (Keep.next (by go_grown) k1)
    have hlt : w.heap.size + 4 ≤ w1.heap.size := by have := k1.size; simp at this; omega
    clear k1
    go_wp2_with fail
    refine (HS.out _).mono ?_
    rintro e w2 ⟨rfl, k2⟩
    have KX : Hid (Keep w1 w2) := Lib.hid (Keep.next (by go_grown) k2)
    have e0 : w2.cell? ⟨w1.heap.size, 0, none⟩ = some (.int .i64 M) := (k2.cell (by simp)).trans (by simp)
    have e1 : w2.cell? ⟨w1.heap.size, 1, none⟩ = some (.int .i64 T) := (k2.cell (by simp)).trans (by simp)
    have hlt2 : w1.heap.size < w2.heap.size := by have := k2.size; simp at this; omega
    clear k2
    obtain ⟨p0, p1, p2, p3, ⟨p4, p5, p6, p7⟩, ⟨p8, p9, p10, p11⟩⟩ := PC.out w2 KX.out
    go_wp2_with fail
    refine (HR.out _).mono ?_
    rintro e w3 ⟨v, rfl, ⟨p', q', r', t', rfl, hx1, hx2, hx3⟩, k3⟩
    clear p0 p1 p2 p3 p4 p5 p6 p7 p8 p9 p10 p11 e0 e1
    obtain ⟨p0, p1, p2, p3, ⟨p4, p5, p6, p7⟩, ⟨p8, p9, p10, p11⟩⟩ := PC.out w3 (KX.out.next k3)
    have KE : Hid (Keep w w3) := Lib.hid (K1.out.next (KX.out.next k3))
    have HX := Lib.hid (And.intro hx1 (And.intro hx2 hx3))
    clear hx1 hx2 hx3
    go_wp2
    refine bodyPost_ret (v := .tuple #[frP p' q', frP r' t']) (by simp [results, Tryd.results59, go_sem, p4, p5, p8, p9]) rfl ?_
    refine ⟨_, rfl, ⟨p', q', r', t', rfl, HX.out⟩, ?_⟩
    refine Below.setCell (Below.setCell (Below.setCell (Below.setCell ?_ (by simp <;> omega) _) (by simp <;> omega) _) (by simp <;> omega) _) (by simp <;> omega) _
    exact KE.out
end Go.Proofs.YtmckbjhmkcbjgabDoor
