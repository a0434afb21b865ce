/- The program's tree of Stern and Brocot with two ends as its goal: the simplest slope between them. -/
import Derived.Test.YtmckbjhmkcbjgabDoorPa7
namespace Go.Proofs.YtmckbjhmkcbjgabDoor
open Go.ChangeShapes Go.WideShapes Go.ChangeAt Go.RowKit Go.Deep
set_option linter.unusedVariables false
/-- x / y lies between l / d and u / v. -/
def InE (l d u v x y : Int) : Prop := l * y < x * d ∧ x * v < u * y
abbrev enP (l d u v : Int) : Value := .agg #[.int .i64 l, .int .i64 d, .int .i64 u, .int .i64 v]
def sdE (l d u v x y : Int) : Int := if x * d ≤ l * y then 1 else if u * y ≤ x * v then -1 else 0
theorem sdE_in {l d u v x y : Int} : sdE l d u v x y = 0 ↔ InE l d u v x y := by
  unfold sdE InE; split <;> (try split) <;> omega
theorem mul_bdE {a b : Int} (ha : -1 ≤ a ∧ a ≤ 300) (hb : 0 ≤ b ∧ b ≤ 300) : -90000 ≤ a * b ∧ a * b ≤ 90000 := by
  have e1 : a * b ≤ 300 * b := Int.mul_le_mul_of_nonneg_right ha.2 hb.1
  have e2 : (-1) * b ≤ a * b := Int.mul_le_mul_of_nonneg_right ha.1 hb.1
  omega
/-- The neighbours' middle has the least denominator, and is alone with it. -/
theorem Nb7.least {b n p q r t : Int} (h : Nb7 b n p q r t) (hn : n = q + t) : b = p + r := by
  have e : n = q * (r * n - b * t) + t * (b * q - p * n) := by
    have e1 : n = n * (r * q - p * t) := by rw [h.det, Int.mul_one]
    have e2 : q * (r * n - b * t) + t * (b * q - p * n) = n * (r * q - p * t) := by
      rw [Int.mul_sub, Int.mul_sub, Int.mul_sub]
      have a1 : q * (r * n) = n * (r * q) := by ac_rfl
      have a2 : t * (p * n) = n * (p * t) := by ac_rfl
      have a3 : q * (b * t) = t * (b * q) := by ac_rfl
      omega
    rw [e2]; exact e1
  have hq := h.q1; have ht := h.t1; have hd := h.det
  have x1 : 1 ≤ r * n - b * t := by have := h.hi; omega
  have x2 : 1 ≤ b * q - p * n := by have := h.lo; omega
  have m1 : q * 1 ≤ q * (r * n - b * t) := Int.mul_le_mul_of_nonneg_left x1 (by omega)
  have y2 : b * q - p * n = 1 := by
    by_cases c : b * q - p * n = 1
    · exact c
    · have m2 : t * 2 ≤ t * (b * q - p * n) := Int.mul_le_mul_of_nonneg_left (by omega) (by omega)
      omega
  have e3 : p * n = p * q + p * t := by rw [hn, Int.mul_add]
  have e4 : (p + r) * q = p * q + r * q := Int.add_mul ..
  exact Int.eq_of_mul_eq_mul_right (show q ≠ 0 by omega) (show b * q = (p + r) * q by omega)
/-- If the middle isn't below the upper end, then all between the ends is left of it. -/
theorem ine_left {l d u v x y M T : Int} (hv : 1 ≤ v) (hy : 1 ≤ y) (hT : 1 ≤ T) (h : InE l d u v x y) (hc : u * T ≤ M * v) : x * T < M * y := by
  have h2 := h.2
  -- x v T < u y T <= M v y
  have a1 : x * v * T < u * y * T := Int.mul_lt_mul_of_pos_right h2 (by omega)
  have a2 : u * T * y ≤ M * v * y := Int.mul_le_mul_of_nonneg_right hc (by omega)
  have b1 : x * v * T = x * T * v := by ac_rfl
  have b2 : u * y * T = u * T * y := by ac_rfl
  have b3 : M * v * y = M * y * v := by ac_rfl
  exact Int.lt_of_mul_lt_mul_right (show x * T * v < M * y * v by omega) (by omega)
theorem ine_right {l d u v x y M T : Int} (hd : 1 ≤ d) (hy : 1 ≤ y) (hT : 1 ≤ T) (h : InE l d u v x y) (hc : M * d ≤ l * T) : M * y < x * T := by
  have h1 := h.1
  have a1 : l * y * T < x * d * T := Int.mul_lt_mul_of_pos_right h1 (by omega)
  have a2 : M * d * y ≤ l * T * y := Int.mul_le_mul_of_nonneg_right hc (by omega)
  have b1 : l * y * T = l * T * y := by ac_rfl
  have b2 : x * d * T = x * T * d := by ac_rfl
  have b3 : M * d * y = M * y * d := by ac_rfl
  exact Int.lt_of_mul_lt_mul_right (show M * y * d < x * T * d by omega) (by omega)
theorem pos_of_mul {a b : Int} (h : 0 < a * b) (hb : 0 ≤ b) : 0 < a := by
  by_cases c : a ≤ 0
  · have := Int.mul_nonpos_of_nonpos_of_nonneg c hb
    omega
  · omega
/-- Where neither 0 nor 1 lies between the ends but something from 0 to 1 does, all that does is from 0 to 1. -/
theorem ine_unit {l d u v x y : Int} (hd : 1 ≤ d) (hv : 1 ≤ v) (hy : 1 ≤ y) (hx : 0 ≤ x) (hxy : x ≤ y) (h : InE l d u v x y) (h0 : ¬ InE l d u v 0 1) (h1 : ¬ InE l d u v 1 1) (X Y : Int) (hY : 1 ≤ Y) (hI : InE l d u v X Y) : 0 < X ∧ X < Y := by
  unfold InE at *
  have up : ∀ {a b : Int}, 0 ≤ a → a * v < u * b → 1 ≤ b → 0 < u := fun {a b} ha hh hb => by
    have m : 0 ≤ a * v := Int.mul_nonneg ha (by omega)
    exact pos_of_mul (a := u) (b := b) (by omega) (by omega)
  refine ⟨?_, ?_⟩
  · by_cases c : 0 < X
    · exact c
    · exfalso
      have m1 : X * d ≤ 0 := Int.mul_nonpos_of_nonpos_of_nonneg (by omega) (by omega)
      have hl : l < 0 := by
        by_cases cl : l < 0
        · exact cl
        · have : 0 ≤ l * Y := Int.mul_nonneg (by omega) (by omega)
          omega
      exact h0 ⟨by omega, by have := up hx h.2 hy; omega⟩
  · by_cases c : X < Y
    · exact c
    · exfalso
      have m1 : Y * v ≤ X * v := Int.mul_le_mul_of_nonneg_right (by omega) (by omega)
      have hu : v < u := by
        by_cases cu : v < u
        · exact cu
        · have m2 : u * Y ≤ v * Y := Int.mul_le_mul_of_nonneg_right (by omega) (by omega)
          rw [Int.mul_comm v Y] at m2
          omega
      have hl : l < d := by
        by_cases cl : l < d
        · exact cl
        · have m3 : d * y ≤ l * y := Int.mul_le_mul_of_nonneg_right (by omega) (by omega)
          have m4 : x * d ≤ y * d := Int.mul_le_mul_of_nonneg_right hxy (by omega)
          rw [Int.mul_comm y d] at m4
          omega
      exact h1 ⟨by omega, by omega⟩
/-- The simplest fraction between the ends: the least denominator, and the least numerator with it. -/
def Simp7 (l d u v a e : Int) : Prop := InE l d u v a e ∧ 1 ≤ e ∧ 0 ≤ a ∧ a ≤ e ∧ ∀ X Y, 1 ≤ Y → 0 ≤ X → X ≤ Y → InE l d u v X Y → e ≤ Y ∧ (Y = e → a ≤ X)
theorem Simp7.uni {l d u v a e a' e' : Int} (h : Simp7 l d u v a e) (h' : Simp7 l d u v a' e') : a = a' ∧ e = e' := by
  obtain ⟨i1, e1, a1, c1, m1⟩ := h
  obtain ⟨i2, e2, a2, c2, m2⟩ := h'
  have x1 := m1 a' e' e2 a2 c2 i2
  have x2 := m2 a e e1 a1 c1 i1
  have he : e = e' := by omega
  exact ⟨by have := x1.2 (by omega); have := x2.2 (by omega); omega, he⟩
theorem simp_low {l d u v : Int} (h : InE l d u v 0 1) : Simp7 l d u v 0 1 := ⟨h, by omega, by omega, by omega, fun X Y hY hX _ _ => ⟨hY, fun _ => hX⟩⟩
theorem simp_high {l d u v : Int} (h0 : ¬ InE l d u v 0 1) (h : InE l d u v 1 1) : Simp7 l d u v 1 1 := ⟨h, by omega, by omega, by omega, fun X Y hY hX hXY hI => ⟨hY, fun hy => by
  by_cases c : X = 0
  · subst c; subst hy; exact absurd hI h0
  · omega⟩⟩
theorem simp_mid {l d u v p q r t : Int} (hI : InE l d u v (p + r) (q + t)) (hall : ∀ X Y, 1 ≤ Y → InE l d u v X Y → Nb7 X Y p q r t) (hx : ∀ X Y, 1 ≤ Y → InE l d u v X Y → 0 < X ∧ X < Y) (hqt : 1 ≤ q + t) : Simp7 l d u v (p + r) (q + t) := by
  have h1 := hx _ _ hqt hI
  refine ⟨hI, hqt, by omega, by omega, fun X Y hY _ _ hXY => ?_⟩
  have h := hall X Y hY hXY
  exact ⟨h.sum, fun hy => by have := h.least hy; omega⟩
set_option maxHeartbeats 1600000 in
theorem endsSide_any (l d u v x y : Int) (w : World) (h1 : -1000000000 ≤ l * y ∧ l * y ≤ 1000000000) (h2 : -1000000000 ≤ x * d ∧ x * d ≤ 1000000000) (h3 : -1000000000 ≤ u * y ∧ u * y ≤ 1000000000) (h4 : -1000000000 ≤ x * v ∧ x * v ≤ 1000000000) :
    Calls Tryd.prog 57 #[enP l d u v, frP x y] w fun e w' => e = .returned (.int .i64 (sdE l d u v x y)) ∧ Keep w w' := by
  have HS1 := Lib.hid (fun W => sideP_any l d x y W h1 h2)
  have HS2 := Lib.hid (fun W => sideP_any u v x y W h3 h4)
  by_cases c1 : x * d ≤ l * y
  · have hs : ∃ S, sgnP (l * y) (x * d) = S ∧ 0 ≤ S := by
      refine ⟨_, rfl, ?_⟩; unfold sgnP; split <;> (try split) <;> omega
    obtain ⟨S, hS, hS0⟩ := hs
    rw [hS] at HS1
    rw [show sdE l d u v x y = 1 from by unfold sdE; rw [if_pos c1]]
    clear hS c1 h1 h2 h3 h4
    go_enter Tryd.func57, Tryd.ntmps57
    go_wp2_with (go_at_call 54; first | (with_reducible refine (HS1.out _).mono ?_; rintro e w1 ⟨rfl, k1⟩) | (with_reducible refine (HS2.out _).mono ?_; rintro e w2 ⟨rfl, k2⟩))
    go_ret
    exact ⟨rfl, Keep.next (by go_grown) k1⟩
  have hs : ∃ S, sgnP (l * y) (x * d) = S ∧ ¬ 0 ≤ S := by
    refine ⟨_, rfl, ?_⟩; unfold sgnP; split <;> (try split) <;> omega
  obtain ⟨S, hS, hS0⟩ := hs
  rw [hS] at HS1
  have hr : ∃ R, sgnP (u * y) (x * v) = R ∧ (R ≤ 0 ↔ u * y ≤ x * v) := by
    refine ⟨_, rfl, ?_⟩; unfold sgnP; split <;> (try split) <;> omega
  obtain ⟨R, hR, hR0⟩ := hr
  rw [hR] at HS2
  have HE : Hid (sdE l d u v x y = if R ≤ 0 then -1 else 0) := Lib.hid (by
    unfold sdE; rw [if_neg c1]
    by_cases c2 : u * y ≤ x * v
    · rw [if_pos c2, if_pos (hR0.2 c2)]
    · rw [if_neg c2, if_neg (fun c => c2 (hR0.1 c))])
  generalize sdE l d u v x y = V at *
  clear hS hR hR0 c1 h1 h2 h3 h4
  have HPC : Hid (∀ W, Keep (w.alloc (.cells #[.int .i64 l, .int .i64 d, .int .i64 u, .int .i64 v] 56) |>.alloc (.cells #[.int .i64 x, .int .i64 y] 54)) W → W.cell? ⟨w.heap.size, 0, none⟩ = some (.int .i64 l) ∧ W.cell? ⟨w.heap.size, 1, none⟩ = some (.int .i64 d) ∧ W.cell? ⟨w.heap.size, 2, none⟩ = some (.int .i64 u) ∧ W.cell? ⟨w.heap.size, 3, none⟩ = some (.int .i64 v) ∧ W.cell? ⟨w.heap.size + 1, 0, none⟩ = some (.int .i64 x) ∧ W.cell? ⟨w.heap.size + 1, 1, none⟩ = some (.int .i64 y)) := Lib.hid (fun W k => by
    refine ⟨?_, ?_, ?_, ?_, ?_, ?_⟩ <;> exact (k.cell (by simp <;> omega)).trans (by simp [go_sem]))
  go_enter Tryd.func57, Tryd.ntmps57
  by_cases hR : R ≤ 0
  · rw [HE.out, if_pos hR]
    go_wp2_with (go_at_call 54; first | (with_reducible refine (HS1.out _).mono ?_; rintro e w1 ⟨rfl, k1⟩; obtain ⟨p0, p1, p2, p3, p4, p5⟩ := HPC.out w1 k1) | (with_reducible refine (HS2.out _).mono ?_; rintro e w2 ⟨rfl, k2⟩))
    go_ret
    exact ⟨rfl, Keep.next (Keep.next (by go_grown) k1) k2⟩
  · rw [HE.out, if_neg hR]
    go_wp2_with (go_at_call 54; first | (with_reducible refine (HS1.out _).mono ?_; rintro e w1 ⟨rfl, k1⟩; obtain ⟨p0, p1, p2, p3, p4, p5⟩ := HPC.out w1 k1) | (with_reducible refine (HS2.out _).mono ?_; rintro e w2 ⟨rfl, k2⟩))
    go_ret
    exact ⟨rfl, Keep.next (Keep.next (by go_grown) k1) k2⟩
/-- What the tree ends in: neighbours whose middle lies between the ends, and everything between the ends lies between them. -/
def PeAt (l d u v : Int) (V : Value) : Prop := ∃ p' q' r' t' : Int, V = .tuple #[frP p' q', frP r' t'] ∧ InE l d u v (p' + r') (q' + t') ∧ ∀ X Y, 1 ≤ Y → InE l d u v X Y → Nb7 X Y p' q' r' t'
set_option maxHeartbeats 3200000 in
theorem parentsE_any (l d u v : Int) (bl : -1 ≤ l ∧ l ≤ 200) (bd : 1 ≤ d ∧ d ≤ 200) (bu : -1 ≤ u ∧ u ≤ 200) (bv : 1 ≤ v ∧ v ≤ 200) (x y : Int) (hxy2 : 0 ≤ x ∧ x < y) (hy1 : 1 ≤ y) (hy : y ≤ 300) (hxy : InE l d u v x y) : ∀ (f : Nat) (p q r t : Int) (w : World), (∀ X Y, 1 ≤ Y → InE l d u v X Y → Nb7 X Y p q r t) → (y - (q + t)).toNat ≤ f →
    Calls Tryd.prog 59 #[.iface 56 (enP l d u v), frP p q, frP r t] w fun e w' => ∃ V, e = .returned V ∧ PeAt l d u v V ∧ Keep w w' := by
  intro f
  induction f using Nat.strongRecOn with
  | _ f ih =>
  intro p q r t w hall hf
  have IH := Lib.hid ih
  clear ih
  have h := hall x y hy1 hxy
  have hs := h.sum
  have hq := h.q1; have ht := h.t1; have hp := h.p0; have hr := h.r0
  have hsm := h.small hxy2.1 hxy2.2
  have n1 : -90000 ≤ l * (q + t) ∧ l * (q + t) ≤ 90000 := mul_bdE (by omega) (by omega)
  have n2 : -90000 ≤ (p + r) * d ∧ (p + r) * d ≤ 90000 := by rw [Int.mul_comm]; exact mul_bdE (by omega) (by omega)
  have n3 : -90000 ≤ u * (q + t) ∧ u * (q + t) ≤ 90000 := mul_bdE (by omega) (by omega)
  have n4 : -90000 ≤ (p + r) * v ∧ (p + r) * v ≤ 90000 := by rw [Int.mul_comm]; exact mul_bdE (by omega) (by omega)
  have HB := Lib.hid (fun W => between_any p q r t W (by omega) (by omega) (by omega) (by omega))
  have HS := Lib.hid (fun W => endsSide_any l d u v (p + r) (q + t) W (by omega) (by omega) (by omega) (by omega))
  have hc3 : sdE l d u v (p + r) (q + t) = -1 ∨ sdE l d u v (p + r) (q + t) = 0 ∨ sdE l d u v (p + r) (q + t) = 1 := by unfold sdE; split <;> (try split) <;> simp
  rcases hc3 with c | c | c
  · have hc : u * (q + t) ≤ (p + r) * v := by
      unfold sdE at c; split at c
      · omega
      · split at c
        · assumption
        · omega
    have hall2 : ∀ X Y, 1 ≤ Y → InE l d u v X Y → Nb7 X Y p q (p + r) (q + t) := fun X Y hY hI => (hall X Y hY hI).left (ine_left bv.1 hY (by omega) hI hc)
    have hl := hall2 x y hy1 hxy
    have HR := Lib.hid (fun W => IH.out ((y - (q + (q + t))).toNat) (by have := hl.sum; omega) p q (p + r) (q + t) W hall2 (Nat.le_refl _))
    rw [c] at HS
    clear hall hall2 h hl IH n1 n2 n3 n4 c hc hs hf hsm hxy2 hxy
    generalize p + r = M at *
    generalize q + t = T at *
    go_enter Tryd.func59, Tryd.ntmps59
    go_wp2_with fail
    refine (HB.out _).mono ?_
    rintro e w1 ⟨rfl, k1⟩
    have PC := Lib.hid (pa_cells k1 rfl)
    have K1 : Hid (Keep w w1) := Lib.hid (Keep.next (by go_grown) k1)
    have hlt : w.heap.size + 4 ≤ w1.heap.size := by have := k1.size; simp at this; omega
    clear k1
    go_wp2_with fail
    refine (HS.out _).mono ?_
    rintro e w2 ⟨rfl, k2⟩
    have KX : Hid (Keep w1 w2) := Lib.hid (Keep.next (by go_grown) k2)
    have e0 : w2.cell? ⟨w1.heap.size, 0, none⟩ = some (.int .i64 M) := (k2.cell (by simp)).trans (by simp)
    have e1 : w2.cell? ⟨w1.heap.size, 1, none⟩ = some (.int .i64 T) := (k2.cell (by simp)).trans (by simp)
    have hlt2 : w1.heap.size < w2.heap.size := by have := k2.size; simp at this; omega
    clear k2
    obtain ⟨p0, p1, p2, p3, ⟨p4, p5, p6, p7⟩, ⟨p8, p9, p10, p11⟩⟩ := PC.out w2 KX.out
    go_wp2_with fail
    refine (HR.out _).mono ?_
    rintro e w3 ⟨V, rfl, ⟨p', q', r', t', rfl, hx⟩, k3⟩
    clear p0 p1 p2 p3 p4 p5 p6 p7 p8 p9 p10 p11 e0 e1
    obtain ⟨p0, p1, p2, p3, ⟨p4, p5, p6, p7⟩, ⟨p8, p9, p10, p11⟩⟩ := PC.out w3 (KX.out.next k3)
    have KE : Hid (Keep w w3) := Lib.hid (K1.out.next (KX.out.next k3))
    have HX := Lib.hid hx
    clear hx
    go_wp2
    refine bodyPost_ret (v := .tuple #[frP p' q', frP r' t']) (by simp [results, Tryd.results59, go_sem, p4, p5, p8, p9]) rfl ?_
    refine ⟨_, rfl, ⟨p', q', r', t', rfl, HX.out⟩, ?_⟩
    refine Below.setCell (Below.setCell (Below.setCell (Below.setCell ?_ (by simp <;> omega) _) (by simp <;> omega) _) (by simp <;> omega) _) (by simp <;> omega) _
    exact KE.out
  · have E3 := Lib.hid (And.intro (sdE_in.1 c) hall)
    rw [c] at HS
    clear hall h IH n1 n2 n3 n4 c hs hf hsm hxy2 hxy
    generalize p + r = M at HB HS
    generalize q + t = T at HB HS
    go_enter Tryd.func59, Tryd.ntmps59
    go_wp2_with fail
    refine (HB.out _).mono ?_
    rintro e w1 ⟨rfl, k1⟩
    have PC := Lib.hid (pa_cells k1 rfl)
    have K1 : Hid (Keep w w1) := Lib.hid (Keep.next (by go_grown) k1)
    have hlt : w.heap.size + 4 ≤ w1.heap.size := by have := k1.size; simp at this; omega
    clear k1
    go_wp2_with fail
    refine (HS.out _).mono ?_
    rintro e w2 ⟨rfl, k2⟩
    have KX : Hid (Keep w1 w2) := Lib.hid (Keep.next (by go_grown) k2)
    have e0 : w2.cell? ⟨w1.heap.size, 0, none⟩ = some (.int .i64 M) := (k2.cell (by simp)).trans (by simp)
    have e1 : w2.cell? ⟨w1.heap.size, 1, none⟩ = some (.int .i64 T) := (k2.cell (by simp)).trans (by simp)
    have hlt2 : w1.heap.size < w2.heap.size := by have := k2.size; simp at this; omega
    clear k2
    obtain ⟨p0, p1, p2, p3, ⟨p4, p5, p6, p7⟩, ⟨p8, p9, p10, p11⟩⟩ := PC.out w2 KX.out
    have KE : Hid (Keep w w2) := Lib.hid (K1.out.next KX.out)
    go_wp2_with fail
    go_region
    go_wp2
    refine bodyPost_ret (v := .tuple #[frP p q, frP r t]) (by simp [results, Tryd.results59, go_sem, p4, p5, p8, p9]) rfl ?_
    refine ⟨_, rfl, ⟨p, q, r, t, rfl, E3.out⟩, ?_⟩
    go_grown
    exact KE.out
  · have hc : (p + r) * d ≤ l * (q + t) := by
      unfold sdE at c; split at c
      · assumption
      · split at c <;> omega
    have hall2 : ∀ X Y, 1 ≤ Y → InE l d u v X Y → Nb7 X Y (p + r) (q + t) r t := fun X Y hY hI => (hall X Y hY hI).right (ine_right bd.1 hY (by omega) hI hc)
    have hl := hall2 x y hy1 hxy
    have HR := Lib.hid (fun W => IH.out ((y - ((q + t) + t)).toNat) (by have := hl.sum; omega) (p + r) (q + t) r t W hall2 (Nat.le_refl _))
    rw [c] at HS
    clear hall hall2 h hl IH n1 n2 n3 n4 c hc hs hf hsm hxy2 hxy
    generalize p + r = M at *
    generalize q + t = T at *
    go_enter Tryd.func59, Tryd.ntmps59
    go_wp2_with fail
    refine (HB.out _).mono ?_
    rintro e w1 ⟨rfl, k1⟩
    have PC := Lib.hid (pa_cells k1 rfl)
    have K1 : Hid (Keep w w1) := Lib.hid (Keep.next (by go_grown) k1)
    have hlt : w.heap.size + 4 ≤ w1.heap.size := by have := k1.size; simp at this; omega
    clear k1
    go_wp2_with fail
    refine (HS.out _).mono ?_
    rintro e w2 ⟨rfl, k2⟩
    have KX : Hid (Keep w1 w2) := Lib.hid (Keep.next (by go_grown) k2)
    have e0 : w2.cell? ⟨w1.heap.size, 0, none⟩ = some (.int .i64 M) := (k2.cell (by simp)).trans (by simp)
    have e1 : w2.cell? ⟨w1.heap.size, 1, none⟩ = some (.int .i64 T) := (k2.cell (by simp)).trans (by simp)
    have hlt2 : w1.heap.size < w2.heap.size := by have := k2.size; simp at this; omega
    clear k2
    obtain ⟨p0, p1, p2, p3, ⟨p4, p5, p6, p7⟩, ⟨p8, p9, p10, p11⟩⟩ := PC.out w2 KX.out
    go_wp2_with fail
    refine (HR.out _).mono ?_
    rintro e w3 ⟨V, rfl, ⟨p', q', r', t', rfl, hx⟩, k3⟩
    clear p0 p1 p2 p3 p4 p5 p6 p7 p8 p9 p10 p11 e0 e1
    obtain ⟨p0, p1, p2, p3, ⟨p4, p5, p6, p7⟩, ⟨p8, p9, p10, p11⟩⟩ := PC.out w3 (KX.out.next k3)
    have KE : Hid (Keep w w3) := Lib.hid (K1.out.next (KX.out.next k3))
    have HX := Lib.hid hx
    clear hx
    go_wp2
    refine bodyPost_ret (v := .tuple #[frP p' q', frP r' t']) (by simp [results, Tryd.results59, go_sem, p4, p5, p8, p9]) rfl ?_
    refine ⟨_, rfl, ⟨p', q', r', t', rfl, HX.out⟩, ?_⟩
    refine Below.setCell (Below.setCell (Below.setCell (Below.setCell ?_ (by simp <;> omega) _) (by simp <;> omega) _) (by simp <;> omega) _) (by simp <;> omega) _
    exact KE.out
end Go.Proofs.YtmckbjhmkcbjgabDoor
