/- Fractions of the program: which side, lowest terms; the ends of possible slopes. -/
import Derived.Test.YtmckbjhmkcbjgabDoorSe7
import Derived.Test.YtmckbjhmkcbjgabDoorHi7
import Derived.Test.YtmckbjhmkcbjgabDoorInts
namespace Go.Proofs.YtmckbjhmkcbjgabDoor
open Go.ChangeShapes Go.WideShapes Go.ChangeAt Go.RowKit Go.Deep
set_option linter.unusedVariables false
def sgn7 (x y : Int) : Int := if x < y then -1 else if y < x then 1 else 0
abbrev frV (a b : Int) : Value := .agg #[.int .i64 a, .int .i64 b]
set_option maxHeartbeats 800000 in
theorem side_any (a b c d : Int) (w : World) (h1 : -1000000000 ≤ a * d ∧ a * d ≤ 1000000000) (h2 : -1000000000 ≤ c * b ∧ c * b ≤ 1000000000) :
    Calls Tryd.prog 54 #[frV a b, frV c d] w fun e w' => e = .returned (.int .i64 (sgn7 (a * d) (c * b))) ∧ Keep w w' := by
  have V1 : IntKind.i64.wrap (a * d) = a * d := IntWalk.i64_in _ (by omega)
  have V2 : IntKind.i64.wrap (c * b) = c * b := IntWalk.i64_in _ (by omega)
  have HC := Lib.hid (fun W => Compare64_any (a * d) (c * b) W)
  have HS : Hid ((if a * d < c * b then -1 else if c * b < a * d then 1 else 0) = sgn7 (a * d) (c * b)) := Lib.hid rfl
  rw [HS.out] at HC
  generalize sgn7 (a * d) (c * b) = S at *
  go_enter Tryd.func54, Tryd.ntmps54
  go_wp2_with (go_at_call 75; refine (HC.out _).mono ?_; rintro e w' ⟨rfl, rfl⟩)
  go_ret
  exact ⟨rfl, by go_grown⟩
/-- Four numbers that can be read and written. -/
structure Quad (W : World) (b : Nat) (l d u q : Int) : Prop where
  c0 : W.cell? ⟨b, 0, none⟩ = some (.int .i64 l)
  c1 : W.cell? ⟨b, 1, none⟩ = some (.int .i64 d)
  c2 : W.cell? ⟨b, 2, none⟩ = some (.int .i64 u)
  c3 : W.cell? ⟨b, 3, none⟩ = some (.int .i64 q)
  f0 : W.frozen? ⟨b, 0, none⟩ = false
  f1 : W.frozen? ⟨b, 1, none⟩ = false
  f2 : W.frozen? ⟨b, 2, none⟩ = false
  f3 : W.frozen? ⟨b, 3, none⟩ = false
theorem Quad.lt {W : World} {b : Nat} {l d u q : Int} (h : Quad W b l d u q) : b < W.heap.size := World.block_lt_of_cell? _ _ h.c0
theorem Quad.same {W W' : World} {b : Nat} {l d u q : Int} (h : Quad W b l d u q) (e : W'.heap[b]? = W.heap[b]?) : Quad W' b l d u q :=
  ⟨(World.cell?_of_block (a := ⟨b, 0, none⟩) e).trans h.c0, (World.cell?_of_block (a := ⟨b, 1, none⟩) e).trans h.c1, (World.cell?_of_block (a := ⟨b, 2, none⟩) e).trans h.c2, (World.cell?_of_block (a := ⟨b, 3, none⟩) e).trans h.c3,
   (World.frozen?_of_block (a := ⟨b, 0, none⟩) e).trans h.f0, (World.frozen?_of_block (a := ⟨b, 1, none⟩) e).trans h.f1, (World.frozen?_of_block (a := ⟨b, 2, none⟩) e).trans h.f2, (World.frozen?_of_block (a := ⟨b, 3, none⟩) e).trans h.f3⟩
theorem Quad.keep {W W' : World} {b : Nat} {l d u q : Int} (h : Quad W b l d u q) (k : Keep W W') : Quad W' b l d u q := h.same (k.block b h.lt)
theorem Quad.set {W : World} {b : Nat} {l d u q : Int} (h : Quad W b l d u q) {a : Addr} (ha : a.block ≠ b) (v : Value) : Quad (W.setCell a v) b l d u q :=
  h.same (Below.heap_setCell _ _ _ _ (fun e => ha e.symm))
theorem Quad.set01 {W : World} {b : Nat} {l d u q : Int} (h : Quad W b l d u q) (x y : Int) : Quad ((W.setCell ⟨b, 0, none⟩ (.int .i64 x)).setCell ⟨b, 1, none⟩ (.int .i64 y)) b x y u q := by
  have h0 := h.c0; have h1 := h.c1; have h2 := h.c2; have h3 := h.c3; have g0 := h.f0; have g1 := h.f1; have g2 := h.f2; have g3 := h.f3
  constructor <;> simp [go_sem, h0, h1, h2, h3, g0, g1, g2, g3]
theorem Quad.set23 {W : World} {b : Nat} {l d u q : Int} (h : Quad W b l d u q) (x y : Int) : Quad ((W.setCell ⟨b, 2, none⟩ (.int .i64 x)).setCell ⟨b, 3, none⟩ (.int .i64 y)) b l d x y := by
  have h0 := h.c0; have h1 := h.c1; have h2 := h.c2; have h3 := h.c3; have g0 := h.f0; have g1 := h.f1; have g2 := h.f2; have g3 := h.f3
  constructor <;> simp [go_sem, h0, h1, h2, h3, g0, g1, g2, g3]
theorem Quad.new (W : World) (l d u q : Int) (T : Nat) : Quad (W.alloc (.cells #[.int .i64 l, .int .i64 d, .int .i64 u, .int .i64 q] T)) W.heap.size l d u q := ⟨by simp, by simp, by simp, by simp, by simp, by simp, by simp, by simp⟩
theorem cell_new2 (W : World) (x y : Value) (T n : Nat) (h : n = W.heap.size) : (W.alloc (.cells #[x, y] T)).cell? ⟨n, 0, none⟩ = some x ∧ (W.alloc (.cells #[x, y] T)).cell? ⟨n, 1, none⟩ = some y := by
  subst h; exact ⟨by simp, by simp⟩
def sPrg (j i : Nat) (a b : Nat) : Prop := b < j ∨ (b = j ∧ a < i)
set_option maxHeartbeats 1600000 in
set_option maxRecDepth 100000 in
theorem endsOf_any (s : ByteArray) (ad : Option Addr) (cap : Nat) (w : World) (hw : wdB s = true) (hz : Ints w ad (hgtL s s.size)) :
    Calls Tryd.prog 27 #[.slice ad (hgtL s s.size).length cap] w fun e w' => ∃ l d u q : Int, e = .returned (.agg #[.int .i64 l, .int .i64 d, .int .i64 u, .int .i64 q]) ∧ ILo s allP l d ∧ IHi s allP u q ∧ Keep w w' := by
  have hwd := wdB_iff.1 hw
  have h120 := hwd.1
  have HGT := Lib.hid (fun j (h : j ≤ s.size) => hgtL_get s s.size j h)
  have HLEN := Lib.hid (hgtL_len s s.size)
  have HHB := Lib.hid (hgt_bd hw)
  have HIN := Lib.hid (fun i j (h : i < j) (h2 : j ≤ s.size) => hgt_inc hw h h2)
  have HL0 : Hid (ILo s (sPrg 0 0) (-1) 1) := Lib.hid (ILo.start s _ (fun i j _ _ h => by unfold sPrg at h; omega))
  have HU0 : Hid (IHi s (sPrg 0 0) 2 1) := Lib.hid (IHi.start s _ (fun i j _ _ h => by unfold sPrg at h; omega))
  have HBL := Lib.hid (fun (S : Nat → Nat → Prop) l d (h : ILo s S l d) => h.1.bd hw)
  have HBU := Lib.hid (fun (S : Nat → Nat → Prop) l d (h : IHi s S l d) => h.1.bd hw)
  have HLY := Lib.hid (fun (i j : Nat) (l d : Int) (h : ILo s (sPrg j i) l d) (h1 : i < j) (h2 : j ≤ s.size) h3 => h.yes (S' := sPrg j (i + 1)) hw h1 h2 (fun a b => by unfold sPrg; omega) h3)
  have HLN := Lib.hid (fun (i j : Nat) (l d : Int) (h : ILo s (sPrg j i) l d) (h1 : i < j) (h2 : j ≤ s.size) h3 => h.no (S' := sPrg j (i + 1)) h1 h2 (fun a b => by unfold sPrg; omega) h3)
  have HUY := Lib.hid (fun (i j : Nat) (l d : Int) (h : IHi s (sPrg j i) l d) (h1 : i < j) (h2 : j ≤ s.size) h3 => h.yes (S' := sPrg j (i + 1)) hw h1 h2 (fun a b => by unfold sPrg; omega) h3)
  have HUN := Lib.hid (fun (i j : Nat) (l d : Int) (h : IHi s (sPrg j i) l d) (h1 : i < j) (h2 : j ≤ s.size) h3 => h.no (S' := sPrg j (i + 1)) h1 h2 (fun a b => by unfold sPrg; omega) h3)
  have HMUL := Lib.hid (fun (a d : Int) (ha : -1 ≤ a ∧ a ≤ 121) (hd : 1 ≤ d ∧ d ≤ 120) => mul_sl (l := 0) (n := 0) ha hd)
  have HQN := Lib.hid (fun (W : World) => Quad.new W (-1) 1 2 1 56)
  have HQ0 := Lib.hid (fun (W : World) => Quad.new W 0 0 0 0 56)
  clear hwd hw
  generalize hgtL s s.size = L at *
  rcases hz.at_ with h | ⟨b, off, rfl, hb, hc⟩
  · have := HLEN.out; rw [h] at this; simp at this
  have HC : Hid (∀ W, Keep w W → ∀ j, j ≤ s.size → W.cell? ⟨b, off + j, none⟩ = some (.int .i64 (hgt s j))) := Lib.hid (fun W k j hj => by
    rw [(k.cell (p := ⟨b, off + j, none⟩) (by exact hb)).trans (hc j (by have := HLEN.out; omega)), HGT.out j hj])
  have hls : L.length ≤ 121 := by have := HLEN.out; omega
  have HLB := Lib.hid HLEN.out
  clear hc
  go_enter Tryd.func27, Tryd.ntmps27
  go_wp2
  go_loopg [4, 5, 6, 7, 8, 9, 15] (s.size + 1) (fun kk _ _ _ _ _ _ i wr => ∃ (j1 : Nat) (l d u q : Int), j1 ≤ s.size + 1 ∧ kk = s.size + 1 - j1 ∧ i = .int .i64 j1 ∧ Hid (ILo s (sPrg j1 0) l d) ∧ Hid (IHi s (sPrg j1 0) u q) ∧ Hid (Quad wr (w.heap.size + 1) l d u q) ∧ Hid (Quad wr w.heap.size 0 0 0 0) ∧ Hid (Keep w wr))
  case atStart =>
    refine ⟨0, -1, 1, 2, 1, Nat.zero_le _, rfl, rfl, HL0, HU0, Lib.hid ?_, Lib.hid ?_, Lib.hid ?_⟩
    · constructor <;> simp
    · constructor <;> simp
    · go_grown
  case round =>
    obtain ⟨j1, l0, d0, u0, q0, hj1, rfl, rfl, HL, HU, HQ, HR, HK⟩ := hrel
    by_cases hlt : j1 < s.size + 1
    · have hjj : (j1 : Int) < (L.length : Int) := by have := HLB.out; omega
      go_wp2
      go_loopg [5, 6, 7, 8, 9, 19] j1 (fun kk _ _ _ _ _ i wq => ∃ (i1 : Nat) (l d u q : Int), i1 ≤ j1 ∧ kk = j1 - i1 ∧ i = .int .i64 i1 ∧ Hid (ILo s (sPrg j1 i1) l d) ∧ Hid (IHi s (sPrg j1 i1) u q) ∧ Hid (Quad wq (w.heap.size + 1) l d u q) ∧ Hid (Quad wq w.heap.size 0 0 0 0) ∧ Hid (Keep w wq))
      case atStart => exact ⟨0, l0, d0, u0, q0, Nat.zero_le _, rfl, rfl, HL, HU, HQ, HR, HK⟩
      case round =>
        clear HL HU HQ HR HK
        obtain ⟨i1, l, d, u, q, hi1, rfl, rfl, HLJ, HUJ, HQ, HR, HKJ⟩ := hrel
        by_cases hil : i1 < j1
        · have hii : (i1 : Int) < (j1 : Int) := by omega
          have hil2 : (i1 : Int) < (L.length : Int) := by omega
          have qa := HC.out wr HKJ.out j1 (by omega)
          have qc := HC.out wr HKJ.out i1 (by omega)
          have ba := HHB.out j1 (by omega)
          have bc := HHB.out i1 (by omega)
          have hin := HIN.out i1 j1 hil (by omega)
          obtain ⟨bl1, bl2⟩ := HBL.out _ _ _ HLJ.out
          obtain ⟨bu1, bu2⟩ := HBU.out _ _ _ HUJ.out
          have LY := Lib.hid (HLY.out i1 j1 l d HLJ.out hil (by omega))
          have LN := Lib.hid (HLN.out i1 j1 l d HLJ.out hil (by omega))
          have UY := Lib.hid (HUY.out i1 j1 u q HUJ.out hil (by omega))
          have UN := Lib.hid (HUN.out i1 j1 u q HUJ.out hil (by omega))
          generalize hgt s j1 = A at *
          generalize hgt s i1 = C at *
          have W1 : IntKind.i64.wrap (A - C) = A - C := IntWalk.i64_in _ (by omega)
          have m1 := HMUL.out (A - C - 1) d (by omega) (by omega)
          have m2 := HMUL.out l ((j1 : Int) - i1) (by omega) (by omega)
          have m3 := HMUL.out (A - C + 1) q (by omega) (by omega)
          have m4 := HMUL.out u ((j1 : Int) - i1) (by omega) (by omega)
          have HS1 := Lib.hid (fun W => side_any (A - C - 1) ((j1 : Int) - i1) l d W (by omega) (by omega))
          have HS2 := Lib.hid (fun W => side_any (A - C + 1) ((j1 : Int) - i1) u q W (by omega) (by omega))
          obtain ⟨v1, hv1, hc1⟩ : ∃ v1, sgn7 ((A - C - 1) * d) (l * ((j1 : Int) - i1)) = v1 ∧ (l * ((j1 : Int) - i1) < (A - C - 1) * d ↔ 0 < v1) := ⟨_, rfl, by unfold sgn7; split <;> (try split) <;> omega⟩
          obtain ⟨v2, hv2, hc2⟩ : ∃ v2, sgn7 ((A - C + 1) * q) (u * ((j1 : Int) - i1)) = v2 ∧ ((A - C + 1) * q < u * ((j1 : Int) - i1) ↔ v2 < 0) := ⟨_, rfl, by unfold sgn7; split <;> (try split) <;> omega⟩
          rw [hv1] at HS1
          rw [hv2] at HS2
          have HV1 := Lib.hid hc1
          have HV2 := Lib.hid hc2
          clear hv1 hv2 hc1 hc2 m1 m2 m3 m4 bl1 bl2 bu1 bu2
          obtain ⟨wo, rfl⟩ : ∃ x, x = wr := ⟨wr, rfl⟩
          have hwo : w.heap.size + 1 < wo.heap.size := HQ.out.lt
          have HKW : Hid (Keep wo (wo.alloc (.cells #[.int .i64 (A - C - 1), .int .i64 ((j1 : Int) - i1)] 54))) := Lib.hid (by go_grown)
          have HQ2 := Lib.hid (HQ.out.keep HKW.out)
          obtain ⟨e0, e1, e2, e3, g0, g1, g2, g3⟩ := HQ2.out
          by_cases c1 : 0 < v1
          · go_wp2
            go_region
            go_wp2_with (fail)
            refine (HS1.out _).mono ?_
            rintro e w3 ⟨rfl, k3⟩
            have K3 : Hid (Keep wo w3) := Lib.hid (Keep.next (by go_grown) k3)
            have hf0 : w3.cell? ⟨wo.heap.size, 0, none⟩ = some (.int .i64 (A - C - 1)) := (k3.cell (by simp)).trans (by simp)
            have hf1 : w3.cell? ⟨wo.heap.size, 1, none⟩ = some (.int .i64 ((j1 : Int) - i1)) := (k3.cell (by simp)).trans (by simp)
            have HQ3 := Lib.hid (HQ.out.keep K3.out)
            have HR3 := Lib.hid (HR.out.keep K3.out)
            have HK3 : Hid (Keep w w3) := Lib.hid (HKJ.out.next K3.out)
            clear k3 e0 e1 e2 e3 g0 g1 g2 g3 HQ2 HKW
            have N1 := Lib.hid (LY.out (HV1.out.2 c1))
            obtain ⟨x0, x1, x2, x3, y0, y1, y2, y3⟩ := HQ3.out
            have HQS := Lib.hid (HQ3.out.set01 (A - C - 1) ((j1 : Int) - i1))
            have HRS := Lib.hid ((HR3.out.set (a := ⟨w.heap.size + 1, 0, none⟩) (by simp) (.int .i64 (A - C - 1))).set (a := ⟨w.heap.size + 1, 1, none⟩) (by simp) (.int .i64 ((j1 : Int) - i1)))
            have HKS : Hid (Keep w _) := Lib.hid ((HK3.out.setCell (p := ⟨w.heap.size + 1, 0, none⟩) (by simp) (.int .i64 (A - C - 1))).setCell (p := ⟨w.heap.size + 1, 1, none⟩) (by simp) (.int .i64 ((j1 : Int) - i1)))
            have HKW : Hid (Keep ((w3.setCell ⟨w.heap.size + 1, 0, none⟩ (.int .i64 (A - C - 1))).setCell ⟨w.heap.size + 1, 1, none⟩ (.int .i64 ((j1 : Int) - i1))) (((w3.setCell ⟨w.heap.size + 1, 0, none⟩ (.int .i64 (A - C - 1))).setCell ⟨w.heap.size + 1, 1, none⟩ (.int .i64 ((j1 : Int) - i1))).alloc (.cells #[.int .i64 (A - C + 1), .int .i64 ((j1 : Int) - i1)] 54))) := Lib.hid (by go_grown)
            have HQ4 := Lib.hid (HQS.out.keep HKW.out)
            obtain ⟨e0, e1, e2, e3, g0, g1, g2, g3⟩ := HQ4.out
            by_cases c2 : v2 < 0
            · go_wp2_with (fail)
              refine (HS2.out _).mono ?_
              rintro e w5 ⟨rfl, k5⟩
              have K5 : Hid (Keep ((w3.setCell ⟨w.heap.size + 1, 0, none⟩ (.int .i64 (A - C - 1))).setCell ⟨w.heap.size + 1, 1, none⟩ (.int .i64 ((j1 : Int) - i1))) w5) := Lib.hid (Keep.next (by go_grown) k5)
              have hz0 : w5.cell? ⟨w3.heap.size, 0, none⟩ = some (.int .i64 (A - C + 1)) := (k5.cell (by simp)).trans (cell_new2 _ _ _ _ w3.heap.size (by simp)).1
              have hz1 : w5.cell? ⟨w3.heap.size, 1, none⟩ = some (.int .i64 ((j1 : Int) - i1)) := (k5.cell (by simp)).trans (cell_new2 _ _ _ _ w3.heap.size (by simp)).2
              have HQ5 := Lib.hid (HQS.out.keep K5.out)
              have HR5 := Lib.hid (HRS.out.keep K5.out)
              have HK5 : Hid (Keep w w5) := Lib.hid (HKS.out.next K5.out)
              clear k5 e0 e1 e2 e3 g0 g1 g2 g3 HQ4 HKW
              have N2 := Lib.hid (UY.out (HV2.out.2 c2))
              obtain ⟨e0, e1, e2, e3, g0, g1, g2, g3⟩ := HQ5.out
              have HQ6 := Lib.hid (HQ5.out.set23 (A - C + 1) ((j1 : Int) - i1))
              have HR6 := Lib.hid ((HR5.out.set (a := ⟨w.heap.size + 1, 2, none⟩) (by simp) (.int .i64 (A - C + 1))).set (a := ⟨w.heap.size + 1, 3, none⟩) (by simp) (.int .i64 ((j1 : Int) - i1)))
              have HK6 := Lib.hid ((HK5.out.setCell (p := ⟨w.heap.size + 1, 2, none⟩) (by simp) (.int .i64 (A - C + 1))).setCell (p := ⟨w.heap.size + 1, 3, none⟩) (by simp) (.int .i64 ((j1 : Int) - i1)))
              go_wp2
              go_roundg (j1 - (i1 + 1))
              case measure => omega
              case rel => exact ⟨i1 + 1, A - C - 1, (j1 : Int) - i1, A - C + 1, (j1 : Int) - i1, by omega, rfl, by go_num, N1, N2, HQ6, HR6, HK6⟩
            · go_wp2_with (fail)
              refine (HS2.out _).mono ?_
              rintro e w5 ⟨rfl, k5⟩
              have K5 : Hid (Keep ((w3.setCell ⟨w.heap.size + 1, 0, none⟩ (.int .i64 (A - C - 1))).setCell ⟨w.heap.size + 1, 1, none⟩ (.int .i64 ((j1 : Int) - i1))) w5) := Lib.hid (Keep.next (by go_grown) k5)
              have hz0 : w5.cell? ⟨w3.heap.size, 0, none⟩ = some (.int .i64 (A - C + 1)) := (k5.cell (by simp)).trans (cell_new2 _ _ _ _ w3.heap.size (by simp)).1
              have hz1 : w5.cell? ⟨w3.heap.size, 1, none⟩ = some (.int .i64 ((j1 : Int) - i1)) := (k5.cell (by simp)).trans (cell_new2 _ _ _ _ w3.heap.size (by simp)).2
              have HQ5 := Lib.hid (HQS.out.keep K5.out)
              have HR5 := Lib.hid (HRS.out.keep K5.out)
              have HK5 : Hid (Keep w w5) := Lib.hid (HKS.out.next K5.out)
              clear k5 e0 e1 e2 e3 g0 g1 g2 g3 HQ4 HKW
              have N2 := Lib.hid (UN.out (by have h := HV2.out; first | exact fun q => absurd (h.1 q) (by omega) | exact Int.not_lt.1 (fun q => absurd (h.1 q) (by omega))))
              go_wp2
              go_roundg (j1 - (i1 + 1))
              case measure => omega
              case rel => exact ⟨i1 + 1, A - C - 1, (j1 : Int) - i1, u, q, by omega, rfl, by go_num, N1, N2, HQ5, HR5, HK5⟩
          · go_wp2
            go_region
            go_wp2_with (fail)
            refine (HS1.out _).mono ?_
            rintro e w3 ⟨rfl, k3⟩
            have K3 : Hid (Keep wo w3) := Lib.hid (Keep.next (by go_grown) k3)
            have hf0 : w3.cell? ⟨wo.heap.size, 0, none⟩ = some (.int .i64 (A - C - 1)) := (k3.cell (by simp)).trans (by simp)
            have hf1 : w3.cell? ⟨wo.heap.size, 1, none⟩ = some (.int .i64 ((j1 : Int) - i1)) := (k3.cell (by simp)).trans (by simp)
            have HQ3 := Lib.hid (HQ.out.keep K3.out)
            have HR3 := Lib.hid (HR.out.keep K3.out)
            have HK3 : Hid (Keep w w3) := Lib.hid (HKJ.out.next K3.out)
            clear k3 e0 e1 e2 e3 g0 g1 g2 g3 HQ2 HKW
            have N1 := Lib.hid (LN.out (by have h := HV1.out; first | exact fun q => absurd (h.1 q) (by omega) | exact Int.not_lt.1 (fun q => absurd (h.1 q) (by omega))))
            have HKW : Hid (Keep w3 (w3.alloc (.cells #[.int .i64 (A - C + 1), .int .i64 ((j1 : Int) - i1)] 54))) := Lib.hid (by go_grown)
            have HQ4 := Lib.hid (HQ3.out.keep HKW.out)
            obtain ⟨e0, e1, e2, e3, g0, g1, g2, g3⟩ := HQ4.out
            by_cases c2 : v2 < 0
            · go_wp2_with (fail)
              refine (HS2.out _).mono ?_
              rintro e w5 ⟨rfl, k5⟩
              have K5 : Hid (Keep w3 w5) := Lib.hid (Keep.next (by go_grown) k5)
              have hz0 : w5.cell? ⟨w3.heap.size, 0, none⟩ = some (.int .i64 (A - C + 1)) := (k5.cell (by simp)).trans (by simp)
              have hz1 : w5.cell? ⟨w3.heap.size, 1, none⟩ = some (.int .i64 ((j1 : Int) - i1)) := (k5.cell (by simp)).trans (by simp)
              have HQ5 := Lib.hid (HQ3.out.keep K5.out)
              have HR5 := Lib.hid (HR3.out.keep K5.out)
              have HK5 : Hid (Keep w w5) := Lib.hid (HK3.out.next K5.out)
              clear k5 e0 e1 e2 e3 g0 g1 g2 g3 HQ4 HKW
              have N2 := Lib.hid (UY.out (HV2.out.2 c2))
              obtain ⟨e0, e1, e2, e3, g0, g1, g2, g3⟩ := HQ5.out
              have HQ6 := Lib.hid (HQ5.out.set23 (A - C + 1) ((j1 : Int) - i1))
              have HR6 := Lib.hid ((HR5.out.set (a := ⟨w.heap.size + 1, 2, none⟩) (by simp) (.int .i64 (A - C + 1))).set (a := ⟨w.heap.size + 1, 3, none⟩) (by simp) (.int .i64 ((j1 : Int) - i1)))
              have HK6 := Lib.hid ((HK5.out.setCell (p := ⟨w.heap.size + 1, 2, none⟩) (by simp) (.int .i64 (A - C + 1))).setCell (p := ⟨w.heap.size + 1, 3, none⟩) (by simp) (.int .i64 ((j1 : Int) - i1)))
              go_wp2
              go_roundg (j1 - (i1 + 1))
              case measure => omega
              case rel => exact ⟨i1 + 1, l, d, A - C + 1, (j1 : Int) - i1, by omega, rfl, by go_num, N1, N2, HQ6, HR6, HK6⟩
            · go_wp2_with (fail)
              refine (HS2.out _).mono ?_
              rintro e w5 ⟨rfl, k5⟩
              have K5 : Hid (Keep w3 w5) := Lib.hid (Keep.next (by go_grown) k5)
              have hz0 : w5.cell? ⟨w3.heap.size, 0, none⟩ = some (.int .i64 (A - C + 1)) := (k5.cell (by simp)).trans (by simp)
              have hz1 : w5.cell? ⟨w3.heap.size, 1, none⟩ = some (.int .i64 ((j1 : Int) - i1)) := (k5.cell (by simp)).trans (by simp)
              have HQ5 := Lib.hid (HQ3.out.keep K5.out)
              have HR5 := Lib.hid (HR3.out.keep K5.out)
              have HK5 : Hid (Keep w w5) := Lib.hid (HK3.out.next K5.out)
              clear k5 e0 e1 e2 e3 g0 g1 g2 g3 HQ4 HKW
              have N2 := Lib.hid (UN.out (by have h := HV2.out; first | exact fun q => absurd (h.1 q) (by omega) | exact Int.not_lt.1 (fun q => absurd (h.1 q) (by omega))))
              go_wp2
              go_roundg (j1 - (i1 + 1))
              case measure => omega
              case rel => exact ⟨i1 + 1, l, d, u, q, by omega, rfl, by go_num, N1, N2, HQ5, HR5, HK5⟩
        · have hii : ¬ (i1 : Int) < (j1 : Int) := by omega
          have HLE : Hid (ILo s (sPrg (j1 + 1) 0) l d) := Lib.hid (HLJ.out.congr (fun a b h1 h2 => by unfold sPrg; omega))
          have HUE : Hid (IHi s (sPrg (j1 + 1) 0) u q) := Lib.hid (HUJ.out.congr (fun a b h1 h2 => by unfold sPrg; omega))
          go_wp2
          go_roundg (s.size + 1 - (j1 + 1))
          case measure => omega
          case rel => exact ⟨j1 + 1, l, d, u, q, by omega, rfl, by go_num, HLE, HUE, HQ, HR, HKJ⟩
    · have hjj : ¬ (j1 : Int) < (L.length : Int) := by have := HLB.out; omega
      have HLE : Hid (ILo s allP l0 d0) := Lib.hid (HL.out.congr (fun a b h1 h2 => by unfold sPrg allP; exact ⟨fun _ => trivial, fun _ => .inl (by omega)⟩))
      have HUE : Hid (IHi s allP u0 q0) := Lib.hid (HU.out.congr (fun a b h1 h2 => by unfold sPrg allP; exact ⟨fun _ => trivial, fun _ => .inl (by omega)⟩))
      obtain ⟨e0, e1, e2, e3, _, _, _, _⟩ := HQ.out
      obtain ⟨r0, r1, r2, r3, f0, f1, f2, f3⟩ := HR.out
      go_wp2
      refine bodyPost_ret (v := .agg #[.int .i64 l0, .int .i64 d0, .int .i64 u0, .int .i64 q0]) (by simp [results, Tryd.results27, go_sem, r0, r1, r2, r3]) rfl ?_
      exact ⟨l0, d0, u0, q0, rfl, HLE.out, HUE.out, (((HK.out.setCell (p := ⟨w.heap.size, 0, none⟩) (Nat.le_refl _) _).setCell (p := ⟨w.heap.size, 1, none⟩) (Nat.le_refl _) _).setCell (p := ⟨w.heap.size, 2, none⟩) (Nat.le_refl _) _).setCell (p := ⟨w.heap.size, 3, none⟩) (Nat.le_refl _) _⟩
end Go.Proofs.YtmckbjhmkcbjgabDoor
