/- Doubling masks: the model's. -/
import Derived.Test.YtjoanfgchapbaaaDbl9
import Derived.Deep.DeepCutAuto
import Derived.Deep.RegionLaw
namespace Go.Proofs.Ytjoanfgchapbaaa
open Go.ChangeShapes Go.WideShapes Go.ChangeAt Go.RowKit Go.Deep
set_option linter.unusedVariables false
theorem dbF_succ (d : Nat) : dbF (d + 1) = dblF (2 ^ d) (dbF d) := rfl
/-- The doubling mask as rows. -/
def dbL (o : Nat) : List (List Int) := sqF (2 ^ o) (2 ^ o) (dbF o)
theorem two_pow3 {d : Nat} (h : d ≤ 3) : 1 ≤ 2 ^ d ∧ 2 ^ d ≤ 8 := by
  have : d = 0 ∨ d = 1 ∨ d = 2 ∨ d = 3 := by omega
  rcases this with rfl | rfl | rfl | rfl <;> decide
theorem dbF_64 {d : Nat} (h : d ≤ 3) (i k : Nat) : 0 ≤ dbF d i k ∧ dbF d i k ≤ 63 := by
  have h1 := dbF_bd d i k
  have : d = 0 ∨ d = 1 ∨ d = 2 ∨ d = 3 := by omega
  rcases this with rfl | rfl | rfl | rfl <;> simp at h1 <;> omega
set_option maxHeartbeats 6400000 in
set_option maxRecDepth 100000 in
/-- One number of rows of the model's own is written, at a step of a walk. -/
theorem store9 {w : World} {lo cap B n : Nat} {AD : Nat → Option Addr} {CP : Nat → Nat} {f : Nat → Nat → Int} (h : OwnR w lo (some ⟨B, 0, none⟩) cap AD CP (sqF n n f)) (i k : Nat) (hi : i < n) (hk : k < n) :
    ∃ g u, w.cell? ⟨B, i, none⟩ = some (.slice (some ⟨g, 0, none⟩) n (CP i)) ∧ w.cell? ⟨g, k, none⟩ = some u ∧ w.frozen? ⟨g, k, none⟩ = false ∧ lo ≤ g ∧ ∀ v, In64 v → OwnR (w.setCell ⟨g, k, none⟩ (.int .i64 v)) lo (some ⟨B, 0, none⟩) cap AD CP (sqF n n (upd2 f i k v)) := by
  have hl := sqF_len n n f
  have hr := sqF_rowlen n n f i hi
  obtain ⟨g, e, h1, h2, h3, h4, _, h5⟩ := h.store i k (by omega) (by omega)
  have hh := h.head i (by omega)
  rw [e, hr] at hh
  exact ⟨g, _, hh, h3, h4, h1, fun v hv => by
    have := h5 v hv
    rw [sqF_set n n f i k hi v] at this; exact this⟩
set_option maxHeartbeats 6400000 in
set_option maxRecDepth 100000 in
theorem l09Doubling_any (o : Nat) (w : World) (ho : o ≤ 3) :
    Calls Try.prog 62 #[.int .i64 o] w fun e w' => ∃ rd rc rA rC, e = .returned (.slice rd (2 ^ o) rc) ∧ OwnR w' w.heap.size rd rc rA rC (dbL o) ∧ Keep w w' := by
  obtain ⟨B0, hB0⟩ : ∃ B, B = w.heap.size := ⟨_, rfl⟩
  have HSQ := Lib.hid (fun (n : Nat) (hn : n ≤ 1000) W => l09Square_any n n W hn hn)
  have HD := Lib.hid (fun d (hd : d ≤ 3) i k => dbF_64 hd i k)
  go_enter Try.func62, Try.ntmps62
  go_wp2
  obtain ⟨W1, hW1⟩ : ∃ W1, W1 = (w.alloc (.cells #[.int .i64 0] 2)).alloc (.cells #[.slice (some ⟨w.heap.size, 0, none⟩) 1 1] 69) := ⟨_, rfl⟩
  have HR0 : Hid (OwnR W1 B0 (some ⟨B0 + 1, 0, none⟩) 1 (fun _ => some ⟨B0, 0, none⟩) (fun _ => 1) (dbL 0)) := Lib.hid (by
    have e : dbL 0 = [[0]] := rfl
    have r1 : (w.alloc (.cells #[.int .i64 0] 2)).ownsRow w.heap.size 2 1 (.slice (some ⟨w.heap.size, 0, none⟩) 1 1) 1 [.int .i64 0] := World.ownsRow_lit (base := w.heap.size) (e := 2) (size := 1) w #[.int .i64 0] 1 (by omega) (by unfold maxLen; omega) rfl
    have o1 : Own (w.alloc (.cells #[.int .i64 0] 2)) w.heap.size (some ⟨w.heap.size, 0, none⟩) 1 [0] := ⟨r1, by simp, fun z hz => by simp at hz; rw [hz]; exact ⟨by omega, by omega⟩⟩
    have o2 : Own W1 w.heap.size (some ⟨w.heap.size, 0, none⟩) 1 [0] := by rw [hW1]; exact o1.keep (by go_grown)
    have r2 : W1.ownsRow w.heap.size 69 1 (.slice (some ⟨w.heap.size + 1, 0, none⟩) 1 1) 1 [.slice (some ⟨w.heap.size, 0, none⟩) 1 1] := by
      rw [hW1]
      have := World.ownsRow_lit (base := w.heap.size) (e := 69) (size := 1) (w.alloc (.cells #[.int .i64 0] 2)) #[.slice (some ⟨w.heap.size, 0, none⟩) 1 1] 1 (by simp) (by unfold maxLen; omega) rfl
      simpa using this
    rw [e, hB0]
    refine ⟨by simp, by simp [tot], r2, fun j hj => ?_, fun i j hi hj hij => ?_, fun j hj b e1 e2 => ?_⟩
    · obtain rfl : j = 0 := by simpa using hj
      exact o2
    · simp at hi hj; omega
    · simp at e1 e2; omega)
  have HK1 : Hid (Below B0 w W1) := Lib.hid (by rw [hW1, hB0]; go_grown)
  have hs1 : B0 ≤ W1.heap.size := by rw [hW1, hB0, World.size_alloc, World.size_alloc]; omega
  rw [← hW1, ← hB0]
  have HB := Lib.hid hB0
  clear hW1 hB0
  go_loopg [0, 3, 4, 5, 6, 7, 8] o (fun kk ov v _h _n _i _k _m wr => ∃ (d : Nat) (rd : Option Addr) (rc : Nat) (rA : Nat → Option Addr) (rC : Nat → Nat), d ≤ o ∧ kk = o - d ∧ ov = .int .i64 ((o - d : Nat) : Int) ∧ v = .slice rd (2 ^ d) rc ∧ Hid (OwnR wr B0 rd rc rA rC (dbL d)) ∧ Hid (Below B0 w wr) ∧ B0 ≤ wr.heap.size)
  case atStart => exact ⟨0, _, _, _, _, Nat.zero_le _, rfl, rfl, rfl, HR0, HK1, hs1⟩
  case round =>
    obtain ⟨d, rd, rc, rA, rC, hd, rfl, rfl, rfl, HR, HK, hBl⟩ := hrel
    obtain ⟨wo, rfl⟩ : ∃ x, x = wr := ⟨wr, rfl⟩
    by_cases hlt : d < o
    · have hp := two_pow3 (d := d) (by omega)
      have hp4 : 2 ^ d ≤ 4 := by have := two_pow3 (d := d + 1) (by omega); rw [Nat.pow_succ] at this; omega
      have HDB : Hid (∀ i k, 0 ≤ dbF d i k ∧ dbF d i k ≤ 63) := Lib.hid (fun i k => HD.out d (by omega) i k)
      have HNX : Hid (dbL (d + 1) = sqF (2 * 2 ^ d) (2 * 2 ^ d) (dblF (2 ^ d) (dbF d))) := Lib.hid (by unfold dbL; rw [dbF_succ, show 2 ^ (d + 1) = 2 * 2 ^ d from by rw [Nat.pow_succ]; omega])
      have HPW : Hid (2 ^ (d + 1) = 2 * 2 ^ d) := Lib.hid (by rw [Nat.pow_succ]; omega)
      have HDL : Hid (dbL d = sqF (2 ^ d) (2 ^ d) (dbF d)) := Lib.hid rfl
      rw [HDL.out] at HR
      clear HDL hp
      generalize 2 ^ d = H at *
      generalize hf : dbF d = f at *
      clear hf
      have hH1 : 1 ≤ H := by
        rcases Nat.eq_zero_or_pos H with h | h
        · exfalso; have h2 := HPW.out; have := Nat.two_pow_pos (d + 1); omega
        · exact h
      have hpos : ((o - d : Nat) : Int) > 0 := by omega
      have hpos2 : (0 : Int) < ((o - d : Nat) : Int) := by omega
      have hdec : ((o - d : Nat) : Int) - 1 = ((o - (d + 1) : Nat) : Int) := by omega
      have HDEC := Lib.hid hdec; clear hdec
      have HSQ2 : Hid (∀ W, Calls Try.prog 73 #[.int .i64 (2 * (H : Int)), .int .i64 (2 * (H : Int))] W fun e w' => ∃ rd rc rA rC, e = .returned (.slice rd (2 * H) rc) ∧ OwnR w' W.heap.size rd rc rA rC (sqF (2 * H) (2 * H) fun _ _ => 0) ∧ Keep W w') := Lib.hid (fun W => by
        have h := HSQ.out (2 * H) (by omega) W
        rw [show ((2 * H : Nat) : Int) = 2 * (H : Int) from by omega] at h; exact h)
      obtain ⟨q, hq⟩ : ∃ q, q = o - d := ⟨_, rfl⟩
      have HQ := Lib.hid hq
      rw [← hq] at hpos hpos2 HDEC ⊢
      have hq3 : (q : Int) ≤ 3 := by omega
      clear hq
      have hrl : (sqF H H f).length = H := sqF_len H H f
      obtain ⟨B, rfl, hB1, hB2⟩ := HR.out.block (by omega)
      go_wp2_with fail
      refine (HSQ2.out _).mono ?_
      rintro e w2 ⟨nd, nc, nA, nC, rfl, o2, k2⟩
      have HR2 : Hid (OwnR w2 B0 (some ⟨B, 0, none⟩) rc rA rC (sqF H H f)) := Lib.hid (HR.out.keep k2)
      have HK2 : Hid (Below B0 w w2) := Lib.hid (HK.out.trans (k2.mono hBl))
      obtain ⟨lo, hlo⟩ : ∃ lo, lo = wo.heap.size := ⟨_, rfl⟩
      rw [← hlo] at o2
      have hlo2 : lo ≤ w2.heap.size := by have := k2.size; omega
      have hB0lo : B0 ≤ lo := by omega
      have hBlo : B < lo := by omega
      have HFT : Hid (∀ b, footR (some ⟨B, 0, none⟩) rA (sqF H H f).length b → b < lo) := Lib.hid (fun b hb => by have := (HR.out.lt b hb).2; omega)
      obtain ⟨N, rfl, hN1, hN2⟩ := o2.block (by rw [sqF_len]; omega)
      have HN0 : Hid (OwnR w2 lo (some ⟨N, 0, none⟩) nc nA nC (sqF (2 * H) (2 * H) (stF H f 0 0))) := Lib.hid (by
        rw [sqF_same _ _ (stF H f 0 0) (fun _ _ => 0) (fun i k _ _ => stF_start H f i k)]; exact o2)
      clear o2 k2 hlo
      go_wp2
      go_loopg [6, 7, 8] H (fun kk iv _k _m wi => ∃ i : Nat, i ≤ H ∧ kk = H - i ∧ iv = .int .i64 i ∧ Hid (OwnR wi lo (some ⟨N, 0, none⟩) nc nA nC (sqF (2 * H) (2 * H) (stF H f i 0))) ∧ Hid (Below lo w2 wi))
      case atStart => exact ⟨0, Nat.zero_le _, rfl, rfl, HN0, Lib.hid (Below.refl _ _)⟩
      case round =>
        obtain ⟨i, hi, rfl, rfl, HNI, HKI⟩ := hrel
        obtain ⟨wm, rfl⟩ : ∃ x, x = wr := ⟨wr, rfl⟩
        by_cases hil : i < H
        · go_wp2
          go_loopg [7, 8] H (fun kk jv _m wj => ∃ k : Nat, k ≤ H ∧ kk = H - k ∧ jv = .int .i64 k ∧ Hid (OwnR wj lo (some ⟨N, 0, none⟩) nc nA nC (sqF (2 * H) (2 * H) (stF H f i k))) ∧ Hid (Below lo w2 wj))
          case atStart => exact ⟨0, Nat.zero_le _, rfl, rfl, HNI, HKI⟩
          case round =>
            obtain ⟨k, hk, rfl, rfl, HNK, HKK⟩ := hrel
            by_cases hkl : k < H
            · -- the number of the old mask
              have hrli : ((sqF H H f).getD i []).length = H := sqF_rowlen H H f i hil
              have hh := HR2.out.head i (by omega)
              obtain ⟨g, eg, g1, g2, g3, _, _, _⟩ := HR2.out.store i k (by omega) (by omega)
              rw [sqF_get H H f i k hil hkl] at g3
              rw [eg, hrli] at hh
              have hgl : g < lo := HFT.out g (.inr ⟨i, by omega, eg⟩)
              have m1 : wr.cell? ⟨B, i, none⟩ = some (.slice (some ⟨g, 0, none⟩) H (rC i)) := (HKK.out.cell (p := ⟨B, i, none⟩) (by exact hBlo)).trans hh
              have m2 : wr.cell? ⟨g, k, none⟩ = some (.int .i64 (f i k)) := (HKK.out.cell (p := ⟨g, k, none⟩) (by exact hgl)).trans g3
              have hfb := HDB.out i k
              have HSTP : Hid (∀ a b, a < 2 * H → b < 2 * H → upd2 (upd2 (upd2 (upd2 (stF H f i k) i k (4 * f i k)) i (k + H) (4 * f i k + 2)) (i + H) k (4 * f i k + 3)) (i + H) (k + H) (4 * f i k + 1) a b = stF H f i (k + 1) a b) := Lib.hid (fun a b ha hb => stF_step H f i k a b hil hkl ha hb)
              clear hh g3 eg hrli g2 g1
              generalize f i k = v at *
              generalize rC i = rci at *
              -- four stores
              obtain ⟨a1, u1, p1, p2, p3, p4, p5⟩ := store9 HNK.out i k (by omega) (by omega)
              have HS1 : Hid (OwnR (wr.setCell ⟨a1, k, none⟩ (.int .i64 (4 * v))) lo (some ⟨N, 0, none⟩) nc nA nC (sqF (2 * H) (2 * H) (upd2 (stF H f i k) i k (4 * v)))) := Lib.hid (p5 (4 * v) ⟨by omega, by omega⟩)
              have HB1 : Hid (Below lo w2 (wr.setCell ⟨a1, k, none⟩ (.int .i64 (4 * v)))) := Lib.hid (HKK.out.setCell (by exact p4) _)
              clear p5
              go_upto_region 14 with fail
              refine code_gen9 (fun X1 hX1 => ?_)
              rw [← hX1] at HS1 HB1
              clear hX1 p1 p2 p3 m1 m2
              obtain ⟨a2, u2, q1, q2, q3, q4, q5⟩ := store9 HS1.out i (k + H) (by omega) (by omega)
              have HS2 : Hid (OwnR (X1.setCell ⟨a2, k + H, none⟩ (.int .i64 (4 * v + 2))) lo (some ⟨N, 0, none⟩) nc nA nC (sqF (2 * H) (2 * H) (upd2 (upd2 (stF H f i k) i k (4 * v)) i (k + H) (4 * v + 2)))) := Lib.hid (q5 (4 * v + 2) ⟨by omega, by omega⟩)
              have HB2 : Hid (Below lo w2 (X1.setCell ⟨a2, k + H, none⟩ (.int .i64 (4 * v + 2)))) := Lib.hid (HB1.out.setCell (by exact q4) _)
              clear q5
              go_upto_region 15 with fail
              refine code_gen9 (fun X2 hX2 => ?_)
              rw [← hX2] at HS2 HB2
              clear hX2 q1 q2 q3
              obtain ⟨a3, u3, r1, r2, r3, r4, r5⟩ := store9 HS2.out (i + H) k (by omega) (by omega)
              have HS3 : Hid (OwnR (X2.setCell ⟨a3, k, none⟩ (.int .i64 (4 * v + 3))) lo (some ⟨N, 0, none⟩) nc nA nC (sqF (2 * H) (2 * H) (upd2 (upd2 (upd2 (stF H f i k) i k (4 * v)) i (k + H) (4 * v + 2)) (i + H) k (4 * v + 3)))) := Lib.hid (r5 (4 * v + 3) ⟨by omega, by omega⟩)
              have HB3 : Hid (Below lo w2 (X2.setCell ⟨a3, k, none⟩ (.int .i64 (4 * v + 3)))) := Lib.hid (HB2.out.setCell (by exact r4) _)
              clear r5
              go_upto_region 16 with fail
              refine code_gen9 (fun X3 hX3 => ?_)
              rw [← hX3] at HS3 HB3
              clear hX3 r1 r2 r3
              obtain ⟨a4, u4', s1, s2, s3, s4, s5⟩ := store9 HS3.out (i + H) (k + H) (by omega) (by omega)
              have HS4 : Hid (OwnR (X3.setCell ⟨a4, k + H, none⟩ (.int .i64 (4 * v + 1))) lo (some ⟨N, 0, none⟩) nc nA nC (sqF (2 * H) (2 * H) (stF H f i (k + 1)))) := Lib.hid (by
                rw [← sqF_same _ _ _ _ (fun a b ha hb => HSTP.out a b ha hb)]
                exact s5 (4 * v + 1) ⟨by omega, by omega⟩)
              have HB4 : Hid (Below lo w2 (X3.setCell ⟨a4, k + H, none⟩ (.int .i64 (4 * v + 1)))) := Lib.hid (HB3.out.setCell (by exact s4) _)
              clear s5
              go_wp2
              go_roundg (H - (k + 1))
              case measure => omega
              case rel => exact ⟨k + 1, by omega, rfl, by go_num, HS4, HB4⟩
            · have HE := Lib.hid (show k = H by omega)
              go_wp2
              go_roundg (H - (i + 1))
              case measure => omega
              case rel => exact ⟨i + 1, by omega, rfl, by go_num, Lib.hid (by
                have h := HNK.out
                rw [HE.out, sqF_same _ _ (stF H f i H) (stF H f (i + 1) 0) (fun a b _ hb => stF_row H f i a b hb)] at h; exact h), HKK⟩
        · have HE := Lib.hid (show i = H by omega)
          go_wp2
          go_roundg (o - (d + 1))
          case measure => omega
          case rel =>
            have hK9 := HKI.out.size
            refine ⟨d + 1, some ⟨N, 0, none⟩, nc, nA, nC, by omega, rfl, by rw [HDEC.out], by rw [HPW.out], Lib.hid ?_, Lib.hid (HK2.out.trans (HKI.out.mono hB0lo)), by omega⟩
            have h := HNI.out
            rw [HE.out, sqF_same _ _ (stF H f H 0) (dblF H f) (fun a b ha _ => stF_end H f a b ha), ← HNX.out] at h
            exact h.mono hB0lo
    · have HE := Lib.hid (show d = o by omega)
      have hz0 : ((o - d : Nat) : Int) = 0 := by omega
      rw [hz0]
      clear hz0
      go_wp2
      go_ret
      have e := HE.out
      have hBB := HB.out
      subst e
      exact ⟨rd, rc, rA, rC, rfl, by rw [← hBB]; exact HR.out, by have h := HK.out; rw [hBB] at h; exact h⟩
def dbV (o : Int) : List (List Int) := if inB o 0 3 then dbL o.toNat else []
theorem specDoublingMask_any (o : Int) (w : World) (u : In64 o) :
    Calls Try.prog 25 #[.int .i64 o] w fun e w' => ∃ rd rc rA rC, e = .returned (.tuple #[.slice rd (dbV o).length rc, .bool (inB o 0 3)]) ∧ OwnG w' w.heap.size rd rc rA rC (dbV o) ∧ Keep w w' := by
  have HO : Hid (∀ W, Calls Try.prog 61 #[.int .i64 o] W fun e w' => e = .returned (.bool (inB o 0 3)) ∧ W = w') := Lib.hid (fun W => by
    go_enter Try.func61, Try.ntmps61
    go_wp2_with fail
    refine (l00In_any _ _ _ _).mono ?_
    rintro e w' ⟨rfl, rfl⟩
    go_wp2
    go_ret
    exact ⟨rfl, rfl⟩)
  cases h : inB o 0 3
  · rw [h] at HO
    rw [show dbV o = [] from by unfold dbV; rw [h]; rfl]
    go_enter Try.func25, Try.ntmps25
    go_wp2_with fail
    refine (HO.out _).mono ?_
    rintro e w1 ⟨rfl, rfl⟩
    go_wp2
    go_ret2
    exact ⟨none, 0, _, _, rfl, OwnG.nil _ _, Below.refl _ _⟩
  · rw [h] at HO
    have h2 := inB_iff.1 h
    obtain ⟨n, rfl⟩ : ∃ n : Nat, o = n := ⟨o.toNat, by omega⟩
    rw [show dbV (n : Int) = dbL n from by unfold dbV; rw [h, if_pos rfl, Int.toNat_natCast]]
    have hl : (dbL n).length = 2 ^ n := sqF_len _ _ _
    have HD := Lib.hid (fun W => l09Doubling_any n W (by omega))
    rw [← hl] at HD
    clear hl
    generalize dbL n = D at *
    go_enter Try.func25, Try.ntmps25
    go_wp2_with fail
    refine (HO.out _).mono ?_
    rintro e w1 ⟨rfl, rfl⟩
    go_wp2_with fail
    refine (HD.out _).mono ?_
    rintro e w2 ⟨rd, rc, rA, rC, rfl, o2, k2⟩
    have O2 := Lib.hid o2.g; clear o2
    go_wp2
    go_ret2
    exact ⟨rd, rc, rA, rC, rfl, O2.out, k2⟩
end Go.Proofs.Ytjoanfgchapbaaa
