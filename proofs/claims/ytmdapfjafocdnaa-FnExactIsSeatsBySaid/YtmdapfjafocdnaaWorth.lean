/- What one more seat is worth: the program's side. -/
import Derived.Test.YtmdapfjafocdnaaInts
import Derived.Test.YtmdapfjafocdnaaMem
import Derived.Deep.RegionHeld3
import Derived.Deep.RegionLaw
namespace Go.Proofs.Ytmdapfjafocdnaa
open Go.ChangeShapes Go.WideShapes Go.ChangeAt Go.RowKit
set_option linter.unusedVariables false
def wd (n d : Int) : Int := if n = 0 then 1 else d
def wV (n d : Int) : Value := .agg #[.int .i64 n, .int .i64 d]
theorem worthOf_any (n d : Int) (w : World) :
    Calls Try.prog 88 #[.int .i64 n, .int .i64 d] w fun e w' => e = .returned (wV n (wd n d)) ∧ Keep w w' := by
  by_cases h : n = 0
  · subst h
    go_enter Try.func88, Try.ntmps88
    go_wp2
    refine bodyPost_ret (v := wV 0 (wd 0 d)) (by simp [results, Try.results88, go_sem, wV, wd]) rfl ?_
    exact ⟨rfl, by go_grown⟩
  · have hb : (n == 0) = false := by simp [h]
    go_enter Try.func88, Try.ntmps88
    go_wp2
    refine bodyPost_ret (v := wV n (wd n d)) (by simp [results, Try.results88, go_sem, wV, wd, h]) rfl ?_
    exact ⟨rfl, by go_grown⟩
theorem halvesAt_any (h v k : Int) (w : World) (h0 : 0 ≤ h) (h1 : h ≤ 2) (k0 : 0 ≤ k) (k1 : k ≤ 1000) :
    Calls Try.prog 84 #[.int .i64 h, .int .i64 v, .int .i64 k] w fun e w' => e = .returned (wV v (wd v (2 * k + h))) ∧ Keep w w' := by
  go_enter Try.func84, Try.ntmps84
  go_wp2_with fail
  refine (worthOf_any _ _ _).mono ?_
  rintro e w1 ⟨rfl, k1⟩
  have g1 : Keep w w1 := Keep.next (by go_grown) k1
  have c0 := (k1.cell (p := ⟨w.heap.size, 0, none⟩) (by simp)).trans (show _ = some (.int .i64 0) by simp)
  have c1 := (k1.cell (p := ⟨w.heap.size, 1, none⟩) (by simp)).trans (show _ = some (.int .i64 0) by simp)
  have f0 := (k1.frozen (p := ⟨w.heap.size, 0, none⟩) (by simp)).trans (show _ = false by simp)
  have f1 := (k1.frozen (p := ⟨w.heap.size, 1, none⟩) (by simp)).trans (show _ = false by simp)
  unfold wV
  go_wp2
  refine bodyPost_ret (v := wV v (wd v (2 * k + h))) (by simp [results, Try.results84, go_sem, wV, c0, c1]) rfl ?_
  exact ⟨rfl, (g1.setCell (Nat.le_refl _) _).setCell (Nat.le_refl _) _⟩
theorem squareAt_any (v k : Int) (w : World) (v0 : 0 ≤ v) (v1 : v ≤ 1000000) (k0 : 0 ≤ k) (k1 : k ≤ 1000) :
    Calls Try.prog 85 #[.int .i64 v, .int .i64 k] w fun e w' => e = .returned (wV (v * v) (wd (v * v) (k * (k + 1)))) ∧ Keep w w' := by
  have e1 : v * v ≤ 1000000 * 1000000 := Int.mul_le_mul v1 v1 v0 (by omega)
  have e2 : 0 ≤ v * v := Int.mul_nonneg v0 v0
  have e3 : k * (k + 1) ≤ 1000 * 1001 := Int.mul_le_mul k1 (by omega) (by omega) (by omega)
  have e4 : 0 ≤ k * (k + 1) := Int.mul_nonneg k0 (by omega)
  go_enter Try.func85, Try.ntmps85
  go_wp2_with fail
  refine (worthOf_any _ _ _).mono ?_
  rintro e w1 ⟨rfl, k1⟩
  have g1 : Keep w w1 := Keep.next (by go_grown) k1
  have c0 := (k1.cell (p := ⟨w.heap.size, 0, none⟩) (by simp)).trans (show _ = some (.int .i64 0) by simp)
  have c1 := (k1.cell (p := ⟨w.heap.size, 1, none⟩) (by simp)).trans (show _ = some (.int .i64 0) by simp)
  have f0 := (k1.frozen (p := ⟨w.heap.size, 0, none⟩) (by simp)).trans (show _ = false by simp)
  have f1 := (k1.frozen (p := ⟨w.heap.size, 1, none⟩) (by simp)).trans (show _ = false by simp)
  unfold wV
  go_wp2
  refine bodyPost_ret (v := wV (v * v) (wd (v * v) (k * (k + 1)))) (by simp [results, Try.results85, go_sem, wV, c0, c1]) rfl ?_
  exact ⟨rfl, (g1.setCell (Nat.le_refl _) _).setCell (Nat.le_refl _) _⟩
/-- How two worths compare. -/
def cmpW (n1 d1 n2 d2 : Int) : Int := if d1 = 0 ∧ d2 = 0 then sgn n1 n2 else sgn (n1 * d2) (n2 * d1)
theorem compare_any (n1 d1 n2 d2 : Int) (w : World) (a0 : 0 ≤ n1) (a1 : n1 ≤ 1000000000000) (b0 : 0 ≤ n2) (b1 : n2 ≤ 1000000000000) (p0 : 0 ≤ d1) (p1 : d1 ≤ 1001000) (q0 : 0 ≤ d2) (q1 : d2 ≤ 1001000) :
    Calls Try.prog 87 #[wV n1 d1, wV n2 d2] w fun e w' => e = .returned (.int .i64 (cmpW n1 d1 n2 d2)) ∧ Keep w w' := by
  have e1 : n1 * d2 ≤ 1000000000000 * 1001000 := Int.mul_le_mul a1 q1 q0 (by omega)
  have e2 : 0 ≤ n1 * d2 := Int.mul_nonneg a0 q0
  have e3 : n2 * d1 ≤ 1000000000000 * 1001000 := Int.mul_le_mul b1 p1 p0 (by omega)
  have e4 : 0 ≤ n2 * d1 := Int.mul_nonneg b0 p0
  unfold wV
  by_cases h1 : d1 = 0
  · by_cases h2 : d2 = 0
    · subst h1; subst h2
      rw [show cmpW n1 0 n2 0 = sgn n1 n2 from by simp [cmpW]]
      go_enter Try.func87, Try.ntmps87
      go_wp2_with (go_at_call 89; refine (Compare64_any _ _ _).mono ?_; rintro e w' ⟨rfl, rfl⟩)
      all_goals go_ret
      all_goals refine ⟨?_, by go_grown⟩
      all_goals exact ret_i64 (by unfold sgn; (repeat' split) <;> omega)
    · subst h1
      have hb : (d2 == 0) = false := by simp [h2]
      rw [show cmpW n1 0 n2 d2 = sgn (n1 * d2) (n2 * 0) from by simp [cmpW, h2]]
      go_enter Try.func87, Try.ntmps87
      go_wp2_with (go_at_call 89; refine (Compare64_any _ _ _).mono ?_; rintro e w' ⟨rfl, rfl⟩)
      all_goals go_ret
      all_goals refine ⟨?_, by go_grown⟩
      all_goals exact ret_i64 (by unfold sgn; (repeat' split) <;> omega)
  · have hb : (d1 == 0) = false := by simp [h1]
    rw [show cmpW n1 d1 n2 d2 = sgn (n1 * d2) (n2 * d1) from by simp [cmpW, h1]]
    go_enter Try.func87, Try.ntmps87
    go_wp2_with (go_at_call 89; refine (Compare64_any _ _ _).mono ?_; rintro e w' ⟨rfl, rfl⟩)
    all_goals go_ret
    all_goals refine ⟨?_, by go_grown⟩
    all_goals exact ret_i64 (by unfold sgn; (repeat' split) <;> omega)
/-- A claim: the party, the seats that it holds, what one more is worth. -/
def cV (p k n d : Int) : Value := .agg #[.int .i64 p, .int .i64 k, .int .i64 n, .int .i64 d]
/-- A contest: the votes, and the function that tells worths. -/
def conV (ad : Option Addr) (len cap : Nat) (fv : Value) : Value := .agg #[.slice ad len cap, fv]
/-- A call of a function value at a step of a region that draws its order. -/
theorem at_tmp {P : Program} {ops : Array Oper} {o : Oper} {a : Act} {w : World} {K : Act → World → Prop} {Q : Exit → Act → World → Prop} {E : Prop} (i : Nat) (x : Array Operand) (T : Array TypeId)
    (ho : o.op = .call { callee := .value (.tmp i), args := x, argTypes := T }) (h : if Region.wanted o (yielded ops a.tmps) = true then Oper.wp P o a w K Q else E) : if Region.wanted o (yielded ops a.tmps) = true then Oper.wp P o a w K Q else E := h
/-- Four cells that can be read and written. -/
structure Four (W : World) (b : Nat) (u0 u1 u2 u3 : Value) : Prop where
  c0 : W.cell? ⟨b, 0, none⟩ = some u0
  c1 : W.cell? ⟨b, 1, none⟩ = some u1
  c2 : W.cell? ⟨b, 2, none⟩ = some u2
  c3 : W.cell? ⟨b, 3, none⟩ = some u3
  f0 : W.frozen? ⟨b, 0, none⟩ = false
  f1 : W.frozen? ⟨b, 1, none⟩ = false
  f2 : W.frozen? ⟨b, 2, none⟩ = false
  f3 : W.frozen? ⟨b, 3, none⟩ = false
theorem Four.lt {W : World} {b : Nat} {u0 u1 u2 u3 : Value} (h : Four W b u0 u1 u2 u3) : b < W.heap.size := World.block_lt_of_cell? _ _ h.c0
theorem Four.keep {W W' : World} {b B : Nat} {u0 u1 u2 u3 : Value} (h : Four W b u0 u1 u2 u3) (k : Below B W W') (hb : b < B) : Four W' b u0 u1 u2 u3 :=
  ⟨(k.cell (p := ⟨b, 0, none⟩) hb).trans h.c0, (k.cell (p := ⟨b, 1, none⟩) hb).trans h.c1, (k.cell (p := ⟨b, 2, none⟩) hb).trans h.c2, (k.cell (p := ⟨b, 3, none⟩) hb).trans h.c3,
   (k.frozen (p := ⟨b, 0, none⟩) hb).trans h.f0, (k.frozen (p := ⟨b, 1, none⟩) hb).trans h.f1, (k.frozen (p := ⟨b, 2, none⟩) hb).trans h.f2, (k.frozen (p := ⟨b, 3, none⟩) hb).trans h.f3⟩
theorem Four.set {W : World} {b : Nat} {u0 u1 u2 u3 : Value} (h : Four W b u0 u1 u2 u3) (v0 v1 v2 v3 : Value) :
    Four ((((W.setCell ⟨b, 0, none⟩ v0).setCell ⟨b, 1, none⟩ v1).setCell ⟨b, 2, none⟩ v2).setCell ⟨b, 3, none⟩ v3) b v0 v1 v2 v3 := by
  have g : ∀ (W : World) (i j : Nat) (v u : Value), i ≠ j → W.cell? ⟨b, i, none⟩ = some u → (W.setCell ⟨b, j, none⟩ v).cell? ⟨b, i, none⟩ = some u := fun W i j v u hij h => by
    rw [World.cell?_setCell_other _ _ _ _ (by first | (simp; done) | (simp; exact hij))]; exact h
  refine ⟨?_, ?_, ?_, ?_, by simpa using h.f0, by simpa using h.f1, by simpa using h.f2, by simpa using h.f3⟩
  · exact g _ _ _ _ _ (by decide) (g _ _ _ _ _ (by decide) (g _ _ _ _ _ (by decide) (World.cell?_setCell_same _ _ _ h.c0)))
  · exact g _ _ _ _ _ (by decide) (g _ _ _ _ _ (by decide) (World.cell?_setCell_same _ _ _ (g _ _ _ _ _ (by decide) h.c1)))
  · exact g _ _ _ _ _ (by decide) (World.cell?_setCell_same _ _ _ (g _ _ _ _ _ (by decide) (g _ _ _ _ _ (by decide) h.c2)))
  · exact World.cell?_setCell_same _ _ _ (g _ _ _ _ _ (by decide) (g _ _ _ _ _ (by decide) (g _ _ _ _ _ (by decide) h.c3)))
set_option maxHeartbeats 1600000 in
set_option maxRecDepth 100000 in
theorem claimOfS_any (ad : Option Addr) (cap : Nat) (zs : List Int) (p : Nat) (k : Int) (w : World) (hz : Ints w ad zs) (hv : ∀ z ∈ zs, 0 ≤ z ∧ z ≤ 1000000) (hp : p < zs.length) (k0 : 0 ≤ k) (k1 : k ≤ 1000) :
    Calls Try.prog 63 #[conV ad zs.length cap (.func (.func 85) #[] #[]), .int .i64 p, .int .i64 k] w fun e w' =>
      e = .returned (cV p k (zs.getD p 0 * zs.getD p 0) (wd (zs.getD p 0 * zs.getD p 0) (k * (k + 1)))) ∧ Keep w w' := by
  rcases hz.at_ with h | ⟨b, off, rfl, hb, hc⟩
  · subst h; simp at hp
  have hcx := hc p hp
  have hx := hv _ (getD_mem zs p hp)
  clear hc
  generalize zs.getD p 0 = x at hcx hx ⊢
  unfold conV
  have k1w : Keep w ((w.alloc (.cells #[.slice (some ⟨b, off, none⟩) zs.length cap, .func (.func 85) #[] #[]] 75)).alloc (.cells #[.int .i64 0, .int .i64 0, .int .i64 0, .int .i64 0] 84)) := by go_grown
  have hF : Four ((w.alloc (.cells #[.slice (some ⟨b, off, none⟩) zs.length cap, .func (.func 85) #[] #[]] 75)).alloc (.cells #[.int .i64 0, .int .i64 0, .int .i64 0, .int .i64 0] 84)) (w.heap.size + 1) (.int .i64 0) (.int .i64 0) (.int .i64 0) (.int .i64 0) :=
    ⟨by simp, by simp, by simp, by simp, by simp, by simp, by simp, by simp⟩
  have d0 : ((w.alloc (.cells #[.slice (some ⟨b, off, none⟩) zs.length cap, .func (.func 85) #[] #[]] 75)).alloc (.cells #[.int .i64 0, .int .i64 0, .int .i64 0, .int .i64 0] 84)).cell? ⟨w.heap.size, 0, none⟩ = some (.slice (some ⟨b, off, none⟩) zs.length cap) := by simp
  have d1 : ((w.alloc (.cells #[.slice (some ⟨b, off, none⟩) zs.length cap, .func (.func 85) #[] #[]] 75)).alloc (.cells #[.int .i64 0, .int .i64 0, .int .i64 0, .int .i64 0] 84)).cell? ⟨w.heap.size, 1, none⟩ = some (.func (.func 85) #[] #[]) := by simp
  have hsz : ((w.alloc (.cells #[.slice (some ⟨b, off, none⟩) zs.length cap, .func (.func 85) #[] #[]] 75)).alloc (.cells #[.int .i64 0, .int .i64 0, .int .i64 0, .int .i64 0] 84)).heap.size = w.heap.size + 2 := by simp
  have HCT := Lib.hid (And.intro hF (And.intro d0 (And.intro d1 ((k1w.cell (p := ⟨b, off + p, none⟩) hb).trans hcx))))
  have HK := Lib.hid k1w
  clear hF d0 d1 k1w hcx
  go_enter Try.func63, Try.ntmps63
  go_wp2
  generalize (w.alloc (.cells #[.slice (some ⟨b, off, none⟩) zs.length cap, .func (.func 85) #[] #[]] 75)).alloc (.cells #[.int .i64 0, .int .i64 0, .int .i64 0, .int .i64 0] 84) = wa at *
  obtain ⟨hF, d0, d1, d2⟩ := HCT.out
  go_region_law
    (first
      | (refine at_tmp 10 _ _ rfl ?_; go_simp
         refine (squareAt_any x k _ (by omega) (by omega) k0 k1).mono ?_; rintro e w2 ⟨rfl, k2⟩
         have hbel2 : Keep wa w2 := Keep.next (by go_grown) k2
         have hF2 := HCT.out.1.keep hbel2 (by omega)
         have HFS := Lib.hid (hF2.set (.int .i64 p) (.int .i64 k) (.int .i64 (x * x)) (.int .i64 (wd (x * x) (k * (k + 1)))))
         obtain ⟨c0, c1, c2, c3, f0, f1, f2, f3⟩ := hF2
         unfold wV))
  all_goals
    go_wp2
    refine bodyPost_ret (v := cV p k (x * x) (wd (x * x) (k * (k + 1)))) (by simp [results, Try.results63, go_sem, cV, HFS.out.c0, HFS.out.c1, HFS.out.c2, HFS.out.c3]) rfl ?_
    have h := Keep.next HK.out hbel2
    exact ⟨rfl, (((h.setCell (by show w.heap.size ≤ w.heap.size + 1; omega) _).setCell (by show w.heap.size ≤ w.heap.size + 1; omega) _).setCell (by show w.heap.size ≤ w.heap.size + 1; omega) _).setCell (by show w.heap.size ≤ w.heap.size + 1; omega) _⟩
set_option maxHeartbeats 1600000 in
set_option maxRecDepth 100000 in
theorem claimOfH_any (h : Int) (h0 : 0 ≤ h) (h1 : h ≤ 2) (ad : Option Addr) (cap : Nat) (zs : List Int) (p : Nat) (k : Int) (w : World) (hz : Ints w ad zs) (hv : ∀ z ∈ zs, 0 ≤ z ∧ z ≤ 1000000) (hp : p < zs.length) (k0 : 0 ≤ k) (k1 : k ≤ 1000) :
    Calls Try.prog 63 #[conV ad zs.length cap (.func (.func 84) #[.int .i64 h] #[]), .int .i64 p, .int .i64 k] w fun e w' =>
      e = .returned (cV p k (zs.getD p 0) (wd (zs.getD p 0) (2 * k + h))) ∧ Keep w w' := by
  rcases hz.at_ with h9 | ⟨b, off, rfl, hb, hc⟩
  · subst h9; simp at hp
  have hcx := hc p hp
  have hx := hv _ (getD_mem zs p hp)
  clear hc
  generalize zs.getD p 0 = x at hcx hx ⊢
  unfold conV
  have k1w : Keep w ((w.alloc (.cells #[.slice (some ⟨b, off, none⟩) zs.length cap, .func (.func 84) #[.int .i64 h] #[]] 75)).alloc (.cells #[.int .i64 0, .int .i64 0, .int .i64 0, .int .i64 0] 84)) := by go_grown
  have hF : Four ((w.alloc (.cells #[.slice (some ⟨b, off, none⟩) zs.length cap, .func (.func 84) #[.int .i64 h] #[]] 75)).alloc (.cells #[.int .i64 0, .int .i64 0, .int .i64 0, .int .i64 0] 84)) (w.heap.size + 1) (.int .i64 0) (.int .i64 0) (.int .i64 0) (.int .i64 0) :=
    ⟨by simp, by simp, by simp, by simp, by simp, by simp, by simp, by simp⟩
  have d0 : ((w.alloc (.cells #[.slice (some ⟨b, off, none⟩) zs.length cap, .func (.func 84) #[.int .i64 h] #[]] 75)).alloc (.cells #[.int .i64 0, .int .i64 0, .int .i64 0, .int .i64 0] 84)).cell? ⟨w.heap.size, 0, none⟩ = some (.slice (some ⟨b, off, none⟩) zs.length cap) := by simp
  have d1 : ((w.alloc (.cells #[.slice (some ⟨b, off, none⟩) zs.length cap, .func (.func 84) #[.int .i64 h] #[]] 75)).alloc (.cells #[.int .i64 0, .int .i64 0, .int .i64 0, .int .i64 0] 84)).cell? ⟨w.heap.size, 1, none⟩ = some (.func (.func 84) #[.int .i64 h] #[]) := by simp
  have hsz : ((w.alloc (.cells #[.slice (some ⟨b, off, none⟩) zs.length cap, .func (.func 84) #[.int .i64 h] #[]] 75)).alloc (.cells #[.int .i64 0, .int .i64 0, .int .i64 0, .int .i64 0] 84)).heap.size = w.heap.size + 2 := by simp
  have HCT := Lib.hid (And.intro hF (And.intro d0 (And.intro d1 ((k1w.cell (p := ⟨b, off + p, none⟩) hb).trans hcx))))
  have HK := Lib.hid k1w
  clear hF d0 d1 k1w hcx
  go_enter Try.func63, Try.ntmps63
  go_wp2
  generalize (w.alloc (.cells #[.slice (some ⟨b, off, none⟩) zs.length cap, .func (.func 84) #[.int .i64 h] #[]] 75)).alloc (.cells #[.int .i64 0, .int .i64 0, .int .i64 0, .int .i64 0] 84) = wa at *
  obtain ⟨hF, d0, d1, d2⟩ := HCT.out
  go_region_law
    (first
      | (refine at_tmp 10 _ _ rfl ?_; go_simp
         refine (halvesAt_any h x k _ h0 h1 k0 k1).mono ?_; rintro e w2 ⟨rfl, k2⟩
         have hbel2 : Keep wa w2 := Keep.next (by go_grown) k2
         have hF2 := HCT.out.1.keep hbel2 (by omega)
         have HFS := Lib.hid (hF2.set (.int .i64 p) (.int .i64 k) (.int .i64 x) (.int .i64 (wd x (2 * k + h))))
         obtain ⟨c0, c1, c2, c3, f0, f1, f2, f3⟩ := hF2
         unfold wV))
  all_goals
    go_wp2
    refine bodyPost_ret (v := cV p k x (wd x (2 * k + h))) (by simp [results, Try.results63, go_sem, cV, HFS.out.c0, HFS.out.c1, HFS.out.c2, HFS.out.c3]) rfl ?_
    have h9 := Keep.next HK.out hbel2
    exact ⟨rfl, (((h9.setCell (by show w.heap.size ≤ w.heap.size + 1; omega) _).setCell (by show w.heap.size ≤ w.heap.size + 1; omega) _).setCell (by show w.heap.size ≤ w.heap.size + 1; omega) _).setCell (by show w.heap.size ≤ w.heap.size + 1; omega) _⟩
end Go.Proofs.Ytmdapfjafocdnaa
