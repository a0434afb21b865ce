/- Differences of running sums that are rounded. -/
import Derived.Test.YtlenmhefgpcmmaaRuns
import Derived.Deep.RegionHeld3
namespace Go.Proofs.Ytlenmhefgpcmmaa
open Go.ChangeShapes Go.WideShapes Go.ChangeAt Go.RowKit
set_option linter.unusedVariables false
def pdL (φ : Int → Int → Int) (g : Int) (zs : List Int) : List Int := (List.range zs.length).map fun k => φ (zs.take (k + 1)).sum g - φ (zs.take k).sum g
def pdV (φ : Int → Int → Int) (g : Int) (zs : List Int) : List Int := if okV g zs then pdL φ g zs else []
theorem pdL_len (φ : Int → Int → Int) (g : Int) (zs : List Int) : (pdL φ g zs).length = zs.length := by simp [pdL]
theorem pdL_get (φ : Int → Int → Int) (g : Int) (zs : List Int) (k : Nat) (h : k < zs.length) : (pdL φ g zs).getD k 0 = φ (zs.take (k + 1)).sum g - φ (zs.take k).sum g := by simp [pdL, List.getD_eq_getElem?_getD, h]
theorem pdL_step (φ : Int → Int → Int) (g : Int) (zs : List Int) (k : Nat) (h : k < zs.length) : (pdL φ g zs).take (k + 1) = (pdL φ g zs).take k ++ [φ (zs.take (k + 1)).sum g - φ (zs.take k).sum g] := by
  rw [take_succ_getD _ k (by rw [pdL_len]; exact h), pdL_get φ g zs k h]
theorem okV_psum {g : Int} {zs : List Int} (h : okV g zs = true) (k : Nat) : -40000000 ≤ (zs.take k).sum ∧ (zs.take k).sum ≤ 40000000 := by
  have := sum_take_bd 1000000 40 (by omega) zs (okV_num h) (by have := okV_len h; omega) k; omega
theorem grown_cell {a b : World} {c : Nat} (h : a.grownBy b (some c)) (B off : Nat) (h1 : B < a.heap.size) (h2 : B ≠ c) : b.cell? ⟨B, off, none⟩ = a.cell? ⟨B, off, none⟩ :=
  World.cell?_of_block (h.block B h1 (fun e => h2 (by cases e; rfl)))
theorem fl_zero {g : Int} (h : 1 ≤ g) : fl 0 g = 0 := by unfold fl; simp
theorem ne_zero {g : Int} (h : 1 ≤ g) : ne 0 g = 0 := by unfold ne; simp; omega
theorem fl_bd1 {a b M : Int} (hb : 1 ≤ b) (h1 : -M ≤ a) (h2 : a ≤ M) (hM : 0 ≤ M) : -M ≤ fl a b ∧ fl a b ≤ M + 1 := by have := fl_bd hb h1 h2 hM; omega
set_option maxHeartbeats 1600000 in
theorem prefixDifferences_any (φ : Int → Int → Int) (F : Nat) (g : Int) (ad : Option Addr) (cap : Nat) (zs : List Int) (w : World) (hz : Ints w ad zs)
    (h0 : ∀ g, 1 ≤ g → φ 0 g = 0) (hb : ∀ a g, 1 ≤ g → -40000000 ≤ a → a ≤ 40000000 → -40000000 ≤ φ a g ∧ φ a g ≤ 40000001)
    (hf : ∀ x s W b1 b2 c, okV g zs = true → -40000000 ≤ x → x ≤ 40000000 → -40000000 ≤ s → s ≤ 40000001 → W.cell? ⟨b1, 0, none⟩ = some (.func (.func F) #[] #[]) → W.cell? ⟨b2, 0, none⟩ = some (.int .i64 g) → Go.Boxed W c 2 (.int .i64 s) →
      Calls Try.prog 61 #[.int .i64 x, .pointer (some ⟨b1, 0, none⟩), .pointer (some ⟨b2, 0, none⟩), .pointer (some ⟨c, 0, none⟩)] W fun e w' => e = .returned (.int .i64 (φ x g - s)) ∧ w' = W.setCell ⟨c, 0, none⟩ (.int .i64 (φ x g))) :
    Calls Try.prog 38 #[valV g ad zs.length cap, .func (.func F) #[] #[]] w fun e w' =>
      ∃ rd rc, e = .returned (.tuple #[.slice rd (pdV φ g zs).length rc, .bool (okV g zs)]) ∧ Own w' w.heap.size rd rc (pdV φ g zs) ∧ Keep w w' := by
  have HF := Lib.hid hf; have H0 := Lib.hid h0; have HBD := Lib.hid hb; clear hf h0 hb
  have B0 : Box ((w.alloc (.cells #[.int .i64 g, .slice ad zs.length cap] 29)).alloc (.cells #[.func (.func F) #[] #[]] 51)) w.heap.size g ad zs.length cap := ⟨by simp, by simp, by simp; omega⟩
  have F0 : ((w.alloc (.cells #[.int .i64 g, .slice ad zs.length cap] 29)).alloc (.cells #[.func (.func F) #[] #[]] 51)).cell? ⟨w.heap.size + 1, 0, none⟩ = some (.func (.func F) #[] #[]) := by simp
  have HX := Lib.hid (And.intro B0 F0); clear B0 F0
  cases hok : okV g zs
  · rw [show pdV φ g zs = [] from by simp [pdV, hok]]
    go_enter Try.func38, Try.ntmps38
    go_wp2_with fail
    refine (ValidValues_any g ad cap zs _ (hz.keep (B := _) (by go_grown) (Nat.le_refl _))).mono ?_
    rw [hok]
    rintro e w1 ⟨rfl, k1⟩
    have g1 : Keep w w1 := Keep.next (by go_grown) k1
    go_wp2
    go_ret2
    exact ⟨none, 0, rfl, Own.nil _ _, g1⟩
  · have hl := okV_len hok
    have hg := okV_den hok
    have HN := Lib.hid (okV_num hok)
    have HPS := Lib.hid (fun k => okV_psum hok k)
    have HOK := Lib.hid hok
    rw [show pdV φ g zs = pdL φ g zs from by simp [pdV, hok]]
    go_enter Try.func38, Try.ntmps38
    go_wp2_with fail
    refine (ValidValues_any g ad cap zs _ (hz.keep (B := _) (by go_grown) (Nat.le_refl _))).mono ?_
    rw [hok]
    clear hok
    rintro e w1 ⟨rfl, k1⟩
    have g1 : Keep w w1 := Keep.next (by go_grown) k1
    have b1 := HX.out.1.keep k1
    have f1 := (k1.cell (p := ⟨w.heap.size + 1, 0, none⟩) (by simp)).trans HX.out.2
    have hf1 := World.block_lt_of_cell? _ _ f1
    clear k1
    obtain ⟨c0, c1, cl⟩ := b1
    have HB := Lib.hid (And.intro (Box.mk c0 c1 cl) f1)
    have hz1 := hz.keep g1 (Nat.le_refl _)
    have HBX := Lib.hid (Go.Boxed.new w1 2 (.int .i64 0))
    have ka : Keep w1 (w1.alloc (.cells #[.int .i64 0] 2)) := by go_grown
    have hsa : (w1.alloc (.cells #[.int .i64 0] 2)).heap.size = w1.heap.size + 1 := by simp
    have d1 : (w1.alloc (.cells #[.int .i64 0] 2)).cell? ⟨w.heap.size, 1, none⟩ = some (.slice ad zs.length cap) := (HB.out.1.keep ka).c1
    have HKA := Lib.hid ka
    clear f1 c0 ka
    go_wp2_with fail
    generalize hwa : w1.alloc (.cells #[.int .i64 0] 2) = wa at *
    clear hwa
    refine (runningSums_any ad cap zs _ (hz1.keep HKA.out (Nat.le_refl _)) hl (fun z hz => by have := HN.out z hz; omega)).mono ?_
    rintro e w2 ⟨rd, rc, rfl, o2, k2⟩
    have g2 : Keep w1 w2 := HKA.out.next k2
    have HB2 := Lib.hid (And.intro (HB.out.1.keep g2) ((g2.cell (p := ⟨w.heap.size + 1, 0, none⟩) hf1).trans HB.out.2))
    have hbx2 : Go.Boxed w2 w1.heap.size 2 (.int .i64 0) := HBX.out.kept (keep_grown k2 none) (by simp)
    have hs2 := g2.size
    have hso : w1.heap.size < wa.heap.size := by omega
    have hpl := preS_len zs
    have HPL := Lib.hid hpl; clear hpl
    have HK2 := Lib.hid (g1.next g2)
    clear g1 g2 k2 d1
    go_wp2_with fail
    refine (mappedPre_any w1.heap.size (fun k => φ (zs.take k).sum g) (pdL φ g zs) _ _ _ rd rc (preS zs) w2 (by rw [pdL_len, HPL.out]) (by rw [HPL.out]; omega) (fun z hz => ?_) (by simpa [H0.out g hg.1] using hbx2) (fun W gr => (o2.grown gr hso).ints) (fun k hk W gr hx x e => ?_)).mono ?_
    · unfold pdL at hz
      obtain ⟨k, hk, rfl⟩ := List.mem_map.1 hz
      have p1 := HPS.out k
      have p2 := HPS.out (k + 1)
      have q1 := HBD.out _ g hg.1 p1.1 p1.2
      have q2 := HBD.out _ g hg.1 p2.1 p2.2
      exact ⟨by omega, by omega⟩
    · have hk2 : k < zs.length := by rw [HPL.out] at hk; exact hk
      have p1 := HPS.out k
      have p2 := HPS.out (k + 1)
      have q1 := HBD.out _ g hg.1 p1.1 p1.2
      have hxe : x = (zs.take (k + 1)).sum := by rw [e, preS_get zs k hk2]
      rw [pdL_get φ g zs k hk2, hxe]
      have hne1 : w.heap.size + 1 ≠ w1.heap.size := by omega
      have hne2 : w.heap.size ≠ w1.heap.size := by omega
      have hlt1 := World.block_lt_of_cell? _ _ HB2.out.2
      exact HF.out _ _ W (w.heap.size + 1) w.heap.size w1.heap.size HOK.out p2.1 p2.2 q1.1 q1.2 ((grown_cell gr _ 0 hlt1 hne1).trans HB2.out.2) ((grown_cell gr _ 0 (by omega) hne2).trans HB2.out.1.c0) hx
    rintro e w3 ⟨rd3, rc3, rfl, o3, g3⟩
    have hw := HK2.out.size
    have k3 : Keep w w3 := HK2.out.grown g3 hw (fun k e => by cases e; omega)
    have o4 := o3.mono (B' := w.heap.size) hw
    go_wp2
    go_ret2
    exact ⟨rd3, rc3, rfl, o4, k3⟩
theorem closP_fl (x s g : Int) (b1 b2 c : Nat) (w : World) (c1 : w.cell? ⟨b1, 0, none⟩ = some (.func (.func 37) #[] #[])) (c2 : w.cell? ⟨b2, 0, none⟩ = some (.int .i64 g)) (hb : Go.Boxed w c 2 (.int .i64 s)) (hg : 1 ≤ g) (hg2 : g ≤ 1000) (hx : -40000000 ≤ x) (hx2 : x ≤ 40000000) (h1 : -40000000 ≤ s) (h2 : s ≤ 40000001) :
    Calls Try.prog 61 #[.int .i64 x, .pointer (some ⟨b1, 0, none⟩), .pointer (some ⟨b2, 0, none⟩), .pointer (some ⟨c, 0, none⟩)] w fun e w' => e = .returned (.int .i64 (fl x g - s)) ∧ w' = w.setCell ⟨c, 0, none⟩ (.int .i64 (fl x g)) := by
  have c0 := hb.cell
  have f0 := hb.frozen
  have hbd := fl_bd1 (a := x) (b := g) (M := 40000000) hg hx hx2 (by omega)
  go_enter Try.func61, Try.ntmps61
  go_wp2_with (go_at_call 37; refine (floorOf_any x g _ (by omega) (by omega) (by omega) (by omega)).mono ?_; rintro e w' ⟨rfl, rfl⟩)
  go_ret
  exact ⟨rfl, rfl⟩
set_option maxHeartbeats 1600000 in
theorem PrefixFloors_any (g : Int) (ad : Option Addr) (cap : Nat) (zs : List Int) (w : World) (hz : Ints w ad zs) :
    Calls Try.prog 14 #[valV g ad zs.length cap] w fun e w' =>
      ∃ rd rc, e = .returned (.tuple #[.slice rd (pdV fl g zs).length rc, .bool (okV g zs)]) ∧ Own w' w.heap.size rd rc (pdV fl g zs) ∧ Keep w w' := by
  go_enter Try.func14, Try.ntmps14
  go_wp2_with fail
  refine (prefixDifferences_any fl 37 g ad cap zs _ (hz.keep (B := _) (by go_grown) (Nat.le_refl _)) (fun g h => fl_zero h) (fun a g h1 h2 h3 => fl_bd1 (M := 40000000) h1 h2 h3 (by omega)) (fun x s W b1 b2 c hok x1 x2 s1 s2 c1 c2 hb => ?_)).mono ?_
  · have hg := okV_den hok
    exact closP_fl x s g b1 b2 c W c1 c2 hb hg.1 hg.2 x1 x2 s1 s2
  rintro e w1 ⟨rd, rc, rfl, ho, hk⟩
  have hk1 : Keep w w1 := Keep.next (by go_grown) hk
  have ho1 := ho.mono (B' := w.heap.size) (by simp)
  go_wp2
  go_ret2
  exact ⟨rd, rc, rfl, ho1, hk1⟩
theorem closP_ne (x s g : Int) (b1 b2 c : Nat) (w : World) (c1 : w.cell? ⟨b1, 0, none⟩ = some (.func (.func 53) #[] #[])) (c2 : w.cell? ⟨b2, 0, none⟩ = some (.int .i64 g)) (hb : Go.Boxed w c 2 (.int .i64 s)) (hg : 1 ≤ g) (hg2 : g ≤ 1000) (hx : -40000000 ≤ x) (hx2 : x ≤ 40000000) (h1 : -40000000 ≤ s) (h2 : s ≤ 40000001) :
    Calls Try.prog 61 #[.int .i64 x, .pointer (some ⟨b1, 0, none⟩), .pointer (some ⟨b2, 0, none⟩), .pointer (some ⟨c, 0, none⟩)] w fun e w' => e = .returned (.int .i64 (ne x g - s)) ∧ w' = w.setCell ⟨c, 0, none⟩ (.int .i64 (ne x g)) := by
  have c0 := hb.cell
  have f0 := hb.frozen
  have hbd := ne_bd (a := x) (b := g) (M := 40000000) hg hx hx2 (by omega)
  go_enter Try.func61, Try.ntmps61
  go_wp2_with (go_at_call 53; refine (nearestOf_any x g _ (by omega) (by omega) (by omega) (by omega)).mono ?_; rintro e w' ⟨rfl, rfl⟩)
  go_ret
  exact ⟨rfl, rfl⟩
set_option maxHeartbeats 1600000 in
theorem PrefixNearest_any (g : Int) (ad : Option Addr) (cap : Nat) (zs : List Int) (w : World) (hz : Ints w ad zs) :
    Calls Try.prog 31 #[valV g ad zs.length cap] w fun e w' =>
      ∃ rd rc, e = .returned (.tuple #[.slice rd (pdV ne g zs).length rc, .bool (okV g zs)]) ∧ Own w' w.heap.size rd rc (pdV ne g zs) ∧ Keep w w' := by
  go_enter Try.func31, Try.ntmps31
  go_wp2_with fail
  refine (prefixDifferences_any ne 53 g ad cap zs _ (hz.keep (B := _) (by go_grown) (Nat.le_refl _)) (fun g h => ne_zero h) (fun a g h1 h2 h3 => ne_bd (M := 40000000) h1 h2 h3 (by omega)) (fun x s W b1 b2 c hok x1 x2 s1 s2 c1 c2 hb => ?_)).mono ?_
  · have hg := okV_den hok
    exact closP_ne x s g b1 b2 c W c1 c2 hb hg.1 hg.2 x1 x2 s1 s2
  rintro e w1 ⟨rd, rc, rfl, ho, hk⟩
  have hk1 : Keep w w1 := Keep.next (by go_grown) hk
  have ho1 := ho.mono (B' := w.heap.size) (by simp)
  go_wp2
  go_ret2
  exact ⟨rd, rc, rfl, ho1, hk1⟩
end Go.Proofs.Ytlenmhefgpcmmaa
