/- IsTableRounding: the program's side. -/
import Derived.Test.YtjoanfgchapbaabRndI
namespace Go.Proofs.Ytjoanfgchapbaab
open Go.ChangeShapes Go.WideShapes Go.ChangeAt Go.RowKit Go.Deep
set_option linter.unusedVariables false
theorem rnds_sums {g : Int} {zss rss : List (List Int)} (h : elB g zss rss = true) : rndsB g zss rss = sumsB g (zss.getD 0 []).length zss rss := by
  unfold rndsB sumsB
  rw [h, Bool.true_and]
  cases prB g (sumsL zss) (sumsL rss) <;> cases prB g (downL (zss.getD 0 []).length zss) (downL (zss.getD 0 []).length rss) <;> cases rB g (sumsL rss).sum (sumsL zss).sum <;> rfl
theorem areSums_tab (g : Int) (ad : Option Addr) (cap : Nat) (zss : List (List Int)) (rd : Option Addr) (rc : Nat) (rss : List (List Int)) (w : World) (hz : Intss w ad zss) (hr : Intss w rd rss) (hv : tabB g zss = true) (he : elB g zss rss = true) :
    Calls Try.prog 87 #[valV g ad zss.length cap, .slice rd rss.length rc] w fun e w' => e = .returned (.bool (rndsB g zss rss)) ∧ Keep w w' := by
  have hs := tab_size hv
  rw [rnds_sums he]
  exact areSumsRounded_any g ad cap zss rd rc rss _ w hz hr hs.1 hs.2.1.1 hs.2.1.2 hs.2.2.2 (elB_len he) (fun k hk => tab_row hv hk) (elB_rows hv he)
set_option maxHeartbeats 800000 in
theorem IsTableRounding_any (g : Int) (ad : Option Addr) (cap : Nat) (zss : List (List Int)) (rd : Option Addr) (rc : Nat) (rss : List (List Int)) (w : World) (hz : Intss w ad zss) (hr : Intss w rd rss) :
    Calls Try.prog 46 #[valV g ad zss.length cap, .slice rd rss.length rc] w fun e w' => e = .returned (.bool (isTB g zss rss)) ∧ Keep w w' := by
  have hbl : Keep w (w.alloc (.cells #[.int .i64 g, .slice ad zss.length cap] 49)) := by go_grown
  have B0 : Box (w.alloc (.cells #[.int .i64 g, .slice ad zss.length cap] 49)) w.heap.size g ad zss.length cap := ⟨by simp, by simp, by simp⟩
  have HT := Lib.hid (ValidTable_any g ad cap zss (w.alloc (.cells #[.int .i64 g, .slice ad zss.length cap] 49)) (hz.keep hbl (Nat.le_refl _)))
  have HBX := Lib.hid B0; clear B0
  have HBL := Lib.hid hbl; clear hbl
  cases h1 : tabB g zss
  · rw [show isTB g zss rss = false from by simp [isTB, h1]]
    rw [h1] at HT
    go_enter Try.func46, Try.ntmps46
    go_wp2_with fail
    refine HT.out.mono ?_
    rintro e w1 ⟨rfl, k1⟩
    go_wp2
    go_ret
    exact ⟨rfl, HBL.out.next k1⟩
  rw [h1] at HT
  rw [show isTB g zss rss = rndsB g zss rss from by simp [isTB, h1]]
  have HE := Lib.hid (fun W (k : Keep w W) => areElementsRounded_any g ad cap zss rd rc rss W (hz.keep k (Nat.le_refl _)) (hr.keep k (Nat.le_refl _)) h1)
  cases h2 : elB g zss rss
  · rw [show rndsB g zss rss = false from by simp [rndsB, h2]]
    rw [h2] at HE
    go_enter Try.func46, Try.ntmps46
    go_wp2_with fail
    refine HT.out.mono ?_
    rintro e w1 ⟨rfl, k1⟩
    have q0 := (HBX.out.keep k1).c0; have q1 := (HBX.out.keep k1).c1
    have K1 := Lib.hid (HBL.out.next k1)
    go_wp2_with fail
    refine (HE.out _ K1.out).mono ?_
    rintro e w2 ⟨rfl, k2⟩
    go_wp2
    go_ret
    exact ⟨rfl, K1.out.next k2⟩
  rw [h2] at HE
  have HS := Lib.hid (fun W (k : Keep w W) => areSums_tab g ad cap zss rd rc rss W (hz.keep k (Nat.le_refl _)) (hr.keep k (Nat.le_refl _)) h1 h2)
  generalize rndsB g zss rss = V at *
  go_enter Try.func46, Try.ntmps46
  go_wp2_with fail
  refine HT.out.mono ?_
  rintro e w1 ⟨rfl, k1⟩
  have HB1 := Lib.hid (HBX.out.keep k1)
  have q0 := HB1.out.c0; have q1 := HB1.out.c1
  have K1 := Lib.hid (HBL.out.next k1); clear k1
  go_wp2_with fail
  refine (HE.out _ K1.out).mono ?_
  rintro e w2 ⟨rfl, k2⟩
  have HB2 := Lib.hid (HB1.out.keep k2)
  have q2 := HB2.out.c0; have q3 := HB2.out.c1
  have K2 := Lib.hid (K1.out.next k2); clear k2
  go_wp2_with fail
  refine (HS.out _ K2.out).mono ?_
  rintro e w3 ⟨rfl, k3⟩
  have K3 := Lib.hid (K2.out.next k3); clear k3
  go_wp2
  go_ret
  exact ⟨rfl, K3.out⟩
end Go.Proofs.Ytjoanfgchapbaab
