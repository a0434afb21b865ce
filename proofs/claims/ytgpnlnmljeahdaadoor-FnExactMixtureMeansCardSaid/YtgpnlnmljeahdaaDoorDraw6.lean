/- Drawing from a mixture, pairs: the model's side. -/
import Derived.Test.YtgpnlnmljeahdaaDoorMix6
import Derived.Test.YtgpnlnmljeahdaaDoorCopyL
namespace Go.Proofs.YtgpnlnmljeahdaaDoor
open Go.ChangeShapes Go.WideShapes Go.ChangeAt Go.RowKit Go.Deep
set_option linter.unusedVariables false
/-- In which weight a ticket lies. -/
def drawI (us : List Int) (n : Int) : Nat := ((List.range us.length).find? fun k => decide (n < (us.take (k + 1)).sum)).getD 0
def drawB (us : List Int) (zss : List (List Int)) (n : Int) : Bool := mixB us zss && (decide (0 ≤ n) && decide (n < us.sum))
def drawV (us : List Int) (zss : List (List Int)) (n : Int) : List Int := if drawB us zss n then zss.getD (drawI us n) [] else []
theorem drawI_at {us : List Int} {n : Int} {k : Nat} (hk : k < us.length) (h : n < (us.take (k + 1)).sum) (ho : ∀ j, j < k → (us.take (j + 1)).sum ≤ n) : drawI us n = k := by
  unfold drawI
  have : (List.range us.length).find? (fun k => decide (n < (us.take (k + 1)).sum)) = some k := by
    rw [List.find?_range_eq_some]
    refine ⟨by simpa using h, List.mem_range.2 hk, fun j hj => by have := ho j hj; simp; omega⟩
  rw [this]; rfl
theorem sum_mono {us : List Int} (h : ∀ k, k < us.length → 1 ≤ us.getD k 0 ∧ us.getD k 0 ≤ 1000000) : ∀ d k, k + d ≤ us.length → (us.take k).sum ≤ (us.take (k + d)).sum := by
  intro d
  induction d with
  | zero => intro k _; exact Int.le_refl _
  | succ d ih =>
    intro k hk
    have h1 := ih k (by omega)
    have h2 := h (k + d) (by omega)
    rw [show k + (d + 1) = (k + d) + 1 from by omega, sum_take_succ us (k + d) (by omega)]
    omega
theorem drawB_yes {us : List Int} {zss : List (List Int)} {n : Int} {k : Nat} (hm : mixB us zss = true) (h0 : 0 ≤ n) (hk : k < us.length) (h : n < (us.take (k + 1)).sum) : drawB us zss n = true := by
  have hs := mix_size hm
  have hr := sum_mono (us := us) (fun j hj => (mix_row hm (by omega)).1) (us.length - (k + 1)) (k + 1) (by omega)
  rw [show k + 1 + (us.length - (k + 1)) = us.length from by omega, List.take_length] at hr
  unfold drawB
  rw [hm, decide_eq_true h0, decide_eq_true (by omega)]; rfl
theorem drawB_no {us : List Int} {zss : List (List Int)} {n : Int} (hm : mixB us zss = true) (ho : ∀ j, j < us.length → (us.take (j + 1)).sum ≤ n) : drawB us zss n = false := by
  have hs := mix_size hm
  have := ho (us.length - 1) (by omega)
  rw [show us.length - 1 + 1 = us.length from by omega, List.take_length] at this
  unfold drawB
  have hq : ¬ n < us.sum := by omega
  rw [decide_eq_false hq]; simp
set_option maxHeartbeats 1600000 in
set_option maxRecDepth 100000 in
theorem specDrawFrom_any (ad : Option Addr) (cap : Nat) (us : List Int) (bd : Option Addr) (bcap : Nat) (zss : List (List Int)) (n : Int) (w : World) (hz : Ints w ad us) (hzz : Intss w bd zss) (hn : In64 n) :
    Calls Tryd.prog 47 #[mixV ad us.length cap bd zss.length bcap, .int .i64 n] w fun e w' => ∃ rd rc, e = .returned (.tuple #[.slice rd (drawV us zss n).length rc, .bool (drawB us zss n)]) ∧ Own w' w.heap.size rd rc (drawV us zss n) ∧ Keep w w' := by
  have hbl : Keep w (w.alloc (.cells #[.slice ad us.length cap, .slice bd zss.length bcap] 31)) := by go_grown
  have B0 : BoxM (w.alloc (.cells #[.slice ad us.length cap, .slice bd zss.length bcap] 31)) w.heap.size ad us.length cap bd zss.length bcap := ⟨by simp, by simp, by simp⟩
  have HI := Lib.hid (l06Is_any w.heap.size ad cap us bd bcap zss _ (hz.keep hbl (Nat.le_refl _)) (hzz.keep hbl (Nat.le_refl _)) B0.c0 B0.c1)
  have HBX := Lib.hid B0; have HBL := Lib.hid hbl
  have hlu := hz.small
  have hlz := hzz.small
  clear B0 hbl
  cases h1 : mixB us zss
  · have hb : drawB us zss n = false := by unfold drawB; rw [h1]; rfl
    rw [hb, show drawV us zss n = [] from by unfold drawV; rw [hb]; rfl]
    rw [h1] at HI
    go_enter Tryd.func47, Tryd.ntmps47
    go_wp2_with fail
    refine HI.out.mono ?_
    rintro e w1 ⟨rfl, k1⟩
    have g1 := Lib.hid (HBL.out.next k1)
    go_wp2
    go_ret2
    exact ⟨none, 0, rfl, Own.nil _ _, g1.out⟩
  rw [h1] at HI
  by_cases h0 : 0 ≤ n
  case neg =>
    have hb : drawB us zss n = false := by unfold drawB; rw [decide_eq_false h0]; simp
    rw [hb, show drawV us zss n = [] from by unfold drawV; rw [hb]; rfl]
    have hlt : n < 0 := by omega
    go_enter Tryd.func47, Tryd.ntmps47
    go_wp2_with fail
    refine HI.out.mono ?_
    rintro e w1 ⟨rfl, k1⟩
    have g1 := Lib.hid (HBL.out.next k1)
    go_wp2
    go_ret2
    exact ⟨none, 0, rfl, Own.nil _ _, g1.out⟩
  have hnl : ¬ n < 0 := by omega
  have hs := mix_size h1
  have HR := Lib.hid (fun k hk => mix_row h1 (k := k) hk)
  have HL := Lib.hid hs.2.1
  have HSB := Lib.hid (fun k hk => take_sum_bd us zss.length (fun j hj => (HR.out j hj).1) k hk (by rw [HL.out]; exact Nat.le_refl _))
  have HSS := Lib.hid (fun k h => sum_take_succ us k h)
  have HY := Lib.hid (fun k (hk : k < us.length) h => drawB_yes (n := n) h1 h0 hk h)
  have HN := Lib.hid (drawB_no (n := n) h1)
  have HAT := Lib.hid (fun k (hk : k < us.length) h ho => drawI_at (n := n) hk h ho)
  have HV : Hid (∀ b, drawB us zss n = b → drawV us zss n = if b then zss.getD (drawI us n) [] else []) := Lib.hid (fun b hb => by unfold drawV; rw [hb])
  have h64 : zss.length ≤ 64 := hs.1.2
  have h40 : (zss.getD 0 []).length ≤ 40 := hs.2.2.1
  have hn1 := hn.1; have hn2 := hn.2
  clear hs h1
  generalize drawV us zss n = V at *
  generalize drawB us zss n = Bo at *
  generalize drawI us n = I at *
  go_enter Tryd.func47, Tryd.ntmps47
  go_wp2_with fail
  refine HI.out.mono ?_
  rintro e w1 ⟨rfl, k1⟩
  have HB1 := Lib.hid (HBX.out.keep k1)
  have HK1 := Lib.hid (HBL.out.next k1)
  clear k1
  obtain ⟨e0, e1, _⟩ := HB1.out
  have hz1 := hz.keep HK1.out (Nat.le_refl _)
  have hzz1 := hzz.keep HK1.out (Nat.le_refl _)
  go_wp2
  go_loop [1, 6] (fun t i => ∃ k : Nat, k ≤ zss.length ∧ i = .int .i64 k ∧ t = .int .i64 (n - (us.take k).sum) ∧ Hid (∀ j, j < k → (us.take (j + 1)).sum ≤ n)) (fun _ i => zss.length - (intOf i).toNat)
  case atStart => exact ⟨0, Nat.zero_le _, rfl, by simp, Lib.hid (fun j h => by omega)⟩
  case round =>
    obtain ⟨k, hk, rfl, rfl, HO⟩ := hrel
    have hsb := HSB.out k hk
    by_cases hlt : k < zss.length
    · have hku : k < us.length := by rw [HL.out]; exact hlt
      rcases hz1.at_ with h | ⟨b2, off2, rfl, hb2, hc2⟩
      · rw [h] at hku; simp at hku
      rcases hzz1.at_ with h | ⟨b, off, rfl, hb, hc⟩
      · rw [h] at hlt; simp at hlt
      have hcu := hc2 k hku
      obtain ⟨p, d, hcx, hd, hi⟩ := hc k hlt
      have hub := (HR.out k hlt).1
      have HK := Lib.hid (HSS.out k hku)
      have HYk := Lib.hid (HY.out k hku); have HATk := Lib.hid (HAT.out k hku)
      have hdl : (zss.getD 0 []).length = (zss.getD 0 []).length := rfl
      have HOW := Lib.hid (l00Own_any p d (zss.getD k []) w1 hi)
      have HLEN : Hid ((zss.getD k []).length ≤ 1048576) := Lib.hid (by have := (HR.out k hlt).2.1; omega)
      clear hc hc2 hi hdl
      have HZK : Hid (I = k → zss.getD I [] = zss.getD k []) := Lib.hid (fun h => by rw [h])
      generalize us.getD k 0 = u at *
      generalize (us.take k).sum = S at *
      generalize zss.getD k [] = zk at *
      by_cases hlt2 : n - S < u
      · have hsum : n < (us.take (k + 1)).sum := by rw [HK.out]; omega
        have hB := HYk.out hsum
        have hI := HATk.out hsum HO.out
        have HVV : Hid (V = zk ∧ Bo = true) := Lib.hid ⟨by rw [HV.out true hB]; exact HZK.out hI, hB⟩
        clear hB hI hsum
        go_wp2_with fail
        refine (HOW.out HLEN.out).mono ?_
        rintro e w2 ⟨rd, rc, rfl, o2, k2⟩
        have O2 := Lib.hid (o2.mono (B' := w.heap.size) HK1.out.size)
        have K2 := Lib.hid (HK1.out.next k2)
        clear o2 k2
        go_wp2
        go_ret2
        exact ⟨rd, rc, by rw [HVV.out.1, HVV.out.2]; rfl, by rw [HVV.out.1]; exact O2.out, K2.out⟩
      · go_wp2
        go_round
        case rel => exact ⟨k + 1, by omega, by go_num, by rw [HK.out]; go_num, Lib.hid (fun j hj => by
          by_cases e : j = k
          · subst e; rw [HK.out]; omega
          · exact HO.out j (by omega))⟩
        case measure => simp [intOf]; omega
    · have HB : Hid (Bo = false) := Lib.hid (HN.out (fun j hj => HO.out j (by have := HL.out; omega)))
      have HVV : Hid (V = []) := Lib.hid (by rw [HV.out false HB.out]; rfl)
      go_wp2
      go_ret2
      exact ⟨none, 0, by rw [HVV.out, HB.out]; rfl, by rw [HVV.out]; exact Own.nil _ _, HK1.out⟩
/-- The weight of a pair, so far as the first lists count. -/
def pairT (us : List Int) (zss : List (List Int)) (i a j b : Int) (k : Nat) : Int :=
  ((List.range k).map fun t => if (zss.getD t []).getD i.toNat 0 = a ∧ (zss.getD t []).getD j.toNat 0 = b then us.getD t 0 else 0).sum
def pairB (us : List Int) (zss : List (List Int)) (i j : Int) : Bool := mixB us zss && (inB i 0 (((zss.getD 0 []).length : Int) - 1) && inB j 0 (((zss.getD 0 []).length : Int) - 1))
def pairV (us : List Int) (zss : List (List Int)) (i a j b : Int) : Int := if pairB us zss i j then pairT us zss i a j b zss.length else 0
theorem pairT_succ (us : List Int) (zss : List (List Int)) (i a j b : Int) (k : Nat) : pairT us zss i a j b (k + 1) = pairT us zss i a j b k + (if (zss.getD k []).getD i.toNat 0 = a ∧ (zss.getD k []).getD j.toNat 0 = b then us.getD k 0 else 0) := by
  unfold pairT; rw [List.range_succ, List.map_append, List.sum_append]; simp
theorem pairT_bd {us : List Int} {zss : List (List Int)} (h : mixB us zss = true) (i a j b : Int) : ∀ k, k ≤ zss.length → 0 ≤ pairT us zss i a j b k ∧ pairT us zss i a j b k ≤ 1000000 * (k : Int) := by
  intro k
  induction k with
  | zero => intro _; simp [pairT]
  | succ k ih =>
    intro hk
    have h1 := ih (by omega)
    have h2 := (mix_row h (k := k) (by omega)).1
    rw [pairT_succ]
    split <;> omega
end Go.Proofs.YtgpnlnmljeahdaaDoor
