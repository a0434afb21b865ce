/- Bounds of sums, floors and rests: the model's side. -/
import Derived.Test.YtgpjjgfechjbfaaDivs
import Derived.Test.YtgpjjgfechjbfaaSums
namespace Go.Proofs.Ytgpjjgfechjbfaa
open Go.ChangeShapes Go.WideShapes Go.ChangeAt Go.RowKit
set_option linter.unusedVariables false
/-- The sum of values that are rounded. -/
def sumR (φ : Int → Int → Int) (g : Int) (zs : List Int) : Int := (zs.map fun z => φ z g).sum
theorem sumR_step (φ : Int → Int → Int) (g : Int) (zs : List Int) (k : Nat) (h : k < zs.length) : sumR φ g (zs.take (k + 1)) = sumR φ g (zs.take k) + φ (zs.getD k 0) g := by
  unfold sumR; rw [take_map_succ (fun z => φ z g) zs k h, List.sum_append, List.sum_cons, List.sum_nil, Int.add_zero]
theorem sumR_bd (φ : Int → Int → Int) (g : Int) (zs : List Int) (hφ : ∀ z ∈ zs, -1000001 ≤ φ z g ∧ φ z g ≤ 1000001) (k : Nat) (hk : k ≤ zs.length) : -(1000001 * (k : Int)) ≤ sumR φ g (zs.take k) ∧ sumR φ g (zs.take k) ≤ 1000001 * (k : Int) := by
  induction k with
  | zero => simp [sumR]
  | succ k ih =>
    have h1 := ih (by omega)
    have h2 := hφ _ (getD_mem zs k (by omega))
    rw [sumR_step φ g zs k (by omega)]; omega
set_option maxHeartbeats 1600000 in
theorem l04Bounds_any (Bv : Nat) (g : Int) (ad : Option Addr) (cap : Nat) (zs : List Int) (w : World) (hz1 : Ints w ad zs) (h1 : okV g zs = true)
    (c0 : w.cell? ⟨Bv, 0, none⟩ = some (.int .i64 g)) (c1 : w.cell? ⟨Bv, 1, none⟩ = some (.slice ad zs.length cap)) :
    Calls Try.prog 92 #[.pointer (some ⟨Bv, 0, none⟩)] w fun e w' => e = .returned (.tuple #[.int .i64 (sumR fl g zs), .int .i64 (sumR ce g zs)]) ∧ Keep w w' := by
  have hlen := hz1.small
  have dg := okV_den h1
  have l40 := okV_len h1
  have N1 := Lib.hid (okV_num h1)
  have HF := Lib.hid (fun k hk => sumR_bd fl g zs (fun z hz => by have h := N1.out z hz; have := fl_bd (a := z) (b := g) (M := 1000000) dg.1 h.1 h.2 (by omega); omega) k hk)
  have HC := Lib.hid (fun k hk => sumR_bd ce g zs (fun z hz => by have h := N1.out z hz; have := ce_bd (a := z) (b := g) (M := 1000000) dg.1 h.1 h.2 (by omega); omega) k hk)
  have HFS := Lib.hid (fun k hk => sumR_step fl g zs k hk)
  have HCS := Lib.hid (fun k hk => sumR_step ce g zs k hk)
  have cl := World.block_lt_of_cell? _ _ c0
  have HX := Lib.hid (Box.mk c0 c1 cl)
  clear c0 c1
  obtain ⟨q0, q1, q2⟩ := HX.out
  go_enter Try.func92, Try.ntmps92
  go_wp2
  go_loopw [4, 5, 6] (fun lo hi i wr => ∃ k : Nat, k ≤ zs.length ∧ i = .int .i64 k ∧ lo = .int .i64 (sumR fl g (zs.take k)) ∧ hi = .int .i64 (sumR ce g (zs.take k)) ∧ Keep w wr)
    (fun _ _ i _ => zs.length - (intOf i).toNat)
  case atStart => exact ⟨0, Nat.zero_le _, rfl, by simp [sumR], by simp [sumR], Below.refl _ _⟩
  case round =>
    obtain ⟨k, hk, rfl, rfl, rfl, hbel⟩ := hrel
    obtain ⟨r0, r1, r2⟩ := HX.out.keep hbel
    by_cases hlt : k < zs.length
    · rcases (hz1.keep hbel (Nat.le_refl _)).at_ with h | ⟨b, off, rfl, hb, hc⟩
      · subst h; simp at hlt
      have hcx := hc k hlt
      have nx := N1.out _ (getD_mem zs k hlt)
      have f1 := HF.out k hk
      have f2 := HC.out k hk
      have S1 := Lib.hid (HFS.out k hlt)
      have S2 := Lib.hid (HCS.out k hlt)
      clear hc
      generalize zs.getD k 0 = x at hcx nx S1 S2
      generalize sumR fl g (zs.take k) = s1 at f1 S1
      generalize sumR ce g (zs.take k) = s2 at f2 S2
      have b1 := fl_bd (a := x) (b := g) (M := 1000000) dg.1 nx.1 nx.2 (by omega)
      have b2 := ce_bd (a := x) (b := g) (M := 1000000) dg.1 nx.1 nx.2 (by omega)
      go_wp2
      go_quiet ((go_at_call 60; exact Calls.quiet_of_same ((l01Floor_any _ _ _ (by omega) (by omega) (by omega) (by omega)).mono fun _ _ h => ⟨h.1, h.2.symm⟩)))
      have hbel2 := below_drewN hbel nq
      have r0' := (HX.out.keep hbel2).c0
      have r1' := (HX.out.keep hbel2).c1
      have hcx' : (wr.drewN nq).cell? ⟨b, off + k, none⟩ = some (.int .i64 x) := hcx
      generalize wr.drewN nq = wd at *
      clear r0 r1 r2 hcx
      go_wp2
      go_quiet ((go_at_call 62; exact Calls.quiet_of_same ((l01Ceil_any _ _ _ (by omega) (by omega) (by omega) (by omega)).mono fun _ _ h => ⟨h.1, h.2.symm⟩)))
      go_wp2
      go_roundw
      case rel => exact ⟨k + 1, by omega, by go_num, by rw [S1.out], by rw [S2.out], below_drewN hbel2 _⟩
      case measure => simp [intOf]; omega
    · have HE := Lib.hid (show k = zs.length from by omega)
      go_wp2
      go_ret2
      exact ⟨by rw [HE.out, List.take_length]; rfl, hbel⟩
def sbV (φ : Int → Int → Int) (g : Int) (zs : List Int) : Int := if okV g zs then sumR φ g zs else 0
theorem specSumBounds_any (g : Int) (ad : Option Addr) (cap : Nat) (zs : List Int) (w : World) (hz : Ints w ad zs) :
    Calls Try.prog 43 #[valV g ad zs.length cap] w fun e w' => e = .returned (.tuple #[.int .i64 (sbV fl g zs), .int .i64 (sbV ce g zs), .bool (okV g zs)]) ∧ Keep w w' := by
  cases h1 : okV g zs
  · rw [show sbV fl g zs = 0 from by simp [sbV, h1], show sbV ce g zs = 0 from by simp [sbV, h1]]
    go_enter Try.func43, Try.ntmps43
    go_wp2_with fail
    refine (l01Is_any w.heap.size g ad cap zs _ (hz.keep (B := _) (by go_grown) (Nat.le_refl _)) (by simp) (by simp)).mono ?_
    rw [h1]
    rintro e w1 ⟨rfl, rfl⟩
    go_wp2
    refine bodyPost_ret (v := .tuple #[.int .i64 0, .int .i64 0, .bool false]) (by simp [results, Try.results43, go_sem]) rfl ?_
    exact ⟨rfl, by go_grown⟩
  · rw [show sbV fl g zs = sumR fl g zs from by simp [sbV, h1], show sbV ce g zs = sumR ce g zs from by simp [sbV, h1]]
    go_enter Try.func43, Try.ntmps43
    go_wp2_with fail
    refine (l01Is_any w.heap.size g ad cap zs _ (hz.keep (B := _) (by go_grown) (Nat.le_refl _)) (by simp) (by simp)).mono ?_
    rw [h1]
    rintro e w1 ⟨rfl, rfl⟩
    go_wp2_with fail
    refine (l04Bounds_any w.heap.size g ad cap zs _ (hz.keep (B := _) (by go_grown) (Nat.le_refl _)) h1 (by simp) (by simp)).mono ?_
    rintro e w2 ⟨rfl, k2⟩
    have g2 : Keep w w2 := Keep.next (by go_grown) k2
    go_wp2
    refine bodyPost_ret (v := .tuple #[.int .i64 (sumR fl g zs), .int .i64 (sumR ce g zs), .bool true]) (by simp [results, Try.results43, go_sem]) rfl ?_
    exact ⟨rfl, g2⟩
end Go.Proofs.Ytgpjjgfechjbfaa
