/- Masks: the program's look at one. -/
import Derived.Test.YtjoanfgchapbaaaMsk9
import Derived.Test.YtjoanfgchapbaaaSortI
import Derived.Test.YtjoanfgchapbaaaTabI
namespace Go.Proofs.Ytjoanfgchapbaaa
open Go.ChangeShapes Go.WideShapes Go.ChangeAt Go.RowKit Go.Deep
set_option linter.unusedVariables false
theorem tot_all (m : Nat) : ∀ (zss : List (List Int)), (∀ z ∈ zss, z.length = m) → tot zss = zss.length * m := by
  intro zss
  induction zss with
  | nil => intro _; simp [tot]
  | cons a t ih =>
    intro h
    rw [tot, ih (fun z hz => h z (by simp [hz])), h a (by simp), List.length_cons, Nat.succ_mul]; omega
theorem mem_rows {zss : List (List Int)} {z : List Int} (h : z ∈ zss) : ∃ k, k < zss.length ∧ zss.getD k [] = z := by
  obtain ⟨k, hk, rfl⟩ := List.mem_iff_getElem.1 h
  exact ⟨k, hk, getDD_get zss k hk⟩
theorem mask_grid (zss : List (List Int)) : maskB zss = (gridB 8 63 zss && (decide (zss.flatten.length = zss.length * zss.length) && ordB zss.flatten)) := by
  by_cases h : okM zss
  · obtain ⟨h1, h2, h3, h4⟩ := h
    rw [maskB_yes ⟨h1, h2, h3, h4⟩]
    have hl : zss.flatten.length = zss.length * zss.length := by
      rw [flat_len]
      exact tot_all _ zss (fun z hz => by obtain ⟨k, hk, rfl⟩ := mem_rows hz; exact h2 k hk)
    have hn : zss.length * zss.length ≤ 64 := Nat.le_trans (Nat.mul_le_mul h1.2 h1.2) (by omega)
    have hg : gridB 8 63 zss = true := grid_of zss.length h1.1 (by omega) h1.1 (by omega) (fun k hk => ⟨h2 k hk, fun x hx => by
      have := h3 x (List.mem_flatten.2 ⟨_, (by rw [getDD_get zss k hk]; exact List.getElem_mem hk), hx⟩)
      omega⟩)
    have ho : ordB zss.flatten = true := (ordB_iff _).2 ⟨h4, fun x hx => by rw [hl]; exact h3 x hx⟩
    rw [hg, ho, decide_eq_true hl]; rfl
  · rw [maskB_no h]
    symm
    cases hg : gridB 8 63 zss
    · rfl
    by_cases hl : zss.flatten.length = zss.length * zss.length
    · cases ho : ordB zss.flatten
      · rw [decide_eq_true hl]; rfl
      exfalso
      obtain ⟨o1, o2⟩ := (ordB_iff _).1 ho
      have hs := grid_size hg
      have hr : ∀ k, k < zss.length → (zss.getD k []).length = (zss.getD 0 []).length := fun k hk => (grid_row hg hk).1
      have ht : tot zss = zss.length * (zss.getD 0 []).length := tot_all _ zss (fun z hz => by obtain ⟨k, hk, rfl⟩ := mem_rows hz; exact hr k hk)
      rw [flat_len, ht] at hl
      have he : (zss.getD 0 []).length = zss.length := Nat.eq_of_mul_eq_mul_left (by omega) hl
      exact h ⟨⟨hs.1.1, by omega⟩, fun k hk => (hr k hk).trans he, fun x hx => by have := o2 x hx; rw [flat_len, ht, he] at this; exact this, o1⟩
    · rw [decide_eq_false hl]; rfl
set_option maxHeartbeats 800000 in
theorem IsMask_any (ad : Option Addr) (cap : Nat) (zss : List (List Int)) (w : World) (hz : Intss w ad zss) :
    Calls Try.prog 23 #[.slice ad zss.length cap] w fun e w' => e = .returned (.bool (maskB zss)) ∧ Keep w w' := by
  have hlen := hz.small
  have HG := Lib.hid (areRows_any 8 63 ad cap zss w hz)
  have HM := Lib.hid (mask_grid zss)
  rw [HM.out]
  cases hg : gridB 8 63 zss
  · rw [hg] at HG
    clear HM
    go_enter Try.func23, Try.ntmps23
    go_wp2_with fail
    refine HG.out.mono ?_
    rintro e w1 ⟨rfl, k1⟩
    go_wp2
    go_ret
    exact ⟨rfl, k1⟩
  · rw [hg] at HG
    have hs := grid_size hg
    have ht : tot zss = zss.length * (zss.getD 0 []).length := tot_all _ zss (fun z hz => by obtain ⟨k, hk, rfl⟩ := mem_rows hz; exact (grid_row hg hk).1)
    have h1 : 1 ≤ tot zss := by rw [ht]; exact Nat.mul_pos (by omega) (by omega)
    have h2 : tot zss ≤ 64 := by rw [ht]; exact Nat.le_trans (Nat.mul_le_mul (show zss.length ≤ 8 by omega) (show (zss.getD 0 []).length ≤ 8 by omega)) (by omega)
    have HC := Lib.hid (fun W (k : Keep w W) => Concat_any ad cap zss W (hz.keep k (Nat.le_refl _)) h1 (by omega))
    have hN : zss.length * zss.length ≤ 64 := Nat.le_trans (Nat.mul_le_mul (show zss.length ≤ 8 by omega) (show zss.length ≤ 8 by omega)) (by omega)
    have HO := Lib.hid (fun W rd rc (z : Ints W rd zss.flatten) => isOrder_any rd rc zss.flatten (zss.length * zss.length) W z (by rw [flat_len]; exact h1) (by rw [flat_len]; omega) (by omega))
    rw [Bool.true_and]
    generalize (decide (zss.flatten.length = zss.length * zss.length) && ordB zss.flatten) = V at *
    generalize zss.flatten = F at *
    have V1 : IntKind.i64.wrap ((zss.length : Int) * (zss.length : Int)) = ((zss.length * zss.length : Nat) : Int) := by
      rw [Int.natCast_mul]
      exact IntWalk.i64_in _ (by rw [← Int.natCast_mul]; omega)
    clear hz ht h1 h2 hs hg HM
    generalize hT : zss.length * zss.length = T at *
    have HT := Lib.hid hT; clear hT
    generalize zss.length = n at *
    go_enter Try.func23, Try.ntmps23
    go_wp2_with fail
    refine HG.out.mono ?_
    rintro e w1 ⟨rfl, k1⟩
    have K1 := Lib.hid k1
    go_wp2_with fail
    refine (HC.out _ K1.out).mono ?_
    rintro e w2 ⟨rd, rc, rfl, o2, k2⟩
    have Z2 := Lib.hid o2.ints
    have K2 : Hid (Keep w w2) := Lib.hid (Keep.next K1.out k2)
    clear o2 k2 k1
    go_wp2_with fail
    refine (HO.out _ _ _ Z2.out).mono ?_
    rintro e w3 ⟨rfl, k3⟩
    have K3 : Hid (Keep w w3) := Lib.hid (Keep.next K2.out k3)
    clear k3
    go_wp2
    go_ret
    exact ⟨rfl, K3.out⟩
end Go.Proofs.Ytjoanfgchapbaaa
