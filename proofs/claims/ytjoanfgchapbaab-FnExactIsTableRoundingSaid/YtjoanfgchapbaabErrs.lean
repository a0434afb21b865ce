/- The errors of a list; whether a list is a rounding. -/
import Derived.Test.YtjoanfgchapbaabVals
namespace Go.Proofs.Ytjoanfgchapbaab
open Go.ChangeShapes Go.WideShapes Go.ChangeAt Go.RowKit
set_option linter.unusedVariables false
def okE (g : Int) (zs ls : List Int) : Bool := okV g zs && decide (ls.length = zs.length) && listOk ls 1000000000
def errsV (g : Int) (zs ls : List Int) : List Int := if okE g zs ls then errsL g zs ls else []
theorem errsL_in {g : Int} {zs ls : List Int} (h : okE g zs ls = true) : ∀ z ∈ errsL g zs ls, In64 z := by
  unfold okE at h; simp only [Bool.and_eq_true, decide_eq_true_eq] at h
  obtain ⟨⟨h1, h2⟩, h3⟩ := h
  intro z hz
  obtain ⟨k, hk, rfl⟩ := List.getElem_of_mem hz
  rw [errsL_len g zs ls h2] at hk
  have e := errsL_get g zs ls h2 k hk
  rw [getD_get _ k (by rw [errsL_len g zs ls h2]; exact hk)] at e
  rw [e]
  have d := okV_den h1
  have n1 := okV_num h1 _ (getD_mem zs k (by omega))
  have n2 := listOk_num h3 _ (getD_mem ls k hk)
  have := err_bd d.1 d.2 n2.1 n2.2 n1.1 n1.2
  exact ⟨by omega, by omega⟩
theorem ownsRow_mono {w : World} {B B' e : Nat} {v : Value} {n : Nat} {xs : List Value} (h : w.ownsRow B e 1 v n xs) (hB : B' ≤ B) : w.ownsRow B' e 1 v n xs := by
  refine ⟨h.1, ?_⟩
  rcases h.2 with h1 | ⟨g, c, cur, h1, h2, h3⟩
  · exact .inl h1
  · exact .inr ⟨g, c, cur, h1, by omega, h3⟩

/-- The first k numbers of a list are floors or ceilings. -/
def RndTo (g : Int) (zs ls : List Int) (k : Nat) : Prop := ∀ j, j < k → ls.getD j 0 = fl (zs.getD j 0) g ∨ ls.getD j 0 = ce (zs.getD j 0) g
theorem RndTo.succ {g : Int} {zs ls : List Int} {k : Nat} (h : RndTo g zs ls k) (h2 : ls.getD k 0 = fl (zs.getD k 0) g ∨ ls.getD k 0 = ce (zs.getD k 0) g) : RndTo g zs ls (k + 1) := by
  intro j hj
  rcases Nat.lt_or_eq_of_le (Nat.le_of_lt_succ hj) with h3 | h3
  · exact h j h3
  · subst h3; exact h2
theorem RndTo.zero (g : Int) (zs ls : List Int) : RndTo g zs ls 0 := fun j hj => by omega
def rndB (g : Int) (zs ls : List Int) : Bool := okV g zs && decide (ls.length = zs.length) && decide (∀ j, j < ls.length → ls.getD j 0 = fl (zs.getD j 0) g ∨ ls.getD j 0 = ce (zs.getD j 0) g)
theorem rndB_no {g : Int} {zs ls : List Int} {k : Nat} (hk : k < ls.length) (h1 : ls.getD k 0 ≠ fl (zs.getD k 0) g) (h2 : ls.getD k 0 ≠ ce (zs.getD k 0) g) : rndB g zs ls = false := by
  unfold rndB
  rw [Bool.and_eq_false_iff]; right
  rw [decide_eq_false_iff_not]
  intro h; rcases h k hk with h | h
  · exact h1 h
  · exact h2 h
theorem rndB_yes {g : Int} {zs ls : List Int} (h1 : okV g zs = true) (h2 : ls.length = zs.length) (h : RndTo g zs ls ls.length) : rndB g zs ls = true := by
  unfold rndB
  rw [h1, decide_eq_true h2, decide_eq_true (show ∀ j, j < ls.length → ls.getD j 0 = fl (zs.getD j 0) g ∨ ls.getD j 0 = ce (zs.getD j 0) g from h)]; rfl
set_option maxHeartbeats 1600000 in
theorem IsRounding_any (g : Int) (ad : Option Addr) (cap : Nat) (zs : List Int) (bd : Option Addr) (bcap : Nat) (ls : List Int) (w : World) (hz : Ints w ad zs) (hl : Ints w bd ls) :
    Calls Try.prog 135 #[valV g ad zs.length cap, .slice bd ls.length bcap] w fun e w' => e = .returned (.bool (rndB g zs ls)) ∧ Keep w w' := by
  have B0 : Box (w.alloc (.cells #[.int .i64 g, .slice ad zs.length cap] 157)) w.heap.size g ad zs.length cap := ⟨by simp, by simp, by simp⟩
  have hlen := hz.small
  have hlen2 := hl.small
  cases h1 : okV g zs
  · rw [show rndB g zs ls = false from by simp [rndB, h1]]
    go_enter Try.func135, Try.ntmps135
    go_wp2_with fail
    refine (ValidValues_any g ad cap zs _ (hz.keep (B := _) (by go_grown) (Nat.le_refl _))).mono ?_
    rw [h1]
    rintro e w1 ⟨rfl, k1⟩
    have g1 : Keep w w1 := Keep.next (by go_grown) k1
    obtain ⟨c0, c1, cl⟩ := B0.keep k1
    go_wp2
    go_ret
    exact ⟨rfl, g1⟩
  by_cases h2 : ls.length = zs.length
  case neg =>
    rw [show rndB g zs ls = false from by simp [rndB, h2]]
    have h3 : ((ls.length : Int) != (zs.length : Int)) = true := by simp; omega
    go_enter Try.func135, Try.ntmps135
    go_wp2_with fail
    refine (ValidValues_any g ad cap zs _ (hz.keep (B := _) (by go_grown) (Nat.le_refl _))).mono ?_
    rw [h1]
    rintro e w1 ⟨rfl, k1⟩
    have g1 : Keep w w1 := Keep.next (by go_grown) k1
    obtain ⟨c0, c1, cl⟩ := B0.keep k1
    go_wp2
    go_ret
    exact ⟨rfl, g1⟩
  have h3 : ((ls.length : Int) != (zs.length : Int)) = false := by simp [h2]
  have H2 := Lib.hid h2; clear h2
  have dg := okV_den h1
  have N1 := Lib.hid (okV_num h1)
  go_enter Try.func135, Try.ntmps135
  go_wp2_with fail
  refine (ValidValues_any g ad cap zs _ (hz.keep (B := _) (by go_grown) (Nat.le_refl _))).mono ?_
  rw [h1]
  rintro e w1 ⟨rfl, k1⟩
  have g1 : Keep w w1 := Keep.next (by go_grown) k1
  obtain ⟨c0, c1, cl⟩ := B0.keep k1
  have hz1 := hz.keep g1 (Nat.le_refl _)
  have hl1 := hl.keep g1 (Nat.le_refl _)
  go_wp2
  go_loopw [5, 6, 21] (fun _ _ i wr => ∃ k : Nat, k ≤ zs.length ∧ i = .int .i64 k ∧ Hid (RndTo g zs ls k) ∧ Keep w1 wr)
    (fun _ _ i _ => zs.length - (intOf i).toNat)
  case atStart => exact ⟨0, Nat.zero_le _, rfl, Lib.hid (RndTo.zero _ _ _), Below.refl _ _⟩
  case round =>
    obtain ⟨k, hk, rfl, HR, hbel⟩ := hrel
    by_cases hlt : k < zs.length
    · have hzl := H2.out
      rcases hz1.at_ with h | ⟨b, off, rfl, hb, hc⟩
      · subst h; simp at hlt
      rcases hl1.at_ with h | ⟨b2, off2, rfl, hb2, hc2⟩
      · rw [h] at hzl; simp only [List.length_nil] at hzl; omega
      have hcx : wr.cell? ⟨b, off + k, none⟩ = some (.int .i64 (zs.getD k 0)) := by rw [hbel.cell (by exact hb)]; exact hc k hlt
      have hcl : wr.cell? ⟨b2, off2 + k, none⟩ = some (.int .i64 (ls.getD k 0)) := by rw [hbel.cell (by exact hb2)]; exact hc2 k (by omega)
      obtain ⟨d0, d1, dl⟩ := (Box.mk c0 c1 cl).keep hbel
      have nx := N1.out _ (getD_mem zs k hlt)
      have hkl : k < ls.length := by omega
      have HSU := Lib.hid (fun h2 => RndTo.succ HR.out h2)
      have HNO := Lib.hid (fun h2 h3 => rndB_no (g := g) (zs := zs) (ls := ls) hkl h2 h3)
      clear hc hc2 hzl c0 c1 cl
      generalize hzx : zs.getD k 0 = x at hcx nx HSU HNO
      generalize hly : ls.getD k 0 = y at hcl HSU HNO
      clear hzx hly
      by_cases q1 : y = fl x g
      · have q1b : (y != fl x g) = false := by simp [q1]
        have Q1 := Lib.hid q1; clear q1
        go_wp2
        go_quiet ((first | (go_at_call 158; exact Calls.quiet_of_same ((floorOf_any _ _ _ (by omega) (by omega) (by omega) (by omega)).mono fun _ _ h => ⟨h.1, h.2.symm⟩)) | (go_at_call 159; exact Calls.quiet_of_same ((ceilingOf_any _ _ _ (by omega) (by omega) (by omega) (by omega)).mono fun _ _ h => ⟨h.1, h.2.symm⟩))))
        go_wp2
        go_roundw
        case rel => exact ⟨k + 1, by omega, by go_num, Lib.hid (HSU.out (.inl Q1.out)), below_drewN hbel _⟩
        case measure => simp [intOf]; omega
      · have q1b : (y != fl x g) = true := by simp [q1]
        have Q1 := Lib.hid q1; clear q1
        by_cases q2 : y = ce x g
        · have q2b : (y != ce x g) = false := by simp [q2]
          have Q2 := Lib.hid q2; clear q2
          go_wp2
          go_quiet ((first | (go_at_call 158; exact Calls.quiet_of_same ((floorOf_any _ _ _ (by omega) (by omega) (by omega) (by omega)).mono fun _ _ h => ⟨h.1, h.2.symm⟩)) | (go_at_call 159; exact Calls.quiet_of_same ((ceilingOf_any _ _ _ (by omega) (by omega) (by omega) (by omega)).mono fun _ _ h => ⟨h.1, h.2.symm⟩))))
          go_wp2
          go_roundw
          case rel => exact ⟨k + 1, by omega, by go_num, Lib.hid (HSU.out (.inr Q2.out)), below_drewN hbel _⟩
          case measure => simp [intOf]; omega
        · have q2b : (y != ce x g) = true := by simp [q2]
          have Q2 := Lib.hid q2; clear q2
          go_wp2
          go_quiet ((first | (go_at_call 158; exact Calls.quiet_of_same ((floorOf_any _ _ _ (by omega) (by omega) (by omega) (by omega)).mono fun _ _ h => ⟨h.1, h.2.symm⟩)) | (go_at_call 159; exact Calls.quiet_of_same ((ceilingOf_any _ _ _ (by omega) (by omega) (by omega) (by omega)).mono fun _ _ h => ⟨h.1, h.2.symm⟩))))
          go_wp2
          go_ret
          exact ⟨ret_bool (HNO.out Q1.out Q2.out).symm, g1.next (below_drewN hbel _)⟩
    · have HK := Lib.hid (show k = zs.length from by omega)
      go_wp2
      go_ret
      refine ⟨ret_bool ?_, g1.next hbel⟩
      symm; refine rndB_yes h1 H2.out ?_
      rw [H2.out, ← HK.out]; exact HR.out
end Go.Proofs.Ytjoanfgchapbaab
