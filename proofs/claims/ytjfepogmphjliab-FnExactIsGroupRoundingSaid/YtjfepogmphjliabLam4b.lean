/- Groups that are laminar: the model's loops. -/
import Derived.Test.YtjfepogmphjliabLam4
import Derived.Deep.LoopGhost
namespace Go.Proofs.Ytjfepogmphjliab
open Go.ChangeShapes Go.WideShapes Go.ChangeAt Go.RowKit
set_option linter.unusedVariables false
/-- How many of a's numbers b has. -/
def cnt (a b : List Int) : Nat := a.countP fun x => hasB b x
theorem cnt_take_succ (a b : List Int) (i : Nat) (h : i < a.length) : cnt (a.take (i + 1)) b = cnt (a.take i) b + (if hasB b (a.getD i 0) then 1 else 0) := by
  unfold cnt
  rw [take_succ_getD a i h, List.countP_append, List.countP_cons, List.countP_nil]; simp
theorem cnt_take_le (a b : List Int) (i : Nat) : cnt (a.take i) b ≤ i := by
  unfold cnt
  have := List.countP_le_length (p := fun x => hasB b x) (l := a.take i)
  rw [List.length_take] at this; omega
/-- Of two groups, one is a part of the other one, or they have nothing in common. -/
def fitB (a b : List Int) : Bool := !(decide (0 < cnt a b) && (decide (cnt a b < b.length) && decide (cnt a b < a.length)))
def LamTo (n : Nat) (zss : List (List Int)) (k : Nat) : Prop :=
  (∀ j, j < k → risesB (zss.getD j []) 0 ((n : Int) - 1) = true ∧ (zss.getD j []).length ≠ 0) ∧ (zss.length ≤ 12 → ∀ j, j < k → ∀ m, m < j → fitB (zss.getD m []) (zss.getD j []) = true)
open Classical in
noncomputable def lamB (n : Nat) (zss : List (List Int)) : Bool := decide (LamTo n zss zss.length ∧ zss.length ≤ 12)
open Classical in
theorem lamB_is {n : Nat} {zss : List (List Int)} (h : LamTo n zss zss.length) : lamB n zss = decide (zss.length ≤ 12) := by
  unfold lamB; simp [h]
theorem lamB_falls {n : Nat} {zss : List (List Int)} {k : Nat} (hk : k < zss.length) (h : risesB (zss.getD k []) 0 ((n : Int) - 1) = false) : lamB n zss = false := by
  unfold lamB; rw [decide_eq_false_iff_not]; intro h2; have := (h2.1.1 k hk).1; rw [h] at this; cases this
theorem lamB_empty {n : Nat} {zss : List (List Int)} {k : Nat} (hk : k < zss.length) (h : (zss.getD k []).length = 0) : lamB n zss = false := by
  unfold lamB; rw [decide_eq_false_iff_not]; intro h2; exact (h2.1.1 k hk).2 h
theorem lamB_unfit {n : Nat} {zss : List (List Int)} {k m : Nat} (hk : k < zss.length) (hm : m < k) (h : fitB (zss.getD m []) (zss.getD k []) = false) : lamB n zss = false := by
  unfold lamB; rw [decide_eq_false_iff_not]; intro h2; have := h2.1.2 h2.2 k hk m hm; rw [h] at this; cases this
theorem LamTo.succ {n : Nat} {zss : List (List Int)} {k : Nat} (h : LamTo n zss k) (h1 : risesB (zss.getD k []) 0 ((n : Int) - 1) = true) (h2 : (zss.getD k []).length ≠ 0) (h3 : zss.length ≤ 12 → ∀ m, m < k → fitB (zss.getD m []) (zss.getD k []) = true) : LamTo n zss (k + 1) := by
  refine ⟨fun j hj => ?_, fun hl j hj => ?_⟩
  · by_cases e : j = k
    · subst e; exact ⟨h1, h2⟩
    · exact h.1 j (by omega)
  · by_cases e : j = k
    · subst e; exact h3 hl
    · exact h.2 hl j (by omega)
set_option maxHeartbeats 1600000 in
set_option maxRecDepth 100000 in
theorem l04Groups_any (n : Nat) (ad : Option Addr) (cap : Nat) (zss : List (List Int)) (w : World) (hz : Intss w ad zss) (hn : n ≤ 1048576) :
    Calls Try.prog 30 #[.int .i64 n, .slice ad zss.length cap] w fun e w' => e = .returned (.bool (lamB n zss)) ∧ Keep w w' := by
  have hlen := hz.small
  have hw1 : IntKind.i64.wrap ((n : Int) - 1) = (n : Int) - 1 := IntWalk.i64_in _ (by omega)
  go_enter Try.func30, Try.ntmps30
  go_wp2
  go_loopg [5, 6, 7, 8] zss.length (fun kk i _ _ _ wr => ∃ k : Nat, k ≤ zss.length ∧ kk = zss.length - k ∧ i = .int .i64 k ∧ Hid (LamTo n zss k) ∧ Hid (Keep w wr))
  case atStart => exact ⟨0, Nat.zero_le _, rfl, rfl, Lib.hid ⟨fun j h => by omega, fun _ j h => by omega⟩, Lib.hid (Below.refl _ _)⟩
  case round =>
    obtain ⟨k, hk, rfl, rfl, HL, HB⟩ := hrel
    by_cases hlt : k < zss.length
    · rcases (hz.keep HB.out (Nat.le_refl _)).at_ with h | ⟨b, off, rfl, hb, hc⟩
      · subst h; simp at hlt
      obtain ⟨p, c, hcx, hpc, hints⟩ := hc k hlt
      have HC := Lib.hid hc
      have HF := Lib.hid (fun h => lamB_falls (n := n) hlt h)
      have HE := Lib.hid (fun h => lamB_empty (n := n) hlt h)
      have HU := Lib.hid (fun m (hm : m < k) h => lamB_unfit (n := n) hlt hm h)
      have HS := Lib.hid (fun h1 h2 h3 => LamTo.succ HL.out h1 h2 h3)
      have hsk := hints.small
      clear hc
      generalize zss.getD k [] = zk at hcx hpc hints HF HE HU HS hsk
      cases hr : risesB zk 0 ((n : Int) - 1)
      · go_wp2_with fail
        refine (l00Rises_any p c zk 0 ((n : Int) - 1) wr hints).mono ?_
        rw [hr]
        rintro e w1 ⟨rfl, k1⟩
        go_wp2
        go_ret
        exact ⟨ret_bool (HF.out hr).symm, HB.out.next k1⟩
      · have HI := Lib.hid hints
        go_wp2_with fail
        refine (l00Rises_any p c zk 0 ((n : Int) - 1) wr hints).mono ?_
        rw [hr]
        rintro e w1 ⟨rfl, k1⟩
        have hcx1 : w1.cell? ⟨b, off + k, none⟩ = some (.slice p zk.length c) := (k1.cell (by exact hb)).trans hcx
        by_cases he : zk.length = 0
        · go_wp2
          go_ret
          exact ⟨ret_bool (HE.out he).symm, HB.out.next k1⟩
        · have hz0 : ((zk.length : Int) == 0) = false := by rw [beq_eq_false_iff_ne]; omega
          have HK1 := Lib.hid k1
          have HB1 := Lib.hid (HB.out.next k1)
          have hb1 : b < w1.heap.size := Nat.lt_of_lt_of_le hb k1.size
          have HI1 := Lib.hid (hints.keep k1 (Nat.le_refl _))
          have HC1 : Hid (∀ i, i < zss.length → ∃ p c, w1.cell? ⟨b, off + i, none⟩ = some (.slice p (zss.getD i []).length c) ∧ (zss.getD i []).length ≤ c ∧ Ints w1 p (zss.getD i [])) := Lib.hid (fun i hi => by
            obtain ⟨p, c, h1, h2, h3⟩ := HC.out i hi
            exact ⟨p, c, (k1.cell (by exact hb)).trans h1, h2, h3.keep k1 (Nat.le_refl _)⟩)
          clear hcx hints k1 HC HI
          go_wp2
          generalize hW : w1 = w2 at *
          clear hW
          go_loopg [6, 7, 8] k (fun kk i _ _ wi => ∃ m : Nat, m ≤ k ∧ kk = k - m ∧ i = .int .i64 m ∧ Hid (zss.length ≤ 12 → ∀ j, j < m → fitB (zss.getD j []) zk = true) ∧ Hid (Keep w2 wi))
          case atStart => exact ⟨0, Nat.zero_le _, rfl, rfl, Lib.hid (fun _ j h => by omega), Lib.hid (Below.refl _ _)⟩
          case round =>
            obtain ⟨m, hm, rfl, rfl, HM, HB2⟩ := hrel
            by_cases hmk : m < k
            · by_cases h12 : zss.length ≤ 12
              · have h12b : decide ((zss.length : Int) ≤ 12) = true := by simp; omega
                obtain ⟨p2, c2, hcm, hpc2, hints2⟩ := HC1.out m (by omega)
                have HUm := Lib.hid (HU.out m hmk)
                have HMS : Hid (fitB (zss.getD m []) zk = true → zss.length ≤ 12 → ∀ j, j < m + 1 → fitB (zss.getD j []) zk = true) := Lib.hid (fun h hl j hj => by
                  by_cases e : j = m
                  · subst e; exact h
                  · exact HM.out hl j (by omega))
                have hsm := hints2.small
                have hcx2 : wr.cell? ⟨b, off + k, none⟩ = some (.slice p zk.length c) := (HB2.out.cell (by exact hb1)).trans hcx1
                have hcm2 : wr.cell? ⟨b, off + m, none⟩ = some (.slice p2 (zss.getD m []).length c2) := (HB2.out.cell (by exact hb1)).trans hcm
                have HI2 := Lib.hid (HI1.out.keep HB2.out (Nat.le_refl _))
                have HI3 := Lib.hid (hints2.keep HB2.out (Nat.le_refl _))
                have hb2 : b < wr.heap.size := Nat.lt_of_lt_of_le hb1 HB2.out.size
                have HB3 := Lib.hid (HB1.out.next HB2.out)
                clear hcm hints2
                generalize zss.getD m [] = zm at hcm2 hpc2 HUm HMS hsm HI3
                go_wp2
                generalize hW : wr = w3 at *
                clear hW
                go_loopg [7, 8] zm.length (fun kk cc i wi => ∃ j : Nat, j ≤ zm.length ∧ kk = zm.length - j ∧ i = .int .i64 j ∧ cc = .int .i64 (cnt (zm.take j) zk) ∧ Hid (Keep w3 wi))
                case atStart => exact ⟨0, Nat.zero_le _, rfl, rfl, by simp [cnt], Lib.hid (Below.refl _ _)⟩
                case round =>
                  obtain ⟨j, hj, rfl, rfl, rfl, HB4⟩ := hrel
                  have hcx4 : wr.cell? ⟨b, off + k, none⟩ = some (.slice p zk.length c) := (HB4.out.cell (by exact hb2)).trans hcx2
                  have hcm4 : wr.cell? ⟨b, off + m, none⟩ = some (.slice p2 zm.length c2) := (HB4.out.cell (by exact hb2)).trans hcm2
                  by_cases hjl : j < zm.length
                  · rcases (HI3.out.keep HB4.out (Nat.le_refl _)).at_ with h | ⟨b5, off5, rfl, hb5, hc5⟩
                    · subst h; simp at hjl
                    have hcj := hc5 j hjl
                    have HT := Lib.hid (cnt_take_succ zm zk j hjl)
                    have hcl := cnt_take_le zm zk j
                    have HI5 : Hid (∀ q, Ints (wr.drewN q) p zk) := Lib.hid (fun q => HI2.out.keep (B := _) (below_drewN HB4.out q) (Nat.le_refl _))
                    clear hc5
                    generalize zm.getD j 0 = x at hcj HT
                    generalize cnt (zm.take j) zk = cc at *
                    cases hh : hasB zk x
                    · rw [hh] at HT
                      have HHX := Lib.hid (congrArg (fun b => Ending.returned (Value.bool b)) hh)
                      go_wp2
                      go_quiet ((go_at_call 38; exact Calls.quiet_of_same ((l00Has_any _ _ zk x _ (HI5.out _)).mono fun _ _ h => ⟨h.1.trans HHX.out, h.2.symm⟩)))
                      go_wp2
                      go_roundg (zm.length - (j + 1))
                      case measure => omega
                      case rel => exact ⟨j + 1, by omega, rfl, by go_num, by rw [HT.out]; simp, Lib.hid (below_drewN HB4.out _)⟩
                    · rw [hh] at HT
                      have HHX := Lib.hid (congrArg (fun b => Ending.returned (Value.bool b)) hh)
                      go_wp2
                      go_quiet ((go_at_call 38; exact Calls.quiet_of_same ((l00Has_any _ _ zk x _ (HI5.out _)).mono fun _ _ h => ⟨h.1.trans HHX.out, h.2.symm⟩)))
                      go_wp2
                      go_roundg (zm.length - (j + 1))
                      case measure => omega
                      case rel => exact ⟨j + 1, by omega, rfl, by go_num, by rw [HT.out]; simp, Lib.hid (below_drewN HB4.out _)⟩
                  · have HJ := Lib.hid (show j = zm.length from by omega)
                    have HFIT : Hid (fitB zm zk = !(decide (0 < cnt (zm.take j) zk) && (decide (cnt (zm.take j) zk < zk.length) && decide (cnt (zm.take j) zk < zm.length)))) := Lib.hid (by
                      rw [HJ.out, List.take_length]; rfl)
                    have hcl := cnt_take_le zm zk j
                    generalize cnt (zm.take j) zk = cc at *
                    by_cases q1 : 0 < cc
                    · by_cases q2 : cc < zk.length
                      · by_cases q3 : cc < zm.length
                        · go_wp2
                          go_ret
                          exact ⟨ret_bool (HUm.out (by rw [HFIT.out]; simp [q1, q2, q3])).symm, HB3.out.next HB4.out⟩
                        · go_wp2
                          go_roundg (k - (m + 1))
                          case measure => omega
                          case rel => exact ⟨m + 1, by omega, rfl, by go_num, Lib.hid (HMS.out (by rw [HFIT.out]; simp [q3])), Lib.hid (HB2.out.next HB4.out)⟩
                      · go_wp2
                        go_roundg (k - (m + 1))
                        case measure => omega
                        case rel => exact ⟨m + 1, by omega, rfl, by go_num, Lib.hid (HMS.out (by rw [HFIT.out]; simp [q2])), Lib.hid (HB2.out.next HB4.out)⟩
                    · go_wp2
                      go_roundg (k - (m + 1))
                      case measure => omega
                      case rel => exact ⟨m + 1, by omega, rfl, by go_num, Lib.hid (HMS.out (by rw [HFIT.out]; simp [q1])), Lib.hid (HB2.out.next HB4.out)⟩
              · have h12b : decide ((zss.length : Int) ≤ 12) = false := by simp; omega
                go_wp2
                go_roundg (zss.length - (k + 1))
                case measure => omega
                case rel => exact ⟨k + 1, by omega, rfl, by go_num, Lib.hid (HS.out hr he (fun h => absurd h h12)), Lib.hid (HB1.out.next HB2.out)⟩
            · have HMK := Lib.hid (show m = k from by omega)
              go_wp2
              go_roundg (zss.length - (k + 1))
              case measure => omega
              case rel => exact ⟨k + 1, by omega, rfl, by go_num, Lib.hid (HS.out hr he (by have := HM.out; rwa [HMK.out] at this)), Lib.hid (HB1.out.next HB2.out)⟩
    · have HK := Lib.hid (show k = zss.length from by omega)
      have HLB : Hid (lamB n zss = decide (zss.length ≤ 12)) := Lib.hid (lamB_is (by rw [← HK.out]; exact HL.out))
      go_wp2
      go_ret
      exact ⟨ret_bool (by rw [HLB.out]; simp; omega), HB.out⟩
end Go.Proofs.Ytjfepogmphjliab
