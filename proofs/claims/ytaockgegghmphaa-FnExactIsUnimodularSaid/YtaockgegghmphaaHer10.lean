/- Hereditary discrepancies: the program's side. -/
import Derived.Test.YtaockgegghmphaaDisI10
import Derived.Lib.MinMax
namespace Go.Proofs.Ytaockgegghmphaa
open Go.ChangeShapes Go.WideShapes Go.ChangeAt Go.RowKit Go.Shelf
set_option linter.unusedVariables false
def herOk (g : Int) (zs : List Int) : Bool := okS g zs && decide (g ≤ 8)
def herV (g : Int) (zs : List Int) : Int := if herOk g zs then herT zs (2 ^ g.toNat) else 0
theorem partB_all {n t : Nat} (h : t < 2 ^ n) : partB (2 ^ n - 1) t = true := partB_iff.2 (Nat.and_two_pow_sub_one_of_lt_two_pow h)
theorem mx_max (a b : Int) : max a b = mx a b := by unfold mx; split <;> omega
attribute [local go_sem] Oper.semAt_some
def HerI (w1 : World) (zs : List Int) (t : Nat) (W : World) : Prop := Go.Boxed W w1.heap.size 2 (.int .i64 (herT zs t)) ∧ Below w1.heap.size w1 W
theorem herI_own (w1 : World) (zs : List Int) (B : Nat) (hB : w1.heap.size ≤ B) : OwnFrom B (HerI w1 zs) :=
  OwnFrom.and (Go.Own.from (boxed_own _ _ (fun t : Nat => .int .i64 (herT zs t))) _) (ownFrom_below (Nat.le_refl _) hB)
set_option maxRecDepth 100000 in
set_option maxHeartbeats 4000000 in
theorem HereditaryOf_yes (n : Nat) (hn : n ≤ 8) (ad : Option Addr) (cap : Nat) (zs : List Int) (w : World) (hz : Ints w ad zs) (h1 : okS n zs = true) :
    Calls Try.prog 28 #[valV n ad zs.length cap] w fun e w' => e = .returned (.tuple #[.int .i64 (herT zs (2 ^ n)), .bool true]) ∧ Keep w w' := by
  have hlen := hz.small
  have B0 : Box (w.alloc (.cells #[.int .i64 n, .slice ad zs.length cap] 27)) w.heap.size n ad zs.length cap := ⟨by simp, by simp, by simp⟩
  obtain ⟨q0, q1, q2, q3⟩ := okS_parts h1
  have hs := okS_sets h1
  obtain ⟨p1, p2, p3, p4⟩ := shl12 (n := n) (by omega)
  have HD := Lib.hid (fun p (hp : p < 4096) W (k : Keep w W) => discrepancyOn_any n ad cap zs p W (hz.keep k (Nat.le_refl _)) hs q2 hp)
  have HA := Lib.hid (fun W => allPoints_any n ad zs.length cap W (by omega))
  have HV := Lib.hid (ValidSystem_any n ad cap zs _ (hz.keep (B := _) (show Keep w (w.alloc (.cells #[.int .i64 n, .slice ad zs.length cap] 27)) by go_grown) (Nat.le_refl _)))
  rw [h1] at HV
  have HB := Lib.hid (herT_bd zs)
  have hn8 : ¬ (8 : Int) < (n : Int) := by omega
  have HPB := Lib.hid (fun t (h : t < 2 ^ n - 1 + 1) => partB_all (n := n) (t := t) (by omega))
  have HN : Hid (2 ^ n - 1 + 1 = 2 ^ n) := Lib.hid (by omega)
  have HDB := Lib.hid (disV_bd zs)
  clear q3 hs p1 p4
  refine (callsIn_wide (n := 9)).1 ?_
  refine callsIn_of_wp_marks Try.func28 rfl trivial ?_ rfl
  simp only [Try.ntmps28, List.size_toArray, List.length_cons, List.length_nil, Nat.reduceAdd, Nat.reduceSub, Array.replicate_succ, Array.replicate_zero, List.push_toArray, List.append_toArray, List.nil_append, List.cons_append]
  gi_wp2_with fail
  refine ⟨trivial, ?_⟩
  refine (callsIn_wide.2 HV.out).mono ?_
  rintro e w1 ⟨rfl, k1⟩
  have g1 : Keep w w1 := Keep.next (by go_grown) k1
  have B1 := Lib.hid (B0.keep k1)
  obtain ⟨b0, b1, b2⟩ := B1.out
  have G1 := Lib.hid g1
  clear B0 k1 g1 HV
  gi_wp2_with fail
  refine ⟨trivial, ?_⟩
  refine (callsIn_wide.2 (HA.out _)).mono ?_
  rintro e w2 ⟨rfl, k2⟩
  have bx := (Go.Boxed.new w1 2 (.int .i64 0)).kept (keep_grown k2 none) (by simp)
  have g2 : Keep w1 w2 := Keep.next (by go_grown) k2
  have hw12 : w1.heap.size + 1 ≤ w2.heap.size := by have := k2.size; simpa using this
  clear k2
  gi_wp2
  refine range_up rfl (by omega) (gf := 67) (bs := #[.int .u64 ((2 ^ n - 1 : Nat) : Int)]) (lb := #[]) rfl trivial (enters_of Try.func67 (by kernel_rfl) rfl)
    (parts_up Fence.wide 8 trivial rfl (by omega) (2 ^ n - 1) (by omega) _) (fun _ => rfl) (fun _ _ => trivial) (fun _ _ _ _ _ _ _ _ => trivial) (HerI w1 zs) ?own ?skip ?start ?round ?done
  case own => exact herI_own _ _ _ (by omega)
  case skip =>
    rintro t W ht hp _
    rw [HPB.out t ht] at hp; cases hp
  case start => exact ⟨bx, g2⟩
  case round =>
    intro l t W ht hg hl hs hI
    gi_wp2
    refine ⟨trivial, fun U hU hIU => ?_⟩
    obtain ⟨hbx, hB⟩ := hIU
    obtain ⟨d0, d1, d2⟩ := B1.out.keep hB
    have HDD := Lib.hid (HD.out t (by omega) U (G1.out.next hB))
    have HS := Lib.hid (show herT zs (t + 1) = mx (herT zs t) (disV zs t).1 from rfl)
    have hdb := HDB.out t
    have hhb := HB.out t
    have HBX := Lib.hid hbx
    have HB2 := Lib.hid hB
    clear hI hs hB hbx hg
    generalize disV zs t = D at *
    generalize herT zs t = h0 at *
    gi_wp2_with fail
    refine ⟨trivial, ?_⟩
    refine (CallsIn.inRound l (callsIn_wide.2 HDD.out)).mono ?_
    rintro e U2 ⟨rfl, k2⟩
    have hb2 := HBX.out.kept (keep_grown k2 none) (by simp)
    have c1 := hb2.cell; have c2 := hb2.frozen
    have HBS := Lib.hid (hb2.set (.int .i64 (max h0 D.1)))
    have HK2 := Lib.hid k2
    have HU := Lib.hid (show w1.heap.size ≤ U.heap.size by omega)
    clear k2 hb2
    gi_wp2
    refine ⟨((KeepsOthers.of_grownBy (keep_grown HK2.out none) (fun j o e => by cases e)).trans (KeepsOthers.setCell _ _ _)).from _, trivial, ?_, ?_⟩
    · rw [HS.out, ← mx_max]; exact HBS.out
    · exact HB2.out.trans ((HK2.out.mono HU.out).setCell (p := ⟨w1.heap.size, 0, none⟩) (Nat.le_refl _) _)
  case done =>
    rintro D W hD ⟨hbx, hB⟩ hK
    have c1 := hbx.cell
    rw [HN.out] at c1
    have HBB := Lib.hid hB
    clear hbx hB
    gi_wp2
    refine ⟨by simp, .inl ⟨_, _, rfl, run_takeDeferred hK, ?_⟩⟩
    exact ⟨_, results_tmp2 rfl _ _ _, rfl, (G1.out.next HBB.out).trans (belowK_b (w := w1) G1.out.size W D _ _ (by omega) hK rfl rfl)⟩
set_option maxHeartbeats 1600000 in
theorem HereditaryOf_any (g : Int) (ad : Option Addr) (cap : Nat) (zs : List Int) (w : World) (hz : Ints w ad zs) :
    Calls Try.prog 28 #[valV g ad zs.length cap] w fun e w' => e = .returned (.tuple #[.int .i64 (herV g zs), .bool (herOk g zs)]) ∧ Keep w w' := by
  have hlen := hz.small
  have B0 : Box (w.alloc (.cells #[.int .i64 g, .slice ad zs.length cap] 27)) w.heap.size g ad zs.length cap := ⟨by simp, by simp, by simp⟩
  cases h1 : okS g zs
  · rw [show herOk g zs = false from by simp [herOk, h1], show herV g zs = 0 from by simp [herV, herOk, h1]]
    go_enter Try.func28, Try.ntmps28
    go_wp2_with fail
    refine (ValidSystem_any g ad cap zs _ (hz.keep (B := _) (by go_grown) (Nat.le_refl _))).mono ?_
    rw [h1]
    rintro e w1 ⟨rfl, k1⟩
    have g1 : Keep w w1 := Keep.next (by go_grown) k1
    go_wp2
    go_ret2
    exact ⟨rfl, g1⟩
  by_cases h8 : g ≤ 8
  · obtain ⟨q0, q1, q2, q3⟩ := okS_parts h1
    obtain ⟨n, rfl⟩ : ∃ n : Nat, g = n := ⟨g.toNat, by omega⟩
    rw [show herOk n zs = true from by simp [herOk, h1, h8], show herV n zs = herT zs (2 ^ n) from by simp [herV, herOk, h1, h8]]
    exact HereditaryOf_yes n (by omega) ad cap zs w hz h1
  · have h9 : (8 : Int) < g := by omega
    rw [show herOk g zs = false from by simp [herOk, h8], show herV g zs = 0 from by simp [herV, herOk, h8]]
    go_enter Try.func28, Try.ntmps28
    go_wp2_with fail
    refine (ValidSystem_any g ad cap zs _ (hz.keep (B := _) (by go_grown) (Nat.le_refl _))).mono ?_
    rw [h1]
    rintro e w1 ⟨rfl, k1⟩
    have g1 : Keep w w1 := Keep.next (by go_grown) k1
    obtain ⟨b0, b1, b2⟩ := B0.keep k1
    go_wp2
    go_ret2
    exact ⟨rfl, g1⟩
def uniB (g : Int) (zs : List Int) : Bool := herOk g zs && decide (herV g zs ≤ 1)
theorem IsUnimodular_any (g : Int) (ad : Option Addr) (cap : Nat) (zs : List Int) (w : World) (hz : Ints w ad zs) :
    Calls Try.prog 30 #[valV g ad zs.length cap] w fun e w' => e = .returned (.bool (uniB g zs)) ∧ Keep w w' := by
  have HH := Lib.hid (fun W k => HereditaryOf_any g ad cap zs W (hz.keep (w' := W) k (Nat.le_refl _)))
  unfold uniB
  generalize herV g zs = v at *
  generalize herOk g zs = b at *
  cases b
  · go_enter Try.func30, Try.ntmps30
    go_wp2_with fail
    refine (HH.out _ (by go_grown)).mono ?_
    rintro e w1 ⟨rfl, k1⟩
    have g1 : Keep w w1 := Keep.next (by go_grown) k1
    go_wp2
    go_ret
    exact ⟨rfl, g1⟩
  · go_enter Try.func30, Try.ntmps30
    go_wp2_with fail
    refine (HH.out _ (by go_grown)).mono ?_
    rintro e w1 ⟨rfl, k1⟩
    have g1 : Keep w w1 := Keep.next (by go_grown) k1
    go_wp2
    go_ret
    exact ⟨rfl, g1⟩
end Go.Proofs.Ytaockgegghmphaa
