/- Continued fractions, numbers of balanced words: the model's look. -/
import Derived.Test.YtlkljhncpojlkaaDoorWd7
import Derived.Deep.LoopGhost
namespace Go.Proofs.YtlkljhncpojlkaaDoor
open Go.ChangeShapes Go.WideShapes Go.ChangeAt Go.RowKit Go.Deep
set_option linter.unusedVariables false
/-- The quotients of Euclid's way. -/
def contN (a b : Nat) : List Int := if h : b = 0 then [] else ((a / b : Nat) : Int) :: contN b (a % b)
termination_by b
decreasing_by exact Nat.mod_lt _ (Nat.pos_of_ne_zero h)
def contI (x y : Int) : List Int := contN x.toNat y.toNat
theorem contI_zero (x : Int) : contI x 0 = [] := by unfold contI; rw [contN]; simp
theorem contI_pos {x y : Int} (hx : 0 ≤ x) (hy : 0 < y) : contI x y = x / y :: contI y (x % y) := by
  unfold contI
  rw [contN, dif_neg (by omega)]
  have h1 : ((x.toNat / y.toNat : Nat) : Int) = x / y := by
    rw [Int.natCast_ediv, Int.toNat_of_nonneg hx, Int.toNat_of_nonneg (by omega)]
  have h2 : (x % y).toNat = x.toNat % y.toNat := by
    have : ((x.toNat % y.toNat : Nat) : Int) = x % y := by rw [Int.natCast_emod, Int.toNat_of_nonneg hx, Int.toNat_of_nonneg (by omega)]
    omega
  rw [h1, h2]
def ctB (a b : Int) : Bool := inB a 0 1000000000 && inB b 1 1000000000
def ctL (a b : Int) : List Int := if ctB a b then contI a b else []
/-- How many of the numbers 1 to k have no common divisor with i. -/
def prm (i k : Nat) : Int := ((List.range k).map fun (j : Nat) => if Int.gcd ((j : Int) + 1) i = 1 then (1 : Int) else 0).sum
theorem prm_succ (i k : Nat) : prm i (k + 1) = prm i k + (if Int.gcd ((k : Int) + 1) i = 1 then 1 else 0) := by
  unfold prm; rw [List.range_succ, List.map_append, List.sum_append]; simp
theorem prm_bd (i : Nat) : ∀ k, 0 ≤ prm i k ∧ prm i k ≤ k := by
  intro k
  induction k with
  | zero => simp [prm]
  | succ k ih => rw [prm_succ]; split <;> omega
def cnt7 (n i : Nat) : Int := 1 + ((List.range i).map fun (t : Nat) => (((n : Int) - ((t : Int) + 1)) + 1) * prm (t + 1) (t + 1)).sum
theorem cnt7_zero (n : Nat) : cnt7 n 0 = 1 := by simp [cnt7]
theorem cnt7_succ (n i : Nat) : cnt7 n (i + 1) = cnt7 n i + (((n : Int) - ((i : Int) + 1)) + 1) * prm (i + 1) (i + 1) := by
  unfold cnt7; rw [List.range_succ, List.map_append, List.sum_append]; simp; omega
theorem cnt7_bd {n : Nat} (hn : n ≤ 20) : ∀ i, i ≤ n → 1 ≤ cnt7 n i ∧ cnt7 n i ≤ 1 + 400 * (i : Int) := by
  intro i
  induction i with
  | zero => intro _; rw [cnt7_zero]; simp
  | succ i ih =>
    intro hi
    have h1 := ih (by omega)
    have h2 := prm_bd (i + 1) (i + 1)
    have e1 : 0 ≤ (((n : Int) - ((i : Int) + 1)) + 1) * prm (i + 1) (i + 1) := Int.mul_nonneg (by omega) h2.1
    have e2 : (((n : Int) - ((i : Int) + 1)) + 1) * prm (i + 1) (i + 1) ≤ 20 * 20 := Int.mul_le_mul (by omega) (by omega) h2.1 (by omega)
    rw [cnt7_succ]
    omega
def cbB (n : Int) : Bool := inB n 0 20
def cbV (n : Int) : Int := if cbB n then cnt7 n.toNat n.toNat else 0
set_option maxHeartbeats 1600000 in
theorem specCountBalanced_any (n : Int) (w : World) (un : In64 n) :
    Calls Tryd.prog 18 #[.int .i64 n] w fun e w' => e = .returned (.tuple #[.int .i64 (cbV n), .bool (cbB n)]) ∧ Keep w w' := by
  cases h1 : cbB n
  · rw [show cbV n = 0 from by unfold cbV; rw [h1]; rfl]
    go_enter Tryd.func18, Tryd.ntmps18
    go_wp2_with (go_at_call 30; refine (l00In_any _ _ _ _).mono ?_; rw [show inB n 0 20 = false from h1]; rintro e w' ⟨rfl, rfl⟩)
    go_ret2
    exact ⟨rfl, Below.refl _ _⟩
  · have hn := inB_iff.1 (show inB n 0 20 = true from h1)
    rw [show cbV n = cnt7 n.toNat n.toNat from by unfold cbV; rw [h1]; rfl]
    have hin : inB n 0 20 = true := h1
    clear h1
    obtain ⟨m, rfl⟩ : ∃ m : Nat, n = m := ⟨n.toNat, by omega⟩
    rw [Int.toNat_natCast]
    have hm : m ≤ 20 := by omega
    have HB := Lib.hid (cnt7_bd hm)
    have HS := Lib.hid (cnt7_succ m)
    have H0 := Lib.hid (cnt7_zero m)
    have HPB := Lib.hid prm_bd
    have HPS := Lib.hid prm_succ
    go_enter Tryd.func18, Tryd.ntmps18
    go_wp2_with (go_at_call 30; refine (l00In_any _ _ _ _).mono ?_; rw [hin]; rintro e w' ⟨rfl, rfl⟩)
    go_loopg [4, 5, 6, 7] m (fun kk s i _ _ wr => ∃ t : Nat, t ≤ m ∧ kk = m - t ∧ i = .int .i64 ((t : Int) + 1) ∧ s = .int .i64 (cnt7 m t) ∧ wr = w)
    case atStart => exact ⟨0, Nat.zero_le _, rfl, rfl, by rw [H0.out], rfl⟩
    case round =>
      obtain ⟨t, ht, rfl, rfl, rfl, rfl⟩ := hrel
      have hcb := HB.out t ht
      by_cases hlt : t < m
      · have hle : ((t : Int) + 1) ≤ (m : Int) := by omega
        have HSt := Lib.hid (HS.out t)
        have hpb := HPB.out (t + 1) (t + 1)
        have e1 : 0 ≤ (((m : Int) - ((t : Int) + 1)) + 1) * prm (t + 1) (t + 1) := Int.mul_nonneg (by omega) hpb.1
        have e2 : (((m : Int) - ((t : Int) + 1)) + 1) * prm (t + 1) (t + 1) ≤ 20 * 20 := Int.mul_le_mul (by omega) (by omega) hpb.1 (by omega)
        generalize cnt7 m t = C at *
        go_wp2
        go_loopg [6, 7] (t + 1) (fun kk p k wq => ∃ j : Nat, j ≤ t + 1 ∧ kk = t + 1 - j ∧ k = .int .i64 ((j : Int) + 1) ∧ p = .int .i64 (prm (t + 1) j) ∧ wq = wr)
        case atStart => exact ⟨0, Nat.zero_le _, rfl, rfl, by simp [prm], rfl⟩
        case round =>
          obtain ⟨j, hj, rfl, rfl, rfl, rfl⟩ := hrel
          by_cases hjl : j < t + 1
          · have hjle : ((j : Int) + 1) ≤ ((t : Int) + 1) := by omega
            have hpj := HPB.out (t + 1) j
            have HG := Lib.hid (l07Gcd_any ((j : Int) + 1) ((t : Int) + 1) wr (by omega) (by omega) (by omega) (by omega))
            have HPj := Lib.hid (HPS.out (t + 1) j)
            have hcast : (((t + 1 : Nat) : Int)) = (t : Int) + 1 := by omega
            rw [hcast] at HPj
            clear hcast e1 e2
            generalize prm (t + 1) j = P at *
            by_cases hq : Int.gcd ((j : Int) + 1) ((t : Int) + 1) = 1
            · have HN : Hid (prm (t + 1) (j + 1) = P + 1) := Lib.hid (by rw [HPj.out, if_pos hq])
              rw [hq] at HG
              clear hq HPj
              go_wp2_with (go_at_call 31; refine HG.out.mono ?_; rintro e w' ⟨rfl, rfl⟩)
              go_roundg (t + 1 - (j + 1))
              case measure => omega
              case rel => exact ⟨j + 1, by omega, rfl, by go_num, by rw [HN.out], rfl⟩
            · have HN : Hid (prm (t + 1) (j + 1) = P) := Lib.hid (by rw [HPj.out, if_neg hq]; omega)
              have hq1 : (((Int.gcd ((j : Int) + 1) ((t : Int) + 1) : Nat) : Int) == 1) = false := by simp; omega
              have hgb : (0 : Int) ≤ ((Int.gcd ((j : Int) + 1) ((t : Int) + 1) : Nat) : Int) := by omega
              generalize Int.gcd ((j : Int) + 1) ((t : Int) + 1) = G at *
              clear hq HPj
              go_wp2_with (go_at_call 31; refine HG.out.mono ?_; rintro e w' ⟨rfl, rfl⟩)
              go_roundg (t + 1 - (j + 1))
              case measure => omega
              case rel => exact ⟨j + 1, by omega, rfl, by go_num, by rw [HN.out], rfl⟩
          · have hjle : ¬ ((j : Int) + 1) ≤ ((t : Int) + 1) := by omega
            have hje : j = t + 1 := by omega
            have HJ : Hid (prm (t + 1) j = prm (t + 1) (t + 1)) := Lib.hid (by rw [hje])
            rw [HJ.out]
            generalize prm (t + 1) (t + 1) = P at *
            have W1 : IntKind.i64.wrap ((((m : Int) - ((t : Int) + 1)) + 1) * P) = (((m : Int) - ((t : Int) + 1)) + 1) * P := IntWalk.i64_in _ (by omega)
            have W2 : IntKind.i64.wrap (C + (((m : Int) - ((t : Int) + 1)) + 1) * P) = C + (((m : Int) - ((t : Int) + 1)) + 1) * P := IntWalk.i64_in _ (by omega)
            go_wp2
            go_roundg (m - (t + 1))
            case measure => omega
            case rel => exact ⟨t + 1, by omega, rfl, by go_num, by rw [HSt.out], rfl⟩
      · have hle : ¬ ((t : Int) + 1) ≤ (m : Int) := by omega
        have HE := Lib.hid (show t = m by omega)
        go_wp2
        go_ret2
        exact ⟨by rw [HE.out]; rfl, Below.refl _ _⟩
end Go.Proofs.YtlkljhncpojlkaaDoor
