/- Greatest common divisors by Euclid's way: the model's and the program's; the divisor of many numbers. -/
import Derived.Test.YtomfhkpmdalknabGreat
import Derived.Test.YtomfhkpmdalknabInts
import Derived.Deep.QuietTactic
namespace Go.Proofs.Ytomfhkpmdalknab
open Go.ChangeShapes Go.WideShapes Go.ChangeAt Go.RowKit
set_option linter.unusedVariables false
theorem gcd_step (x y : Int) : Int.gcd y (x.tmod y) = Int.gcd x y := by
  unfold Int.gcd
  rw [Int.natAbs_tmod, Nat.gcd_comm, ← Nat.gcd_rec, Nat.gcd_comm]
theorem gcd_step2 (x y : Int) : Int.gcd (y.tmod x) x = Int.gcd x y := by
  rw [Int.gcd_comm, gcd_step, Int.gcd_comm]
theorem ab_nat (x : Int) : ab x = (x.natAbs : Int) := by unfold ab; split <;> omega
theorem tmod_in {x y M : Int} (hx : -M ≤ x ∧ x ≤ M) : -M ≤ x.tmod y ∧ x.tmod y ≤ M := by
  have h := Int.natAbs_tmod x y
  have h2 : x.natAbs % y.natAbs ≤ x.natAbs := Nat.mod_le _ _
  omega
theorem tmod_less {x y : Int} (hy : y ≠ 0) : (x.tmod y).natAbs < y.natAbs := by
  rw [Int.natAbs_tmod]; exact Nat.mod_lt _ (by omega)
/-- The greatest number that divides t and the first k numbers. -/
def gcdT (t : Int) (zs : List Int) (k : Nat) : Int := (zs.take k).foldl (fun g z => (Int.gcd g z : Int)) t
theorem gcdT_zero (t : Int) (zs : List Int) : gcdT t zs 0 = t := by simp [gcdT]
theorem gcdT_succ (t : Int) (zs : List Int) (k : Nat) (h : k < zs.length) : gcdT t zs (k + 1) = (Int.gcd (gcdT t zs k) (zs.getD k 0) : Int) := by
  unfold gcdT; rw [take_succ_getD zs k h, List.foldl_append]; rfl
theorem gcd_bd {g z : Int} (h : 1 ≤ g) : 1 ≤ (Int.gcd g z : Int) ∧ (Int.gcd g z : Int) ≤ g := by
  have h1 : 0 < Int.gcd g z := Nat.gcd_pos_of_pos_left _ (by omega)
  have h2 : Int.gcd g z ≤ g.natAbs := Nat.gcd_le_left _ (by omega)
  omega
theorem gcdT_bd (t : Int) (zs : List Int) (ht : 1 ≤ t) : ∀ k, k ≤ zs.length → 1 ≤ gcdT t zs k ∧ gcdT t zs k ≤ t := by
  intro k
  induction k with
  | zero => intro _; rw [gcdT_zero]; omega
  | succ k ih =>
    intro hk
    have h1 := ih (by omega)
    have h2 := gcd_bd (z := zs.getD k 0) h1.1
    rw [gcdT_succ t zs k (by omega)]; omega
theorem tdiv_in {x g M : Int} (hg : 1 ≤ g) (hx : -M ≤ x ∧ x ≤ M) : -M ≤ x.tdiv g ∧ x.tdiv g ≤ M := by
  have h : (x.tdiv g).natAbs = x.natAbs / g.natAbs := Int.natAbs_tdiv x g
  have h2 : x.natAbs / g.natAbs ≤ x.natAbs := Nat.div_le_self _ _
  rw [← h] at h2
  omega
set_option maxHeartbeats 800000 in
theorem commonDivisor_any (a b : Int) (w : World) (ha : -1000000000000000 ≤ a) (ha2 : a ≤ 1000000000000000) (hb : -1000000000000000 ≤ b) (hb2 : b ≤ 1000000000000000) :
    Calls Try.prog 39 #[.int .i64 a, .int .i64 b] w fun e w' => e = .returned (.int .i64 (Int.gcd a b : Int)) ∧ ∃ n, w' = w.drewN n := by
  obtain ⟨G, hG⟩ : ∃ G, G = Int.gcd a b := ⟨_, rfl⟩
  rw [← hG]
  have HG : Hid (Int.gcd a b = G) := Lib.hid hG.symm
  clear hG
  go_enter Try.func39, Try.ntmps39
  go_wp2
  go_loopw [0, 1] (fun s t wr => ∃ x y : Int, s = .int .i64 x ∧ t = .int .i64 y ∧ -1000000000000000 ≤ x ∧ x ≤ 1000000000000000 ∧ -1000000000000000 ≤ y ∧ y ≤ 1000000000000000 ∧ Hid (Int.gcd x y = G) ∧ ∃ n, wr = w.drewN n) (fun _ t _ => (intOf t).natAbs)
  case atStart => exact ⟨a, b, rfl, rfl, ha, ha2, hb, hb2, HG, 0, rfl⟩
  case round =>
    obtain ⟨x, y, rfl, rfl, h1, h2, h3, h4, HX, n, rfl⟩ := hrel
    by_cases hy : y = 0
    · have hy1 : (y != 0) = false := by simp [hy]
      have HE : Hid (ab x = (G : Int)) := Lib.hid (by
        have h := HX.out
        rw [hy] at h
        unfold Int.gcd at h
        simp at h
        rw [ab_nat, h])
      clear hy
      go_wp2_with (go_at_call 35; refine (absolute_any _ _ (by omega) (by omega)).mono ?_; rw [HE.out]; rintro e w' ⟨rfl, rfl⟩)
      go_ret
      exact ⟨rfl, n, rfl⟩
    · have hy1 : (y != 0) = true := by simp [hy]
      have hm := tmod_in (y := y) (⟨h1, h2⟩ : -1000000000000000 ≤ x ∧ x ≤ 1000000000000000)
      have HML := Lib.hid (tmod_less (x := x) hy)
      have HST := Lib.hid (gcd_step x y)
      go_wp2
      go_region
      go_wp2
      go_roundw
      case rel => exact ⟨y, x.tmod y, rfl, by go_num, h3, h4, hm.1, hm.2, Lib.hid (by rw [HST.out]; exact HX.out), n + 1, by first | rfl | simp⟩
      case measure => simp only [intOf]; exact HML.out
end Go.Proofs.Ytomfhkpmdalknab
