/- The sum of squares of a list: the program's side. -/
import Derived.Test.YtmckbjhmkcbjgaaMap4
import Derived.Test.YtmckbjhmkcbjgaaGreat
import Derived.Test.YtmckbjhmkcbjgaaTot
namespace Go.Proofs.Ytmckbjhmkcbjgaa
open Go.ChangeShapes Go.WideShapes Go.ChangeAt Go.RowKit
set_option linter.unusedVariables false
theorem ab_sq8 (e : Int) : ab e * ab e = e * e := by
  unfold ab
  split
  · rfl
  · exact Int.neg_mul_neg e e
theorem sq_bd8 {z M : Int} (h : -M ≤ z ∧ z ≤ M) : 0 ≤ z * z ∧ z * z ≤ M * M := by
  have ha := ab_bd (M := M) (n := z) ⟨h.1, h.2⟩
  have h3 : ab z * ab z ≤ M * M := Int.mul_le_mul ha.2 ha.2 ha.1 (by omega)
  have h4 : 0 ≤ ab z * ab z := Int.mul_nonneg ha.1 ha.1
  rw [ab_sq8] at h3 h4; exact ⟨h4, h3⟩
/-- The sum of squares. -/
def sqs (E : List Int) : Int := (E.map fun e => e * e).sum
theorem sqr8_any (n : Int) (w : World) (h1 : -31000 ≤ n) (h2 : n ≤ 31000) :
    Calls Try.prog 108 #[.int .i64 n] w fun e w' => e = .returned (.int .i64 (n * n)) ∧ w = w' := by
  have b1 := sq_bd8 (z := n) (M := 31000) ⟨h1, h2⟩
  go_enter Try.func108, Try.ntmps108
  go_wp2
  go_ret
  exact ⟨rfl, rfl⟩
set_option maxHeartbeats 800000 in
theorem squareSum_any (ad : Option Addr) (cap : Nat) (E : List Int) (w : World) (hz : Ints w ad E) (hb : ∀ z ∈ E, -31000 ≤ z ∧ z ≤ 31000) (hl : E.length ≤ 1000) :
    Calls Try.prog 84 #[.slice ad E.length cap] w fun e w' => e = .returned (.int .i64 (sqs E)) ∧ Keep w w' := by
  have HE := Lib.hid hb
  have HSQ : Hid (∀ z ∈ E, 0 ≤ z * z ∧ z * z ≤ 961000000) := Lib.hid (fun z h => by have := sq_bd8 (z := z) (M := 31000) (hb z h); omega)
  clear hb
  go_enter Try.func84, Try.ntmps84
  go_wp2_with fail
  refine (mappedSq8_any (fun e => e * e) (.bool true) ad cap E _ hz (by omega) (fun z hz => ?_) (fun x hx W k => ?_)).mono ?_
  · have := HSQ.out z hz; exact ⟨by omega, by omega⟩
  · have := HE.out x hx; exact sqr8_any x W (by omega) (by omega)
  have HMB : Hid (∀ z ∈ (E.map fun e => e * e), -1000000000 ≤ z ∧ z ≤ 1000000000) := Lib.hid (fun z hz => by
    obtain ⟨y, hy, rfl⟩ := List.mem_map.1 hz
    have := HSQ.out y hy; omega)
  have HML : Hid ((E.map fun e => e * e).length ≤ 1000) := Lib.hid (by simp; omega)
  rintro e w3 ⟨rd3, rc3, rfl, o3, k3⟩
  have HS : Hid (sqs E = (E.map fun e => e * e).sum) := Lib.hid rfl
  generalize (E.map fun e => e * e) = M at *
  go_wp2_with fail
  refine (total_any rd3 rc3 M _ o3.ints HMB.out (by have := HML.out; omega)).mono ?_
  rintro e w4 ⟨rfl, rfl⟩
  go_wp2
  go_ret
  exact ⟨ret_i64 HS.out.symm, k3⟩
end Go.Proofs.Ytmckbjhmkcbjgaa
