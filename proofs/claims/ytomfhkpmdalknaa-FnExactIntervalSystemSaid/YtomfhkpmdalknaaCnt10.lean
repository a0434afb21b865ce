/- How many points a set has: the program's count of bits, and the model's. -/
import Derived.Test.YtomfhkpmdalknaaDis10
import Derived.Test.YtomfhkpmdalknaaIdx10
import Derived.Deep.QuietTactic
import Derived.BigQuiet
namespace Go.Proofs.Ytomfhkpmdalknaa
open Go.ChangeShapes Go.WideShapes Go.ChangeAt Go.RowKit Go.Deep
set_option linter.unusedVariables false
def oc1 (x : Nat) : Nat := (x / 2 &&& 6148914691236517205) + (x &&& 6148914691236517205)
def oc2 (x : Nat) : Nat := (x / 4 &&& 3689348814741910323) + (x &&& 3689348814741910323)
def oc3 (x : Nat) : Nat := (x / 16 + x) &&& 1085102592571150095
def oc4 (x : Nat) : Nat := x + x / 256
def oc5 (x : Nat) : Nat := x + x / 65536
def oc6 (x : Nat) : Nat := x + x / 4294967296
def ocV (x : Nat) : Nat := oc6 (oc5 (oc4 (oc3 (oc2 (oc1 x))))) &&& 127
set_option maxRecDepth 100000 in
theorem oc_list : ((List.range 4096).all fun x => ocV x == pcT x 12) = true := by decide +kernel
theorem oc_is {x : Nat} (h : x < 4096) : ocV x = pc x := by
  have h1 := List.all_eq_true.1 oc_list x (List.mem_range.2 h)
  have h2 : pc x = pcT x 12 := pcT_top (by simpa using h) 64 (by omega)
  rw [h2]; simpa using h1
theorem oc_bd {x : Nat} (h : x < 4096) : oc1 x < 65536 ∧ oc2 (oc1 x) < 65536 ∧ oc3 (oc2 (oc1 x)) < 131072 ∧ oc4 (oc3 (oc2 (oc1 x))) < 262144 ∧ oc5 (oc4 (oc3 (oc2 (oc1 x)))) < 1048576 ∧ oc6 (oc5 (oc4 (oc3 (oc2 (oc1 x))))) < 4194304 := by
  have a1 : x / 2 &&& 6148914691236517205 ≤ x / 2 := Nat.and_le_left
  have a2 : x &&& 6148914691236517205 ≤ x := Nat.and_le_left
  have b1 : oc1 x < 6200 := by unfold oc1; omega
  generalize oc1 x = y at *
  have a3 : y / 4 &&& 3689348814741910323 ≤ y / 4 := Nat.and_le_left
  have a4 : y &&& 3689348814741910323 ≤ y := Nat.and_le_left
  have b2 : oc2 y < 8000 := by unfold oc2; omega
  generalize oc2 y = z at *
  have a5 : (z / 16 + z) &&& 1085102592571150095 ≤ z / 16 + z := Nat.and_le_left
  have b3 : oc3 z < 10000 := by unfold oc3; omega
  generalize oc3 z = u at *
  unfold oc6 oc5 oc4
  omega
theorem half_step (x j : Nat) : x / 2 ^ (j + 1) = x / 2 ^ j / 2 := by rw [Nat.pow_succ, Nat.div_div_eq_div_mul]
theorem pcT_step (x j : Nat) : pcT x (j + 1) = pcT x j + x / 2 ^ j % 2 := by
  rw [pcT, Nat.testBit_eq_decide_div_mod_eq]
  rcases Nat.mod_two_eq_zero_or_one (x / 2 ^ j) with h | h <;> rw [h] <;> rfl
theorem pc_end {x j : Nat} (h : x / 2 ^ j = 0) (hj : j ≤ 64) : pc x = pcT x j := by
  have hp : 0 < 2 ^ j := Nat.pos_of_ne_zero (by have := Nat.one_le_two_pow (n := j); omega)
  exact pcT_top ((Nat.div_eq_zero_iff_lt hp).1 h) 64 hj
end Go.Proofs.Ytomfhkpmdalknaa
