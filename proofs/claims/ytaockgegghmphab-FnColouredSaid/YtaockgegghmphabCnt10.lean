/- How many points a set has: the program's count of bits, and the model's. -/
import Derived.Test.YtaockgegghmphabDis10
import Derived.Test.YtaockgegghmphabIdx10
import Derived.Deep.QuietTactic
import Derived.BigQuiet
namespace Go.Proofs.Ytaockgegghmphab
open Go.ChangeShapes Go.WideShapes Go.ChangeAt Go.RowKit Go.Deep
set_option linter.unusedVariables false
def oc1 (x : Nat) : Nat := (x / 2 &&& 6148914691236517205) + (x &&& 6148914691236517205)
def oc2 (x : Nat) : Nat := (x / 4 &&& 3689348814741910323) + (x &&& 3689348814741910323)
def oc3 (x : Nat) : Nat := (x / 16 + x) &&& 1085102592571150095
def oc4 (x : Nat) : Nat := x + x / 256
def oc5 (x : Nat) : Nat := x + x / 65536
def oc6 (x : Nat) : Nat := x + x / 4294967296
def ocV (x : Nat) : Nat := oc6 (oc5 (oc4 (oc3 (oc2 (oc1 x))))) &&& 127
set_option maxRecDepth 100000 in
theorem oc_list : ((List.range 4096).all fun x => ocV x == pcT x 12) = true := by decide +kernel
theorem oc_is {x : Nat} (h : x < 4096) : ocV x = pc x := by
  have h1 := List.all_eq_true.1 oc_list x (List.mem_range.2 h)
  have h2 : pc x = pcT x 12 := pcT_top (by simpa using h) 64 (by omega)
  rw [h2]; simpa using h1
theorem oc_bd {x : Nat} (h : x < 4096) : oc1 x < 65536 ∧ oc2 (oc1 x) < 65536 ∧ oc3 (oc2 (oc1 x)) < 131072 ∧ oc4 (oc3 (oc2 (oc1 x))) < 262144 ∧ oc5 (oc4 (oc3 (oc2 (oc1 x)))) < 1048576 ∧ oc6 (oc5 (oc4 (oc3 (oc2 (oc1 x))))) < 4194304 := by
  have a1 : x / 2 &&& 6148914691236517205 ≤ x / 2 := Nat.and_le_left
  have a2 : x &&& 6148914691236517205 ≤ x := Nat.and_le_left
  have b1 : oc1 x < 6200 := by unfold oc1; omega
  generalize oc1 x = y at *
  have a3 : y / 4 &&& 3689348814741910323 ≤ y / 4 := Nat.and_le_left
  have a4 : y &&& 3689348814741910323 ≤ y := Nat.and_le_left
  have b2 : oc2 y < 8000 := by unfold oc2; omega
  generalize oc2 y = z at *
  have a5 : (z / 16 + z) &&& 1085102592571150095 ≤ z / 16 + z := Nat.and_le_left
  have b3 : oc3 z < 10000 := by unfold oc3; omega
  generalize oc3 z = u at *
  unfold oc6 oc5 oc4
  omega
theorem OnesCount_any (x : Nat) (w : World) (hx : x < 4096) :
    Calls Try.prog 106 #[.int .u64 x] w fun e w' => e = .returned (.int .i64 (pc x : Nat)) ∧ w = w' := by
  obtain ⟨b1, b2, b3, b4, b5, b6⟩ := oc_bd hx
  have HV := Lib.hid (oc_is hx)
  have c1 : bits .and .u64 ((x : Int) / 2) 6148914691236517205 = ((x / 2 &&& 6148914691236517205 : Nat) : Int) := u64_and_nat (x / 2) 6148914691236517205 (by omega) (by decide)
  have c2 : bits .and .u64 (x : Int) 6148914691236517205 = ((x &&& 6148914691236517205 : Nat) : Int) := u64_and_nat x 6148914691236517205 (by omega) (by decide)
  have c3 : IntKind.u64.wrap (((x / 2 &&& 6148914691236517205 : Nat) : Int) + ((x &&& 6148914691236517205 : Nat) : Int)) = (oc1 x : Nat) := by rw [IntKind.wrap_u64]; unfold oc1 at *; omega
  unfold ocV at HV
  generalize oc1 x = y at *
  have d1 : bits .and .u64 ((y : Int) / 4) 3689348814741910323 = ((y / 4 &&& 3689348814741910323 : Nat) : Int) := u64_and_nat (y / 4) 3689348814741910323 (by omega) (by decide)
  have d2 : bits .and .u64 (y : Int) 3689348814741910323 = ((y &&& 3689348814741910323 : Nat) : Int) := u64_and_nat y 3689348814741910323 (by omega) (by decide)
  have d3 : IntKind.u64.wrap (((y / 4 &&& 3689348814741910323 : Nat) : Int) + ((y &&& 3689348814741910323 : Nat) : Int)) = (oc2 y : Nat) := by rw [IntKind.wrap_u64]; unfold oc2 at *; omega
  generalize oc2 y = z at *
  have e2 : bits .and .u64 ((z : Int) / 16 + (z : Int)) 1085102592571150095 = (oc3 z : Nat) := u64_and_nat (z / 16 + z) 1085102592571150095 (by omega) (by decide)
  generalize oc3 z = u at *
  have f5 : bits .and .i64 ((u : Int) + (u : Int) / 256 + ((u : Int) + (u : Int) / 256) / 65536 + ((u : Int) + (u : Int) / 256 + ((u : Int) + (u : Int) / 256) / 65536) / 4294967296) 127 = ((oc6 (oc5 (oc4 u)) &&& 127 : Nat) : Int) :=
    i64_andX (oc6 (oc5 (oc4 u))) 127 (by omega) (by decide)
  go_enter Try.func106, Try.ntmps106
  go_wp2
  go_ret
  exact ⟨ret_i64 (by rw [HV.out]), rfl⟩
theorem size_any (x : Nat) (w : World) (hx : x < 4096) :
    Calls Try.prog 56 #[.int .u64 x] w fun e w' => e = .returned (.int .i64 (pc x : Nat)) ∧ w = w' := by
  go_enter Try.func56, Try.ntmps56
  go_wp2_with (go_at_call 106; refine (OnesCount_any x _ hx).mono ?_; rintro e w' ⟨rfl, rfl⟩)
  go_ret
  exact ⟨rfl, rfl⟩
theorem half_step (x j : Nat) : x / 2 ^ (j + 1) = x / 2 ^ j / 2 := by rw [Nat.pow_succ, Nat.div_div_eq_div_mul]
theorem pcT_step (x j : Nat) : pcT x (j + 1) = pcT x j + x / 2 ^ j % 2 := by
  rw [pcT, Nat.testBit_eq_decide_div_mod_eq]
  rcases Nat.mod_two_eq_zero_or_one (x / 2 ^ j) with h | h <;> rw [h] <;> rfl
theorem pc_end {x j : Nat} (h : x / 2 ^ j = 0) (hj : j ≤ 64) : pc x = pcT x j := by
  have hp : 0 < 2 ^ j := Nat.pos_of_ne_zero (by have := Nat.one_le_two_pow (n := j); omega)
  exact pcT_top ((Nat.div_eq_zero_iff_lt hp).1 h) 64 hj
end Go.Proofs.Ytaockgegghmphab
