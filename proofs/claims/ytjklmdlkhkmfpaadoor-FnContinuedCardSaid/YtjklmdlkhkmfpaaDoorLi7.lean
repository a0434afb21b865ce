/- Words of lines, Christoffel words: the program's look. -/
import Derived.Test.YtjklmdlkhkmfpaaDoorLn7
import Derived.Test.YtjklmdlkhkmfpaaDoorBu7
namespace Go.Proofs.YtjklmdlkhkmfpaaDoor
open Go.ChangeShapes Go.WideShapes Go.ChangeAt Go.RowKit Go.Deep
set_option linter.unusedVariables false
/-- The next floor is the same or the next number. -/
theorem fl_grow {x a d : Int} (h1 : 1 ≤ d) (h2 : 0 ≤ a) (h3 : a ≤ d) : fl (x + a) d = fl x d ∨ fl (x + a) d = fl x d + 1 := by
  obtain ⟨e1, e2⟩ := fl_mul (a := x) h1
  by_cases q : x + a < d * fl x d + d
  · exact .inl (fl_eq h1 (by omega) q)
  · refine .inr (fl_eq h1 ?_ ?_) <;> (rw [Int.mul_add]; omega)
def numsU (zs : List Int) : List UInt8 := zs.map fun z => UInt8.ofNat z.toNat
theorem numsU_str (zs : List Int) : (⟨(numsU zs).toArray⟩ : ByteArray) = strOfNums zs := rfl
theorem numsU_cells (zs : List Int) (h : ∀ z ∈ zs, 0 ≤ z ∧ z ≤ 255) : Lib.byteCells (numsU zs) = bvals zs := by
  unfold Lib.byteCells numsU bvals
  rw [List.map_map]
  refine List.map_congr_left fun z hz => ?_
  have := h z hz
  show Value.int .u8 ((UInt8.ofNat z.toNat).toNat : Int) = _
  congr 1
  rw [UInt8.toNat_ofNat_of_lt' (by show z.toNat < 256; omega)]
  omega
theorem lnB_ab (a den shift i : Int) : lnB a den shift i = 97 ∨ lnB a den shift i = 98 := by unfold lnB; split <;> simp
theorem lnN_ab (a den shift : Int) (n : Nat) : ∀ z ∈ lnN a den shift n, z = 97 ∨ z = 98 := by
  intro z hz
  unfold lnN at hz
  obtain ⟨i, _, rfl⟩ := List.mem_map.1 hz
  exact lnB_ab _ _ _ _
end Go.Proofs.YtjklmdlkhkmfpaaDoor
