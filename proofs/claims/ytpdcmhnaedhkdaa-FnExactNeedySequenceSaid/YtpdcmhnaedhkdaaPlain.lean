/- Plain lemmas: numbers, lists, and what a row of integers in memory is. Nothing here speaks of one program. -/
import Derived.Test.YtpdcmhnaedhkdaaRows
import Derived.WalkKit
import Derived.ProofKit
import Derived.OpenShut
import Derived.ShutString
import Derived.ChangeOld
import Derived.Below
import Derived.Handy
import Derived.Lib.Hide
import Derived.Lib.SmallJoins
import Derived.Deep.Fields
namespace Go.Proofs.Ytpdcmhnaedhkdaa
open Go.ChangeShapes Go.WideShapes Go.ChangeAt Go.RowKit Go.Joins Go.Deep
set_option linter.unusedVariables false

/-! ### numbers -/
def In64 (n : Int) : Prop := -9223372036854775808 ≤ n ∧ n ≤ 9223372036854775807
theorem in64 {n : Int} (h : (Lit.int .i64 n).wf = true) : In64 n := by
  simp [Lit.wf, IntKind.min, IntKind.max, IntKind.signed, IntKind.bits] at h
  exact ⟨by omega, by omega⟩
theorem ret_i64 {a b : Int} (h : a = b) : Ending.returned (.int .i64 a) = .returned (.int .i64 b) := by rw [h]
theorem ret_bool {a b : Bool} (h : a = b) : Ending.returned (.bool a) = .returned (.bool b) := by rw [h]
def inB (n lo hi : Int) : Bool := decide (lo ≤ n) && decide (n ≤ hi)
theorem inB_iff {n lo hi : Int} : inB n lo hi = true ↔ lo ≤ n ∧ n ≤ hi := by simp [inB]
theorem inB_not {n lo hi : Int} : inB n lo hi = false ↔ n < lo ∨ hi < n := by simp [inB]; omega
/-- Floor, ceiling, nearest, for a denominator greater than 0. -/
def fl (a b : Int) : Int := a / b
def ce (a b : Int) : Int := -(-a / b)
def ne (a b : Int) : Int :=
  let q := a / b
  let r := a - b * q
  if 2 * r < b then q else if 2 * r = b ∧ q % 2 = 0 then q else q + 1
theorem fl_lo {a b : Int} (hb : 1 ≤ b) (h : a.tmod b < 0) : a.tdiv b - 1 = fl a b := by
  have h1 := Int.mul_tdiv_add_tmod a b
  have h2 : -b < a.tmod b := by have := Int.lt_tmod_of_pos a (show 0 < b by omega); omega
  unfold fl
  have e : a = b * (a.tdiv b - 1) + (a.tmod b + b) := by rw [Int.mul_sub]; omega
  have : a / b = a.tdiv b - 1 := by
    conv => lhs; rw [e]
    rw [Int.mul_add_ediv_left _ _ (by omega : b ≠ 0), Int.ediv_eq_zero_of_lt (by omega) (by omega)]; omega
  exact this.symm
theorem fl_hi {a b : Int} (hb : 1 ≤ b) (h : 0 ≤ a.tmod b) : a.tdiv b = fl a b := by
  have h1 := Int.mul_tdiv_add_tmod a b
  have h2 : a.tmod b < b := Int.tmod_lt_of_pos a (show 0 < b by omega)
  unfold fl
  have : a / b = a.tdiv b := by
    conv => lhs; rw [show a = b * a.tdiv b + a.tmod b from h1.symm]
    rw [Int.mul_add_ediv_left _ _ (by omega : b ≠ 0), Int.ediv_eq_zero_of_lt (by omega) (by omega)]; omega
  exact this.symm
theorem fl_mul {a b : Int} (hb : 1 ≤ b) : b * fl a b ≤ a ∧ a < b * fl a b + b := by
  have h1 := Int.mul_ediv_add_emod a b
  have h2 := Int.emod_nonneg a (show b ≠ 0 by omega)
  have h3 := Int.emod_lt_of_pos a (show 0 < b by omega)
  unfold fl; constructor <;> omega
theorem fl_eq {a b q : Int} (hb : 1 ≤ b) (h1 : b * q ≤ a) (h2 : a < b * q + b) : fl a b = q := by
  obtain ⟨h3, h4⟩ := fl_mul (a := a) hb
  have h5 : b * fl a b < b * (q + 1) := by rw [Int.mul_add]; omega
  have h6 : b * q < b * (fl a b + 1) := by rw [Int.mul_add]; omega
  have h7 := Int.lt_of_mul_lt_mul_left h5 (by omega)
  have h8 := Int.lt_of_mul_lt_mul_left h6 (by omega)
  omega
theorem fl_bd {a b M : Int} (hb : 1 ≤ b) (h1 : -M ≤ a) (h2 : a ≤ M) (hM : 0 ≤ M) : -M ≤ fl a b ∧ fl a b ≤ M := by
  unfold fl
  have h3 := Int.ediv_le_ediv (show 0 < b by omega) h2
  have h4 := Int.ediv_le_ediv (show 0 < b by omega) h1
  have h5 := Int.ediv_le_self (a := M) b hM
  have h6 : -M ≤ -M / b := by
    apply Int.le_ediv_of_mul_le (by omega)
    have : M * 1 ≤ M * b := Int.mul_le_mul_of_nonneg_left hb hM
    rw [Int.neg_mul]; omega
  omega
theorem ce_eq (a b : Int) : ce a b = -fl (-a) b := rfl
theorem tdiv_bd {a b M : Int} (hb : 1 ≤ b) (h1 : -M ≤ a) (h2 : a ≤ M) (hM : 0 ≤ M) : -M ≤ a.tdiv b ∧ a.tdiv b ≤ M := by
  by_cases h : 0 ≤ a.tmod b
  · rw [fl_hi hb h]; exact fl_bd hb h1 h2 hM
  · have := fl_lo (a := a) hb (by omega)
    have h3 := fl_bd (a := a) hb h1 h2 hM
    have h4 := Int.mul_tdiv_add_tmod a b
    have h5 : a < 0 := by
      by_cases ha : 0 ≤ a
      · have := Int.tmod_nonneg b ha; omega
      · omega
    have : a.tdiv b ≤ 0 := by
      by_cases h6 : a.tdiv b ≤ 0
      · exact h6
      · exfalso
        have h7 : 1 ≤ a.tdiv b := by omega
        have h8 : b * 1 ≤ b * a.tdiv b := Int.mul_le_mul_of_nonneg_left h7 (by omega)
        have h9 : -b < a.tmod b := by have := Int.lt_tmod_of_pos a (show 0 < b by omega); omega
        omega
    omega

theorem ce_bd {a b M : Int} (hb : 1 ≤ b) (h1 : -M ≤ a) (h2 : a ≤ M) (hM : 0 ≤ M) : -M ≤ ce a b ∧ ce a b ≤ M := by
  have := fl_bd (a := -a) hb (by omega : -M ≤ -a) (by omega) hM
  unfold ce; unfold fl at this; omega
theorem ne_bd {a b M : Int} (hb : 1 ≤ b) (h1 : -M ≤ a) (h2 : a ≤ M) (hM : 0 ≤ M) : -M ≤ ne a b ∧ ne a b ≤ M + 1 := by
  have := fl_bd hb h1 h2 hM
  unfold ne; unfold fl at this; simp only []
  split
  · omega
  · split <;> omega
theorem tmod2 (n : Int) : (n.tmod 2 = 0) ↔ n % 2 = 0 := by
  rw [← Int.dvd_iff_tmod_eq_zero, ← Int.dvd_iff_emod_eq_zero]
theorem ne_a {a b : Int} (h : 2 * (a - b * fl a b) < b) : fl a b = ne a b := by
  unfold ne; rw [show a / b = fl a b from rfl]; simp only []; rw [if_pos h]
theorem ne_b {a b : Int} (h : 2 * (a - b * fl a b) = b) (h2 : (fl a b).tmod 2 = 0) : fl a b = ne a b := by
  unfold ne; rw [show a / b = fl a b from rfl]; simp only []; rw [if_neg (by omega), if_pos ⟨h, (tmod2 _).1 h2⟩]
theorem ne_c {a b : Int} (h : 2 * (a - b * fl a b) = b) (h2 : ¬ (fl a b).tmod 2 = 0) : fl a b + 1 = ne a b := by
  unfold ne; rw [show a / b = fl a b from rfl]; simp only []; rw [if_neg (by omega), if_neg (fun x => h2 ((tmod2 _).2 x.2))]
theorem ne_d {a b : Int} (h : b < 2 * (a - b * fl a b)) : fl a b + 1 = ne a b := by
  unfold ne; rw [show a / b = fl a b from rfl]; simp only []; rw [if_neg (by omega), if_neg (fun x => by omega)]

theorem getD_get (zs : List Int) (k : Nat) (h : k < zs.length) : zs.getD k 0 = zs[k] := by simp [List.getD_eq_getElem?_getD, h]
theorem getD_mem (zs : List Int) (k : Nat) (h : k < zs.length) : zs.getD k 0 ∈ zs := by rw [getD_get zs k h]; exact List.getElem_mem h
theorem take_map_succ (φ : Int → Int) (zs : List Int) (k : Nat) (h : k < zs.length) : (zs.take (k + 1)).map φ = (zs.take k).map φ ++ [φ (zs.getD k 0)] := by
  rw [List.take_succ_eq_append_getElem h, List.map_append, getD_get zs k h]; rfl

theorem sum_take_succ (zs : List Int) (k : Nat) (h : k < zs.length) : (zs.take (k + 1)).sum = (zs.take k).sum + zs.getD k 0 := by
  rw [List.take_succ_eq_append_getElem h, getD_get zs k h, List.sum_append, List.sum_cons, List.sum_nil, Int.add_zero]
theorem sum_bd (M : Int) (hM : 0 ≤ M) : ∀ zs : List Int, (∀ z ∈ zs, -M ≤ z ∧ z ≤ M) → -(M * zs.length) ≤ zs.sum ∧ zs.sum ≤ M * zs.length := by
  intro zs
  induction zs with
  | nil => intro _; simp
  | cons a t ih =>
    intro h
    have h1 := h a (by simp)
    have h2 := ih (fun z hz => h z (by simp [hz]))
    simp only [List.sum_cons, List.length_cons]
    rw [show ((t.length + 1 : Nat) : Int) = (t.length : Int) + 1 from by omega, Int.mul_add]
    omega
theorem sum_take_bd (M L : Int) (hM : 0 ≤ M) (zs : List Int) (h : ∀ z ∈ zs, -M ≤ z ∧ z ≤ M) (hl : (zs.length : Int) ≤ L) (k : Nat) : -(M * L) ≤ (zs.take k).sum ∧ (zs.take k).sum ≤ M * L := by
  have h1 := sum_bd M hM (zs.take k) (fun z hz => h z (List.mem_of_mem_take hz))
  have h2 : ((zs.take k).length : Int) ≤ L := by rw [List.length_take]; omega
  have h3 : M * ((zs.take k).length : Int) ≤ M * L := Int.mul_le_mul_of_nonneg_left h2 hM
  omega

def ratio (a b : Int) : Bool := inB a (-1000000000) 1000000000 && inB b 1 1000000000
theorem ratio_iff {a b : Int} : ratio a b = true ↔ (-1000000000 ≤ a ∧ a ≤ 1000000000) ∧ 1 ≤ b ∧ b ≤ 1000000000 := by simp [ratio, inB]
theorem ratio_not {a b : Int} (h : ratio a b = false) : inB a (-1000000000) 1000000000 = false ∨ inB a (-1000000000) 1000000000 = true ∧ inB b 1 1000000000 = false := by
  cases h1 : inB a (-1000000000) 1000000000 <;> simp_all [ratio]
/-- Two results: a number and whether all is well. -/
def opt (b : Bool) (n : Int) : Ending := .returned (.tuple #[.int .i64 (if b then n else 0), .bool b])
theorem opt_no (n : Int) : opt false n = .returned (.tuple #[.int .i64 0, .bool false]) := by simp [opt]
theorem opt_yes (n : Int) : opt true n = .returned (.tuple #[.int .i64 n, .bool true]) := by simp [opt]
def sgn (x y : Int) : Int := if x < y then -1 else if y < x then 1 else 0
theorem mul_bd {a d : Int} (h1 : -1000000000 ≤ a) (h2 : a ≤ 1000000000) (h3 : 1 ≤ d) (h4 : d ≤ 1000000000) : -1000000000000000000 ≤ a * d ∧ a * d ≤ 1000000000000000000 := by
  have e1 : a * d ≤ 1000000000 * d := Int.mul_le_mul_of_nonneg_right h2 (by omega)
  have e2 : -1000000000 * d ≤ a * d := Int.mul_le_mul_of_nonneg_right h1 (by omega)
  omega
theorem sgn_sub (x y : Int) : sgn (x - y) 0 = sgn x y := by
  unfold sgn
  by_cases h : x < y
  · rw [if_pos h, if_pos (by omega)]
  · rw [if_neg h, if_neg (by omega)]
    by_cases h2 : y < x
    · rw [if_pos h2, if_pos (by omega)]
    · rw [if_neg h2, if_neg (by omega)]

theorem take_succ_getD (zs : List Int) (k : Nat) (h : k < zs.length) : zs.take (k + 1) = zs.take k ++ [zs.getD k 0] := by
  rw [List.take_succ_eq_append_getElem h, getD_get zs k h]
/-- The errors of a list: the denominator times its numbers, less the numerators. -/
def errsL (g : Int) (zs ls : List Int) : List Int := List.zipWith (fun l z => g * l - z) ls zs
theorem errsL_len (g : Int) (zs ls : List Int) (h : ls.length = zs.length) : (errsL g zs ls).length = ls.length := by unfold errsL; rw [List.length_zipWith]; omega
theorem errsL_get (g : Int) (zs ls : List Int) (h : ls.length = zs.length) (k : Nat) (hk : k < ls.length) : (errsL g zs ls).getD k 0 = g * ls.getD k 0 - zs.getD k 0 := by
  rw [getD_get _ k (by rw [errsL_len g zs ls h]; exact hk), getD_get ls k hk, getD_get zs k (by omega)]
  unfold errsL; rw [List.getElem_zipWith]
theorem err_bd {g l z : Int} (h1 : 1 ≤ g) (h2 : g ≤ 1000) (h3 : -1000000000 ≤ l) (h4 : l ≤ 1000000000) (h5 : -1000000 ≤ z) (h6 : z ≤ 1000000) :
    -1000000000000 ≤ g * l ∧ g * l ≤ 1000000000000 := by
  have e1 : g * l ≤ g * 1000000000 := Int.mul_le_mul_of_nonneg_left h4 (by omega)
  have e2 : g * (-1000000000) ≤ g * l := Int.mul_le_mul_of_nonneg_left h3 (by omega)
  omega

/-- w' is w but for new blocks (and draws). -/
abbrev Keep0 (w w' : World) : Prop := Below w.heap.size w w'

/-! ### rows of integers in memory -/
/-- The slice at ad holds the numbers zs. (Nothing is asked of the address of an empty one.) -/
structure Ints (w : World) (ad : Option Addr) (zs : List Int) : Prop where
  small : zs.length ≤ 9223372036854775807
  wf : ∀ z ∈ zs, In64 z
  at_ : zs = [] ∨ ∃ b off, ad = some ⟨b, off, none⟩ ∧ b < w.heap.size ∧ ∀ i, i < zs.length → w.cell? ⟨b, off + i, none⟩ = some (.int .i64 (zs.getD i 0))

theorem Ints.keep {w w' : World} {ad : Option Addr} {zs : List Int} {B : Nat} (h : Ints w ad zs) (hb : Below B w w') (hB : w.heap.size ≤ B) : Ints w' ad zs := by
  refine ⟨h.small, h.wf, ?_⟩
  rcases h.at_ with h1 | ⟨b, off, h1, h2, h3⟩
  · exact .inl h1
  · refine .inr ⟨b, off, h1, ?_, fun i hi => ?_⟩
    · have := hb.size; omega
    · rw [hb.cell (by show b < B; omega)]; exact h3 i hi

/-- Out of the reading of an argument that is a slice of int64. -/
theorem ints_open {H : Type} {enc : TypeId × Value → H} {P : Program} {W : World} {t e : TypeId} {d : DataW H} {p : List MemPlace} {ad : Option Addr} {len cap : Nat} (ht : P.underlying t = some (.slice e)) (he : P.underlying e = some (.int .i64)) (hc : P.cellsOf e = 1)
    (h : DataW.Trod enc P W 0 (fun _ => true) true t (.slice ad len cap) d p) : ∃ zs : List Int, zs.length = len ∧ Ints W ad zs := by
  obtain ⟨fuel, hf⟩ := h
  rcases open_ints ht he hc hf with ⟨hcs, _⟩ | ⟨x, l, c, zs, hcs, _, hl, hm, hz, _, hcell, hwz⟩
  · simp [Value.cells] at hcs
    obtain ⟨rfl, rfl, rfl⟩ := hcs
    exact ⟨[], rfl, by simp, by simp, .inl rfl⟩
  · simp [Value.cells] at hcs
    obtain ⟨rfl, rfl, rfl⟩ := hcs
    have hz' : zs.length = cap := by simpa using hz
    unfold maxLen at hm
    refine ⟨zs.take len, by rw [List.length_take]; omega, ?_, ?_, ?_⟩
    · rw [List.length_take]; omega
    · intro z hz; exact in64 (hwz z (List.mem_of_mem_take hz))
    · by_cases h0 : len = 0
      · left; subst h0; simp
      · right
        obtain ⟨b, off, rfl, hcx⟩ := ints_at hcell (by omega)
        refine ⟨b, off, rfl, ?_, fun i hi => ?_⟩
        · exact World.block_lt_of_cell? _ _ (hcx 0 (by omega))
        · rw [List.length_take] at hi
          rw [hcx i (by omega)]
          simp [List.getD_eq_getElem?_getD, show i < len by omega]
/-- Out of the reading of an argument that is a struct of an int64 and a slice of int64. -/
theorem values_open {H : Type} {enc : TypeId × Value → H} {P : Program} {W : World} {t e : TypeId} {n0 n1 : Field} {d : DataW H} {p : List MemPlace} {r : Reach} {b0 : Nat} {v : Value} (hs : P.underlying t = some (.struct #[n0, n1])) (hone : oneCellFields P #[n0, n1] = true) (hC : P.cellsOf t = 2)
    (h0 : P.underlying n0.type = some (.int .i64)) (h1 : P.underlying n1.type = some (.slice e)) (he : P.underlying e = some (.int .i64)) (hc : P.cellsOf e = 1) (hv : Value.okWide P W r b0 t v)
    (h : DataW.Trod enc P W 0 (fun _ => true) true t v d p) : ∃ (g : Int) (ad : Option Addr) (cap : Nat) (zs : List Int), v = .agg #[.int .i64 g, .slice ad zs.length cap] ∧ In64 g ∧ Ints W ad zs := by
  obtain ⟨c0, c1, y0, y1, m, rfl, rfl, rfl, hy0, hy1⟩ := open_agg2 hs hone hC hv h
  obtain ⟨g, e0, rfl, wg⟩ := DataW.trod_int h0 hy0
  simp at e0; subst e0
  obtain ⟨ad, len, cap, e1⟩ := slice_form h1 hy1
  simp at e1; subst e1
  obtain ⟨zs, rfl, hz⟩ := ints_open (ad := ad) (len := len) (cap := cap) h1 he hc ⟨_, by simpa [Value.cells] using hy1⟩
  exact ⟨g, ad, cap, zs, rfl, in64 wg, hz⟩

/-- The slice at ad holds the bytes zs. -/
structure Bytes (w : World) (ad : Option Addr) (zs : List Int) : Prop where
  small : zs.length ≤ 9223372036854775807
  wf : ∀ z ∈ zs, 0 ≤ z ∧ z ≤ 255
  at_ : zs = [] ∨ ∃ b off, ad = some ⟨b, off, none⟩ ∧ b < w.heap.size ∧ ∀ i, i < zs.length → w.cell? ⟨b, off + i, none⟩ = some (.int .u8 (zs.getD i 0))
theorem Bytes.keep {w w' : World} {ad : Option Addr} {zs : List Int} {B : Nat} (h : Bytes w ad zs) (hb : Below B w w') (hB : w.heap.size ≤ B) : Bytes w' ad zs := by
  refine ⟨h.small, h.wf, ?_⟩
  rcases h.at_ with h1 | ⟨b, off, h1, h2, h3⟩
  · exact .inl h1
  · refine .inr ⟨b, off, h1, ?_, fun i hi => ?_⟩
    · have := hb.size; omega
    · rw [hb.cell (by show b < B; omega)]; exact h3 i hi
theorem bytes_open {H : Type} {enc : TypeId × Value → H} {P : Program} {W : World} {t e : TypeId} {d : DataW H} {p : List MemPlace} {ad : Option Addr} {len cap : Nat} (ht : P.underlying t = some (.slice e)) (he : P.underlying e = some (.int .u8)) (hc : P.cellsOf e = 1)
    (h : DataW.Trod enc P W 0 (fun _ => true) true t (.slice ad len cap) d p) : ∃ zs : List Int, zs.length = len ∧ Bytes W ad zs := by
  obtain ⟨fuel, hf⟩ := h
  rcases open_ints ht he hc hf with ⟨hcs, _⟩ | ⟨x, l, c, zs, hcs, _, hl, hm, hz, _, hcell, hwz⟩
  · simp [Value.cells] at hcs
    obtain ⟨rfl, rfl, rfl⟩ := hcs
    exact ⟨[], rfl, by simp, by simp, .inl rfl⟩
  · simp [Value.cells] at hcs
    obtain ⟨rfl, rfl, rfl⟩ := hcs
    have hz' : zs.length = cap := by simpa using hz
    unfold maxLen at hm
    refine ⟨zs.take len, by rw [List.length_take]; omega, ?_, ?_, ?_⟩
    · rw [List.length_take]; omega
    · intro z hz
      have := hwz z (List.mem_of_mem_take hz)
      simp [Lit.wf, IntKind.min, IntKind.max, IntKind.signed, IntKind.bits] at this
      omega
    · by_cases h0 : len = 0
      · left; subst h0; simp
      · right
        obtain ⟨b, off, rfl, hcx⟩ := ints_at hcell (by omega)
        refine ⟨b, off, rfl, ?_, fun i hi => ?_⟩
        · exact World.block_lt_of_cell? _ _ (hcx 0 (by omega))
        · rw [List.length_take] at hi
          rw [hcx i (by omega)]
          simp [List.getD_eq_getElem?_getD, show i < len by omega]
end Go.Proofs.Ytpdcmhnaedhkdaa
