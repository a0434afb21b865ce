/- Lists as texts: the images under Decimal, joined. -/
import Derived.Test.YtpdcmhnaedhkdabDoorVals
import Derived.Test.YtpdcmhnaedhkdabDoorDec
import Derived.Test.YtpdcmhnaedhkdabDoorShelf
import Derived.Lib.SmallJoins
import Derived.Lib.LaidTab
import Derived.Lib.AppendIntMem
import Derived.Lib.Join
import Derived.WalkSmall
namespace Go.Proofs.YtpdcmhnaedhkdabDoor
open Go.ChangeShapes Go.WideShapes Go.ChangeAt Go.RowKit
set_option linter.unusedVariables false
theorem gPowJ : Tryd.prog.globalNamed "internal/strconv.uint64pow10" = some 1 := by kernel_rfl
/-- The library's powers of ten are in place. -/
def Pows (w : World) : Prop := Lib.TabIs Tryd.prog w "internal/strconv.uint64pow10" .u64 Lib.pow10Tab
theorem Pows.keep {w w' : World} (h : Pows w) (k : Keep w w') : Pows w' := var?_below k gPowJ (World.block_lt_of_cell? _ _ (Lib.TabIs.cell h gPowJ 0 (by decide))) h
theorem Decimal_tab (n : Int) (w : World) (hn : In64 n) (h : Pows w) :
    Calls Tryd.prog 27 #[.int .i64 n] w fun e w' => e = .returned (.string ⟨(Lib.itoa n).toArray⟩) ∧ Keep w w' := by
  go_enter Tryd.func27, Tryd.ntmps27
  go_wp2_with fail
  refine (Tryd.strconv_FormatInt_10 n hn.1 hn.2 w h).mono ?_
  rintro e w' ⟨rfl, k, os, rfl⟩
  go_wp2
  go_ret
  exact ⟨rfl, Lib.below_grow _ w (Nat.le_refl _) k os⟩
def bstr (l : List UInt8) : ByteArray := ⟨l.toArray⟩
def decs (zs : List Int) : List ByteArray := zs.map fun z => bstr (Lib.itoa z)
abbrev svals (xs : List ByteArray) : List Value := xs.map Value.string
/-- The text of a list. -/
def txt (zs : List Int) : List UInt8 := if zs = [] then [45] else Lib.join (zs.map Lib.itoa) [44]
theorem itoa_len (n : Int) (h : In64 n) : (Lib.itoa n).length ≤ 20 := by
  have h1 := h.1
  have h2 := h.2
  rw [Lib.itoa]
  split
  · have := dec_len n.natAbs 19 (by omega) (by omega)
    simp; omega
  · have := dec_len n.toNat 19 (by omega) (by omega)
    omega
theorem joinTail_len20 (zs : List Int) (h : ∀ z ∈ zs, In64 z) : (Lib.joinTail [44] (zs.map Lib.itoa)).length ≤ 21 * zs.length := by
  induction zs with
  | nil => simp [Lib.joinTail]
  | cons z r ih =>
    have h1 := ih fun y hy => h y (List.mem_cons_of_mem _ hy)
    have h2 := itoa_len z (h z (List.mem_cons_self ..))
    simp only [Lib.joinTail, List.map_cons, List.flatten_cons, List.length_append, List.length_cons, List.length_nil] at h1 ⊢
    omega
theorem txt_len (zs : List Int) (h : ∀ z ∈ zs, In64 z) : (Lib.join (zs.map Lib.itoa) [44]).length ≤ 21 * zs.length := by
  cases zs with
  | nil => simp [Lib.join_nil]
  | cons z r =>
    have h1 := joinTail_len20 r fun y hy => h y (List.mem_cons_of_mem _ hy)
    have h2 := itoa_len z (h z (List.mem_cons_self ..))
    rw [List.map_cons, Lib.join_cons, List.length_append, List.length_cons]; omega
theorem join_step (zs : List Int) (k : Nat) (h0 : 1 ≤ k) (h : k < zs.length) : Lib.join ((zs.take (k + 1)).map Lib.itoa) [44] = Lib.join ((zs.take k).map Lib.itoa) [44] ++ [44] ++ Lib.itoa (zs.getD k 0) := by
  cases zs with
  | nil => simp at h
  | cons z r =>
    obtain ⟨j, rfl⟩ : ∃ j, k = j + 1 := ⟨k - 1, by omega⟩
    have hj : j < r.length := by simpa using h
    have e : (r.map Lib.itoa)[j]? = some (Lib.itoa ((z :: r).getD (j + 1) 0)) := by simp [List.getD_eq_getElem?_getD, hj]
    have h1 := Lib.joinTail_take_succ [44] (r.map Lib.itoa) j _ e
    rw [List.take_succ_cons, List.take_succ_cons, List.map_cons, List.map_cons, Lib.join_cons, Lib.join_cons, List.map_take, List.map_take, h1]
    simp [List.append_assoc]
theorem fillv_get (xs : List Value) (k : Nat) (h : k < xs.length) (z : Value) : (xs.take k ++ List.replicate (xs.length - k) z)[k]? = some z := by
  rw [List.getElem?_append_right (by simp; omega), List.getElem?_replicate, if_pos (by simp; omega)]
theorem fillv_set (xs : List Value) (k : Nat) (h : k < xs.length) (z y : Value) (hy : xs[k]? = some y) : (xs.take k ++ List.replicate (xs.length - k) z).set k y = xs.take (k + 1) ++ List.replicate (xs.length - (k + 1)) z := by
  have e : List.replicate (xs.length - k) z = z :: List.replicate (xs.length - (k + 1)) z := by
    rw [show xs.length - k = (xs.length - (k + 1)) + 1 from by omega, List.replicate_succ]
  rw [e, List.set_append_right _ _ (by simp; omega)]
  have : k - (List.take k xs).length = 0 := by simp; omega
  rw [this, List.set_cons_zero, List.take_add_one, hy]
  simp [List.append_assoc]
theorem Tryd.infoS : (Tryd.prog.info? 9).map (fun i => (i.zero, i.size, i.bytes)) = some (some (.string ⟨#[]⟩), 1, 16) := by kernel_rfl
end Go.Proofs.YtpdcmhnaedhkdabDoor
