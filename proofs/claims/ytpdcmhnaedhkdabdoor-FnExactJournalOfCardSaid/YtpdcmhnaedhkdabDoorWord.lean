/- The word of a fraction, byte for byte. -/
import Derived.Test.YtpdcmhnaedhkdabDoorInts
import Derived.Test.YtpdcmhnaedhkdabDoorMem
import Derived.Laws.BytesArg
namespace Go.Proofs.YtpdcmhnaedhkdabDoor
open Go.ChangeShapes Go.WideShapes Go.ChangeAt Go.RowKit
set_option linter.unusedVariables false
theorem Tryd.infoB : (Tryd.prog.info? 5).map (fun i => (i.zero, i.size, i.bytes)) = some (some (.int .u8 0), 1, 1) := by kernel_rfl
abbrev bvals (zs : List Int) : List Value := zs.map (Value.int .u8)
def wB (a den : Int) (i : Int) : Int := if fl (i * a) den < fl ((i + 1) * a) den then 49 else 48
def wordN (a den : Int) (n : Nat) : List Int := (List.range n).map fun (i : Nat) => wB a den i
theorem wordN_len (a den : Int) (n : Nat) : (wordN a den n).length = n := by simp [wordN]
theorem wordN_succ (a den : Int) (n : Nat) : wordN a den (n + 1) = wordN a den n ++ [wB a den n] := by simp [wordN, List.range_succ]
theorem wB_bd (a den i : Int) : 0 ≤ wB a den i ∧ wB a den i ≤ 255 := by unfold wB; split <;> omega
def okW (a den count : Int) : Bool := inB den 1 1000 && inB a 0 den && inB count 0 400
def wordS (a den count : Int) : ByteArray := if okW a den count then strOfNums (wordN a den count.toNat) else ByteArray.empty
theorem mul_small {k : Nat} {a d : Int} (hk : k ≤ 400) (h0 : 0 ≤ a) (h1 : a ≤ d) (h2 : d ≤ 1000) : (0 ≤ (k : Int) * a ∧ (k : Int) * a ≤ 400000) ∧ (0 ≤ ((k : Int) + 1) * a ∧ ((k : Int) + 1) * a ≤ 401000) := by
  have e1 : (k : Int) * a ≤ 400 * 1000 := Int.mul_le_mul (by omega) (by omega) (by omega) (by omega)
  have e2 : 0 ≤ (k : Int) * a := Int.mul_nonneg (by omega) h0
  have e3 : ((k : Int) + 1) * a = (k : Int) * a + a := by rw [Int.add_mul, Int.one_mul]
  omega
theorem row_set (xs : List Value) (n k : Nat) (hx : xs.length = k) (h : k < n) (z v : Value) : (xs ++ List.replicate (n - k) z).set k v = (xs ++ [v]) ++ List.replicate (n - (k + 1)) z := by
  subst hx
  have e : List.replicate (n - xs.length) z = z :: List.replicate (n - (xs.length + 1)) z := by
    rw [show n - xs.length = (n - (xs.length + 1)) + 1 from by omega, List.replicate_succ]
  rw [e, List.set_append_right _ _ (Nat.le_refl _), Nat.sub_self, List.set_cons_zero]; simp
theorem row_set2 (xs ys : List Value) (k : Nat) (hx : xs.length = k) (u v : Value) : ((xs ++ [u]) ++ ys).set k v = (xs ++ [v]) ++ ys := by
  subst hx
  simp
theorem row_get (xs ys : List Value) (k : Nat) (hx : xs.length = k) (u : Value) : ((xs ++ [u]) ++ ys)[k]? = some u := by
  subst hx
  simp
theorem row_get0 (xs : List Value) (n k : Nat) (hx : xs.length = k) (h : k < n) (z : Value) : (xs ++ List.replicate (n - k) z)[k]? = some z := by
  subst hx
  rw [List.getElem?_append_right (by omega), List.getElem?_replicate, if_pos (by omega)]
/-- The string of a slice of bytes of the call's own. -/
theorem conv_row (W : World) (B : Nat) (ad : Option Addr) (cap n : Nat) (zs : List Int) (h : W.ownsRow B 5 1 (.slice ad n cap) n (bvals zs)) (hn : zs.length = n) :
    (convert 34 9 (.slice ad n cap)).run Tryd.prog W = .ok (.string (strOfNums zs)) W := by
  rcases own_block h with ⟨rfl, h2, _⟩ | ⟨g, rfl, h1, h2, _⟩
  · have := List.eq_nil_of_length_eq_zero (hn.trans h2)
    subst this
    exact run_convert_bytes_nil W 34 5 Tryd.underlying34 Tryd.underlying5 _ _ 9 Tryd.underlying9
  · refine run_convert_bytes_arg W 34 5 Tryd.underlying34 Tryd.underlying5 g 0 n cap zs hn (fun i hi => ?_) 9 Tryd.underlying9
    rw [Nat.zero_add, h.cellAt i (by omega)]
    simp [hn, hi]
/-- An append of one byte to a slice of the call's own. -/
theorem list_appB {ops : Array Oper} {rest : List Oper} {o : Oper} {a : Act} {w : World} {Q : Exit → Act → World → Prop} (hgd : o.guard = none) (s x : Operand)
    (ho : o.op = .call { callee := .builtin .append, args := #[s, x], argTypes := #[34, 34] })
    (B : Nat) (ad : Option Addr) (cap n : Nat) (zs : List Int) (y : Int) (hs : a.eval s = .slice ad n cap) (hown : w.ownsRow B 5 1 (.slice ad n cap) n (bvals zs)) (hn : n = zs.length) (nb : Nat) (hx : a.eval x = .slice (some ⟨nb, 0, none⟩) 1 1)
    (hc : w.cell? ⟨nb, 0, none⟩ = some (.int .u8 y)) (hl : zs.length < 1099511627776) (hB : B ≤ w.heap.size)
    (h : ∀ ad' cap' w', w'.ownsRow B 5 1 (.slice ad' (n + 1) cap') (n + 1) (bvals (zs ++ [y])) → w.grownBy w' (Value.slice ad n cap).ownBlock → wpList Tryd.prog ops Q rest (a.put o.dst (.slice ad' (n + 1) cap')) w') : wpList Tryd.prog ops Q (o :: rest) a w := by
  obtain ⟨i0, hi, hz0, hz1, hz2⟩ := info_parts Tryd.infoB
  subst hn
  refine wpList_append_lies w hgd s x 34 ho B 5 i0 (.int .u8 0) 1 1 Tryd.underlying34 hi hz0 hz1 hz2 rfl (by omega) (.slice ad zs.length cap) zs.length (bvals zs) hs hown ⟨nb, 0, none⟩ 1 1 [.int .u8 y] hx rfl ?_ ?_ (by omega) (by unfold maxLen; omega) (by omega) hB _ rfl ?_
  · intro j u hj
    match j, hj with
    | 0, hj => simp at hj; subst hj; simpa [Addr.add] using hc
  · intro u hu; simp at hu; subst hu; rfl
  · intro g cap' w' h1 h2 _ _
    exact h (some ⟨g, 0, none⟩) cap' w' (by simpa [bvals] using h1) h2
theorem below_row {w0 w w' : World} {B lo n cap : Nat} {ad : Option Addr} {zs : List Int} (h : Below B w0 w) (o : w.ownsRow lo 5 1 (.slice ad n cap) n (bvals zs)) (m : w.grownBy w' (Value.slice ad n cap).ownBlock) (hB : B ≤ w.heap.size) (hlo : B ≤ lo) : Below B w0 w' := by
  refine h.grown m hB fun k hk => ?_
  rcases own_block o with ⟨rfl, _⟩ | ⟨k2, rfl, h4, _⟩
  · simp [Value.ownBlock] at hk
  · simp [Value.ownBlock] at hk; omega
theorem row_keep {w w' : World} {B n cap : Nat} {ad : Option Addr} {zs : List Int} (h : w.ownsRow B 5 1 (.slice ad n cap) n (bvals zs)) (k : Keep w w') : w'.ownsRow B 5 1 (.slice ad n cap) n (bvals zs) := by
  refine h.kept (row := none) ⟨k.os, k.tape, k.output, k.size, fun j hj _ => k.block j hj⟩ ?_
  rcases own_block h with ⟨rfl, _⟩ | ⟨g, rfl, _⟩
  · exact .inl rfl
  · right; simp [Value.ownBlock]
end Go.Proofs.YtpdcmhnaedhkdabDoor
