/- The word of a fraction and running floors: what is known of them. -/
import Derived.Test.YtlenmhefgpcmmaaWord
import Derived.Test.YtlenmhefgpcmmaaPrefix
import Derived.Test.YtlenmhefgpcmmaaBlockP
namespace Go.Proofs.Ytlenmhefgpcmmaa
open Go.ChangeShapes Go.WideShapes Go.ChangeAt Go.RowKit
set_option linter.unusedVariables false
theorem fl_next (k a d : Int) (hd : 1 ≤ d) (h0 : 0 ≤ a) (h1 : a ≤ d) : fl ((k + 1) * a) d = fl (k * a) d ∨ fl ((k + 1) * a) d = fl (k * a) d + 1 := by
  have e : (k + 1) * a = k * a + a := by rw [Int.add_mul, Int.one_mul]
  obtain ⟨p1, p2⟩ := fl_mul (a := k * a) hd
  obtain ⟨q1, q2⟩ := fl_mul (a := k * a + a) hd
  rw [e]
  have h3 : d * fl (k * a) d < d * (fl (k * a + a) d + 1) := by rw [Int.mul_add]; omega
  have h4 : d * fl (k * a + a) d < d * (fl (k * a) d + 2) := by
    have : d * (fl (k * a) d + 2) = d * fl (k * a) d + 2 * d := by rw [Int.mul_add, Int.mul_comm d 2]
    omega
  have h5 := Int.lt_of_mul_lt_mul_left h3 (by omega)
  have h6 := Int.lt_of_mul_lt_mul_left h4 (by omega)
  omega
theorem fl_shift (k a d : Int) (hd : 1 ≤ d) : fl ((k + d) * a) d = fl (k * a) d + a := by
  unfold fl
  rw [Int.add_mul, Int.add_mul_ediv_left _ _ (by omega)]
theorem wB_shift (a d i : Int) (hd : 1 ≤ d) : wB a d (i + d) = wB a d i := by
  unfold wB
  rw [fl_shift i a d hd, show i + d + 1 = (i + 1) + d from by omega, fl_shift (i + 1) a d hd]
  by_cases h : fl (i * a) d < fl ((i + 1) * a) d
  · rw [if_pos h, if_pos (by omega)]
  · rw [if_neg h, if_neg (by omega)]
theorem sum_rep (a : Int) (k : Nat) : (List.replicate k a).sum = (k : Int) * a := by
  induction k with
  | zero => simp
  | succ k ih => rw [List.replicate_succ, List.sum_cons, ih, show ((k + 1 : Nat) : Int) = (k : Int) + 1 from by omega, Int.add_mul]; omega
theorem sum_take_rep (a : Int) (n k : Nat) (h : k ≤ n) : ((List.replicate n a).take k).sum = (k : Int) * a := by
  rw [List.take_replicate, show min k n = k from by omega, sum_rep]
theorem pd_get (a g : Int) (n k : Nat) (h : k < n) : (pdL fl g (List.replicate n a)).getD k 0 = fl (((k : Int) + 1) * a) g - fl ((k : Int) * a) g := by
  rw [pdL_get fl g _ k (by simpa using h), sum_take_rep a n (k + 1) h, sum_take_rep a n k (by omega), show ((k + 1 : Nat) : Int) = (k : Int) + 1 from by omega]
theorem pd_sum (a g : Int) (n k : Nat) (h : k ≤ n) (hg : 1 ≤ g) : ((pdL fl g (List.replicate n a)).take k).sum = fl ((k : Int) * a) g := by
  induction k with
  | zero => simp [fl]
  | succ k ih =>
    rw [sum_take_succ _ k (by rw [pdL_len, List.length_replicate]; exact h), ih (by omega), pd_get a g n k h, show ((k + 1 : Nat) : Int) = (k : Int) + 1 from by omega]; omega
theorem blk_sum (m : Nat) (zs : List Int) (i : Nat) : (blk m zs i).sum = (zs.take (i * m + m)).sum - (zs.take (i * m)).sum := by
  unfold blk
  rw [List.take_add, List.sum_append]; omega
theorem near_sum (a g : Int) (m n i : Nat) (hg : 1 ≤ g) (h : i * m + m ≤ n) : -g < g * (blk m (pdL fl g (List.replicate n a)) i).sum - (m : Int) * a ∧ g * (blk m (pdL fl g (List.replicate n a)) i).sum - (m : Int) * a < g := by
  rw [blk_sum, pd_sum a g n _ h hg, pd_sum a g n _ (by omega) hg]
  obtain ⟨p1, p2⟩ := fl_mul (a := ((i * m + m : Nat) : Int) * a) hg
  obtain ⟨q1, q2⟩ := fl_mul (a := ((i * m : Nat) : Int) * a) hg
  have e : ((i * m + m : Nat) : Int) * a = ((i * m : Nat) : Int) * a + (m : Int) * a := by
    rw [show ((i * m + m : Nat) : Int) = ((i * m : Nat) : Int) + (m : Int) from by omega, Int.add_mul]
  rw [Int.mul_sub]
  rw [e] at p1 p2 ⊢
  omega
theorem bsN_get (m : Nat) (zs : List Int) (q i : Nat) (h : i < q) : (bsN m zs q).getD i 0 = (blk m zs i).sum := by simp [bsN, List.getD_eq_getElem?_getD, h]
theorem word_byte (a d : Int) (n k : Nat) (h : k < (strOfNums (wordN a d n)).size) : (((strOfNums (wordN a d n))[k]'h).toNat : Int) = wB a d k := by
  have hb := wB_bd a d k
  have hk : k < n := by rw [strOfNums_size, wordN_len] at h; exact h
  have e : (strOfNums (wordN a d n))[k]'h = UInt8.ofNat (wB a d k).toNat := by
    show (strOfNums (wordN a d n)).data[k] = _
    simp [strOfNums, wordN]
  rw [e]
  simp
  omega
theorem mul_nat {m q : Nat} : (m : Int) * (q : Int) = ((m * q : Nat) : Int) := by simp
end Go.Proofs.Ytlenmhefgpcmmaa
