/- A valid desk: lists of names in memory, and whether they increase. -/
import Derived.Test.YtpdcmhnaedhkdaaCalI
import Derived.Test.YtpdcmhnaedhkdaaNames
namespace Go.Proofs.Ytpdcmhnaedhkdaa
open Go.ChangeShapes Go.WideShapes Go.ChangeAt Go.RowKit Go.Deep
set_option linter.unusedVariables false
/-- No name. -/
abbrev noN : ByteArray := ⟨#[]⟩
/-- A list of texts in memory. -/
structure Nms (w : World) (ad : Option Addr) (zs : List ByteArray) : Prop where
  small : zs.length ≤ 1048576
  len : ∀ z ∈ zs, z.size ≤ 1048576
  at_ : zs = [] ∨ ∃ b off, ad = some ⟨b, off, none⟩ ∧ b < w.heap.size ∧ ∀ i, i < zs.length → w.cell? ⟨b, off + i, none⟩ = some (.string (zs.getD i noN))
theorem Nms.keep {w w' : World} {ad : Option Addr} {zs : List ByteArray} {B : Nat} (h : Nms w ad zs) (hb : Below B w w') (hB : w.heap.size ≤ B) : Nms w' ad zs := by
  refine ⟨h.small, h.len, ?_⟩
  rcases h.at_ with h1 | ⟨b, off, h1, h2, h3⟩
  · exact .inl h1
  · exact .inr ⟨b, off, h1, Nat.lt_of_lt_of_le h2 hb.size, fun i hi => (hb.cell (p := ⟨b, off + i, none⟩) (by show b < B; omega)).trans (h3 i hi)⟩
/-- The first text is at most the second. -/
def leN (a b : ByteArray) : Bool := Op.bytesLess a.toList b.toList || a.toList == b.toList
theorem binOp_leN (t : TypeId) (a b : ByteArray) : binOp .leq t (.string a) (.string b) = pure (.bool (leN a b)) := by simp [binOp, Op.stringOp, leN]
/-- A text of a list is greater than the one before it. -/
def inNAt (zs : List ByteArray) (i : Nat) : Bool := decide (i = 0) || !leN (zs.getD i noN) (zs.getD (i - 1) noN)
def inNT (zs : List ByteArray) (k : Nat) : Bool := (List.range k).all (inNAt zs)
def inNB (zs : List ByteArray) : Bool := inNT zs zs.length
theorem inNT_succ (zs : List ByteArray) (k : Nat) : inNT zs (k + 1) = (inNT zs k && inNAt zs k) := by unfold inNT; rw [List.range_succ, List.all_append]; simp
theorem inNB_no {zs : List ByteArray} {k : Nat} (h : k < zs.length) (hf : inNAt zs k = false) : inNB zs = false := by
  unfold inNB inNT; rw [List.all_eq_false]; exact ⟨k, List.mem_range.2 h, by rw [hf]; simp⟩
attribute [local go_sem] binOp_leN in
set_option maxHeartbeats 800000 in
theorem isIncN_any (ad : Option Addr) (cap : Nat) (zs : List ByteArray) (w : World) (hz : Nms w ad zs) :
    Calls Try.prog 78 #[.slice ad zs.length cap] w fun e w' => e = .returned (.bool (inNB zs)) ∧ ∃ n, w' = w.drewN n := by
  have hlen := hz.small
  go_enter Try.func78, Try.ntmps78
  go_wp2
  go_loopw [3, 6] (fun _ i wr => ∃ k : Nat, k ≤ zs.length ∧ i = .int .i64 k ∧ Hid (inNT zs k = true) ∧ ∃ n, wr = w.drewN n)
    (fun _ i _ => zs.length - (intOf i).toNat)
  case atStart => exact ⟨0, Nat.zero_le _, rfl, Lib.hid rfl, 0, rfl⟩
  case round =>
    obtain ⟨k, hk, rfl, HA, n, rfl⟩ := hrel
    by_cases hlt : k < zs.length
    · rcases hz.at_ with h | ⟨b, off, rfl, hb, hc⟩
      · subst h; simp at hlt
      have hcx := hc k hlt
      have HO := Lib.hid (fun h => inNB_no (zs := zs) hlt h)
      have HS := Lib.hid (inNT_succ zs k)
      by_cases h0 : k = 0
      · subst h0
        have HS0 : Hid (inNT zs (0 + 1) = true) := Lib.hid (by rw [HS.out, HA.out]; rfl)
        clear hc
        go_wp2
        go_quiet (fail)
        go_wp2
        go_roundw
        case rel => exact ⟨0 + 1, by omega, by go_num, HS0, n + nq, by first | rfl | rw [World.drewN_drewN]⟩
        case measure => simp [intOf]; omega
      · have hcy := hc (k - 1) (by omega)
        have h0b : decide (0 < k) = true := by simp; omega
        have hk1 : IntKind.i64.wrap ((k : Int) - 1) = ((k - 1 : Nat) : Int) := by rw [IntWalk.i64_in _ (by omega)]; omega
        have HAT : Hid (inNAt zs k = !leN (zs.getD k noN) (zs.getD (k - 1) noN)) := Lib.hid (by unfold inNAt; rw [decide_eq_false h0]; rfl)
        clear hc
        generalize zs.getD (k - 1) noN = y at hcy HAT
        generalize zs.getD k noN = x at hcx HAT
        cases hgb : leN x y
        case true =>
          have HG := Lib.hid (HO.out (by rw [HAT.out, hgb]; rfl))
          go_wp2
          go_quiet (fail)
          go_wp2
          go_ret
          exact ⟨ret_bool HG.out.symm, n + nq, by first | rfl | rw [World.drewN_drewN]⟩
        case false =>
          have HG : Hid (inNT zs (k + 1) = true) := Lib.hid (by rw [HS.out, HA.out, HAT.out, hgb]; rfl)
          go_wp2
          go_quiet (fail)
          go_wp2
          go_roundw
          case rel => exact ⟨k + 1, by omega, by go_num, HG, n + nq, by first | rfl | rw [World.drewN_drewN]⟩
          case measure => simp [intOf]; omega
    · have HK := Lib.hid (show k = zs.length from by omega)
      go_wp2
      go_ret
      exact ⟨ret_bool (by unfold inNB; rw [← HK.out]; exact HA.out.symm), n, rfl⟩
end Go.Proofs.Ytpdcmhnaedhkdaa
