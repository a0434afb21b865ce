/- All parts of a set, as the program's iterator gives them. -/
import Derived.Test.YtaockgegghmphabRgB
import Derived.Test.YtaockgegghmphabSub10
import Derived.Test.YtaockgegghmphabMem
import Derived.Shelf.Abstract
import Derived.Shelf.RegionOpen
import Derived.WalkKit
import Derived.OwnWalkIn
import Derived.TacticsInMore
import Derived.LoopNIn
import Derived.LoopIn
import Derived.Laws.BitsAllLaws
namespace Go.Proofs.Ytaockgegghmphab
open Go.ChangeShapes Go.WideShapes Go.ChangeAt Go.RowKit Go.Shelf
set_option linter.unusedVariables false
attribute [local go_sem] Oper.semAt_some
theorem nx_of {m t : Nat} (hm : m < 18446744073709551616) (hp : partB m t = true) (hn : t ≠ m) : t < m ∧ nxP 64 m t ≤ m ∧ t < nxP 64 m t ∧ partB m (nxP 64 m t) = true ∧ (∀ q, t < q → q < nxP 64 m t → partB m q = false) := by
  have h1 := partB_iff.1 hp
  have h2 := part_le h1
  have h3 : t < m := by omega
  have hm' : m < 2 ^ 64 := by simpa using hm
  exact ⟨h3, nxP_le 64 m t, (nxP_spec 64 m t hm' h1 h3).1, partB_iff.2 (nxP_part 64 m t), fun q a b => nxP_between hm' h1 h3 a b⟩
set_option maxRecDepth 100000 in
set_option maxHeartbeats 2000000 in
theorem parts_up (F : Fence) (n : Nat) (h7 : F.fn 69) (hro : F.round = none) (hn : 1 ≤ n) (m : Nat) (hm : m < 18446744073709551616) (w : World) :
    SeqUp F n Try.prog 69 (fun y => #[.int .u64 m] ++ #[y] ++ #[]) (fun t => #[.int .u64 t]) (partB m) (m + 1) (fun _ _ => True) w := by
  intro l J W hW hJa hskip hY h0
  have hjump : ∀ d t W1, t + d ≤ m + 1 → (∀ q, t ≤ q → q < t + d → partB m q = false) → J t W1 → J (t + d) W1 := by
    intro d
    induction d with
    | zero => intro t W1 _ _ h; exact h
    | succ d ih =>
      intro t W1 h1 h2 h3
      exact hskip (t + d) W1 (by omega) (h2 (t + d) (by omega) (by omega)) (ih t W1 (by omega) (fun q a b => h2 q a (by omega)) h3)
  have HJ := Lib.hid hjump
  have HY := Lib.hid hY
  have HNX := Lib.hid (fun t => nx_of (m := m) (t := t) hm)
  clear hjump hY hskip
  refine callsIn_of_wp Try.func69 rfl h7 ?_ hro
  simp only [Try.ntmps69, List.size_toArray, List.length_cons, List.length_nil, Nat.reduceAdd, Nat.reduceSub, Array.replicate_succ, Array.replicate_zero, List.push_toArray, List.append_toArray, List.nil_append, List.cons_append]
  gi_wp2
  gi_loopw [4] (fun p wr => ∃ t : Nat, t ≤ m ∧ p = .int .u64 t ∧ Hid (partB m t = true) ∧ Hid (J t wr)) (fun p _ => m - (intOf p).toNat)
  case atStart => exact ⟨0, Nat.zero_le _, rfl, Lib.hid (by unfold partB; simp), Lib.hid h0⟩
  case round =>
    obtain ⟨t, hle, rfl, HP, HJt⟩ := hrel
    obtain ⟨fn, tmps, assign, body, hy, hR⟩ := HY.out t wr (by omega) HP.out HJt.out
    by_cases hlast : t = m
    · have hne : ((t : Int) != (m : Int)) = false := by rw [hlast]; simp
      have HL := Lib.hid hlast; clear hlast
      gi_wp2
      refine hR.mono ?_
      rintro e W3 ⟨rfl, hJ3, _⟩
      have HJ3 := Lib.hid hJ3; clear hJ3
      gi_wp2
      go_end0
      exact ⟨⟨_, rfl⟩, by have h := HJ3.out; rw [HL.out] at h; exact h⟩
    · have hne : ((t : Int) != (m : Int)) = true := by simp; omega
      obtain ⟨n1, n2, n3, n4, n5⟩ := HNX.out t HP.out hlast
      have e1 : IntKind.u64.wrap ((t : Int) - (m : Int)) = ((18446744073709551616 - (m - t) : Nat) : Int) := by rw [IntKind.wrap_u64]; omega
      have e2 : bits .and .u64 ((18446744073709551616 - (m - t) : Nat) : Int) (m : Int) = ((nxP 64 m t : Nat) : Int) := by
        rw [u64_and_nat _ m (by omega) hm, Nat.and_comm]; rfl
      have HN4 := Lib.hid n4; have HN5 := Lib.hid n5
      clear n4 n5 hlast
      generalize nxP 64 m t = t2 at *
      gi_wp2
      refine hR.mono ?_
      rintro e W3 ⟨rfl, hJ3, _⟩
      have HJ3 := Lib.hid hJ3; clear hJ3
      gi_wp2
      go_roundw
      case rel =>
        refine ⟨t2, n2, by go_num, HN4, Lib.hid ?_⟩
        have h := HJ.out (t2 - (t + 1)) (t + 1) W3 (by omega) (fun q a b => HN5.out q (by omega) (by omega)) HJ3.out
        rwa [show t + 1 + (t2 - (t + 1)) = t2 from by omega] at h
      case measure => simp [intOf]; omega
end Go.Proofs.Ytaockgegghmphab
