/- Sums of lists; errors; roundings; check numbers. -/
import Derived.Test.YtpdcmhnaedhkdabDoorVals
import Derived.Test.YtpdcmhnaedhkdabDoorTot
namespace Go.Proofs.YtpdcmhnaedhkdabDoor
open Go.ChangeShapes Go.WideShapes Go.ChangeAt Go.RowKit
set_option linter.unusedVariables false
def sumV (g : Int) (zs : List Int) : Int := if okV g zs then zs.sum else 0
/-- The check number behind the bytes l, begun with n. -/
def chk (n : Int) (l : List UInt8) : Int := l.foldl (fun c b => (263 * c + (b.toNat : Int) + 7) % 65521) n
theorem chk_snoc (n : Int) (l : List UInt8) (b : UInt8) : chk n (l ++ [b]) = (263 * chk n l + (b.toNat : Int) + 7) % 65521 := by simp [chk]
theorem chk_bd (n : Int) (l : List UInt8) (h : 0 ≤ n ∧ n < 65521) : 0 ≤ chk n l ∧ chk n l < 65521 := by
  induction l generalizing n with
  | nil => exact h
  | cons b l ih => exact ih _ (by have := b.toNat_lt; show 0 ≤ (263 * n + (b.toNat : Int) + 7) % 65521 ∧ (263 * n + (b.toNat : Int) + 7) % 65521 < 65521; omega)
theorem chk_step (n : Int) (s : ByteArray) (k : Nat) (h : k < s.size) : chk n (s.data.toList.take (k + 1)) = (263 * chk n (s.data.toList.take k) + ((s[k]'h).toNat : Int) + 7) % 65521 := by
  rw [List.take_succ_eq_append_getElem (by simpa using h), chk_snoc]; rfl
theorem l01Check_any (n : Int) (s : ByteArray) (w : World) (hn : 0 ≤ n) (hn2 : n < 65521) (hs : s.size ≤ 9223372036854775807) :
    Calls Tryd.prog 21 #[.int .i64 n, .string s] w fun e w' => e = .returned (.int .i64 (chk n s.data.toList)) ∧ w = w' := by
  go_enter Tryd.func21, Tryd.ntmps21
  go_wp2
  go_loop [0, 5] (fun c i => ∃ k : Nat, k ≤ s.size ∧ i = .int .i64 k ∧ c = .int .i64 (chk n (s.data.toList.take k)))
    (fun _ i => s.size - (intOf i).toNat)
  case atStart => exact ⟨0, Nat.zero_le _, rfl, rfl⟩
  case round =>
    obtain ⟨k, hk, rfl, rfl⟩ := hrel
    by_cases hlt : k < s.size
    · have HS := Lib.hid (chk_step n s k hlt)
      have hc := chk_bd n (s.data.toList.take k) ⟨hn, hn2⟩
      have hb := (s[k]'hlt).toNat_lt
      generalize chk n (s.data.toList.take k) = c at hc HS
      go_wp2
      go_round
      case rel => exact ⟨k + 1, by omega, by go_num, by rw [HS.out]⟩
      case measure => simp [intOf]; omega
    · have HE := Lib.hid (show k = s.size from by omega)
      go_wp2
      go_ret
      exact ⟨ret_i64 (by rw [HE.out, List.take_of_length_le (by simp)]), rfl⟩
theorem bytes_conv (W : World) (s : ByteArray) : ∃ (cap : Nat) (C : Array Value) (fr : Nat × Nat), (convert 9 34 (.string s)).run Tryd.prog W = .ok (.slice (some ⟨W.heap.size, 0, none⟩) s.size cap) (W.drew.alloc (.cells C 5 fr)) ∧
    ∀ i (h : i < s.size), C[i]? = some (.int .u8 ((s[i]'h).toNat : Int)) := by
  refine ⟨_, _, _, run_bytes_of_string (P := Tryd.prog) W 9 34 5 s Tryd.underlying9 Tryd.underlying34 Tryd.underlying5, fun i h => ?_⟩
  unfold bytesRow
  rw [Array.getElem?_append_left (by simpa using h)]
  simp only [Array.getElem?_map]
  rw [Array.getElem?_eq_getElem (by simpa using h)]; rfl
theorem CheckOf_any (n : Int) (s : ByteArray) (w : World) (un : In64 n) (hs : s.size ≤ 1048576) :
    Calls Tryd.prog 26 #[.int .i64 n, .string s] w fun e w' => e = .returned (.tuple #[.int .i64 (if inB n 0 65520 then chk n s.data.toList else 0), .bool (inB n 0 65520)]) ∧ Keep w w' := by
  cases hok : inB n 0 65520
  · go_enter Tryd.func26, Tryd.ntmps26
    go_wp2_with (go_at_call 32; refine (within_any _ _ _ _).mono ?_; rintro e w' ⟨rfl, rfl⟩)
    go_ret2
    exact ⟨rfl, by go_grown⟩
  · obtain ⟨hn, hn2⟩ := inB_iff.1 hok
    obtain ⟨cap, C, fr, hrun, hC⟩ := bytes_conv w s
    have HC := Lib.hid hC; clear hC
    rw [if_pos rfl]
    go_enter Tryd.func26, Tryd.ntmps26
    go_wp2_with (go_at_call 32; refine (within_any _ _ _ _).mono ?_; rintro e w' ⟨rfl, rfl⟩)
    go_loop [6, 8, 16] (fun c _ i => ∃ k : Nat, k ≤ s.size ∧ i = .int .i64 k ∧ c = .int .i64 (chk n (s.data.toList.take k)))
      (fun _ _ i => s.size - (intOf i).toNat)
    case atStart => exact ⟨0, Nat.zero_le _, rfl, rfl⟩
    case round =>
      obtain ⟨k, hk, rfl, rfl⟩ := hrel
      by_cases hlt : k < s.size
      · have hcx : (w.alloc (.cells C 5 fr)).cell? ⟨w.heap.size, k, none⟩ = some (.int .u8 ((s[k]'hlt).toNat : Int)) := by
          unfold World.cell?; rw [heap_alloc_new]; simpa using HC.out k hlt
        have HS := Lib.hid (chk_step n s k hlt)
        have hc := chk_bd n (s.data.toList.take k) ⟨hn, by omega⟩
        have hb := (s[k]'hlt).toNat_lt
        generalize chk n (s.data.toList.take k) = c at hc HS
        go_wp2
        go_round
        case rel => exact ⟨k + 1, by omega, by go_num, by rw [HS.out]⟩
        case measure => simp [intOf]; omega
      · have HE := Lib.hid (show k = s.size from by omega)
        go_wp2
        go_ret2
        exact ⟨by rw [HE.out, List.take_of_length_le (by simp)]; rfl, by go_grown⟩
end Go.Proofs.YtpdcmhnaedhkdabDoor
