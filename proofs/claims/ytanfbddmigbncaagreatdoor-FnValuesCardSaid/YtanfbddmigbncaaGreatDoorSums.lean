/- Sums of lists; errors; roundings; check numbers. -/
import Derived.Test.YtanfbddmigbncaaGreatDoorVals
import Derived.Test.YtanfbddmigbncaaGreatDoorTot
namespace Go.Proofs.YtanfbddmigbncaaGreatDoor
open Go.ChangeShapes Go.WideShapes Go.ChangeAt Go.RowKit
set_option linter.unusedVariables false
def sumV (g : Int) (zs : List Int) : Int := if okV g zs then zs.sum else 0
set_option maxHeartbeats 400000 in
theorem SumOf_any (g : Int) (ad : Option Addr) (cap : Nat) (zs : List Int) (w : World) (hz : Ints w ad zs) :
    Calls Tryz.prog 8 #[valV g ad zs.length cap] w fun e w' => e = .returned (.tuple #[.int .i64 (sumV g zs), .bool (okV g zs)]) ∧ Keep w w' := by
  cases hok : okV g zs
  · rw [show sumV g zs = 0 from by simp [sumV, hok]]
    go_enter Tryz.func8, Tryz.ntmps8
    go_wp2_with fail
    refine (ValidValues_any g ad cap zs _ (hz.keep (B := _) (by go_grown) (Nat.le_refl _))).mono ?_
    rw [hok]
    rintro e w1 ⟨rfl, k1⟩
    have g1 : Keep w w1 := Keep.next (by go_grown) k1
    go_wp2
    go_ret2
    exact ⟨rfl, g1⟩
  · have HB := Lib.hid (okV_num hok)
    have hl := okV_len hok
    rw [show sumV g zs = zs.sum from by simp [sumV, hok]]
    have B0 : Box (w.alloc (.cells #[.int .i64 g, .slice ad zs.length cap] 26)) w.heap.size g ad zs.length cap := ⟨by simp, by simp, by simp⟩
    go_enter Tryz.func8, Tryz.ntmps8
    go_wp2_with fail
    refine (ValidValues_any g ad cap zs _ (hz.keep (B := _) (by go_grown) (Nat.le_refl _))).mono ?_
    rw [hok]
    rintro e w1 ⟨rfl, k1⟩
    have g1 : Keep w w1 := Keep.next (by go_grown) k1
    obtain ⟨c0, c1, cl⟩ := B0.keep k1
    have hz1 := hz.keep g1 (Nat.le_refl _)
    go_wp2_with fail
    refine (total_any ad cap zs _ hz1 (fun z hz => by have := HB.out z hz; omega) (by omega)).mono ?_
    rintro e w2 ⟨rfl, rfl⟩
    go_wp2
    go_ret2
    exact ⟨rfl, g1⟩
/-- The check number behind the bytes l, begun with n. -/
def chk (n : Int) (l : List UInt8) : Int := l.foldl (fun c b => (263 * c + (b.toNat : Int) + 7) % 65521) n
theorem chk_snoc (n : Int) (l : List UInt8) (b : UInt8) : chk n (l ++ [b]) = (263 * chk n l + (b.toNat : Int) + 7) % 65521 := by simp [chk]
theorem chk_bd (n : Int) (l : List UInt8) (h : 0 ≤ n ∧ n < 65521) : 0 ≤ chk n l ∧ chk n l < 65521 := by
  induction l generalizing n with
  | nil => exact h
  | cons b l ih => exact ih _ (by have := b.toNat_lt; show 0 ≤ (263 * n + (b.toNat : Int) + 7) % 65521 ∧ (263 * n + (b.toNat : Int) + 7) % 65521 < 65521; omega)
theorem chk_step (n : Int) (s : ByteArray) (k : Nat) (h : k < s.size) : chk n (s.data.toList.take (k + 1)) = (263 * chk n (s.data.toList.take k) + ((s[k]'h).toNat : Int) + 7) % 65521 := by
  rw [List.take_succ_eq_append_getElem (by simpa using h), chk_snoc]; rfl
theorem bytes_conv (W : World) (s : ByteArray) : ∃ (cap : Nat) (C : Array Value) (fr : Nat × Nat), (convert 9 22 (.string s)).run Tryz.prog W = .ok (.slice (some ⟨W.heap.size, 0, none⟩) s.size cap) (W.drew.alloc (.cells C 5 fr)) ∧
    ∀ i (h : i < s.size), C[i]? = some (.int .u8 ((s[i]'h).toNat : Int)) := by
  refine ⟨_, _, _, run_bytes_of_string (P := Tryz.prog) W 9 22 5 s Tryz.underlying9 Tryz.underlying22 Tryz.underlying5, fun i h => ?_⟩
  unfold bytesRow
  rw [Array.getElem?_append_left (by simpa using h)]
  simp only [Array.getElem?_map]
  rw [Array.getElem?_eq_getElem (by simpa using h)]; rfl
end Go.Proofs.YtanfbddmigbncaaGreatDoor
