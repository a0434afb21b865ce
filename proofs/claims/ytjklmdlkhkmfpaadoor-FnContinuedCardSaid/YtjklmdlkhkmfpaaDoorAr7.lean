/- Lists of terms: how the program looks at them. -/
import Derived.Test.YtjklmdlkhkmfpaaDoorInts
import Derived.Test.YtjklmdlkhkmfpaaDoorMem
import Derived.Deep.LoopGhost
import Derived.Lib.MinMax
namespace Go.Proofs.YtjklmdlkhkmfpaaDoor
open Go.ChangeShapes Go.WideShapes Go.ChangeAt Go.RowKit Go.Deep
set_option linter.unusedVariables false
def trmB (k : Nat) (z lim : Int) : Bool := inB z (min (k : Int) 1) lim
def trms (zs : List Int) (lim : Int) (k : Nat) : Bool := (List.range k).all fun j => trmB j (zs.getD j 0) lim
def okTr (zs : List Int) (lim : Int) : Bool := decide (zs.length ≤ 20) && trms zs lim zs.length
theorem trms_succ (zs : List Int) (lim : Int) (k : Nat) : trms zs lim (k + 1) = (trms zs lim k && trmB k (zs.getD k 0) lim) := by
  unfold trms; rw [List.range_succ, List.all_append]; simp
theorem trms_no {zs : List Int} {lim : Int} {k : Nat} (h : k < zs.length) (hf : trmB k (zs.getD k 0) lim = false) : trms zs lim zs.length = false := by
  unfold trms; rw [List.all_eq_false]; exact ⟨k, List.mem_range.2 h, by rw [hf]; exact Bool.false_ne_true⟩
theorem trms_at {zs : List Int} {lim : Int} {n k : Nat} (h : trms zs lim n = true) (hk : k < n) : trmB k (zs.getD k 0) lim = true := by
  unfold trms at h; rw [List.all_eq_true] at h; exact h k (List.mem_range.2 hk)
theorem trmB_bd {k : Nat} {z lim : Int} (h : trmB k z lim = true) : 0 ≤ z ∧ z ≤ lim := by
  have h1 := inB_iff.1 h
  omega
set_option maxHeartbeats 800000 in
theorem areTerms_any (ad : Option Addr) (cap : Nat) (zs : List Int) (lim : Int) (w : World) (hz : Ints w ad zs) :
    Calls Tryd.prog 16 #[.slice ad zs.length cap, .int .i64 lim] w fun e w' => e = .returned (.bool (okTr zs lim)) ∧ w = w' := by
  have hlen := hz.small
  by_cases h20 : zs.length ≤ 20
  · have HE : Hid (okTr zs lim = trms zs lim zs.length) := Lib.hid (by simp [okTr, h20])
    rw [HE.out]
    obtain ⟨V, hV⟩ : ∃ V, V = trms zs lim zs.length := ⟨_, rfl⟩
    rw [← hV]
    have HV := Lib.hid hV
    clear hV HE
    go_enter Tryd.func16, Tryd.ntmps16
    go_wp2
    go_loop [5, 6, 12] (fun _ _ i => ∃ k : Nat, k ≤ zs.length ∧ i = .int .i64 k ∧ Hid (trms zs lim k = true)) (fun _ _ i => zs.length - (intOf i).toNat)
    case atStart => exact ⟨0, Nat.zero_le _, rfl, Lib.hid (by simp [trms])⟩
    case round =>
      obtain ⟨k, hk, rfl, HA⟩ := hrel
      by_cases hlt : k < zs.length
      · rcases hz.at_ with h | ⟨b, off, rfl, hb1, hc⟩
        · subst h; simp at hlt
        have hcx := hc k hlt
        clear hc
        have HN := Lib.hid (fun hf => trms_no (zs := zs) (lim := lim) hlt hf)
        have HS := Lib.hid (trms_succ zs lim k)
        cases hin : trmB k (zs.getD k 0) lim
        · have HNO := Lib.hid (HN.out hin)
          generalize zs.getD k 0 = x at *
          have HX : Hid (inB x (min (k : Int) 1) lim = false) := Lib.hid hin
          go_wp2_with (go_at_call 12; refine (within_any _ _ _ _).mono ?_; rw [HX.out]; rintro e w' ⟨rfl, rfl⟩)
          go_ret
          exact ⟨ret_bool (by rw [HV.out, HNO.out]), rfl⟩
        · have HSk : Hid (trms zs lim (k + 1) = true) := Lib.hid (by rw [HS.out, HA.out, hin]; rfl)
          generalize zs.getD k 0 = x at *
          have HX : Hid (inB x (min (k : Int) 1) lim = true) := Lib.hid hin
          go_wp2_with (go_at_call 12; refine (within_any _ _ _ _).mono ?_; rw [HX.out]; rintro e w' ⟨rfl, rfl⟩)
          go_round
          case rel => exact ⟨k + 1, by omega, by go_num, HSk⟩
          case measure => simp [intOf]; omega
      · have HE := Lib.hid (show k = zs.length by omega)
        go_wp2
        go_ret
        exact ⟨ret_bool (by rw [HV.out, ← HE.out, HA.out]), rfl⟩
  · have HE : Hid (okTr zs lim = false) := Lib.hid (by simp [okTr, h20])
    rw [HE.out]
    go_enter Tryd.func16, Tryd.ntmps16
    go_wp2
    go_ret
    exact ⟨rfl, rfl⟩
end Go.Proofs.YtjklmdlkhkmfpaaDoor
