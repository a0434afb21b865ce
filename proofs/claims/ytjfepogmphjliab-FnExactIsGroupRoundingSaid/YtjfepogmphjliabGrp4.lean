/- Sums at some indices; all indices: the model's side. -/
import Derived.Test.YtjfepogmphjliabLam4c
namespace Go.Proofs.Ytjfepogmphjliab
open Go.ChangeShapes Go.WideShapes Go.ChangeAt Go.RowKit
set_option linter.unusedVariables false
/-- The numbers at some indices. -/
def atL (zs set : List Int) : List Int := set.map fun i => zs.getD i.toNat 0
theorem atL_len (zs set : List Int) : (atL zs set).length = set.length := by simp [atL]
theorem atL_get (zs set : List Int) (k : Nat) (h : k < set.length) : (atL zs set).getD k 0 = zs.getD (set.getD k 0).toNat 0 := by
  rw [getD_get _ k (by rw [atL_len]; exact h), getD_get set k h]; simp [atL]
theorem atL_bd (M : Int) (zs set : List Int) (hM : 0 ≤ M) (h : ∀ z ∈ zs, -M ≤ z ∧ z ≤ M) : ∀ z ∈ atL zs set, -M ≤ z ∧ z ≤ M := by
  intro z hz
  unfold atL at hz
  obtain ⟨i, _, rfl⟩ := List.mem_map.1 hz
  by_cases hi : i.toNat < zs.length
  · exact h _ (getD_mem zs _ hi)
  · rw [List.getD_eq_getElem?_getD, List.getElem?_eq_none (by omega)]; simp; omega
/-- The sum of a list's numbers at some indices. -/
def partS (zs set : List Int) : Int := (atL zs set).sum
theorem partS_bd (M L : Int) (zs set : List Int) (hM : 0 ≤ M) (h : ∀ z ∈ zs, -M ≤ z ∧ z ≤ M) (hl : (set.length : Int) ≤ L) : -(M * L) ≤ partS zs set ∧ partS zs set ≤ M * L := by
  have := sum_take_bd M L hM (atL zs set) (atL_bd M zs set hM h) (by rw [atL_len]; exact hl) set.length
  rw [List.take_of_length_le (by rw [atL_len]; exact Nat.le_refl _)] at this
  exact this
/-- All indices of a list. -/
def allI (n : Nat) : List Int := (List.range n).map fun (i : Nat) => (i : Int)
theorem allI_len (n : Nat) : (allI n).length = n := by simp [allI]
theorem allI_succ (n : Nat) : allI (n + 1) = allI n ++ [(n : Int)] := by simp [allI, List.range_succ]
set_option maxHeartbeats 800000 in
theorem l04Part_any (ad : Option Addr) (cap : Nat) (zs : List Int) (bd : Option Addr) (bcap : Nat) (set : List Int) (w : World) (hz : Ints w ad zs) (hs : Ints w bd set) (hb : ∀ z ∈ zs, -1000000 ≤ z ∧ z ≤ 1000000) (hl : set.length ≤ 1048576)
    (hi : ∀ i ∈ set, 0 ≤ i ∧ i < zs.length) :
    Calls Try.prog 22 #[.slice ad zs.length cap, .slice bd set.length bcap] w fun e w' => e = .returned (.int .i64 (partS zs set)) ∧ w = w' := by
  have hlen := hz.small
  have hlen2 := hs.small
  have HBD := Lib.hid (sum_take_bd 1000000 1048576 (by omega) (atL zs set) (atL_bd 1000000 zs set (by omega) hb) (by rw [atL_len]; omega))
  have HB := Lib.hid hb; have HIX := Lib.hid hi
  clear hb hi
  go_enter Try.func22, Try.ntmps22
  go_wp2
  go_loop [5, 6] (fun s i => ∃ k : Nat, k ≤ set.length ∧ i = .int .i64 k ∧ s = .int .i64 ((atL zs set).take k).sum)
    (fun _ i => set.length - (intOf i).toNat)
  case atStart => exact ⟨0, Nat.zero_le _, rfl, by simp⟩
  case round =>
    obtain ⟨k, hk, rfl, rfl⟩ := hrel
    by_cases hlt : k < set.length
    · rcases hs.at_ with h | ⟨b2, off2, rfl, hb2, hc2⟩
      · subst h; simp at hlt
      have hcs := hc2 k hlt
      obtain ⟨hi0, hi1⟩ := HIX.out _ (getD_mem set k hlt)
      rcases hz.at_ with h | ⟨b, off, rfl, hb, hc⟩
      · rw [h] at hi1; simp only [List.length_nil] at hi1; omega
      have hcx := hc (set.getD k 0).toNat (by omega)
      have hx := HB.out _ (getD_mem zs (set.getD k 0).toNat (by omega))
      have HT : Hid (((atL zs set).take (k + 1)).sum = ((atL zs set).take k).sum + zs.getD (set.getD k 0).toNat 0) := Lib.hid (by rw [sum_take_succ _ k (by rw [atL_len]; exact hlt), atL_get zs set k hlt])
      have hs1 := HBD.out k
      obtain ⟨q, hq⟩ : ∃ q : Nat, set.getD k 0 = (q : Int) := ⟨_, (Int.toNat_of_nonneg hi0).symm⟩
      rw [hq] at hcs hcx hx HT hi1
      rw [Int.toNat_natCast] at hcx hx HT
      have hq1 : q < zs.length := by omega
      clear hc hc2 hq hi0 hi1
      generalize zs.getD q 0 = x at hcx hx HT
      generalize ((atL zs set).take k).sum = s at hs1 HT
      go_wp2
      go_round
      case rel => exact ⟨k + 1, by omega, by go_num, by rw [HT.out]⟩
      case measure => simp [intOf]; omega
    · have HK := Lib.hid (show k = set.length from by omega)
      have HF : Hid (((atL zs set).take k).sum = partS zs set) := Lib.hid (by rw [HK.out, List.take_of_length_le (by rw [atL_len]; exact Nat.le_refl _)]; rfl)
      go_wp2
      go_ret
      exact ⟨ret_i64 HF.out, rfl⟩
set_option maxHeartbeats 800000 in
theorem l04All_any (n : Nat) (w : World) (hn : n ≤ 1048576) :
    Calls Try.prog 21 #[.int .i64 n] w fun e w' => ∃ rd rc, e = .returned (.slice rd (allI n).length rc) ∧ Own w' w.heap.size rd rc (allI n) ∧ Keep w w' := by
  have hown0 : Own (w.alloc (.cells #[] 2)) w.heap.size (some ⟨w.heap.size, 0, none⟩) 0 [] := by
    have := World.ownsRow_lit (base := w.heap.size) (e := 2) (size := 1) w #[] 0 (by simp) (by simp) rfl
    exact ⟨by simpa using this, by simp, by simp⟩
  have hbl1 : Keep w (w.alloc (.cells #[] 2)) := by go_grown
  go_enter Try.func21, Try.ntmps21
  go_wp2
  go_loopw [3, 4] (fun v i wr => ∃ (k : Nat) (rd : Option Addr) (rc : Nat), k ≤ n ∧ i = .int .i64 k ∧ v = .slice rd k rc ∧ Own wr w.heap.size rd rc (allI k) ∧ Keep w wr)
    (fun _ i _ => n - (intOf i).toNat)
  case atStart => exact ⟨0, _, _, Nat.zero_le _, rfl, rfl, by simpa [allI] using hown0, hbl1⟩
  case round =>
    obtain ⟨k, rd, rc, hk, rfl, rfl, hown, hbel⟩ := hrel
    by_cases hlt : k < n
    · have HT := Lib.hid (allI_succ k)
      have HKL := Lib.hid (allI_len k)
      have HO := Lib.hid hown; clear hown
      have hsr := hbel.size
      generalize allI k = done at HT HKL HO
      go_wp2_with (refine list_app1 (by rfl) _ _ (by rfl) w.heap.size rd rc k _ (k : Int) (by rfl) (HO.out.keep (by go_grown)) HKL.out.symm wr.heap.size (by rfl) (by simp) ⟨by omega, by omega⟩ (by rw [HKL.out]; omega) (by simp; omega) ?_; intro ad' cap' w2 hown2 hgr2; have hbel2 : Below w.heap.size wr w2 := below_own (by go_grown) (HO.out.keep (by go_grown)) hgr2 (by simp; omega) (Nat.le_refl _))
      go_roundw
      case rel => exact ⟨k + 1, ad', cap', by omega, by go_num, rfl, by rw [HT.out]; exact hown2, hbel.trans hbel2⟩
      case measure => simp [intOf]; omega
    · have he : k = n := by omega
      subst he
      have HKL := Lib.hid (allI_len k)
      go_wp2
      go_ret
      exact ⟨rd, rc, by rw [HKL.out]; rfl, hown, hbel⟩
end Go.Proofs.Ytjfepogmphjliab
