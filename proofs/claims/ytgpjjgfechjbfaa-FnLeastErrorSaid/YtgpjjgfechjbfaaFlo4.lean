/- Floors and rests of lists, for great numbers too: the model's side. -/
import Derived.Test.YtgpjjgfechjbfaaBnd4
namespace Go.Proofs.Ytgpjjgfechjbfaa
open Go.ChangeShapes Go.WideShapes Go.ChangeAt Go.RowKit
set_option linter.unusedVariables false
theorem l01FloorX_any (a b : Int) (w : World) (ha : -1000000000000000 ≤ a) (ha' : a ≤ 1000000000000000) (hb : 1 ≤ b) (hb' : b ≤ 1000000000000000) :
    Calls Try.prog 60 #[.int .i64 a, .int .i64 b] w fun e w' => e = .returned (.int .i64 (fl a b)) ∧ w = w' := by
  have hq := tdiv_bd hb ha ha' (by omega)
  have hm : -9223372036854775808 ≤ a.tdiv b * b ∧ a.tdiv b * b ≤ 9223372036854775807 := by
    have h1 := Int.mul_tdiv_add_tmod a b
    have h2 := Int.lt_tmod_of_pos a (show 0 < b by omega)
    have h3 := Int.tmod_lt_of_pos a (show 0 < b by omega)
    rw [Int.mul_comm]; omega
  obtain ⟨hm1, hm2⟩ := hm
  have hk : a.tdiv b * b = a - a.tmod b := by have h1 := Int.mul_tdiv_add_tmod a b; rw [Int.mul_comm]; omega
  have HK := Lib.hid hk; clear hk
  go_enter Try.func60, Try.ntmps60
  go_wp2
  all_goals go_ret
  · refine ⟨ret_i64 ?_, rfl⟩
    have h : a < a.tdiv b * b := by assumption
    rw [HK.out] at h
    exact fl_lo hb (by omega)
  · refine ⟨ret_i64 ?_, rfl⟩
    have h : a.tdiv b * b ≤ a := by assumption
    rw [HK.out] at h
    exact fl_hi hb (by omega)
def flL (g : Int) (zs : List Int) : List Int := zs.map fun z => fl z g
def reL (g : Int) (zs : List Int) : List Int := zs.map fun z => z - g * fl z g
theorem flL_len (g : Int) (zs : List Int) : (flL g zs).length = zs.length := by simp [flL]
theorem reL_len (g : Int) (zs : List Int) : (reL g zs).length = zs.length := by simp [reL]
theorem re_bd {g z : Int} (hg : 1 ≤ g) : 0 ≤ z - g * fl z g ∧ z - g * fl z g < g := by have := fl_mul (a := z) hg; omega
set_option maxHeartbeats 1600000 in
theorem l04Floors_any (ad : Option Addr) (cap : Nat) (zs : List Int) (g : Int) (w : World) (hz : Ints w ad zs) (hb : ∀ z ∈ zs, -1000000000000 ≤ z ∧ z ≤ 1000000000000) (hl : zs.length ≤ 1048576) (g1 : 1 ≤ g) (g2 : g ≤ 1000000000000) :
    Calls Try.prog 97 #[.slice ad zs.length cap, .int .i64 g] w fun e w' => ∃ rd rc, e = .returned (.slice rd (flL g zs).length rc) ∧ Own w' w.heap.size rd rc (flL g zs) ∧ Keep w w' := by
  have HB := Lib.hid hb; clear hb
  have hown0 : Own (w.alloc (.cells #[] 2)) w.heap.size (some ⟨w.heap.size, 0, none⟩) 0 [] := by
    have := World.ownsRow_lit (base := w.heap.size) (e := 2) (size := 1) w #[] 0 (by simp) (by simp) rfl
    exact ⟨by simpa using this, by simp, by simp⟩
  have hbl1 : Keep w (w.alloc (.cells #[] 2)) := by go_grown
  have HFL := Lib.hid (flL_len g zs)
  go_enter Try.func97, Try.ntmps97
  go_wp2
  go_loopw [5, 6] (fun v i wr => ∃ (k : Nat) (rd : Option Addr) (rc : Nat), k ≤ zs.length ∧ i = .int .i64 k ∧ v = .slice rd k rc ∧ Own wr w.heap.size rd rc ((zs.take k).map fun z => fl z g) ∧ Keep w wr)
    (fun _ i _ => zs.length - (intOf i).toNat)
  case atStart => exact ⟨0, _, _, Nat.zero_le _, rfl, rfl, by simpa using hown0, hbl1⟩
  case round =>
    obtain ⟨k, rd, rc, hk, rfl, rfl, hown, hbel⟩ := hrel
    by_cases hlt : k < zs.length
    · rcases (hz.keep hbel (Nat.le_refl _)).at_ with h | ⟨b, off, rfl, hb, hc⟩
      · subst h; simp at hlt
      have hcx := hc k hlt
      have hx := HB.out _ (getD_mem zs k hlt)
      have HT : Hid ((zs.take (k + 1)).map (fun z => fl z g) = (zs.take k).map (fun z => fl z g) ++ [fl (zs.getD k 0) g]) := Lib.hid (take_map_succ (fun z => fl z g) zs k hlt)
      clear hc
      generalize zs.getD k 0 = x at hcx hx HT
      have hf := fl_bd (a := x) (b := g) (M := 1000000000000) g1 hx.1 hx.2 (by omega)
      have HKL := Lib.hid (show ((zs.take k).map fun z => fl z g).length = k by simp; omega)
      have HO := Lib.hid hown; clear hown
      have hsr := hbel.size
      go_wp2_with (first | (go_at_call 60; refine (l01FloorX_any _ _ _ (by omega) (by omega) (by omega) (by omega)).mono ?_; rintro e w' ⟨rfl, rfl⟩) | (refine list_app1 (by rfl) _ _ (by rfl) w.heap.size rd rc k _ (fl x g) (by rfl) (HO.out.keep (by go_grown)) HKL.out.symm wr.heap.size (by rfl) (by simp) ⟨by omega, by omega⟩ (by rw [HKL.out]; omega) (by simp; omega) ?_; intro ad' cap' w2 hown2 hgr2; have hbel2 : Below w.heap.size wr w2 := below_own (by go_grown) (HO.out.keep (by go_grown)) hgr2 (by simp; omega) (Nat.le_refl _)))
      go_roundw
      case rel => exact ⟨k + 1, ad', cap', by omega, by go_num, rfl, by rw [HT.out]; exact hown2, hbel.trans hbel2⟩
      case measure => simp [intOf]; omega
    · have HK := Lib.hid (show k = zs.length from by omega)
      go_wp2
      go_ret
      refine ⟨rd, rc, by rw [HFL.out, HK.out]; rfl, ?_, hbel⟩
      rw [HK.out, List.take_length] at hown
      exact hown
set_option maxHeartbeats 1600000 in
set_option maxRecDepth 100000 in
theorem l04Rests_any (ad : Option Addr) (cap : Nat) (zs : List Int) (g : Int) (w : World) (hz : Ints w ad zs) (hb : ∀ z ∈ zs, -1000000000000 ≤ z ∧ z ≤ 1000000000000) (hl : zs.length ≤ 1048576) (g1 : 1 ≤ g) (g2 : g ≤ 1000000000000) :
    Calls Try.prog 95 #[.slice ad zs.length cap, .int .i64 g] w fun e w' => ∃ rd rc, e = .returned (.slice rd (reL g zs).length rc) ∧ Own w' w.heap.size rd rc (reL g zs) ∧ Keep w w' := by
  have HB := Lib.hid hb; clear hb
  have hown0 : Own (w.alloc (.cells #[] 2)) w.heap.size (some ⟨w.heap.size, 0, none⟩) 0 [] := by
    have := World.ownsRow_lit (base := w.heap.size) (e := 2) (size := 1) w #[] 0 (by simp) (by simp) rfl
    exact ⟨by simpa using this, by simp, by simp⟩
  have hbl1 : Keep w (w.alloc (.cells #[] 2)) := by go_grown
  have HFL := Lib.hid (reL_len g zs)
  go_enter Try.func95, Try.ntmps95
  go_wp2
  go_loopw [5, 6] (fun v i wr => ∃ (k : Nat) (rd : Option Addr) (rc : Nat), k ≤ zs.length ∧ i = .int .i64 k ∧ v = .slice rd k rc ∧ Own wr w.heap.size rd rc ((zs.take k).map fun z => z - g * fl z g) ∧ Keep w wr)
    (fun _ i _ => zs.length - (intOf i).toNat)
  case atStart => exact ⟨0, _, _, Nat.zero_le _, rfl, rfl, by simpa using hown0, hbl1⟩
  case round =>
    obtain ⟨k, rd, rc, hk, rfl, rfl, hown, hbel⟩ := hrel
    by_cases hlt : k < zs.length
    · rcases hz.at_ with h | ⟨b, off, rfl, hb, hc⟩
      · subst h; simp at hlt
      have hC : ∀ w', Below w.heap.size wr w' → w'.cell? ⟨b, off + k, none⟩ = some (.int .i64 (zs.getD k 0)) := fun w' k2 => by rw [(hbel.trans k2).cell (by exact hb)]; exact hc k hlt
      have hx := HB.out _ (getD_mem zs k hlt)
      have HT : Hid ((zs.take (k + 1)).map (fun z => z - g * fl z g) = (zs.take k).map (fun z => z - g * fl z g) ++ [zs.getD k 0 - g * fl (zs.getD k 0) g]) := Lib.hid (take_map_succ (fun z => z - g * fl z g) zs k hlt)
      clear hc
      generalize zs.getD k 0 = x at hC hx HT
      have hf := fl_bd (a := x) (b := g) (M := 1000000000000) g1 hx.1 hx.2 (by omega)
      have hr := re_bd (z := x) g1
      have W1 : Hid (IntKind.i64.wrap (g * fl x g) = g * fl x g) := Lib.hid (IntWalk.i64_in _ (by omega))
      have W2 : Hid (IntKind.i64.wrap (x - g * fl x g) = x - g * fl x g) := Lib.hid (IntWalk.i64_in _ (by omega))
      have HKL := Lib.hid (show ((zs.take k).map fun z => z - g * fl z g).length = k by simp; omega)
      have hsr := hbel.size
      have HS : Hid (∀ w', Below w.heap.size wr w' → w'.cell? ⟨b, off + k, none⟩ = some (.int .i64 x) ∧ Below w.heap.size wr w') := Lib.hid (fun w' k => ⟨hC w' k, k⟩)
      have hcx := hC wr (Below.refl _ _)
      clear hC
      go_wp2
      go_region_held3 (fun w' => w'.cell? ⟨b, off + k, none⟩ = some (.int .i64 x) ∧ Below w.heap.size wr w')
        (first | exact HS.out _ hbel2 | exact HS.out _ (by go_grown))
        (first
          | (go_at_call 60; refine (l01FloorX_any _ _ _ (by omega) (by omega) (by omega) (by omega)).mono ?_; rintro e w' ⟨rfl, rfl⟩)
          | (refine step_app1 (by rfl) _ _ (by rfl) w.heap.size rd rc k _ (x - g * fl x g) (by rfl) (hown.keep (by go_grown)) HKL.out.symm wr.heap.size (by rfl) (by simp [W1.out, W2.out]) ⟨by omega, by omega⟩ (by rw [HKL.out]; omega) (by simp; omega) ?_; intro ad' cap' w1 hown1 hgr1; have hbel2 : Below w.heap.size wr w1 := below_own (by go_grown) (hown.keep (by go_grown)) hgr1 (by simp; omega) (Nat.le_refl _)))
      go_wp2
      go_roundw
      case rel => exact ⟨k + 1, ad', cap', by omega, by go_num, rfl, by rw [HT.out]; exact hown1, hbel.trans hbel2⟩
      case measure => simp [intOf]; omega
    · have HK := Lib.hid (show k = zs.length from by omega)
      go_wp2
      go_ret
      refine ⟨rd, rc, by rw [HFL.out, HK.out]; rfl, ?_, hbel⟩
      rw [HK.out, List.take_length] at hown
      exact hown
end Go.Proofs.Ytgpjjgfechjbfaa
