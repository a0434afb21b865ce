/- slices.Grow of a nil slice, slices.Concat, slices.Min, slices.Max at int64: their walks. -/
import Derived.Test.YtjoanfgchapbaaaCopyL
import Derived.Test.YtjoanfgchapbaaaLists
import Derived.Lib.AppendZeros
import Derived.Lib.Hide
import Derived.Deep.Upon
namespace Go.Proofs.Ytjoanfgchapbaaa
open Go.ChangeShapes Go.WideShapes Go.ChangeAt Go.RowKit Go.Deep
set_option linter.unusedVariables false
theorem flat_succ (zss : List (List Int)) (k : Nat) (h : k < zss.length) : (zss.take (k + 1)).flatten = (zss.take k).flatten ++ zss.getD k [] := by
  rw [List.take_succ_eq_append_getElem h, List.flatten_append, getDD_get zss k h]; simp
theorem flat_len (zss : List (List Int)) : zss.flatten.length = tot zss := by
  induction zss with
  | nil => rfl
  | cons a t ih => rw [List.flatten_cons, List.length_append, ih]; rfl
set_option maxHeartbeats 1600000 in
set_option maxRecDepth 100000 in
theorem Grow_nil (n : Nat) (w : World) (h1 : 1 ≤ n) (h2 : n ≤ 1048576) :
    Calls Try.prog 103 #[.slice none 0 0, .int .i64 n] w fun e w' => ∃ c, e = .returned (.slice (some ⟨w.heap.size, 0, none⟩) 0 c) ∧ Own w' w.heap.size (some ⟨w.heap.size, 0, none⟩) c [] ∧ Keep w w' ∧ w.heap.size < w'.heap.size := by
  obtain ⟨i0, hi, hz0, hz1, hz2⟩ := info_parts Try.infoI
  have happ := Lib.run_append_nil_zeros (P := Try.prog) w 69 3 69 2 i0 (.int .i64 0) .i64 .i64 Try.underlying69 Try.underlying3 hi hz0 n (by omega) (by omega) (by omega) (by rw [hz2]; omega)
  generalize hcap : grownCap w n 0 2 = c at happ
  have hcge : n ≤ c := by rw [← hcap]; exact grownCap_ge w _ 0 2
  have hcle : c ≤ maxLen := by rw [← hcap]; exact grownCap_le_maxLen w _ 0 2 (by unfold maxLen; omega)
  generalize hZ : (Builtin.zeroCells (Value.int .i64 0).cells n ++ Builtin.zeroCells (Value.int .i64 0).cells (c - n)) = Z at happ
  have hZs : Z.size = c := by rw [← hZ]; simp [size_zeroCells, Value.cells]; omega
  clear hcap hZ
  have hcb : (c : Int) ≤ 9223372036854775807 := by unfold maxLen at hcle; omega
  have HAP := Lib.hid happ; clear happ
  have HZS := Lib.hid hZs; clear hZs
  have HCL := Lib.hid hcle; clear hcle
  go_enter Try.func103, Try.ntmps103
  go_wp2_with (at_builtin; refine Lib.wpList_append_run _ rfl _ _ _ _ rfl _ _ rfl rfl _ _ HAP.out ?_)
  go_ret
  have hsz : (w.alloc (.cells Z 2)).drew.heap.size = w.heap.size + 1 := by simp
  refine ⟨c, rfl, ⟨?_, by simp, by simp⟩, ?_, by omega⟩
  · exact World.ownsRow.drew (World.ownsRow_made (base := w.heap.size) (e := 2) (size := 1) w Z c (Nat.le_refl _) HCL.out (by rw [HZS.out]; omega))
  · exact below_drewN (show Keep w (w.alloc (.cells Z 2)) by go_grown) 1
set_option maxHeartbeats 3200000 in
set_option maxRecDepth 100000 in
theorem Concat_any (bd : Option Addr) (bcap : Nat) (zss : List (List Int)) (w : World) (hz : Intss w bd zss) (h1 : 1 ≤ tot zss) (h2 : tot zss ≤ 1048576) :
    Calls Try.prog 59 #[.slice bd zss.length bcap] w fun e w' => ∃ rd rc, e = .returned (.slice rd zss.flatten.length rc) ∧ Own w' w.heap.size rd rc zss.flatten ∧ Keep w w' := by
  have hlen := hz.small
  obtain ⟨F0, hF0⟩ : ∃ F, F = zss.flatten := ⟨_, rfl⟩
  rw [← hF0]
  have HF0 := Lib.hid hF0; clear hF0
  have HTE := Lib.hid (show tot (zss.take zss.length) = tot zss by rw [List.take_length])
  go_enter Try.func59, Try.ntmps59
  go_wp2
  go_loop [3, 5, 11] (fun s _ i => ∃ k : Nat, k ≤ zss.length ∧ i = .int .i64 k ∧ s = .int .i64 (tot (zss.take k))) (fun _ _ i => zss.length - (intOf i).toNat)
  case atStart => exact ⟨0, Nat.zero_le _, rfl, by simp [tot]⟩
  case round =>
    obtain ⟨k, hk, rfl, rfl⟩ := hrel
    by_cases hlt : k < zss.length
    · rcases hz.at_ with h | ⟨b, off, rfl, hb, hc⟩
      · subst h; simp at hlt
      obtain ⟨p, d, hcx, hd, hi⟩ := hc k hlt
      have hsm := hi.small
      have HS := Lib.hid (tot_take_succ zss k hlt)
      have hle := tot_take_le zss (k + 1)
      rw [HS.out] at hle
      clear hc hi
      generalize zss.getD k [] = x at *
      generalize tot (zss.take k) = s at *
      go_wp2
      go_round
      case rel => exact ⟨k + 1, by omega, by go_num, by rw [HS.out]; go_num⟩
      case measure => simp [intOf]; omega
    · have hkE : tot (zss.take k) = tot zss := by rw [show k = zss.length by omega]; exact HTE.out
      rw [hkE]
      clear hkE HTE
      go_wp2_with fail
      refine (Grow_nil (tot zss) w h1 h2).mono ?_
      rintro e w1 ⟨c, rfl, o1, k1, hlt1⟩
      have HO1 := Lib.hid o1; have HK1 := Lib.hid k1
      clear o1 k1
      go_wp2
      go_loopw [6, 8, 27] (fun v _ i wr => ∃ (k g c : Nat), k ≤ zss.length ∧ i = .int .i64 k ∧ v = .slice (some ⟨g, 0, none⟩) (zss.take k).flatten.length c ∧ Hid (Own wr w.heap.size (some ⟨g, 0, none⟩) c (zss.take k).flatten) ∧ Hid (Keep w wr) ∧ w.heap.size ≤ g ∧ g < wr.heap.size) (fun _ _ i _ => zss.length - (intOf i).toNat)
      case atStart => exact ⟨0, w.heap.size, c, Nat.zero_le _, rfl, by simp, by simpa using HO1, HK1, Nat.le_refl _, hlt1⟩
      case round =>
        obtain ⟨k, g, c, hk, rfl, rfl, HO, HK, hg1, hg2⟩ := hrel
        obtain ⟨F, hF⟩ : ∃ F, F = (zss.take k).flatten := ⟨_, rfl⟩
        rw [← hF] at HO ⊢
        have HFE := Lib.hid hF; clear hF
        by_cases hlt : k < zss.length
        · rcases (hz.keep HK.out (Nat.le_refl _)).at_ with h | ⟨b, off, rfl, hb, hc⟩
          · subst h; simp at hlt
          obtain ⟨p, d, hcx, hd, hi⟩ := hc k hlt
          have HI := Lib.hid hi
          have hle := tot_take_le zss (k + 1)
          have HS := Lib.hid (tot_take_succ zss k hlt)
          rw [HS.out] at hle
          have HF := Lib.hid (flat_succ zss k hlt)
          rw [← HFE.out] at HF
          have hfl : F.length ≤ 1048576 := by rw [HFE.out, flat_len]; omega
          have hxl : (zss.getD k []).length ≤ 1048576 := by omega
          have hgc : F.length ≤ c := by
            rcases own_block HO.out.1 with ⟨h, _⟩ | ⟨g', h, _, _, hcc⟩
            · cases h
            · exact hcc
          clear hc hi hle HS
          generalize zss.getD k [] = x at *
          go_wp2_with (refine list_appI (by rfl) _ _ (by rfl) w.heap.size g F.length c F (by rfl) HO.out rfl ⟨hg1, hg2, hgc⟩ x p x.length d (by rfl) rfl wr HI.out (Below.refl _ _) hxl hfl (by omega) ?_; intro gb cap2 w2 hown2 hgr2 hBg hlt2)
          go_roundw
          case rel => exact ⟨k + 1, gb, cap2, by omega, by go_num, by rw [HF.out]; simp, Lib.hid (by rw [HF.out]; exact hown2), Lib.hid (HK.out.grown hgr2 HK.out.size (fun j h => by cases h; exact hg1)), hBg, hlt2⟩
          case measure => simp [intOf]; omega
        · have HE := Lib.hid (show k = zss.length by omega)
          go_wp2
          go_ret
          have hFF : Hid (F = F0) := Lib.hid (by rw [HFE.out, HF0.out, HE.out, List.take_length])
          exact ⟨some ⟨g, 0, none⟩, c, by rw [hFF.out]; rfl, by rw [← hFF.out]; exact HO.out, HK.out⟩
end Go.Proofs.Ytjoanfgchapbaaa
