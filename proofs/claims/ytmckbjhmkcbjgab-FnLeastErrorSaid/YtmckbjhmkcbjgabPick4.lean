/- What is read off a choice: its first rounding, and how many it has. -/
import Derived.Test.YtmckbjhmkcbjgabChoice4c
namespace Go.Proofs.Ytmckbjhmkcbjgab
open Go.ChangeShapes Go.WideShapes Go.ChangeAt Go.RowKit Go.Deep
set_option linter.unusedVariables false
theorem incL_bd : ∀ (is : List Nat) (L : List Int) (M : Int), 0 ≤ M → (∀ z ∈ L, -M ≤ z ∧ z ≤ M) → ∀ z ∈ incL L is, -(M + is.length) ≤ z ∧ z ≤ M + is.length := by
  intro is
  induction is with
  | nil => intro L M _ h z hz; have := h z hz; simp; omega
  | cons a t ih =>
    intro L M hM h z hz
    have h2 : ∀ z ∈ L.set a (L.getD a 0 + 1), -(M + 1) ≤ z ∧ z ≤ M + 1 := by
      intro y hy
      by_cases ha : a < L.length
      · rcases List.mem_or_eq_of_mem_set hy with hy | rfl
        · have := h y hy; omega
        · have := h _ (getD_mem L a ha); omega
      · rw [List.set_eq_of_length_le (by omega)] at hy
        have := h y hy; omega
    have := ih (L.set a (L.getD a 0 + 1)) (M + 1) (by omega) h2 z hz
    rw [List.length_cons]; omega
set_option maxHeartbeats 1600000 in
theorem first_any (B : Nat) (la : Option Addr) (lc : Nat) (L : List Int) (fa : Option Addr) (fc : Nat) (N : List Nat) (up : Nat) (w : World) (hL : Own w B la lc L) (hN : OwnN w B fa fc N) (hu : up ≤ N.length) (hl : L.length ≤ 40) (hnl : N.length ≤ 40) (hNi : ∀ i ∈ N, i < L.length)
    (hLb : ∀ z ∈ L, -2000000 ≤ z ∧ z ≤ 2000000) :
    Calls Try.prog 36 #[chV la L.length lc fa N.length fc up] w fun e w' => ∃ rd rc, e = .returned (.slice rd (incL L (N.drop (N.length - up))).length rc) ∧ Own w' w.heap.size rd rc (incL L (N.drop (N.length - up))) ∧ Keep w w' := by
  obtain ⟨l, hld⟩ : ∃ l : Nat, l = N.length - up := ⟨_, rfl⟩
  have hli : (N.length : Int) - (up : Int) = (l : Int) := by omega
  rw [← hld]
  have HLD := Lib.hid hld; clear hld
  have HTX := Lib.hid (Trio.new w (.slice la L.length lc) (.slice fa N.length fc) (.int .i64 up) 56)
  have HKX := Lib.hid (show Keep w (w.alloc (.cells #[.slice la L.length lc, .slice fa N.length fc, .int .i64 up] 56)) by go_grown)
  have HL := Lib.hid hL; have HN := Lib.hid hN; have HNI := Lib.hid hNi; have HLB := Lib.hid hLb
  have hl1 : l ≤ N.length := by have := HLD.out; omega
  clear hL hN hNi hLb
  go_enter Try.func36, Try.ntmps36
  go_wp2_with fail
  generalize (w.alloc (.cells #[.slice la L.length lc, .slice fa N.length fc, .int .i64 up] 56)) = w0 at *
  refine (Clone_any B la lc L w0 (HL.out.keep HKX.out) (by omega)).mono ?_
  rintro e w1 ⟨rd, rc, rfl, o1, k1⟩
  have HT1 := Lib.hid (HTX.out.keptBy (keep_grown k1 none) (by simp))
  have hsub : N.length - l = up := by have := HLD.out; omega
  have HK1 := Lib.hid (HKX.out.next k1)
  have HO1 := Lib.hid (o1.mono (B' := w.heap.size) (by have := HKX.out.size; omega))
  clear o1 k1
  obtain ⟨c0, c1, c2, f0, f1, f2⟩ := HT1.out
  by_cases up0 : up = 0
  · subst up0
    have HD : Hid (N.drop l = []) := Lib.hid (List.drop_eq_nil_of_le (by omega))
    go_wp2
    all_goals
      go_loopg [5, 19] 0 (fun kk _ i wr => kk = 0 ∧ i = .int .i64 0 ∧ wr = w1)
      case atStart => exact ⟨rfl, rfl, rfl⟩
      case round =>
        obtain ⟨rfl, rfl, rfl⟩ := hrel
        go_wp2
        go_ret
        rw [HD.out]
        exact ⟨rd, rc, rfl, HO1.out, HK1.out⟩
  · rcases own_block HN.out.1 with ⟨_, h2, _⟩ | ⟨fb, rfl, hfB, hfb, hcap⟩
    · omega
    have hcap2 : ¬ fc = l := by omega
    have hNc : ∀ k, k < up → w.cell? ⟨fb, l + k, none⟩ = some (.int .i64 (((N.drop l).getD k 0 : Nat) : Int)) := fun k hk => by
      have := HN.out.1.cellAt (l + k) (by omega)
      rw [this]
      simp [List.getD_eq_getElem?_getD, show l + k < N.length from by omega]
    have HNC := Lib.hid hNc
    have HDL : Hid ((N.drop l).length = up) := Lib.hid (by rw [List.length_drop]; omega)
    have HDI : Hid (∀ k, k < up → (N.drop l).getD k 0 < L.length) := Lib.hid (fun k hk => by
      apply HNI.out
      have h1 : k < (N.drop l).length := by rw [HDL.out]; exact hk
      have e : (N.drop l).getD k 0 = (N.drop l)[k] := by simp [List.getD_eq_getElem?_getD, show l + k < N.length from by omega]
      rw [e]; exact List.mem_of_mem_drop (List.getElem_mem h1))
    clear hNc
    generalize hD : N.drop l = D at *
    have HD := Lib.hid hD; clear hD
    have HLB2 : Hid (∀ (is : List Nat), is.length ≤ 40 → ∀ z ∈ incL L is, -2000040 ≤ z ∧ z ≤ 2000040) := Lib.hid (fun is hi z hz => by have := incL_bd is L 2000000 (by omega) HLB.out z hz; omega)
    have hwb := HK1.out.size
    have hfb2 : fb < w.heap.size := hfb
    have hsz : w.heap.size ≤ w1.heap.size := HK1.out.size
    clear hsub hcap2
    go_wp2
    go_loopg [5, 19] up (fun kk _ i wr => ∃ k : Nat, k ≤ up ∧ kk = up - k ∧ i = .int .i64 k ∧ Hid (Own wr w.heap.size rd rc (incL L (D.take k))) ∧ Hid (Below w.heap.size w wr))
    case atStart => exact ⟨0, Nat.zero_le _, rfl, rfl, by simpa [incL] using HO1, HK1⟩
    case round =>
      obtain ⟨k, hk, rfl, rfl, HO, HB⟩ := hrel
      by_cases hlt : k < up
      · have hcx : wr.cell? ⟨fb, l + k, none⟩ = some (.int .i64 ((D.getD k 0 : Nat) : Int)) := (HB.out.cell (p := ⟨fb, l + k, none⟩) hfb2).trans (HNC.out k hlt)
        have hi := HDI.out k hlt
        have HIS := Lib.hid (incL_succ L D k (by rw [HDL.out]; exact hlt))
        have hlen : (incL L (D.take k)).length = L.length := incL_len _ _
        generalize D.getD k 0 = i at *
        rcases own_block HO.out.1 with ⟨_, h2, _⟩ | ⟨g, rfl, hgB, hg, _⟩
        · omega
        have hcy : wr.cell? ⟨g, i, none⟩ = some (.int .i64 ((incL L (D.take k)).getD i 0)) := by
          have := HO.out.1.cellAt i (by omega)
          rw [this]; simp [List.getD_eq_getElem?_getD, show i < (incL L (D.take k)).length from by omega]
        have hfy : wr.frozen? ⟨g, i, none⟩ = false := HO.out.1.frozenAt i
        have hv := HLB2.out (D.take k) (by rw [List.length_take]; omega) _ (getD_mem _ i (by omega))
        have HST := Lib.hid (HO.out.1.stored i (.int .i64 ((incL L (D.take k)).getD i 0 + 1)))
        have HLen := Lib.hid hlen; clear hlen
        have HO2 := HO.out.2
        have HIN : Hid (∀ z ∈ (incL L (D.take k)).set i ((incL L (D.take k)).getD i 0 + 1), In64 z) := Lib.hid (fun z hz => by
          rcases List.mem_or_eq_of_mem_set hz with hz | rfl
          · exact HO.out.2.2 z hz
          · exact ⟨by omega, by omega⟩)
        generalize hIL : incL L (D.take k) = IL at *
        have HIL := Lib.hid hIL; clear hIL
        generalize IL.getD i 0 = y at *
        go_wp2
        go_roundg (up - (k + 1))
        case measure => omega
        case rel =>
          obtain ⟨s1, s2⟩ := HST.out
          refine ⟨k + 1, by omega, rfl, by go_num, Lib.hid ?_, Lib.hid (HB.out.setCell hgB _)⟩
          rw [HIS.out]
          refine ⟨?_, by simpa using HO2.1, HIN.out⟩
          rw [List.length_set]
          unfold vals
          rw [List.map_set]; exact s1
      · have HK := Lib.hid (show k = up from by omega)
        have hlen := incL_len L D
        have HLn := Lib.hid hlen; clear hlen
        go_wp2
        go_ret
        have ho := HO.out
        rw [HK.out, ← HDL.out, List.take_length] at ho
        exact ⟨rd, rc, by rw [HD.out, HLn.out]; rfl, by rw [HD.out]; exact ho, HB.out⟩
theorem chs_bd (n k : Nat) (hn : n ≤ 40) : chs n k ≤ 1099511627776 := Nat.le_trans (chs_le n k) (Nat.le_trans (Nat.pow_le_pow_right (by omega) hn) (by decide))
set_option maxHeartbeats 1600000 in
theorem count_any (la : Option Addr) (lc n : Nat) (fa : Option Addr) (fc f up : Nat) (w : World) (hu : up ≤ f) (hf : f ≤ 40) :
    Calls Try.prog 45 #[chV la n lc fa f fc up] w fun e w' => e = .returned (.int .i64 (chs f up : Nat)) ∧ Keep w w' := by
  have HTX := Lib.hid (Trio.new w (.slice la n lc) (.slice fa f fc) (.int .i64 up) 56)
  have HKX := Lib.hid (show Keep w (w.alloc (.cells #[.slice la n lc, .slice fa f fc, .int .i64 up] 56)) by go_grown)
  go_enter Try.func45, Try.ntmps45
  go_wp2_with fail
  generalize (w.alloc (.cells #[.slice la n lc, .slice fa f fc, .int .i64 up] 56)) = w0 at *
  obtain ⟨c0, c1, c2, f0, f1, f2⟩ := HTX.out
  go_loop [3, 4, 7] (fun c _ i => ∃ k : Nat, k ≤ up ∧ i = .int .i64 k ∧ c = .int .i64 (chs f k : Nat))
    (fun _ _ i => up - (intOf i).toNat)
  case atStart => exact ⟨0, Nat.zero_le _, rfl, by rw [chs_zero]; rfl⟩
  case round =>
    obtain ⟨k, hk, rfl, rfl⟩ := hrel
    by_cases hlt : k < up
    · have h1 := chs_bd f k hf
      have h2 : 0 ≤ ((chs f k : Nat) : Int) * ((f : Int) - (k : Int)) ∧ ((chs f k : Nat) : Int) * ((f : Int) - (k : Int)) ≤ 1099511627776 * 40 := by
        constructor
        · exact Int.mul_nonneg (by omega) (by omega)
        · exact Int.mul_le_mul (by omega) (by omega) (by omega) (by omega)
      have HD : Hid ((((chs f k : Nat) : Int) * ((f : Int) - (k : Int))) / ((k : Int) + 1) = (chs f (k + 1) : Nat)) := Lib.hid (by
        rw [← chs_div f k]
        have e : ((f - k : Nat) : Int) = (f : Int) - (k : Int) := by omega
        rw [← e]; norm_cast)
      generalize chs f k = C at *
      go_wp2
      go_round
      case rel => exact ⟨k + 1, by omega, by go_num, by rw [← HD.out]⟩
      case measure => simp [intOf]; omega
    · have HK := Lib.hid (show k = up from by omega)
      go_wp2
      go_ret
      exact ⟨ret_i64 (by rw [HK.out]), HKX.out⟩
end Go.Proofs.Ytmckbjhmkcbjgab
