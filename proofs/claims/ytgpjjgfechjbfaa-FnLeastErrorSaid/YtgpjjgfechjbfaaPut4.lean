/- The best rounding with a sum: the model's side. -/
import Derived.Test.YtgpjjgfechjbfaaFixed4
namespace Go.Proofs.Ytgpjjgfechjbfaa
open Go.ChangeShapes Go.WideShapes Go.ChangeAt Go.RowKit Go.Deep
set_option linter.unusedVariables false
set_option maxHeartbeats 800000 in
theorem l00Own_any (ad : Option Addr) (cap : Nat) (zs : List Int) (w : World) (hz : Ints w ad zs) (hl : zs.length ≤ 1048576) :
    Calls Try.prog 102 #[.slice ad zs.length cap] w fun e w' => ∃ rd rc, e = .returned (.slice rd zs.length rc) ∧ Own w' w.heap.size rd rc zs ∧ Keep w w' := by
  have HO := Lib.hid (Own.lit0 w)
  have HK := Lib.hid (show Keep w (w.alloc (.cells #[] 2)) by go_grown)
  have hsz : w.heap.size < (w.alloc (.cells #[] 2)).heap.size := by simp
  have HSZ := Lib.hid hsz; clear hsz
  have HZ := Lib.hid hz
  go_enter Try.func102, Try.ntmps102
  go_wp2_with (refine list_appI (by rfl) _ _ (by rfl) w.heap.size w.heap.size 0 0 [] (by rfl) HO.out rfl ⟨Nat.le_refl _, HSZ.out, Nat.le_refl _⟩ zs ad zs.length cap (by rfl) rfl w HZ.out HK.out hl (by simp) (Nat.le_of_lt HSZ.out) ?_; intro gb cap2 w2 hown2 hgr2 hBg hlt2)
  go_ret
  exact ⟨some ⟨gb, 0, none⟩, cap2, by simp, by simpa using hown2, HK.out.grown hgr2 (Nat.le_of_lt HSZ.out) (fun k h => by cases h; exact Nat.le_refl _)⟩
theorem putL_drop (F C : List Int) (left i : Nat) (hl : F.length = C.length) (hi : i < F.length) :
    putL (F.drop i) (C.drop i) left = (if C.getD i 0 = 1 then F.getD i 0 + 1 else if C.getD i 0 = 0 ∧ isC 0 (C.drop (i + 1)) < left then F.getD i 0 + 1 else F.getD i 0) :: putL (F.drop (i + 1)) (C.drop (i + 1)) left := by
  rw [List.drop_eq_getElem_cons hi, List.drop_eq_getElem_cons (show i < C.length by omega), putL, getD_get F i hi, getD_get C i (by omega)]
theorem isC_drop (c : Int) (C : List Int) (i : Nat) (hi : i < C.length) : isC c (C.drop i) = isC c (C.drop (i + 1)) + (if C.getD i 0 = c then 1 else 0) := by
  unfold isC; rw [List.drop_eq_getElem_cons hi, List.countP_cons, getD_get C i hi]; simp
theorem set_mid (F P : List Int) (i : Nat) (v : Int) (hi : i < F.length) : (F.take (i + 1) ++ P).set i v = F.take i ++ v :: P := by
  rw [List.set_append_left _ _ (by rw [List.length_take]; omega), List.take_succ_eq_append_getElem hi, List.set_append_right _ _ (by rw [List.length_take]; omega), List.length_take, show i - min i F.length = 0 from by omega]
  simp
theorem mid_same (F P : List Int) (i : Nat) (hi : i < F.length) : F.take (i + 1) ++ P = F.take i ++ F.getD i 0 :: P := by
  rw [List.take_succ_eq_append_getElem hi, getD_get F i hi, List.append_assoc]; rfl
theorem mid_get (F P : List Int) (i : Nat) (hi : i < F.length) : (F.take (i + 1) ++ P).getD i 0 = F.getD i 0 := by
  rw [mid_same F P i hi, List.getD_eq_getElem?_getD, List.getElem?_append_right (by rw [List.length_take]; omega), List.length_take, show i - min i F.length = 0 from by omega]
  simp
set_option maxHeartbeats 1600000 in
theorem l04Put_any (ad : Option Addr) (cap : Nat) (F : List Int) (cd : Option Addr) (ccap : Nat) (C : List Int) (left : Nat) (w : World) (hz : Ints w ad F) (hc : Ints w cd C) (hl : F.length = C.length) (h40 : F.length ≤ 40) (hle : left ≤ 40) (hb : ∀ f ∈ F, -1000000000 ≤ f ∧ f ≤ 1000000000) :
    Calls Try.prog 96 #[.slice ad F.length cap, .slice cd C.length ccap, .int .i64 left] w fun e w' => ∃ rd rc, e = .returned (.slice rd (putL F C left).length rc) ∧ Own w' w.heap.size rd rc (putL F C left) ∧ Keep w w' := by
  have HB := Lib.hid hb; have HL := Lib.hid hl
  have hc40 : C.length ≤ 40 := by omega
  have HPL := Lib.hid (putL_len F C left)
  clear hb hl
  go_enter Try.func96, Try.ntmps96
  go_wp2_with fail
  refine (l00Own_any ad cap F w hz (by omega)).mono ?_
  rintro e w1 ⟨rd, rc, rfl, o1, k1⟩
  have HO1 := Lib.hid o1; have HK1 := Lib.hid k1
  have hC1 := hc.keep k1 (Nat.le_refl _)
  clear o1 k1
  go_wp2
  go_loopg [2, 8] F.length (fun kk lv i wr => ∃ k : Nat, k ≤ F.length ∧ kk = 0 + k ∧ i = .int .i64 ((k : Int) - 1) ∧ lv = .int .i64 ((left - isC 0 (C.drop k) : Nat)) ∧ Hid (Own wr w.heap.size rd rc (F.take k ++ putL (F.drop k) (C.drop k) left)) ∧ Hid (Below w.heap.size w wr))
  case atStart =>
    refine ⟨F.length, Nat.le_refl _, by omega, rfl, ?_, Lib.hid ?_, HK1⟩
    · rw [show C.drop F.length = [] from by rw [HL.out]; simp]; simp [isC]
    · rw [List.take_length, show C.drop F.length = [] from by rw [HL.out]; simp, List.drop_length]
      simpa [putL] using HO1.out
  case round =>
    obtain ⟨k, hk, rfl, rfl, rfl, HO, HBl⟩ := hrel
    by_cases hk0 : k = 0
    · subst hk0
      go_wp2
      go_ret
      have h := HO.out
      rw [List.take_zero, List.drop_zero, List.drop_zero, List.nil_append] at h
      exact ⟨rd, rc, by rw [HPL.out]; rfl, h, HBl.out⟩
    · obtain ⟨i, rfl⟩ : ∃ i, k = i + 1 := ⟨k - 1, by omega⟩
      rw [show (((i + 1 : Nat) : Int) - 1) = (i : Int) from by omega]
      have hiC : i < C.length := by have := HL.out; omega
      have hiF : i < F.length := by omega
      rcases (hc.keep HBl.out (Nat.le_refl _)).at_ with h | ⟨b2, off2, rfl, hb2, hc2⟩
      · rw [h] at hiC; simp at hiC
      have hcx := hc2 i hiC
      have HLen : Hid ((F.take (i + 1) ++ putL (F.drop (i + 1)) (C.drop (i + 1)) left).length = F.length) := Lib.hid (by rw [List.length_append, putL_len, List.length_take, List.length_drop]; omega)
      rcases own_block HO.out.1 with ⟨_, h2, _⟩ | ⟨lb, hla, hlB, hlb, _⟩
      · rw [HLen.out] at h2; omega
      have hO := HO.out
      rw [hla] at hO
      have hcy : wr.cell? ⟨lb, i, none⟩ = some (.int .i64 (F.getD i 0)) := by
        have := hO.1.cellAt i (by rw [HLen.out]; omega)
        rw [this]
        have e := mid_get F (putL (F.drop (i + 1)) (C.drop (i + 1)) left) i hiF
        rw [getD_get _ i (by rw [HLen.out]; exact hiF)] at e
        simp only [vals, List.getElem?_map, List.getElem?_eq_getElem (show i < (F.take (i + 1) ++ putL (F.drop (i + 1)) (C.drop (i + 1)) left).length by rw [HLen.out]; exact hiF), Option.map_some, e]
      have hfy : wr.frozen? ⟨lb, i, none⟩ = false := hO.1.frozenAt i
      have hf := HB.out _ (getD_mem F i hiF)
      have HPD := Lib.hid (putL_drop F C left i HL.out hiF)
      have HID := Lib.hid (isC_drop 0 C i hiC)
      have hid40 := isC_le 0 (C.drop (i + 1))
      rw [List.length_drop] at hid40
      have HSM := Lib.hid (fun v => set_mid F (putL (F.drop (i + 1)) (C.drop (i + 1)) left) i v hiF)
      have HMS := Lib.hid (mid_same F (putL (F.drop (i + 1)) (C.drop (i + 1)) left) i hiF)
      have HST := Lib.hid (hO.1.stored i (.int .i64 (F.getD i 0 + 1)))
      have HO2 := Lib.hid hO.2
      have HLA := Lib.hid hla
      clear hc2 hO hla
      have hrd := HLA.out
      clear HLA
      subst hrd
      generalize F.getD i 0 = f at *
      generalize C.getD i 0 = c at *
      generalize isC 0 (C.drop (i + 1)) = z at *
      by_cases c1 : c = 1
      · have c1b : (c == 1) = true := by simp [c1]
        have HC1 := Lib.hid c1; clear c1
        go_wp2
        go_roundg i
        case measure => omega
        case rel =>
          refine ⟨i, by omega, by omega, by go_num, ?_, Lib.hid ?_, Lib.hid (HBl.out.setCell hlB _)⟩
          · rw [HID.out, HC1.out]; simp
          · rw [HPD.out, if_pos HC1.out, ← HSM.out (f + 1)]
            obtain ⟨s1, s2⟩ := HST.out
            refine ⟨?_, by simpa using HO2.out.1, fun y hy => ?_⟩
            · rw [List.length_set]; unfold vals; rw [List.map_set]; exact s1
            · rcases List.mem_or_eq_of_mem_set hy with hy | rfl
              · exact HO2.out.2 y hy
              · exact ⟨by omega, by omega⟩
      · have c1b : (c == 1) = false := by simp [c1]
        have HC1 := Lib.hid c1; clear c1
        by_cases c0 : c = 0
        · have c0b : (c == 0) = true := by simp [c0]
          have HC0 := Lib.hid c0; clear c0
          by_cases hzl : z < left
          · have hg : (0 : Int) < ((left - z : Nat) : Int) := by omega
            go_wp2
            go_roundg i
            case measure => omega
            case rel =>
              refine ⟨i, by omega, by omega, by go_num, ?_, Lib.hid ?_, Lib.hid (HBl.out.setCell hlB _)⟩
              · rw [HID.out, HC0.out, if_pos rfl]; congr 1; omega
              · rw [HPD.out, if_neg HC1.out, if_pos ⟨HC0.out, hzl⟩, ← HSM.out (f + 1)]
                obtain ⟨s1, s2⟩ := HST.out
                refine ⟨?_, by simpa using HO2.out.1, fun y hy => ?_⟩
                · rw [List.length_set]; unfold vals; rw [List.map_set]; exact s1
                · rcases List.mem_or_eq_of_mem_set hy with hy | rfl
                  · exact HO2.out.2 y hy
                  · exact ⟨by omega, by omega⟩
          · have hg : ((left - z : Nat) : Int) ≤ 0 := by omega
            have hg0 : left - z = 0 := by omega
            go_wp2
            go_roundg i
            case measure => omega
            case rel =>
              refine ⟨i, by omega, by omega, by go_num, ?_, Lib.hid ?_, HBl⟩
              · rw [HID.out, HC0.out, if_pos rfl]; congr 1; omega
              · rw [HPD.out, if_neg HC1.out, if_neg (fun q => hzl q.2), ← HMS.out]; exact HO.out
        · have c0b : (c == 0) = false := by simp [c0]
          have HC0 := Lib.hid c0; clear c0
          go_wp2
          go_roundg i
          case measure => omega
          case rel =>
            refine ⟨i, by omega, by omega, by go_num, ?_, Lib.hid ?_, HBl⟩
            · rw [HID.out, if_neg HC0.out]; simp
            · rw [HPD.out, if_neg HC1.out, if_neg (fun q => HC0.out q.1), ← HMS.out]; exact HO.out
end Go.Proofs.Ytgpjjgfechjbfaa
