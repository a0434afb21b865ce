/- Masks: what one is; the model's look at one. -/
import Derived.Test.YtjoanfgchapbaaaOrd9
import Derived.Test.YtjoanfgchapbaaaRowG
import Derived.Test.YtjoanfgchapbaaaCat6
import Derived.Test.YtjoanfgchapbaaaGrd
import Derived.Test.YtjoanfgchapbaaaInts
import Derived.Deep.LoopGhost
namespace Go.Proofs.Ytjoanfgchapbaaa
open Go.ChangeShapes Go.WideShapes Go.ChangeAt Go.RowKit Go.Deep
set_option linter.unusedVariables false
/-- A square with 1 to 8 rows that contains each number from 0 on once. -/
def okM (zss : List (List Int)) : Prop := (1 ≤ zss.length ∧ zss.length ≤ 8) ∧ (∀ k, k < zss.length → (zss.getD k []).length = zss.length) ∧ (∀ x ∈ zss.flatten, 0 ≤ x ∧ x < ((zss.length * zss.length : Nat) : Int)) ∧ zss.flatten.Nodup
noncomputable def maskB (zss : List (List Int)) : Bool := @decide (okM zss) (Classical.propDecidable _)
theorem maskB_yes {zss : List (List Int)} (h : okM zss) : maskB zss = true := by unfold maskB; exact @decide_eq_true _ (Classical.propDecidable _) h
theorem maskB_no {zss : List (List Int)} (h : ¬ okM zss) : maskB zss = false := by unfold maskB; exact @decide_eq_false _ (Classical.propDecidable _) h
theorem maskB_iff {zss : List (List Int)} : maskB zss = true ↔ okM zss := by
  unfold maskB; exact @decide_eq_true_iff _ (Classical.propDecidable _)
theorem flat_pre (zss : List (List Int)) (k j : Nat) (hk : k < zss.length) : ∃ r, zss.flatten = (zss.take k).flatten ++ (zss.getD k []).take j ++ r := by
  refine ⟨(zss.getD k []).drop j ++ (zss.drop (k + 1)).flatten, ?_⟩
  have e : zss = zss.take (k + 1) ++ zss.drop (k + 1) := (List.take_append_drop _ _).symm
  conv => lhs; rw [e]
  rw [List.flatten_append, flat_succ zss k hk]
  generalize zss.getD k [] = z
  have e2 : (zss.take k).flatten ++ z.take j ++ (z.drop j ++ (zss.drop (k + 1)).flatten) = (zss.take k).flatten ++ (z.take j ++ z.drop j) ++ (zss.drop (k + 1)).flatten := by simp only [List.append_assoc]
  rw [e2, List.take_append_drop]
theorem okM_pre {zss : List (List Int)} (h : okM zss) {k j : Nat} (hk : k < zss.length) : (∀ x ∈ (zss.take k).flatten ++ (zss.getD k []).take j, 0 ≤ x ∧ x < ((zss.length * zss.length : Nat) : Int)) ∧ ((zss.take k).flatten ++ (zss.getD k []).take j).Nodup := by
  obtain ⟨r, hr⟩ := flat_pre zss k j hk
  obtain ⟨_, _, h3, h4⟩ := h
  rw [hr] at h3 h4
  exact ⟨fun x hx => h3 x (List.mem_append_left _ hx), (List.nodup_append.1 h4).1⟩
/-- Marks of what has been seen. -/
def seenL (T : Nat) (P : List Int) : List Value := (List.range T).map fun (i : Nat) => .bool (decide ((i : Int) ∈ P))
theorem seenL_len (T : Nat) (P : List Int) : (seenL T P).length = T := by simp [seenL]
theorem seenL_nil (T : Nat) : seenL T [] = List.replicate T (.bool false) := by
  unfold seenL
  apply List.ext_getElem
  · simp
  · intro i h1 h2; simp
theorem seenL_get (T : Nat) (P : List Int) (x : Nat) (h : x < T) : (seenL T P)[x]? = some (.bool (decide ((x : Int) ∈ P))) := by simp [seenL, h]
theorem seenL_set (T : Nat) (P : List Int) (x : Nat) (h : x < T) : (seenL T P).set x (.bool true) = seenL T (P ++ [(x : Int)]) := by
  apply List.ext_getElem
  · simp [seenL]
  · intro i h1 h2
    simp only [List.getElem_set, seenL, List.getElem_map, List.getElem_range]
    by_cases e : x = i
    · subst e; simp
    · rw [if_neg e]
      have : decide ((i : Int) ∈ P) = decide ((i : Int) ∈ P ++ [(x : Int)]) := by
        congr 1
        simp only [List.mem_append, List.mem_singleton, eq_iff_iff]
        constructor
        · exact .inl
        · rintro (h | h)
          · exact h
          · omega
      rw [this]
theorem Try.infoB : (Try.prog.info? 4).map (fun i => (i.zero, i.size, i.bytes)) = some (some (.bool false), 1, 1) := by kernel_rfl
set_option maxHeartbeats 1600000 in
set_option maxRecDepth 100000 in
theorem l09Mask_any (ad : Option Addr) (cap : Nat) (zss : List (List Int)) (w : World) (hz : Intss w ad zss) :
    Calls Try.prog 56 #[.slice ad zss.length cap] w fun e w' => e = .returned (.bool (maskB zss)) ∧ Keep w w' := by
  obtain ⟨i0, hi, hz0, hz1, hz2⟩ := info_parts Try.infoB
  have hlen := hz.small
  by_cases h2 : 1 ≤ zss.length ∧ zss.length ≤ 8
  case neg =>
    rw [maskB_no (fun h => h2 h.1)]
    go_enter Try.func56, Try.ntmps56
    by_cases h3 : zss.length < 1
    · go_wp2
      go_ret
      exact ⟨rfl, Below.refl _ _⟩
    · have h4 : 8 < zss.length := by omega
      clear h2
      go_wp2
      go_ret
      exact ⟨rfl, Below.refl _ _⟩
  obtain ⟨n, hn⟩ : ∃ n, n = zss.length := ⟨_, rfl⟩
  have hT : n * n ≤ 64 := by rw [hn]; exact Nat.le_trans (Nat.mul_le_mul h2.2 h2.2) (by omega)
  have hT1 : 1 ≤ n * n := by rw [hn]; exact Nat.mul_pos (by omega) (by omega)
  obtain ⟨T, hTd⟩ : ∃ T, T = n * n := ⟨_, rfl⟩
  rw [← hTd] at hT hT1
  have V1 : IntKind.i64.wrap ((n : Int) * (n : Int)) = (T : Int) := by
    rw [hTd, Int.natCast_mul]
    exact IntWalk.i64_in _ (by rw [← Int.natCast_mul, ← hTd]; omega)
  have hb8 : i0.bytes * T ≤ 281474976710656 := by rw [hz2]; omega
  have hml : T ≤ maxLen := by unfold maxLen; omega
  have HY : Hid (∀ (h1 : ∀ k, k < n → (zss.getD k []).length = n) (h2 : ∀ x ∈ zss.flatten, 0 ≤ x ∧ x < (T : Int)) (h3 : zss.flatten.Nodup), maskB zss = true) := Lib.hid (fun a b c => maskB_yes ⟨h2, by rw [← hn]; exact a, by rw [← hn, ← hTd]; exact b, c⟩)
  have HL : Hid (∀ k, k < n → (zss.getD k []).length ≠ n → maskB zss = false) := Lib.hid (fun k hk hne => maskB_no (fun h => hne (by rw [hn]; exact h.2.1 k (by omega))))
  have HP : Hid (∀ k j, k < n → (¬ ((∀ x ∈ (zss.take k).flatten ++ (zss.getD k []).take j, 0 ≤ x ∧ x < (T : Int)) ∧ ((zss.take k).flatten ++ (zss.getD k []).take j).Nodup)) → maskB zss = false) := Lib.hid (fun k j hk hne => maskB_no (fun h => hne (by
    have := okM_pre h (j := j) (show k < zss.length by omega)
    rw [← hn, ← hTd] at this; exact this)))
  have HFS := Lib.hid (fun k hk => flat_succ zss k hk)
  have h2a := h2.1
  have h2b := h2.2
  rw [← hn] at hlen h2a h2b HFS
  rw [← hn]
  have HN := Lib.hid hn
  clear h2 hn hTd
  generalize maskB zss = V at *
  go_enter Try.func56, Try.ntmps56
  go_wp2_with (at_make; refine wpList_make_full w rfl _ _ 123 rfl w.heap.size 4 i0 (.bool false) 1 Try.underlying123 hi hz0 hz1 .i64 .i64 _ _ T rfl rfl rfl rfl hb8 hml (Nat.le_refl _) ?_)
  intro w0 hown0 hgrow0
  have hown0 : w0.ownsRow w.heap.size 4 1 (.slice (some ⟨w.heap.size, 0, none⟩) T T) T (List.replicate T (.bool false)) := by simpa [Value.cells, toList_madeCells_one] using hown0
  have hk0 : Keep w w0 := (Below.refl _ _).grown hgrow0 (Nat.le_refl _) (fun k h => by cases h)
  clear hgrow0
  obtain ⟨B, hB⟩ : ∃ B, B = w.heap.size := ⟨_, rfl⟩
  rw [← hB] at hown0 ⊢
  have HB := Lib.hid hB; clear hB
  have HO0 := Lib.hid hown0
  have HK0 : Hid (Below B w w0) := Lib.hid (by rw [HB.out]; exact hk0)
  clear hown0 hk0
  go_wp2
  go_loopg [5, 6] n (fun kk i _j wr => ∃ k : Nat, k ≤ n ∧ kk = n - k ∧ i = .int .i64 k ∧ Hid (∀ i, i < k → (zss.getD i []).length = n) ∧ Hid (∀ x ∈ (zss.take k).flatten, 0 ≤ x ∧ x < (T : Int)) ∧ Hid ((zss.take k).flatten.Nodup) ∧
    Hid (wr.ownsRow B 4 1 (.slice (some ⟨B, 0, none⟩) T T) T (seenL T (zss.take k).flatten)) ∧ Hid (Below B w wr))
  case atStart => exact ⟨0, Nat.zero_le _, rfl, rfl, Lib.hid (fun i h => by omega), Lib.hid (fun x hx => by simp at hx), Lib.hid (by simp), Lib.hid (by have h := HO0.out; rw [← seenL_nil] at h; simpa using h), HK0⟩
  case round =>
    obtain ⟨k, hk, rfl, rfl, HA, HR, HD, HO, HK⟩ := hrel
    obtain ⟨wo, rfl⟩ : ∃ x, x = wr := ⟨wr, rfl⟩
    by_cases hlt : k < n
    · rcases hz.at_ with h | ⟨b, off, rfl, hb, hc⟩
      · have := HN.out; rw [h] at this; simp at this; omega
      obtain ⟨p, d, hcx, hd, hi1⟩ := hc k (by rw [← HN.out]; exact hlt)
      have e1 := (HK.out.cell (p := ⟨b, off + k, none⟩) (by show b < B; rw [HB.out]; exact hb)).trans hcx
      have HI := Lib.hid hi1
      have hsm := hi1.small
      have HX := Lib.hid hcx
      have HF1 := Lib.hid (HFS.out k hlt)
      have HPK := Lib.hid (fun j => HP.out k j hlt)
      have HLK := Lib.hid (HL.out k hlt)
      clear hcx hi1 hc
      generalize hzk : zss.getD k [] = zk at *
      have HZK := Lib.hid hzk; clear hzk
      by_cases hl : zk.length = n
      · have hle : ((zk.length : Int) != (n : Int)) = false := by rw [hl]; simp
        have HL2 := Lib.hid hl; clear hl
        go_wp2
        go_loopg [6] zk.length (fun kk i wi => ∃ j : Nat, j ≤ zk.length ∧ kk = zk.length - j ∧ i = .int .i64 j ∧ Hid (∀ x ∈ (zss.take k).flatten ++ zk.take j, 0 ≤ x ∧ x < (T : Int)) ∧ Hid (((zss.take k).flatten ++ zk.take j).Nodup) ∧
          Hid (wi.ownsRow B 4 1 (.slice (some ⟨B, 0, none⟩) T T) T (seenL T ((zss.take k).flatten ++ zk.take j))) ∧ Hid (Below B w wi))
        case atStart => exact ⟨0, Nat.zero_le _, rfl, rfl, Lib.hid (by simpa using HR.out), Lib.hid (by simpa using HD.out), Lib.hid (by simpa using HO.out), HK⟩
        case round =>
          obtain ⟨j, hj, rfl, rfl, HR2, HD2, HO2, HK2⟩ := hrel
          have q1 := (HK2.out.cell (p := ⟨b, off + k, none⟩) (by show b < B; rw [HB.out]; exact hb)).trans HX.out
          by_cases hjt : j < zk.length
          · rcases HI.out.at_ with h | ⟨b2, off2, rfl, hb2, hc2⟩
            · subst h; simp at hjt
            have q2 := (HK2.out.cell (p := ⟨b2, off2 + j, none⟩) (by show b2 < B; rw [HB.out]; exact hb2)).trans (hc2 j hjt)
            have HTS := Lib.hid (take_succ_getD zk j hjt)
            clear hc2
            generalize zk.getD j 0 = x at *
            have V2 : IntKind.i64.wrap ((T : Int) - 1) = (T : Int) - 1 := IntWalk.i64_in _ (by omega)
            cases hin : inB x 0 ((T : Int) - 1)
            · have HRR := Lib.hid (HPK.out (j + 1) (fun h => by
                have := h.1 x (by rw [HTS.out]; simp)
                rw [inB_not] at hin; omega))
              go_wp2_with (go_at_call 68; refine (l00In_any _ _ _ _).mono ?_; rw [hin]; rintro e w' ⟨rfl, rfl⟩)
              go_ret
              exact ⟨ret_bool HRR.out.symm, by have h := HK2.out; rw [HB.out] at h; exact h⟩
            · have hin2 := inB_iff.1 hin
              obtain ⟨y, rfl⟩ : ∃ y : Nat, x = y := ⟨x.toNat, by omega⟩
              have hyT : y < T := by omega
              have q3 : wr.cell? ⟨B, y, none⟩ = some (.bool (decide ((y : Int) ∈ (zss.take k).flatten ++ zk.take j))) := by rw [HO2.out.cellAt y (by omega), seenL_get T _ y hyT]
              have q4 := HO2.out.frozenAt y
              have HST := Lib.hid (HO2.out.stored y (.bool true))
              have HSE := Lib.hid (seenL_set T ((zss.take k).flatten ++ zk.take j) y hyT)
              by_cases hm : (y : Int) ∈ (zss.take k).flatten ++ zk.take j
              · have HRR := Lib.hid (HPK.out (j + 1) (fun h => by
                  have h2 := h.2
                  rw [HTS.out, ← List.append_assoc] at h2
                  exact (List.nodup_append.1 h2).2.2 _ hm _ (by simp) rfl))
                rw [decide_eq_true hm] at q3
                go_wp2_with (go_at_call 68; refine (l00In_any _ _ _ _).mono ?_; rw [hin]; rintro e w' ⟨rfl, rfl⟩)
                go_ret
                exact ⟨ret_bool HRR.out.symm, by have h := HK2.out; rw [HB.out] at h; exact h⟩
              · rw [decide_eq_false hm] at q3
                have HM := Lib.hid hm; clear hm
                go_wp2_with (go_at_call 68; refine (l00In_any _ _ _ _).mono ?_; rw [hin]; rintro e w' ⟨rfl, rfl⟩)
                go_roundg (zk.length - (j + 1))
                case measure => omega
                case rel =>
                  refine ⟨j + 1, by omega, rfl, by go_num, Lib.hid (fun x hx => ?_), Lib.hid ?_, Lib.hid ?_, Lib.hid (HK2.out.setCell (Nat.le_refl _) _)⟩
                  · rw [HTS.out, ← List.append_assoc] at hx
                    rcases List.mem_append.1 hx with hx | hx
                    · exact HR2.out x hx
                    · simp at hx; omega
                  · rw [HTS.out, ← List.append_assoc]
                    refine List.nodup_append.2 ⟨HD2.out, by simp, fun a ha c hc e => ?_⟩
                    simp at hc
                    exact HM.out (by rw [← hc, ← e]; exact ha)
                  · have s := HST.out.1
                    rw [HSE.out] at s
                    rw [HTS.out, ← List.append_assoc]; exact s
          · have HEJ := Lib.hid (show j = zk.length by omega)
            go_wp2
            go_roundg (n - (k + 1))
            case measure => omega
            case rel =>
              refine ⟨k + 1, by omega, rfl, by go_num, Lib.hid (fun i hi => ?_), Lib.hid ?_, Lib.hid ?_, Lib.hid ?_, HK2⟩
              · by_cases e : i = k
                · subst e; rw [HZK.out]; exact HL2.out
                · exact HA.out i (by omega)
              · have h := HR2.out; rw [HEJ.out, List.take_length] at h; rw [HF1.out]; exact h
              · have h := HD2.out; rw [HEJ.out, List.take_length] at h; rw [HF1.out]; exact h
              · have h := HO2.out; rw [HEJ.out, List.take_length] at h; rw [HF1.out]; exact h
      · have hle : ((zk.length : Int) != (n : Int)) = true := by simp; omega
        have HRR := Lib.hid (HLK.out hl)
        clear hl
        go_wp2
        go_ret
        exact ⟨ret_bool HRR.out.symm, by have h := HK.out; rw [HB.out] at h; exact h⟩
    · have HE := Lib.hid (show k = n by omega)
      go_wp2
      go_ret
      have e := HE.out
      have hzz : zss.take k = zss := by rw [e, HN.out]; exact List.take_length
      refine ⟨ret_bool (HY.out (fun i hi => HA.out i (by omega)) (by rw [← hzz]; exact HR.out) (by rw [← hzz]; exact HD.out)).symm, by have h := HK.out; rw [HB.out] at h; exact h⟩
theorem specIsMask_any (ad : Option Addr) (cap : Nat) (zss : List (List Int)) (w : World) (hz : Intss w ad zss) :
    Calls Try.prog 21 #[.slice ad zss.length cap] w fun e w' => e = .returned (.bool (maskB zss)) ∧ Keep w w' := by
  have H := Lib.hid (l09Mask_any ad cap zss w hz)
  generalize maskB zss = V at *
  go_enter Try.func21, Try.ntmps21
  go_wp2_with fail
  refine H.out.mono ?_
  rintro e w1 ⟨rfl, k1⟩
  go_wp2
  go_ret
  exact ⟨rfl, k1⟩
end Go.Proofs.Ytjoanfgchapbaaa
