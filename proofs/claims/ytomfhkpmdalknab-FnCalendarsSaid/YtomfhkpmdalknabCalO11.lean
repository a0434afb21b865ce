/- Calendars whose leap years a closure tells: the program's look. -/
import Derived.Test.YtomfhkpmdalknabCalI
import Derived.Test.YtomfhkpmdalknabGrc11
namespace Go.Proofs.Ytomfhkpmdalknab
open Go.ChangeShapes Go.WideShapes Go.ChangeAt Go.RowKit Go.Deep
set_option linter.unusedVariables false
theorem okC_nil (g gh : Int) : okC g gh [] = coB g gh := by
  unfold okC coB incB incT; simp
set_option maxHeartbeats 1600000 in
set_option maxRecDepth 100000 in
theorem calendarOfRuleCalendar_any (g gh : Int) (B : Nat) (p : Nat → Bool) (w : World) (ug : In64 g)
    (hcl : 1 ≤ g → g ≤ 400 → ∀ i : Nat, i < g.toNat → ∀ W, Keep w W → Calls Try.prog 21 #[.int .i64 i, .pointer (some ⟨B, 0, none⟩)] W fun e w' => e = .returned (.bool (p i)) ∧ Keep W w') :
    Calls Try.prog 20 #[.int .i64 g, .int .i64 gh, .func (.func 21) #[] #[.pointer (some ⟨B, 0, none⟩)]] w fun e w' =>
      ∃ rd rc, e = .returned (.tuple #[calV (coG g gh) (coH g gh) rd (coL g gh p).length rc, .bool (coB g gh)]) ∧ Own w' w.heap.size rd rc (coL g gh p) ∧ Keep w w' := by
  have HV := Lib.hid (fun W => ValidCalendar_any g gh none 0 [] W (ints_nil W))
  rw [okC_nil] at HV
  cases h1 : coB g gh
  · rw [show coG g gh = 0 from by simp [coG, h1], show coH g gh = 0 from by simp [coH, h1], show coL g gh p = [] from by simp [coL, h1]]
    rw [h1] at HV
    have R0 := Lib.hid (ResC.new w (.int .i64 0) (.int .i64 0) (.slice none 0 0) 27)
    go_enter Try.func20, Try.ntmps20
    go_wp2_with fail
    refine (HV.out _).mono ?_
    rintro e w1 ⟨rfl, k1⟩
    have R1 := Lib.hid (R0.out.keep (Keep.next (by go_grown) k1) (by simp))
    have K1 := Lib.hid (show Keep w w1 from Keep.next (by go_grown) k1)
    obtain ⟨r0, r1, r2, q0, q1, q2⟩ := R1.out
    have HP := Lib.hid (R1.out.put (.int .i64 0) (.int .i64 0) (.slice none 0 0))
    clear k1
    go_wp2
    refine bodyPost_ret (v := .tuple #[calV 0 0 none 0 0, .bool false]) (by simp [results, Try.results20, go_sem, HP.out.c0, HP.out.c1, HP.out.c2]) rfl ?_
    exact ⟨none, 0, rfl, Own.nil _ _, keep_put3 K1.out (Nat.le_refl _) _ _ _⟩
  have hg : 1 ≤ g ∧ g ≤ 400 := by unfold coB at h1; rw [Bool.and_eq_true] at h1; exact inB_iff.1 h1.1
  rw [show coG g gh = g from by simp [coG, h1], show coH g gh = gh from by simp [coH, h1], show coL g gh p = pickL p g.toNat from by simp [coL, h1]]
  rw [h1] at HV
  have HCL := Lib.hid (hcl hg.1 hg.2)
  clear hcl h1
  obtain ⟨n, rfl⟩ : ∃ n : Nat, g = n := ⟨g.toNat, by omega⟩
  rw [Int.toNat_natCast] at HCL ⊢
  have HPS := Lib.hid (pickL_succ p)
  have HPL := Lib.hid (pickL_len p)
  have HP0 : Hid (pickL p 0 = []) := Lib.hid rfl
  obtain ⟨wa, hwa⟩ : ∃ x, x = w.alloc (.cells #[.int .i64 0, .int .i64 0, .slice none 0 0] 27) := ⟨_, rfl⟩
  have R0 : Hid (ResC wa w.heap.size (.int .i64 0) (.int .i64 0) (.slice none 0 0)) := Lib.hid (by rw [hwa]; exact ResC.new w _ _ _ _)
  have HKA : Hid (Keep w wa) := Lib.hid (by rw [hwa]; go_grown)
  have HSZ : Hid (wa.heap.size = w.heap.size + 1) := Lib.hid (by rw [hwa]; simp)
  have HWA := Lib.hid hwa
  clear hwa
  go_enter Try.func20, Try.ntmps20
  go_wp2_with fail
  rw [← HWA.out]
  refine (HV.out _).mono ?_
  rintro e w1 ⟨rfl, k1⟩
  have G1 : GrwC wa w1 (w.heap.size + 1) n gh none 0 [] := GrwC.keep (W := wa.alloc (.cells #[.int .i64 (n : Nat), .int .i64 gh, .slice none 0 0] 27)) ⟨by rw [← HSZ.out]; simp, by rw [← HSZ.out]; simp, by rw [← HSZ.out]; simp, by rw [← HSZ.out]; simp, by rw [← HSZ.out]; simp, by rw [HSZ.out]; omega, Own.nil _ _, fun a h => by simp at h, by go_grown⟩ k1
  have HG1 := Lib.hid G1
  clear k1 G1
  go_wp2
  go_loopg [9, 18] n (fun kk _ i wr => ∃ (j : Nat) (rd : Option Addr) (rc : Nat), j ≤ n ∧ kk = n - j ∧ i = .int .i64 j ∧ Hid (GrwC wa wr (w.heap.size + 1) n gh rd rc (pickL p j)))
  case atStart => exact ⟨0, none, 0, by omega, rfl, rfl, by rw [HP0.out]; exact HG1⟩
  case round =>
    obtain ⟨j, rd, rc, hj, rfl, rfl, HG⟩ := hrel
    by_cases hlt : j < n
    · have hle : (j : Int) < (n : Int) := by omega
      have HCJ := Lib.hid (HCL.out j hlt wr (HKA.out.trans (HG.out.k.mono HKA.out.size)))
      have HPJ := Lib.hid (HPS.out j)
      have hpl := HPL.out j
      cases hp : p j
      · rw [hp] at HCJ
        rw [hp] at HPJ
        go_wp2_with (go_at_call 21; refine HCJ.out.mono ?_; rintro e w2 ⟨rfl, k2⟩)
        go_roundg (n - (j + 1))
        case measure => omega
        case rel => exact ⟨j + 1, rd, rc, by omega, rfl, by go_num, Lib.hid (by rw [HPJ.out]; exact HG.out.keep k2)⟩
      · rw [hp] at HCJ
        rw [hp] at HPJ
        have HPJ2 : Hid (pickL p (j + 1) = pickL p j ++ [(j : Int)]) := Lib.hid (by rw [HPJ.out]; rfl)
        clear HPJ
        go_wp2_with fail
        refine HCJ.out.mono ?_
        rintro e w2 ⟨rfl, k2⟩
        have HG2 := Lib.hid (HG.out.keep k2)
        clear k2 HG
        have b2 := HG2.out.c2
        have hws := HG2.out.k.size
        have hsz := HSZ.out
        generalize pickL p j = L at *
        obtain ⟨m, hm⟩ : ∃ m, m = L.length := ⟨_, rfl⟩
        rw [← hm] at b2
        have HM := Lib.hid hm
        clear hm
        go_wp2_with (refine list_app2 (by rfl) _ _ (by rfl) wa.heap.size rd rc m L (j : Int) (by rfl) (HG2.out.o.keep (by go_grown)) HM.out w2.heap.size (by rfl) (by simp) ⟨by omega, by omega⟩ (by have := HM.out; omega) (by simp; omega) ?_; intro g3 cap3 w3 hown3 hgr3 hat3 hlt3; obtain ⟨⟨h1c, h1f⟩, hg3⟩ := (HG2.out.keep (W' := w2.alloc (.cells #[.int .i64 (j : Nat)] 2)) (by go_grown)).app hown3 (by rw [← HM.out]; exact hgr3) (by simpa using hat3); rw [← HM.out] at h1c hg3; have HG3 := Lib.hid hg3; clear hown3 hgr3 hat3 hg3)
        go_roundg (n - (j + 1))
        case measure => omega
        case rel => exact ⟨j + 1, _, _, by omega, rfl, by go_num, by rw [HPJ2.out]; exact HG3⟩
    · have HE := Lib.hid (show j = n by omega)
      have hle : ¬ (j : Int) < (n : Int) := by omega
      have b0 := HG.out.c0; have b1 := HG.out.c1; have b2 := HG.out.c2
      have R2 := R0.out.keep HG.out.k (by rw [HSZ.out]; omega)
      have HP := Lib.hid (R2.put (.int .i64 (n : Nat)) (.int .i64 gh) (.slice rd (pickL p j).length rc))
      have HO := Lib.hid ((HG.out.o.set3 (b := w.heap.size) (by rw [HSZ.out]; omega) (.int .i64 (n : Nat)) (.int .i64 gh) (.slice rd (pickL p j).length rc)).mono (B' := w.heap.size) (by rw [HSZ.out]; omega))
      have HK := Lib.hid (keep_put3 (b := w.heap.size) (HKA.out.trans (HG.out.k.mono HKA.out.size)) (Nat.le_refl _) (.int .i64 (n : Nat)) (.int .i64 gh) (.slice rd (pickL p j).length rc))
      obtain ⟨r0, r1, r2, q0, q1, q2⟩ := R2
      go_wp2
      refine bodyPost_ret (v := .tuple #[calV (n : Nat) gh rd (pickL p j).length rc, .bool true]) (by simp [results, Try.results20, go_sem, HP.out.c0, HP.out.c1, HP.out.c2]) rfl ?_
      exact ⟨rd, rc, by rw [← HE.out], by rw [← HE.out]; have h := HO.out; rw [HE.out] at h ⊢; exact h, by have h := HK.out; rw [HE.out] at h ⊢; exact h⟩
set_option maxHeartbeats 1600000 in
set_option maxRecDepth 100000 in
theorem calendarOfEvenCalendar_any (g gh : Int) (B : Nat) (p : Nat → Bool) (w : World) (ug : In64 g)
    (hcl : 1 ≤ g → g ≤ 400 → ∀ i : Nat, i < g.toNat → ∀ W, Keep w W → Calls Try.prog 34 #[.int .i64 i, .pointer (some ⟨B, 0, none⟩)] W fun e w' => e = .returned (.bool (p i)) ∧ Keep W w') :
    Calls Try.prog 20 #[.int .i64 g, .int .i64 gh, .func (.func 34) #[] #[.pointer (some ⟨B, 0, none⟩)]] w fun e w' =>
      ∃ rd rc, e = .returned (.tuple #[calV (coG g gh) (coH g gh) rd (coL g gh p).length rc, .bool (coB g gh)]) ∧ Own w' w.heap.size rd rc (coL g gh p) ∧ Keep w w' := by
  have HV := Lib.hid (fun W => ValidCalendar_any g gh none 0 [] W (ints_nil W))
  rw [okC_nil] at HV
  cases h1 : coB g gh
  · rw [show coG g gh = 0 from by simp [coG, h1], show coH g gh = 0 from by simp [coH, h1], show coL g gh p = [] from by simp [coL, h1]]
    rw [h1] at HV
    have R0 := Lib.hid (ResC.new w (.int .i64 0) (.int .i64 0) (.slice none 0 0) 27)
    go_enter Try.func20, Try.ntmps20
    go_wp2_with fail
    refine (HV.out _).mono ?_
    rintro e w1 ⟨rfl, k1⟩
    have R1 := Lib.hid (R0.out.keep (Keep.next (by go_grown) k1) (by simp))
    have K1 := Lib.hid (show Keep w w1 from Keep.next (by go_grown) k1)
    obtain ⟨r0, r1, r2, q0, q1, q2⟩ := R1.out
    have HP := Lib.hid (R1.out.put (.int .i64 0) (.int .i64 0) (.slice none 0 0))
    clear k1
    go_wp2
    refine bodyPost_ret (v := .tuple #[calV 0 0 none 0 0, .bool false]) (by simp [results, Try.results20, go_sem, HP.out.c0, HP.out.c1, HP.out.c2]) rfl ?_
    exact ⟨none, 0, rfl, Own.nil _ _, keep_put3 K1.out (Nat.le_refl _) _ _ _⟩
  have hg : 1 ≤ g ∧ g ≤ 400 := by unfold coB at h1; rw [Bool.and_eq_true] at h1; exact inB_iff.1 h1.1
  rw [show coG g gh = g from by simp [coG, h1], show coH g gh = gh from by simp [coH, h1], show coL g gh p = pickL p g.toNat from by simp [coL, h1]]
  rw [h1] at HV
  have HCL := Lib.hid (hcl hg.1 hg.2)
  clear hcl h1
  obtain ⟨n, rfl⟩ : ∃ n : Nat, g = n := ⟨g.toNat, by omega⟩
  rw [Int.toNat_natCast] at HCL ⊢
  have HPS := Lib.hid (pickL_succ p)
  have HPL := Lib.hid (pickL_len p)
  have HP0 : Hid (pickL p 0 = []) := Lib.hid rfl
  obtain ⟨wa, hwa⟩ : ∃ x, x = w.alloc (.cells #[.int .i64 0, .int .i64 0, .slice none 0 0] 27) := ⟨_, rfl⟩
  have R0 : Hid (ResC wa w.heap.size (.int .i64 0) (.int .i64 0) (.slice none 0 0)) := Lib.hid (by rw [hwa]; exact ResC.new w _ _ _ _)
  have HKA : Hid (Keep w wa) := Lib.hid (by rw [hwa]; go_grown)
  have HSZ : Hid (wa.heap.size = w.heap.size + 1) := Lib.hid (by rw [hwa]; simp)
  have HWA := Lib.hid hwa
  clear hwa
  go_enter Try.func20, Try.ntmps20
  go_wp2_with fail
  rw [← HWA.out]
  refine (HV.out _).mono ?_
  rintro e w1 ⟨rfl, k1⟩
  have G1 : GrwC wa w1 (w.heap.size + 1) n gh none 0 [] := GrwC.keep (W := wa.alloc (.cells #[.int .i64 (n : Nat), .int .i64 gh, .slice none 0 0] 27)) ⟨by rw [← HSZ.out]; simp, by rw [← HSZ.out]; simp, by rw [← HSZ.out]; simp, by rw [← HSZ.out]; simp, by rw [← HSZ.out]; simp, by rw [HSZ.out]; omega, Own.nil _ _, fun a h => by simp at h, by go_grown⟩ k1
  have HG1 := Lib.hid G1
  clear k1 G1
  go_wp2
  go_loopg [9, 18] n (fun kk _ i wr => ∃ (j : Nat) (rd : Option Addr) (rc : Nat), j ≤ n ∧ kk = n - j ∧ i = .int .i64 j ∧ Hid (GrwC wa wr (w.heap.size + 1) n gh rd rc (pickL p j)))
  case atStart => exact ⟨0, none, 0, by omega, rfl, rfl, by rw [HP0.out]; exact HG1⟩
  case round =>
    obtain ⟨j, rd, rc, hj, rfl, rfl, HG⟩ := hrel
    by_cases hlt : j < n
    · have hle : (j : Int) < (n : Int) := by omega
      have HCJ := Lib.hid (HCL.out j hlt wr (HKA.out.trans (HG.out.k.mono HKA.out.size)))
      have HPJ := Lib.hid (HPS.out j)
      have hpl := HPL.out j
      cases hp : p j
      · rw [hp] at HCJ
        rw [hp] at HPJ
        go_wp2_with (go_at_call 34; refine HCJ.out.mono ?_; rintro e w2 ⟨rfl, k2⟩)
        go_roundg (n - (j + 1))
        case measure => omega
        case rel => exact ⟨j + 1, rd, rc, by omega, rfl, by go_num, Lib.hid (by rw [HPJ.out]; exact HG.out.keep k2)⟩
      · rw [hp] at HCJ
        rw [hp] at HPJ
        have HPJ2 : Hid (pickL p (j + 1) = pickL p j ++ [(j : Int)]) := Lib.hid (by rw [HPJ.out]; rfl)
        clear HPJ
        go_wp2_with fail
        refine HCJ.out.mono ?_
        rintro e w2 ⟨rfl, k2⟩
        have HG2 := Lib.hid (HG.out.keep k2)
        clear k2 HG
        have b2 := HG2.out.c2
        have hws := HG2.out.k.size
        have hsz := HSZ.out
        generalize pickL p j = L at *
        obtain ⟨m, hm⟩ : ∃ m, m = L.length := ⟨_, rfl⟩
        rw [← hm] at b2
        have HM := Lib.hid hm
        clear hm
        go_wp2_with (refine list_app2 (by rfl) _ _ (by rfl) wa.heap.size rd rc m L (j : Int) (by rfl) (HG2.out.o.keep (by go_grown)) HM.out w2.heap.size (by rfl) (by simp) ⟨by omega, by omega⟩ (by have := HM.out; omega) (by simp; omega) ?_; intro g3 cap3 w3 hown3 hgr3 hat3 hlt3; obtain ⟨⟨h1c, h1f⟩, hg3⟩ := (HG2.out.keep (W' := w2.alloc (.cells #[.int .i64 (j : Nat)] 2)) (by go_grown)).app hown3 (by rw [← HM.out]; exact hgr3) (by simpa using hat3); rw [← HM.out] at h1c hg3; have HG3 := Lib.hid hg3; clear hown3 hgr3 hat3 hg3)
        go_roundg (n - (j + 1))
        case measure => omega
        case rel => exact ⟨j + 1, _, _, by omega, rfl, by go_num, by rw [HPJ2.out]; exact HG3⟩
    · have HE := Lib.hid (show j = n by omega)
      have hle : ¬ (j : Int) < (n : Int) := by omega
      have b0 := HG.out.c0; have b1 := HG.out.c1; have b2 := HG.out.c2
      have R2 := R0.out.keep HG.out.k (by rw [HSZ.out]; omega)
      have HP := Lib.hid (R2.put (.int .i64 (n : Nat)) (.int .i64 gh) (.slice rd (pickL p j).length rc))
      have HO := Lib.hid ((HG.out.o.set3 (b := w.heap.size) (by rw [HSZ.out]; omega) (.int .i64 (n : Nat)) (.int .i64 gh) (.slice rd (pickL p j).length rc)).mono (B' := w.heap.size) (by rw [HSZ.out]; omega))
      have HK := Lib.hid (keep_put3 (b := w.heap.size) (HKA.out.trans (HG.out.k.mono HKA.out.size)) (Nat.le_refl _) (.int .i64 (n : Nat)) (.int .i64 gh) (.slice rd (pickL p j).length rc))
      obtain ⟨r0, r1, r2, q0, q1, q2⟩ := R2
      go_wp2
      refine bodyPost_ret (v := .tuple #[calV (n : Nat) gh rd (pickL p j).length rc, .bool true]) (by simp [results, Try.results20, go_sem, HP.out.c0, HP.out.c1, HP.out.c2]) rfl ?_
      exact ⟨rd, rc, by rw [← HE.out], by rw [← HE.out]; have h := HO.out; rw [HE.out] at h ⊢; exact h, by have h := HK.out; rw [HE.out] at h ⊢; exact h⟩
end Go.Proofs.Ytomfhkpmdalknab
