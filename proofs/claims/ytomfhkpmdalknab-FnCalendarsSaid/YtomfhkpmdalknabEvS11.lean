/- Even calendars: the model's side. -/
import Derived.Test.YtomfhkpmdalknabEvI11
import Derived.Test.YtomfhkpmdalknabLitC11
namespace Go.Proofs.Ytomfhkpmdalknab
open Go.ChangeShapes Go.WideShapes Go.ChangeAt Go.RowKit Go.Deep
set_option linter.unusedVariables false
set_option maxHeartbeats 1600000 in
set_option maxRecDepth 100000 in
theorem l11Even_any (n : Nat) (l gh sh : Int) (w : World) (n1 : 1 ≤ n) (n2 : n ≤ 400) (l1 : 0 ≤ l) (l2 : l ≤ n) (s1 : 0 ≤ sh) (s2 : sh ≤ 400) :
    Calls Try.prog 43 #[.int .i64 n, .int .i64 l, .int .i64 gh, .int .i64 sh] w fun e w' => ∃ rd rc, e = .returned (calV n gh rd (pickL (evP l n sh) n).length rc) ∧ Own w' w.heap.size rd rc (pickL (evP l n sh) n) ∧ Keep w w' := by
  have HLW := Lib.hid (fun W => l07Line4_any l (n : Int) sh n W (by omega) (by omega) l1 l2 s1 (by omega) (by omega))
  have HSS := Lib.hid (ev_size l (n : Int) sh n)
  have HBY := Lib.hid (fun i (hi : i < n) hs => ev_byte l (n : Int) sh n i hi hs)
  generalize strOfNums (lnN l (n : Int) sh n) = s at *
  have HPS := Lib.hid (pickL_succ (evP l n sh))
  have HPL := Lib.hid (pickL_len (evP l n sh))
  have HP0 : Hid (pickL (evP l n sh) 0 = []) := Lib.hid rfl
  generalize evP l (n : Int) sh = p at *
  obtain ⟨wa, hwa⟩ : ∃ x, x = w.alloc (.cells #[.int .i64 0, .int .i64 0, .slice none 0 0] 27) := ⟨_, rfl⟩
  have HKA : Hid (Keep w wa) := Lib.hid (by rw [hwa]; go_grown)
  have R0 : Hid (ResC wa w.heap.size (.int .i64 0) (.int .i64 0) (.slice none 0 0)) := Lib.hid (by rw [hwa]; exact ResC.new w _ _ _ _)
  have HSZ : Hid (wa.heap.size = w.heap.size + 1) := Lib.hid (by rw [hwa]; simp)
  have HWA := Lib.hid hwa
  clear hwa
  go_enter Try.func43, Try.ntmps43
  go_wp2_with fail
  rw [← HWA.out]
  refine (HLW.out _).mono ?_
  rintro e w1 ⟨rfl, k1⟩
  have G1 := Lib.hid ((growC_lit wa (w.heap.size + 1) (n : Int) gh HSZ.out).keep k1)
  clear k1
  go_wp2
  go_loopg [11] n (fun kk i wr => ∃ (j : Nat) (rd : Option Addr) (rc : Nat), j ≤ n ∧ kk = n - j ∧ i = .int .i64 j ∧ Hid (GrwC wa wr (w.heap.size + 1 + 1) n gh rd rc (pickL p j)))
  case atStart => exact ⟨0, _, _, by omega, rfl, rfl, by rw [HP0.out]; exact G1⟩
  case round =>
    obtain ⟨j, rd, rc, hj, rfl, rfl, HG⟩ := hrel
    have hss := HSS.out
    by_cases hlt : j < n
    · have hle : (j : Int) < (n : Int) := by omega
      have hjs : j < s.size := by omega
      have hjsi : (j : Int) < (s.size : Int) := by omega
      have HPJ := Lib.hid (HPS.out j)
      have hpl := HPL.out j
      have HQ := Lib.hid (HBY.out j hlt hjs)
      cases hp : p j
      · have q1 : ((((s[j]'hjs).toNat : Int)) == 98) = false := by rw [HQ.out, hp]; rfl
        rw [hp] at HPJ
        go_wp2
        go_roundg (n - (j + 1))
        case measure => omega
        case rel => exact ⟨j + 1, rd, rc, by omega, rfl, by go_num, Lib.hid (by rw [HPJ.out]; exact HG.out)⟩
      · have q1 : ((((s[j]'hjs).toNat : Int)) == 98) = true := by rw [HQ.out, hp]; rfl
        rw [hp] at HPJ
        have HPJ2 : Hid (pickL p (j + 1) = pickL p j ++ [(j : Int)]) := Lib.hid (by rw [HPJ.out]; rfl)
        clear HPJ
        have b2 := HG.out.c2
        have hws := HG.out.k.size
        have hsz := HSZ.out
        generalize pickL p j = L at *
        obtain ⟨m, hm⟩ : ∃ m, m = L.length := ⟨_, rfl⟩
        rw [← hm] at b2
        have HM := Lib.hid hm
        clear hm
        go_wp2_with (refine list_app2 (by rfl) _ _ (by rfl) wa.heap.size rd rc m L (j : Int) (by rfl) (HG.out.o.keep (by go_grown)) HM.out wr.heap.size (by rfl) (by simp) ⟨by omega, by omega⟩ (by have := HM.out; omega) (by simp; omega) ?_; intro g3 cap3 w3 hown3 hgr3 hat3 hlt3; obtain ⟨⟨h1c, h1f⟩, hg3⟩ := (HG.out.keep (W' := wr.alloc (.cells #[.int .i64 (j : Nat)] 2)) (by go_grown)).app hown3 (by rw [← HM.out]; exact hgr3) (by simpa using hat3); rw [← HM.out] at h1c hg3; have HG3 := Lib.hid hg3; clear hown3 hgr3 hat3 hg3)
        go_roundg (n - (j + 1))
        case measure => omega
        case rel => exact ⟨j + 1, _, _, by omega, rfl, by go_num, by rw [HPJ2.out]; exact HG3⟩
    · have HE := Lib.hid (show j = n by omega)
      have hle : ¬ (j : Int) < (s.size : Int) := by omega
      have b0 := HG.out.c0; have b1 := HG.out.c1; have b2 := HG.out.c2
      have hsz := HSZ.out
      have R2 := R0.out.keep HG.out.k (by omega)
      have HP := Lib.hid (R2.put (.int .i64 (n : Nat)) (.int .i64 gh) (.slice rd (pickL p j).length rc))
      have HO := Lib.hid ((HG.out.o.set3 (b := w.heap.size) (by omega) (.int .i64 (n : Nat)) (.int .i64 gh) (.slice rd (pickL p j).length rc)).mono (B' := w.heap.size) (by omega))
      have HK := Lib.hid (keep_put3 (b := w.heap.size) (Keep.next HKA.out HG.out.k) (Nat.le_refl _) (.int .i64 (n : Nat)) (.int .i64 gh) (.slice rd (pickL p j).length rc))
      obtain ⟨r0, r1, r2, q0, q1, q2⟩ := R2
      go_wp2
      refine bodyPost_ret (v := calV (n : Nat) gh rd (pickL p j).length rc) (by simp [results, Try.results43, go_sem, HP.out.c0, HP.out.c1, HP.out.c2]) rfl ?_
      exact ⟨rd, rc, by rw [← HE.out], by have h := HO.out; rw [HE.out] at h ⊢; exact h, by have h := HK.out; rw [HE.out] at h ⊢; exact h⟩
end Go.Proofs.Ytomfhkpmdalknab
