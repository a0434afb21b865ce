/- Even calendars: the program's look. -/
import Derived.Test.YtomfhkpmdalknabLn11
import Derived.Test.YtomfhkpmdalknabCalO11
namespace Go.Proofs.Ytomfhkpmdalknab
open Go.ChangeShapes Go.WideShapes Go.ChangeAt Go.RowKit Go.Deep
set_option linter.unusedVariables false
set_option maxHeartbeats 800000 in
theorem evenC_any (B : Nat) (s : ByteArray) (b : Bool) (i : Nat) (w : World) (hB : w.cell? ⟨B, 0, none⟩ = some (.string s)) (hi : i < s.size) (hs : s.size ≤ 400) (hb : ((s[i]'hi).toNat : Int) = if b then 98 else 97) :
    Calls Try.prog 34 #[.int .i64 i, .pointer (some ⟨B, 0, none⟩)] w fun e w' => e = .returned (.bool b) ∧ Keep w w' := by
  cases b
  · have q1 : ((((s[i]'hi).toNat : Int)) == 98) = false := by rw [hb]; rfl
    clear hb
    go_enter Try.func34, Try.ntmps34
    go_wp2
    go_quiet (fail)
    go_wp2
    go_ret
    exact ⟨ret_bool (by exact q1), below_drewN (Below.refl _ _) _⟩
  · have q1 : ((((s[i]'hi).toNat : Int)) == 98) = true := by rw [hb]; rfl
    clear hb
    go_enter Try.func34, Try.ntmps34
    go_wp2
    go_quiet (fail)
    go_wp2
    go_ret
    exact ⟨ret_bool (by exact q1), below_drewN (Below.refl _ _) _⟩
set_option maxHeartbeats 1600000 in
set_option maxRecDepth 100000 in
theorem EvenCalendar_any (c l gh sh : Int) (w : World) (uc : In64 c) (ul : In64 l) (uh : In64 gh) (us : In64 sh) :
    Calls Try.prog 17 #[.int .i64 c, .int .i64 l, .int .i64 gh, .int .i64 sh] w fun e w' => ∃ rd rc, e = .returned (.tuple #[calV (ecG c l gh sh) (ecH c l gh sh) rd (ecL c l gh sh).length rc, .bool (ecB c l gh sh)]) ∧ Own w' w.heap.size rd rc (ecL c l gh sh) ∧ Keep w w' := by
  have HNO : Hid (ecB c l gh sh = false → ecG c l gh sh = 0 ∧ ecH c l gh sh = 0 ∧ ecL c l gh sh = []) := Lib.hid (fun h => by simp [ecG, ecH, ecL, h])
  have HDD : Hid (ecB c l gh sh = (inB c 1 400 && (inB l 0 c && (inB gh 1 1000 && inB sh 0 (c - 1))))) := Lib.hid rfl
  cases h1 : inB c 1 400
  · have hb : ecB c l gh sh = false := by rw [HDD.out, h1]; rfl
    obtain ⟨z1, z2, z3⟩ := HNO.out hb
    rw [z1, z2, z3, hb]
    go_enter Try.func17, Try.ntmps17
    go_wp2_with (go_at_call 22; refine (within_any _ _ _ _).mono ?_; rw [h1]; rintro e w' ⟨rfl, rfl⟩)
    refine bodyPost_ret (v := .tuple #[calV 0 0 none 0 0, .bool false]) (by simp [results, Try.results17, go_sem]) rfl ?_
    exact ⟨none, 0, rfl, Own.nil _ _, by go_grown⟩
  have hc := inB_iff.1 h1
  cases h2 : inB l 0 c
  · have hb : ecB c l gh sh = false := by rw [HDD.out, h1, h2]; rfl
    obtain ⟨z1, z2, z3⟩ := HNO.out hb
    rw [z1, z2, z3, hb]
    go_enter Try.func17, Try.ntmps17
    go_wp2_with (go_at_call 22; refine (within_any _ _ _ _).mono ?_; (first | rw [h1] | rw [h2]); rintro e w' ⟨rfl, rfl⟩)
    refine bodyPost_ret (v := .tuple #[calV 0 0 none 0 0, .bool false]) (by simp [results, Try.results17, go_sem]) rfl ?_
    exact ⟨none, 0, rfl, Own.nil _ _, by go_grown⟩
  have e1 : IntKind.i64.wrap (c - 1) = c - 1 := IntWalk.i64_in _ (by omega)
  cases h3 : inB sh 0 (c - 1)
  · have hb : ecB c l gh sh = false := by rw [HDD.out, h1, h2, h3]; simp
    obtain ⟨z1, z2, z3⟩ := HNO.out hb
    rw [z1, z2, z3, hb]
    go_enter Try.func17, Try.ntmps17
    go_wp2_with (go_at_call 22; refine (within_any _ _ _ _).mono ?_; (first | rw [h1] | rw [h2] | rw [h3] | rw [e1, h3]); rintro e w' ⟨rfl, rfl⟩)
    refine bodyPost_ret (v := .tuple #[calV 0 0 none 0 0, .bool false]) (by simp [results, Try.results17, go_sem]) rfl ?_
    exact ⟨none, 0, rfl, Own.nil _ _, by go_grown⟩
  have hl := inB_iff.1 h2; have hsh := inB_iff.1 h3
  have HCO : Hid (ecG c l gh sh = coG c gh ∧ ecH c l gh sh = coH c gh ∧ ecL c l gh sh = coL c gh (evP l c sh) ∧ ecB c l gh sh = coB c gh) := Lib.hid (by
    have hb : ecB c l gh sh = coB c gh := by rw [HDD.out, h1, h2, h3]; unfold coB; rw [h1]; simp
    unfold ecG ecH ecL coG coH coL
    rw [hb]
    exact ⟨rfl, rfl, rfl, rfl⟩)
  rw [HCO.out.1, HCO.out.2.1, HCO.out.2.2.1, HCO.out.2.2.2]
  clear HCO HNO HDD
  obtain ⟨n, rfl⟩ : ∃ n : Nat, c = n := ⟨c.toNat, by omega⟩
  have HLW := Lib.hid (fun W => lineWord4_any l (n : Int) sh n W hc.1 (by omega) hl.1 hl.2 hsh.1 (by omega) (by omega))
  have HSS := Lib.hid (ev_size l (n : Int) sh n)
  have HBY := Lib.hid (fun i (hi : i < n) hs => ev_byte l (n : Int) sh n i hi hs)
  generalize strOfNums (lnN l (n : Int) sh n) = s at *
  have HCC := Lib.hid (fun (W0 W : World) (B : Nat) (hB : W0.cell? ⟨B, 0, none⟩ = some (.string s)) (k : Keep W0 W) => calendarOfEvenCalendar_any (n : Int) gh B (evP l (n : Int) sh) W ⟨by omega, by omega⟩ (fun g1 g2 i hi W2 k2 => evenC_any B s (evP l (n : Int) sh i) i W2 (((Keep.next k k2).cell (p := ⟨B, 0, none⟩) (block_lt_of_cell hB)).trans hB) (by rw [HSS.out]; omega) (by rw [HSS.out]; omega) (HBY.out i (by omega) (by rw [HSS.out]; omega))))
  generalize coG (n : Int) gh = RG at *
  generalize coH (n : Int) gh = RH at *
  generalize coL (n : Int) gh (evP l (n : Int) sh) = RL at *
  generalize coB (n : Int) gh = RB at *
  obtain ⟨wa, hwa⟩ : ∃ x, x = w.alloc (.cells #[.int .i64 0, .int .i64 0, .slice none 0 0] 27) := ⟨_, rfl⟩
  have HKA : Hid (Keep w wa) := Lib.hid (by rw [hwa]; go_grown)
  have R0 : Hid (ResC wa w.heap.size (.int .i64 0) (.int .i64 0) (.slice none 0 0)) := Lib.hid (by rw [hwa]; exact ResC.new w _ _ _ _)
  have HSZ : Hid (wa.heap.size = w.heap.size + 1) := Lib.hid (by rw [hwa]; simp)
  have HWA := Lib.hid hwa
  clear hwa
  go_enter Try.func17, Try.ntmps17
  go_wp2_with (first | (go_at_call 22; refine (within_any _ _ _ _).mono ?_; (first | rw [h1] | rw [h2] | rw [h3] | rw [e1, h3]); rintro e w' ⟨rfl, rfl⟩) | (rw [← HWA.out]; go_at_call 33; refine (HLW.out _).mono ?_; rintro e w1 ⟨rfl, k1⟩; have HK1 := Lib.hid k1; clear k1) | (go_at_call 20; refine (HCC.out _ _ w1.heap.size (by simp) (Below.refl _ _)).mono ?_; rintro e w2 ⟨rd, rc, rfl, o2, k2⟩; have HO2 := Lib.hid o2; have HK2 := Lib.hid (show Keep wa w2 from Keep.next HK1.out (Keep.next (by go_grown) k2)); clear o2 k2; have R2 := Lib.hid (R0.out.keep HK2.out (by rw [HSZ.out]; omega)); obtain ⟨r0, r1, r2, q0, q1, q2⟩ := R2.out))
  have HP := Lib.hid (R2.out.put (.int .i64 RG) (.int .i64 RH) (.slice rd RL.length rc))
  refine bodyPost_ret (v := .tuple #[calV RG RH rd RL.length rc, .bool RB]) (by simp [results, Try.results17, go_sem, HP.out.c0, HP.out.c1, HP.out.c2]) rfl ?_
  have hsz1 := HK1.out.size
  have hsz2 := HSZ.out
  refine ⟨rd, rc, rfl, ?_, keep_put3 (Keep.next HKA.out HK2.out) (by omega) _ _ _⟩
  exact (HO2.out.set3 (by simp; omega) _ _ _).mono (by simp; omega)
end Go.Proofs.Ytomfhkpmdalknab
