/- Norms of roundings: the program's side. -/
import Derived.Test.YtmckbjhmkcbjgabMap4
import Derived.Test.YtmckbjhmkcbjgabNorm4
import Derived.Test.YtmckbjhmkcbjgabTot
import Derived.Test.YtmckbjhmkcbjgabSqs
namespace Go.Proofs.Ytmckbjhmkcbjgab
open Go.ChangeShapes Go.WideShapes Go.ChangeAt Go.RowKit
set_option linter.unusedVariables false
theorem rnd_num {g : Int} {zs ls : List Int} (h : rndB g zs ls = true) : ∀ z ∈ ls, -1000000 ≤ z ∧ z ≤ 1000000 := by
  unfold rndB at h
  simp only [Bool.and_eq_true, decide_eq_true_eq] at h
  obtain ⟨⟨h1, h2⟩, h3⟩ := h
  have hg := okV_den h1
  intro z hz
  obtain ⟨k, hk, rfl⟩ := List.getElem_of_mem hz
  have n := okV_num h1 _ (getD_mem zs k (by omega))
  have q := h3 k hk
  rw [getD_get ls k hk] at q
  have b1 := fl_bd (a := zs.getD k 0) (b := g) (M := 1000000) hg.1 n.1 n.2 (by omega)
  have b2 := ce_bd (a := zs.getD k 0) (b := g) (M := 1000000) hg.1 n.1 n.2 (by omega)
  rcases q with q | q <;> rw [q] <;> assumption
theorem rnd_okE {g : Int} {zs ls : List Int} (h : rndB g zs ls = true) : okE g zs ls = true := by
  have hn := rnd_num h
  unfold rndB at h
  simp only [Bool.and_eq_true, decide_eq_true_eq] at h
  obtain ⟨⟨h1, h2⟩, h3⟩ := h
  have := okV_len h1
  unfold okE listOk allIn
  simp only [Bool.and_eq_true, decide_eq_true_eq, List.all_eq_true, h1, h2, true_and]
  refine ⟨by omega, fun z hz => inB_iff.2 ?_⟩
  have := hn z hz
  omega
theorem nrm0_eq (es : List Int) : nrm 0 es = (es.map ab).sum := by
  have : ∀ (s : Int) (es : List Int), es.foldl (fun s e => nstep 0 s e) s = s + (es.map ab).sum := by
    intro s es
    induction es generalizing s with
    | nil => simp
    | cons a t ih => simp only [List.foldl_cons, List.map_cons, List.sum_cons]; rw [ih]; simp [nstep]; omega
  unfold nrm; rw [this]; omega
theorem ab_sq (e : Int) : ab e * ab e = e * e := by
  unfold ab
  split
  · rfl
  · exact Int.neg_mul_neg e e
theorem nrm1_eq (es : List Int) : nrm 1 es = (es.map fun e => e * e).sum := by
  have : ∀ (s : Int) (es : List Int), es.foldl (fun s e => nstep 1 s e) s = s + (es.map fun e => e * e).sum := by
    intro s es
    induction es generalizing s with
    | nil => simp
    | cons a t ih =>
      simp only [List.foldl_cons, List.map_cons, List.sum_cons]; rw [ih]
      have : nstep 1 s a = s + a * a := by simp [nstep, ab_sq]
      rw [this]; omega
  unfold nrm; rw [this]; omega
theorem nrm2_eq (es : List Int) : nrm 2 es = gr es := by
  unfold nrm gr
  congr 1
-- 40
set_option maxHeartbeats 1600000 in
set_option maxRecDepth 100000 in
theorem ErrorOf_any (g : Int) (ad : Option Addr) (cap : Nat) (zs : List Int) (bd : Option Addr) (bcap : Nat) (ls : List Int) (norm : Int) (w : World) (hz : Ints w ad zs) (hl : Ints w bd ls) (un : In64 norm) :
    Calls Try.prog 13 #[valV g ad zs.length cap, .slice bd ls.length bcap, .int .i64 norm] w fun e w' => e = .returned (.tuple #[.int .i64 (nrmV norm g zs ls), .bool (okN norm g zs ls)]) ∧ Keep w w' := by
  have hlen := hz.small
  have hlen2 := hl.small
  cases h1 : okE g zs ls
  · have h2 : rndB g zs ls = false := by
      cases h2 : rndB g zs ls
      · rfl
      · rw [rnd_okE h2] at h1; cases h1
    rw [show nrmV norm g zs ls = 0 from by simp [nrmV, okN, h2], show okN norm g zs ls = false from by simp [okN, h2]]
    go_enter Try.func13, Try.ntmps13
    go_wp2_with fail
    refine (ErrorsOf_any g ad cap zs bd bcap ls _ (hz.keep (B := _) (by go_grown) (Nat.le_refl _)) (hl.keep (B := _) (by go_grown) (Nat.le_refl _))).mono ?_
    rw [h1]
    rintro e w1 ⟨rd, rc, rfl, o1, k1⟩
    have g1 : Keep w w1 := Keep.next (by go_grown) k1
    go_wp2
    go_ret2
    exact ⟨rfl, g1⟩
  have B0 : Box (w.alloc (.cells #[.int .i64 g, .slice ad zs.length cap] 26)) w.heap.size g ad zs.length cap := ⟨by simp, by simp, by simp⟩
  cases h2 : rndB g zs ls
  · rw [show nrmV norm g zs ls = 0 from by simp [nrmV, okN, h2], show okN norm g zs ls = false from by simp [okN, h2]]
    go_enter Try.func13, Try.ntmps13
    go_wp2_with fail
    refine (ErrorsOf_any g ad cap zs bd bcap ls _ (hz.keep (B := _) (by go_grown) (Nat.le_refl _)) (hl.keep (B := _) (by go_grown) (Nat.le_refl _))).mono ?_
    rw [h1]
    rintro e w1 ⟨rd, rc, rfl, o1, k1⟩
    have g1 : Keep w w1 := Keep.next (by go_grown) k1
    have B1 := B0.keep k1
    obtain ⟨q0, q1, q2⟩ := B1
    go_wp2_with fail
    refine (IsRounding_any g ad cap zs bd bcap ls _ (hz.keep g1 (Nat.le_refl _)) (hl.keep g1 (Nat.le_refl _))).mono ?_
    rw [h2]
    rintro e w2 ⟨rfl, k2⟩
    have g2 : Keep w w2 := Keep.next g1 k2
    go_wp2
    go_ret2
    exact ⟨rfl, g2⟩
  have hE := rnd_errs h2
  have hok : okV g zs = true := by unfold rndB at h2; simp only [Bool.and_eq_true, decide_eq_true_eq] at h2; exact h2.1.1
  have h40 := okV_len hok
  have hll : ls.length = zs.length := by unfold rndB at h2; simp only [Bool.and_eq_true, decide_eq_true_eq] at h2; exact h2.1.2
  have hel := errsL_len g zs ls hll
  have hev : errsV g zs ls = errsL g zs ls := by simp [errsV, h1]
  have hel40 : (errsL g zs ls).length ≤ 40 := by omega
  have HLL := Lib.hid hll; clear hll
  have HEL := Lib.hid hel; clear hel
  have hgo : listOk (errsL g zs ls) 1000000000 = true := by
    unfold listOk allIn
    simp only [Bool.and_eq_true, decide_eq_true_eq, List.all_eq_true]
    exact ⟨hel40, fun z hz => inB_iff.2 (by have := hE z hz; omega)⟩
  have HE := Lib.hid hE; clear hE
  have hno : ¬ (norm = 0 ∨ norm = 1 ∨ norm = 2) → inB norm 0 2 = false := fun h => inB_not.2 (by omega)
  by_cases hn0 : norm = 0
  · subst hn0
    rw [show nrmV 0 g zs ls = ((errsL g zs ls).map ab).sum from by simp [nrmV, okN, h2, nrm0_eq, inB], show okN 0 g zs ls = true from by simp [okN, h2, inB]]
    generalize errsL g zs ls = E at *
    go_enter Try.func13, Try.ntmps13
    go_wp2_with fail
    refine (ErrorsOf_any g ad cap zs bd bcap ls _ (hz.keep (B := _) (by go_grown) (Nat.le_refl _)) (hl.keep (B := _) (by go_grown) (Nat.le_refl _))).mono ?_
    rw [h1, hev]
    rintro e w1 ⟨rd, rc, rfl, o1, k1⟩
    have g1 : Keep w w1 := Keep.next (by go_grown) k1
    have B1 := B0.keep k1
    obtain ⟨q0, q1, q2⟩ := B1
    go_wp2_with fail
    refine (IsRounding_any g ad cap zs bd bcap ls _ (hz.keep g1 (Nat.le_refl _)) (hl.keep g1 (Nat.le_refl _))).mono ?_
    rw [h2]
    rintro e w2 ⟨rfl, k2⟩
    have g2 : Keep w w2 := Keep.next g1 k2
    have o2 := o1.keep k2
    go_wp2_with fail
    refine (mappedAbs_any ab (.bool true) rd rc E _ (o2.ints.keep (B := _) (by go_grown) (Nat.le_refl _)) (by omega) (fun z hz => ?_) (fun x hx W k => ?_)).mono ?_
    · have := ab_bd (HE.out z hz); exact ⟨by omega, by omega⟩
    · have := HE.out x hx; exact absolute_any x W (by omega) (by omega)
    have HMB : Hid (∀ z ∈ (E.map ab), -1000000000 ≤ z ∧ z ≤ 1000000000) := Lib.hid (fun z hz => by
      obtain ⟨y, hy, rfl⟩ := List.mem_map.1 hz
      have := ab_bd (HE.out y hy); omega)
    have HML : Hid ((E.map ab).length ≤ 40) := Lib.hid (by simp; omega)
    rintro e w3 ⟨rd3, rc3, rfl, o3, k3⟩
    have g3 : Keep w w3 := Keep.next (Keep.next g2 (by go_grown)) k3
    generalize hM : (E.map ab) = M at *
    have HM := Lib.hid hM; clear hM
    go_wp2_with fail
    refine (total_any rd3 rc3 M _ (o3.ints.keep (B := _) (by go_grown) (Nat.le_refl _)) HMB.out (by have := HML.out; omega)).mono ?_
    rintro e w4 ⟨rfl, rfl⟩
    go_wp2
    refine bodyPost_ret (v := .tuple #[.int .i64 M.sum, .bool true]) (by simp [results, Try.results13, go_sem]) rfl ?_
    exact ⟨by rw [HM.out], Keep.next g3 (by go_grown)⟩
  by_cases hn1 : norm = 1
  · subst hn1
    rw [show nrmV 1 g zs ls = ((errsL g zs ls).map fun e => e * e).sum from by simp [nrmV, okN, h2, nrm1_eq, inB], show okN 1 g zs ls = true from by simp [okN, h2, inB]]
    rw [show ((errsL g zs ls).map fun e => e * e).sum = sqs (errsL g zs ls) from rfl]
    generalize errsL g zs ls = E at *
    go_enter Try.func13, Try.ntmps13
    go_wp2_with fail
    refine (ErrorsOf_any g ad cap zs bd bcap ls _ (hz.keep (B := _) (by go_grown) (Nat.le_refl _)) (hl.keep (B := _) (by go_grown) (Nat.le_refl _))).mono ?_
    rw [h1, hev]
    rintro e w1 ⟨rd, rc, rfl, o1, k1⟩
    have g1 : Keep w w1 := Keep.next (by go_grown) k1
    have B1 := B0.keep k1
    obtain ⟨q0, q1, q2⟩ := B1
    go_wp2_with fail
    refine (IsRounding_any g ad cap zs bd bcap ls _ (hz.keep g1 (Nat.le_refl _)) (hl.keep g1 (Nat.le_refl _))).mono ?_
    rw [h2]
    rintro e w2 ⟨rfl, k2⟩
    have g2 : Keep w w2 := Keep.next g1 k2
    have o2 := o1.keep k2
    go_wp2_with fail
    refine (squareSum_any rd rc E _ (o2.ints.keep (B := _) (by go_grown) (Nat.le_refl _)) (fun z hz => by have := HE.out z hz; omega) (by omega)).mono ?_
    rintro e w3 ⟨rfl, k3⟩
    have g3 : Keep w w3 := Keep.next (Keep.next g2 (by go_grown)) k3
    go_wp2
    refine bodyPost_ret (v := .tuple #[.int .i64 (sqs E), .bool true]) (by simp [results, Try.results13, go_sem]) rfl ?_
    exact ⟨rfl, g3⟩
  by_cases hn2 : norm = 2
  · subst hn2
    rw [show nrmV 2 g zs ls = grV (errsL g zs ls) from by simp [nrmV, okN, h2, nrm2_eq, grV, hgo, inB], show okN 2 g zs ls = true from by simp [okN, h2, inB]]
    generalize errsL g zs ls = E at *
    go_enter Try.func13, Try.ntmps13
    go_wp2_with fail
    refine (ErrorsOf_any g ad cap zs bd bcap ls _ (hz.keep (B := _) (by go_grown) (Nat.le_refl _)) (hl.keep (B := _) (by go_grown) (Nat.le_refl _))).mono ?_
    rw [h1, hev]
    rintro e w1 ⟨rd, rc, rfl, o1, k1⟩
    have g1 : Keep w w1 := Keep.next (by go_grown) k1
    have B1 := B0.keep k1
    obtain ⟨q0, q1, q2⟩ := B1
    go_wp2_with fail
    refine (IsRounding_any g ad cap zs bd bcap ls _ (hz.keep g1 (Nat.le_refl _)) (hl.keep g1 (Nat.le_refl _))).mono ?_
    rw [h2]
    rintro e w2 ⟨rfl, k2⟩
    have g2 : Keep w w2 := Keep.next g1 k2
    have o2 := o1.keep k2
    go_wp2_with fail
    refine (GreatestOf_any rd rc E _ (o2.ints.keep (B := _) (by go_grown) (Nat.le_refl _))).mono ?_
    rw [hgo]
    rintro e w3 ⟨rfl, k3⟩
    have g3 : Keep w w3 := Keep.next (Keep.next g2 (by go_grown)) k3
    go_wp2
    refine bodyPost_ret (v := .tuple #[.int .i64 (grV E), .bool true]) (by simp [results, Try.results13, go_sem]) rfl ?_
    exact ⟨rfl, g3⟩
  · have hin := hno (by omega)
    rw [show nrmV norm g zs ls = 0 from by simp [nrmV, okN, hin], show okN norm g zs ls = false from by simp [okN, hin]]
    clear hno hin
    generalize errsL g zs ls = E at *
    go_enter Try.func13, Try.ntmps13
    go_wp2_with fail
    refine (ErrorsOf_any g ad cap zs bd bcap ls _ (hz.keep (B := _) (by go_grown) (Nat.le_refl _)) (hl.keep (B := _) (by go_grown) (Nat.le_refl _))).mono ?_
    rw [h1, hev]
    rintro e w1 ⟨rd, rc, rfl, o1, k1⟩
    have g1 : Keep w w1 := Keep.next (by go_grown) k1
    have B1 := B0.keep k1
    obtain ⟨q0, q1, q2⟩ := B1
    go_wp2_with fail
    refine (IsRounding_any g ad cap zs bd bcap ls _ (hz.keep g1 (Nat.le_refl _)) (hl.keep g1 (Nat.le_refl _))).mono ?_
    rw [h2]
    rintro e w2 ⟨rfl, k2⟩
    have g2 : Keep w w2 := Keep.next g1 k2
    have e0 : (norm == 0) = false := by simpa using hn0
    have e1 : (norm == 1) = false := by simpa using hn1
    have e2 : (norm == 2) = false := by simpa using hn2
    go_wp2
    go_ret2
    exact ⟨rfl, g2⟩
end Go.Proofs.Ytmckbjhmkcbjgab
