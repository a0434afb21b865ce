/- Systems of intervals: the program's side, and the model's. -/
import Derived.Test.YtomfhkpmdalknaaHad10
import Derived.Test.YtomfhkpmdalknaaLists
import Derived.Test.YtomfhkpmdalknaaInts
import Derived.Deep.QuietTactic
import Derived.BigQuiet
namespace Go.Proofs.Ytomfhkpmdalknaa
open Go.ChangeShapes Go.WideShapes Go.ChangeAt Go.RowKit Go.Deep
set_option linter.unusedVariables false
/-- The ends of an interval of p points. -/
def ivB (p : Int) (es : List Int) : Bool := decide (es.length = 2) && (inB (es.getD 0 0) 0 (es.getD 1 0) && inB (es.getD 1 0) 0 (p - 1))
def ivN (es : List Int) : Nat := 2 ^ ((es.getD 1 0).toNat + 1) - 2 ^ (es.getD 0 0).toNat
def ivX (p : Int) (es : List Int) : Int := if ivB p es then (ivN es : Int) else 0
theorem ivB_parts {p : Int} {es : List Int} (h : ivB p es = true) : es.length = 2 ∧ (0 ≤ es.getD 0 0 ∧ es.getD 0 0 ≤ es.getD 1 0) ∧ 0 ≤ es.getD 1 0 ∧ es.getD 1 0 ≤ p - 1 := by
  unfold ivB at h
  simp only [Bool.and_eq_true, decide_eq_true_eq] at h
  exact ⟨h.1, inB_iff.1 h.2.1, inB_iff.1 h.2.2⟩
/-- The powers of two that an interval's set is made of. -/
theorem iv_pows {a b : Nat} (h1 : a ≤ b) (h2 : b ≤ 11) : wrap64 (2 * (2 : Int) ^ b) = ((2 ^ (b + 1) : Nat) : Int) ∧ wrap64 ((2 : Int) ^ a) = ((2 ^ a : Nat) : Int) ∧ wrap64 ((2 : Int) ^ (b + 1)) = ((2 ^ (b + 1) : Nat) : Int) ∧
    wrap64 (((2 ^ (b + 1) : Nat) : Int) - ((2 ^ a : Nat) : Int)) = ((2 ^ (b + 1) - 2 ^ a : Nat) : Int) ∧ 2 ^ (b + 1) ≤ 4096 ∧ 2 ^ a ≤ 2 ^ (b + 1) := by
  have e1 : 2 ^ (b + 1) ≤ 2 ^ 12 := Nat.pow_le_pow_right (by omega) (by omega)
  have e2 : 2 ^ a ≤ 2 ^ (b + 1) := Nat.pow_le_pow_right (by omega) (by omega)
  have e3 : (2 : Int) * 2 ^ b = ((2 ^ (b + 1) : Nat) : Int) := by rw [Nat.pow_succ]; push_cast; omega
  have e4 : ((2 : Int) ^ a) = ((2 ^ a : Nat) : Int) := by norm_cast
  have e5 : ((2 : Int) ^ (b + 1)) = ((2 ^ (b + 1) : Nat) : Int) := by norm_cast
  rw [e3, e4, e5]
  generalize 2 ^ (b + 1) = P at *
  generalize 2 ^ a = Q at *
  refine ⟨IntWalk.wrap64_in _ (by omega), IntWalk.wrap64_in _ (by omega), IntWalk.wrap64_in _ (by omega), ?_, by omega, e2⟩
  rw [IntWalk.wrap64_in _ (by omega)]; omega
theorem withinX (n lo hi : Int) (b : Bool) (w : World) (h : inB n lo hi = b) : Calls Try.prog 60 #[.int .i64 n, .int .i64 lo, .int .i64 hi] w fun e w' => e = .returned (.bool b) ∧ w' = w :=
  (within_any n lo hi w).mono fun _ _ h2 => ⟨by rw [h2.1, h], h2.2.symm⟩
set_option maxHeartbeats 1600000 in
set_option maxRecDepth 100000 in
theorem intervalOf_any (p : Int) (ad : Option Addr) (cap : Nat) (es : List Int) (w : World) (hz : Ints w ad es) (hp : 0 ≤ p ∧ p ≤ 12) :
    Calls Try.prog 102 #[.int .i64 p, .slice ad es.length cap] w fun e w' => e = .returned (.tuple #[.int .i64 (ivX p es), .bool (ivB p es)]) ∧ Keep w w' := by
  have hlen := hz.small
  by_cases h2 : es.length = 2
  · have HX : Hid (ivB p es = (inB (es.getD 0 0) 0 (es.getD 1 0) && inB (es.getD 1 0) 0 (p - 1))) := Lib.hid (by unfold ivB; rw [decide_eq_true h2, Bool.true_and])
    have HV : Hid (ivX p es = if ivB p es then (ivN es : Int) else 0) := Lib.hid rfl
    have HN : Hid (ivN es = 2 ^ ((es.getD 1 0).toNat + 1) - 2 ^ (es.getD 0 0).toNat) := Lib.hid rfl
    rcases hz.at_ with h | ⟨b, off, rfl, hb, hc⟩
    · subst h; simp at h2
    have hc0 := hc 0 (by omega)
    have hc1 := hc 1 (by omega)
    rw [Nat.add_zero] at hc0
    have hl2 : ((es.length : Int) != 2) = false := by rw [h2]; rfl
    have i0 := hz.wf _ (getD_mem es 0 (by omega))
    have i1 := hz.wf _ (getD_mem es 1 (by omega))
    rw [h2]
    rw [HV.out, HX.out]
    clear HV HX hc hz hlen hl2
    generalize es.getD 0 0 = x at *
    generalize es.getD 1 0 = y at *
    have w1 : IntKind.i64.wrap (p - 1) = p - 1 := IntWalk.i64_in _ (by omega)
    cases h3 : inB x 0 y
    · rw [Bool.false_and]
      go_enter Try.func102, Try.ntmps102
      go_wp2
      go_quiet ((go_at_call 60; exact Calls.quiet_of_same (withinX _ _ _ _ _ h3)))
      go_wp2
      go_ret2
      exact ⟨rfl, below_drewN (Below.refl _ _) _⟩
    · cases h4 : inB y 0 (p - 1)
      · rw [Bool.true_and]
        go_enter Try.func102, Try.ntmps102
        go_wp2
        go_quiet ((go_at_call 60; first | exact Calls.quiet_of_same (withinX _ _ _ _ _ h3) | exact Calls.quiet_of_same (withinX _ _ _ _ _ h4)))
        go_wp2
        go_ret2
        exact ⟨rfl, below_drewN (Below.refl _ _) _⟩
      · rw [Bool.true_and, if_pos rfl, HN.out]
        clear HN
        have g3 := inB_iff.1 h3; have g4 := inB_iff.1 h4
        obtain ⟨a, rfl⟩ : ∃ a : Nat, x = a := ⟨x.toNat, by omega⟩
        obtain ⟨c, rfl⟩ : ∃ c : Nat, y = c := ⟨y.toNat, by omega⟩
        simp only [Int.toNat_natCast]
        obtain ⟨q1, q2, q3, q4, q5, q6⟩ := iv_pows (a := a) (b := c) (by omega) (by omega)
        generalize hP : 2 ^ (c + 1) = P at *
        generalize hQ : 2 ^ a = Q at *
        go_enter Try.func102, Try.ntmps102
        go_wp2
        go_quiet ((go_at_call 60; first | exact Calls.quiet_of_same (withinX _ _ _ _ _ h3) | exact Calls.quiet_of_same (withinX _ _ _ _ _ h4)))
        go_wp2
        have HK0 := Lib.hid (show Keep w (w.drewN nq) from below_drewN (Below.refl _ _) _)
        have d0 : (w.drewN nq).cell? ⟨b, off, none⟩ = some (.int .i64 (a : Nat)) := (HK0.out.cell (p := ⟨b, off, none⟩) hb).trans hc0
        have d1 : (w.drewN nq).cell? ⟨b, off + 1, none⟩ = some (.int .i64 (c : Nat)) := (HK0.out.cell (p := ⟨b, off + 1, none⟩) hb).trans hc1
        clear hc0 hc1
        generalize w.drewN nq = w2 at *
        go_quiet (fail)
        have HK1 := Lib.hid (below_drewN HK0.out nq)
        generalize w2.drewN nq = w3 at *
        go_wp2
        go_quiet (fail)
        go_wp2
        go_ret2
        exact ⟨by simp only [q1, q2, q4]; rfl, below_drewN HK1.out _⟩
  · have HF : Hid (ivB p es = false) := Lib.hid (by unfold ivB; rw [decide_eq_false h2]; rfl)
    have HX : Hid (ivX p es = 0) := Lib.hid (by unfold ivX; rw [HF.out]; rfl)
    rw [HF.out, HX.out]
    have hl2 : ((es.length : Int) != 2) = true := by simp; omega
    go_enter Try.func102, Try.ntmps102
    go_wp2
    go_quiet (fail)
    go_wp2
    go_ret2
    exact ⟨rfl, below_drewN (Below.refl _ _) _⟩
def isvB (p : Int) (ess : List (List Int)) : Bool := inB p 0 12 && (decide (ess.length ≤ 12) && ess.all (ivB p))
def isvG (p : Int) (ess : List (List Int)) : Int := if isvB p ess then p else 0
def ivL (ess : List (List Int)) : List Int := ess.map fun es => (ivN es : Int)
def isvV (p : Int) (ess : List (List Int)) : List Int := if isvB p ess then ivL ess else []
theorem ivL_len (ess : List (List Int)) : (ivL ess).length = ess.length := by simp [ivL]
theorem ivL_succ (ess : List (List Int)) (k : Nat) (h : k < ess.length) : ivL (ess.take (k + 1)) = ivL (ess.take k) ++ [(ivN (ess.getD k []) : Int)] := by
  unfold ivL; rw [List.take_succ_eq_append_getElem h, List.map_append, show ess.getD k [] = ess[k] from by simp [List.getD_eq_getElem?_getD, h]]; rfl
theorem iv_no {p : Int} {ess : List (List Int)} {k : Nat} (h : k < ess.length) (hf : ivB p (ess.getD k []) = false) : isvB p ess = false := by
  have : ess.all (ivB p) = false := by
    rw [List.all_eq_false]
    refine ⟨ess[k], List.getElem_mem h, ?_⟩
    rw [show ess.getD k [] = ess[k] from by simp [List.getD_eq_getElem?_getD, h]] at hf; rw [hf]; exact Bool.false_ne_true
  unfold isvB; rw [this]; simp
theorem iv_yes {p : Int} {ess : List (List Int)} (h1 : inB p 0 12 = true) (h2 : ess.length ≤ 12) (h : ∀ j, j < ess.length → ivB p (ess.getD j []) = true) : isvB p ess = true := by
  have : ess.all (ivB p) = true := by
    rw [List.all_eq_true]
    intro es hes
    obtain ⟨k, hk, rfl⟩ := List.getElem_of_mem hes
    have := h k hk
    rwa [show ess.getD k [] = ess[k] from by simp [List.getD_eq_getElem?_getD, hk]] at this
  unfold isvB; rw [h1, this, decide_eq_true h2]; rfl
theorem ivN_bd {p : Int} {es : List Int} (h : ivB p es = true) (hp : p ≤ 12) : ivN es < 4096 := by
  obtain ⟨h1, h2, h3, h4⟩ := ivB_parts h
  have e1 : 2 ^ ((es.getD 1 0).toNat + 1) ≤ 2 ^ 12 := Nat.pow_le_pow_right (by omega) (by omega)
  have e2 : 1 ≤ 2 ^ (es.getD 0 0).toNat := Nat.one_le_two_pow
  unfold ivN; omega
set_option maxHeartbeats 3200000 in
set_option maxRecDepth 100000 in
theorem IntervalSystem_any (p : Int) (ad : Option Addr) (cap : Nat) (ess : List (List Int)) (w : World) (up : In64 p) (hz : Intss w ad ess) :
    Calls Try.prog 49 #[.int .i64 p, .slice ad ess.length cap] w fun e w' => ∃ rd rc, e = .returned (.tuple #[valV (isvG p ess) rd (isvV p ess).length rc, .bool (isvB p ess)]) ∧ Own w' w.heap.size rd rc (isvV p ess) ∧ Keep w w' := by
  have hlen := hz.small
  have HNO : Hid (isvB p ess = false → isvG p ess = 0 ∧ isvV p ess = []) := Lib.hid (fun h => ⟨by simp [isvG, h], by simp [isvV, h]⟩)
  have HYES : Hid (isvB p ess = true → isvG p ess = p ∧ isvV p ess = ivL ess) := Lib.hid (fun h => ⟨by simp [isvG, h], by simp [isvV, h]⟩)
  cases h1 : inB p 0 12
  · have hb : isvB p ess = false := by unfold isvB; rw [h1]; rfl
    rw [hb, (HNO.out hb).1, (HNO.out hb).2]
    go_enter Try.func49, Try.ntmps49
    go_wp2_with (go_at_call 60; refine (within_any _ _ _ _).mono ?_; rw [h1]; rintro e w' ⟨rfl, rfl⟩)
    refine bodyPost_ret (v := .tuple #[valV 0 none 0 0, .bool false]) (by simp [results, Try.results49, go_sem]) rfl ?_
    exact ⟨none, 0, rfl, Own.nil _ _, by go_grown⟩
  have hp := inB_iff.1 h1
  by_cases h2 : ess.length ≤ 12
  case neg =>
    have hb : isvB p ess = false := by unfold isvB; rw [decide_eq_false h2, h1]; rfl
    have h12 : (12 : Int) < (ess.length : Int) := by omega
    rw [hb, (HNO.out hb).1, (HNO.out hb).2]
    go_enter Try.func49, Try.ntmps49
    go_wp2_with (go_at_call 60; refine (within_any _ _ _ _).mono ?_; rw [h1]; rintro e w' ⟨rfl, rfl⟩)
    refine bodyPost_ret (v := .tuple #[valV 0 none 0 0, .bool false]) (by simp [results, Try.results49, go_sem]) rfl ?_
    exact ⟨none, 0, rfl, Own.nil _ _, by go_grown⟩
  have h12 : ¬ (12 : Int) < (ess.length : Int) := by omega
  have HLN := Lib.hid (fun k => ivL_len (ess.take k))
  have HSU := Lib.hid (ivL_succ ess)
  have HFA := Lib.hid (fun k h hf => iv_no (p := p) (ess := ess) (k := k) h hf)
  have HTR := Lib.hid (fun h => iv_yes (p := p) (ess := ess) h1 h2 h)
  have HBD := Lib.hid (fun es (h : ivB p es = true) => ivN_bd h hp.2)
  have H0 : Hid (ivL (ess.take 0) = []) := Lib.hid rfl
  have HTL : Hid (ivL (ess.take ess.length) = ivL ess) := Lib.hid (by rw [List.take_length])
  have HXV : Hid (∀ es, ivX p es = if ivB p es then (ivN es : Int) else 0) := Lib.hid (fun es => rfl)
  generalize isvB p ess = VB at *
  generalize isvG p ess = VG at *
  generalize isvV p ess = VV at *
  go_enter Try.func49, Try.ntmps49
  go_wp2_with (go_at_call 60; refine (within_any _ _ _ _).mono ?_; rw [h1]; rintro e w' ⟨rfl, rfl⟩)
  have G0 : GrwX (w.alloc (.cells #[.int .i64 0, .slice none 0 0] 66)) ((w.alloc (.cells #[.int .i64 0, .slice none 0 0] 66)).alloc (.cells #[.int .i64 p, .slice none 0 0] 66)) (w.heap.size + 1) p none 0 [] :=
    grwX_nil _ _ _ _ (by simp [go_sem]) (by simp [go_sem]) (by simp [go_sem]) (by simp [go_sem]) (by simp) (by go_grown)
  have R0 : (w.alloc (.cells #[.int .i64 0, .slice none 0 0] 66)).cell? ⟨w.heap.size, 0, none⟩ = some (.int .i64 0) := by simp
  have R1 : (w.alloc (.cells #[.int .i64 0, .slice none 0 0] 66)).cell? ⟨w.heap.size, 1, none⟩ = some (.slice none 0 0) := by simp
  have F0 : (w.alloc (.cells #[.int .i64 0, .slice none 0 0] 66)).frozen? ⟨w.heap.size, 0, none⟩ = false := by simp
  have F1 : (w.alloc (.cells #[.int .i64 0, .slice none 0 0] 66)).frozen? ⟨w.heap.size, 1, none⟩ = false := by simp
  have HKA : Hid (Keep w (w.alloc (.cells #[.int .i64 0, .slice none 0 0] 66))) := Lib.hid (by go_grown)
  have hsz : (w.alloc (.cells #[.int .i64 0, .slice none 0 0] 66)).heap.size = w.heap.size + 1 := by simp
  have HG0 := Lib.hid G0; have HR0 := Lib.hid R0; have HR1 := Lib.hid R1; have HF0 := Lib.hid F0; have HF1 := Lib.hid F1; have HSZ := Lib.hid hsz
  clear G0 R0 R1 F0 F1 hsz
  generalize hwa : w.alloc (.cells #[.int .i64 0, .slice none 0 0] 66) = wa at *
  clear hwa
  have HZA := Lib.hid (hz.keep HKA.out (Nat.le_refl _))
  clear hz
  go_loopg [24] ess.length (fun kk i wr => ∃ (k : Nat) (rd : Option Addr) (rc : Nat), k ≤ ess.length ∧ kk = ess.length - k ∧ i = .int .i64 k ∧ Hid (GrwX wa wr (w.heap.size + 1) p rd rc (ivL (ess.take k))) ∧ Hid (∀ j, j < k → ivB p (ess.getD j []) = true))
  case atStart => exact ⟨0, none, 0, by omega, rfl, rfl, by rw [H0.out]; exact HG0, Lib.hid (fun j h => absurd h (Nat.not_lt_zero _))⟩
  case round =>
    obtain ⟨k, rd, rc, hk, rfl, rfl, HG, HA⟩ := hrel
    have hlk : (ess.take k).length = k := by rw [List.length_take]; omega
    have HLK := Lib.hid (HLN.out k)
    rw [hlk] at HLK
    clear hlk
    have r0 := (HG.out.k.cell (p := ⟨w.heap.size, 0, none⟩) (by rw [HSZ.out]; show w.heap.size < w.heap.size + 1; omega)).trans HR0.out
    have r1 := (HG.out.k.cell (p := ⟨w.heap.size, 1, none⟩) (by rw [HSZ.out]; show w.heap.size < w.heap.size + 1; omega)).trans HR1.out
    have q0 := (HG.out.k.frozen (p := ⟨w.heap.size, 0, none⟩) (by rw [HSZ.out]; show w.heap.size < w.heap.size + 1; omega)).trans HF0.out
    have q1 := (HG.out.k.frozen (p := ⟨w.heap.size, 1, none⟩) (by rw [HSZ.out]; show w.heap.size < w.heap.size + 1; omega)).trans HF1.out
    by_cases hlt : k < ess.length
    · have hle : (k : Int) < (ess.length : Int) := by omega
      rcases (HZA.out.keep HG.out.k (Nat.le_refl _)).at_ with h | ⟨b, off, rfl, hb, hc⟩
      · subst h; simp at hlt
      obtain ⟨q, c, hcx, hqc, hints⟩ := hc k hlt
      have HSK := Lib.hid (HSU.out k hlt)
      have HFK := Lib.hid (HFA.out k hlt)
      have HAS : Hid (ivB p (ess.getD k []) = true → ∀ j, j < k + 1 → ivB p (ess.getD j []) = true) := Lib.hid (fun h j hj => by
        by_cases e : j = k
        · subst e; exact h
        · exact HA.out j (by omega))
      have HQ := Lib.hid (intervalOf_any p q c (ess.getD k []) wr hints hp)
      have HBK := Lib.hid (HBD.out (ess.getD k []))
      rw [HXV.out] at HQ
      have hsk := hints.small
      clear hc hints
      generalize ivN (ess.getD k []) = y at *
      generalize hes : ess.getD k [] = es at *
      have HES := Lib.hid hes; clear hes
      cases hv : ivB p es
      · rw [hv] at HQ
        have hb := HFK.out hv
        have HRS := Lib.hid (HNO.out hb)
        have HVB := Lib.hid hb
        clear hv hb
        go_wp2_with fail
        refine HQ.out.mono ?_
        rintro e w2 ⟨rfl, k2⟩
        have s0 := (k2.cell (p := ⟨w.heap.size, 0, none⟩) (block_lt_of_cell r0)).trans r0
        have s1 := (k2.cell (p := ⟨w.heap.size, 1, none⟩) (block_lt_of_cell r1)).trans r1
        have t0 := (k2.frozen (p := ⟨w.heap.size, 0, none⟩) (block_lt_of_cell r0)).trans q0
        have t1 := (k2.frozen (p := ⟨w.heap.size, 1, none⟩) (block_lt_of_cell r1)).trans q1
        have HST := Lib.hid (res_set s0 s1 (.int .i64 0) (.slice none 0 0))
        have HK := Lib.hid ((((HKA.out.trans (HG.out.k.mono (by rw [HSZ.out]; omega))).trans (k2.mono (Nat.le_trans (by rw [HSZ.out]; omega) HG.out.k.size))).setCell (p := ⟨w.heap.size, 0, none⟩) (Nat.le_refl _) (.int .i64 0)).setCell (p := ⟨w.heap.size, 1, none⟩) (Nat.le_refl _) (.slice none 0 0))
        clear k2
        go_wp2
        refine bodyPost_ret (v := .tuple #[valV 0 none 0 0, .bool false]) (by simp [results, Try.results49, go_sem, HST.out.1, HST.out.2]) rfl ?_
        refine ⟨none, 0, ?_, ?_, HK.out⟩
        · rw [HVB.out, HRS.out.1, HRS.out.2]; rfl
        · rw [HRS.out.2]; exact Own.nil _ _
      · rw [hv] at HQ
        have hyb := HBK.out hv
        have HAK := Lib.hid (HAS.out hv)
        clear hv
        go_wp2_with fail
        refine HQ.out.mono ?_
        rintro e w2 ⟨rfl, k2⟩
        have HG2 := Lib.hid (HG.out.keep k2)
        have b0 := HG2.out.c0; have b1 := HG2.out.c1
        rw [HLK.out] at b1
        have hws := HG2.out.k.size
        have HS2 : Hid (ivL (ess.take (k + 1)) = ivL (ess.take k) ++ [(y : Int)]) := HSK
        clear k2
        generalize ivL (ess.take k) = L at *
        go_wp2_with (refine list_app2 (by rfl) _ _ (by rfl) wa.heap.size rd rc k L (y : Int) (by rfl) (HG2.out.o.keep (by go_grown)) HLK.out.symm w2.heap.size (by rfl) (by simp) ⟨by omega, by omega⟩ (by rw [HLK.out]; omega) (by simp; omega) ?_; intro g3 cap3 w3 hown3 hgr3 hat3 hlt3; obtain ⟨⟨h1c, h1f⟩, hg3⟩ := (HG2.out.keep (W' := w2.alloc (.cells #[.int .i64 (y : Int)] 2)) (by go_grown)).app hown3 (by rw [HLK.out]; exact hgr3) (by simpa using hat3); rw [HLK.out] at h1c hg3; have HG3 := Lib.hid hg3; clear hown3 hgr3 hat3 hg3)
        go_roundg (ess.length - (k + 1))
        case measure => omega
        case rel => exact ⟨k + 1, _, _, by omega, rfl, by go_num, by rw [HS2.out]; exact HG3, HAK⟩
    · have HE := Lib.hid (show k = ess.length by omega)
      have hle : ¬ (k : Int) < (ess.length : Int) := by omega
      have hb := HTR.out (fun j hj => HA.out j (by rw [HE.out]; exact hj))
      have HY := Lib.hid (HYES.out hb)
      have HVB := Lib.hid hb
      have b0 := HG.out.c0; have b1 := HG.out.c1
      rw [HLK.out] at b1
      have HRS := Lib.hid (res_set r0 r1 (.int .i64 p) (.slice rd k rc))
      have HO := Lib.hid ((HG.out.o.set2 (b := w.heap.size) (by rw [HSZ.out]; omega) (.int .i64 p) (.slice rd k rc)).mono (B' := w.heap.size) (by rw [HSZ.out]; omega))
      have HK := Lib.hid (((HKA.out.trans (HG.out.k.mono (by rw [HSZ.out]; omega))).setCell (p := ⟨w.heap.size, 0, none⟩) (Nat.le_refl _) (.int .i64 p)).setCell (p := ⟨w.heap.size, 1, none⟩) (Nat.le_refl _) (.slice rd k rc))
      clear hb
      go_wp2
      refine bodyPost_ret (v := .tuple #[valV p rd k rc, .bool true]) (by simp [results, Try.results49, go_sem, HRS.out.1, HRS.out.2]) rfl ?_
      refine ⟨rd, rc, ?_, ?_, HK.out⟩
      · rw [HVB.out, HY.out.1, HY.out.2, ← HTL.out, ← HE.out, HLK.out]
      · rw [HY.out.2, ← HTL.out]; have h := HO.out; rw [HE.out] at h ⊢; exact h
end Go.Proofs.Ytomfhkpmdalknaa
