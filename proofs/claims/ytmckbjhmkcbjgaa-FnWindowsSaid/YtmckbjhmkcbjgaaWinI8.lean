/- Windows: the program's side. -/
import Derived.Test.YtmckbjhmkcbjgaaWin8
import Derived.Test.YtmckbjhmkcbjgaaTot
import Derived.Laws.EntriesVeiled
namespace Go.Proofs.Ytmckbjhmkcbjgaa
open Go.ChangeShapes Go.WideShapes Go.ChangeAt Go.RowKit Go.Deep
set_option linter.unusedVariables false
theorem specWindowsOf_any (ad : Option Addr) (cap : Nat) (d : List Int) (b : Int) (w : World) (hz : Ints w ad d) (ub : In64 b) :
    Calls Try.prog 43 #[.slice ad d.length cap, .int .i64 b] w fun e w' => ∃ rd rc rA rC, ∃ qd qc qA qC, e = .returned (.tuple #[.slice rd (fstsV d b).length rc, .slice qd (lstsV d b).length qc, .bool (winB d b)]) ∧
      OwnR w' w.heap.size rd rc rA rC (fstsV d b) ∧ OwnR w' w.heap.size qd qc qA qC (lstsV d b) ∧ Keep w w' := by
  have HB := Lib.hid (l08Bound_any ad cap d b w hz)
  cases hw : winB d b
  · rw [show fstsV d b = [] from by unfold fstsV; rw [hw]; rfl, show lstsV d b = [] from by unfold lstsV; rw [hw]; rfl]
    rw [hw] at HB
    go_enter Try.func43, Try.ntmps43
    go_wp2_with (go_at_call 70; refine HB.out.mono ?_; rintro e w1 ⟨rfl, k1⟩)
    refine bodyPost_ret (v := .tuple #[.slice none 0 0, .slice none 0 0, .bool false]) (by simp [results, Try.results43, go_sem]) rfl ?_
    exact ⟨none, 0, _, _, none, 0, _, _, rfl, OwnR.nil _ _, OwnR.nil _ _, k1⟩
  · have HW := Lib.hid (fun W (k : Keep w W) => l08Windows_any ad cap d b W (hz.keep k (Nat.le_refl _)) hw)
    rw [show fstsV d b = fsts d b d.length from by unfold fstsV; rw [hw]; rfl, show lstsV d b = lsts d b d.length from by unfold lstsV; rw [hw]; rfl]
    rw [hw] at HB
    generalize fsts d b d.length = F at *
    generalize lsts d b d.length = L at *
    go_enter Try.func43, Try.ntmps43
    go_wp2_with (go_at_call 70; refine HB.out.mono ?_; rintro e w1 ⟨rfl, k1⟩)
    refine (HW.out _ k1).mono ?_
    rintro e w2 ⟨rd, rc, rA, rC, qd, qc, qA, qC, rfl, o1, o2, _, k2⟩
    have O1 := Lib.hid (o1.mono k1.size)
    have O2 := Lib.hid (o2.mono k1.size)
    have K2 : Hid (Keep w w2) := Lib.hid (Keep.next k1 k2)
    clear o1 o2 k2
    go_wp2
    refine bodyPost_ret (v := .tuple #[.slice rd F.length rc, .slice qd L.length qc, .bool true]) (by simp [results, Try.results43, go_sem]) rfl ?_
    exact ⟨rd, rc, rA, rC, qd, qc, qA, qC, rfl, O1.out, O2.out, K2.out⟩
theorem foot_nil (A : Nat → Option Addr) (k : Nat) (h : footR none A 0 k) : False := by
  rcases h with h | ⟨j, hj, _⟩
  · cases h
  · omega
/-- The struct of windows. -/
def wnV (D x b : Int) : Value := .agg #[.int .i64 D, .int .i64 x, .int .i64 b]
set_option maxHeartbeats 800000 in
theorem earliest_any (D b : Int) (n t : Nat) (w : World) (hD : 0 ≤ D ∧ D ≤ 240) (hb : 0 ≤ b ∧ b ≤ 57600) (hx : 1 ≤ (n : Int) ∧ (n : Int) ≤ 40) (ht : (t : Int) + 1 ≤ n) :
    Calls Try.prog 73 #[wnV D n b, .int .i64 ((t : Int) + 1)] w fun e w' => e = .returned (.int .i64 (fstV D n b t)) ∧ Keep w w' := by
  obtain ⟨⟨m1, m2⟩, _, ⟨m5, m6⟩, _⟩ := win_bd hD hb hx ht
  have HCE := Lib.hid (fun W => ceilingOf_any (D * ((t : Int) + 1) - b) n W (by omega) (by omega) hx.1 (by omega))
  have HV : Hid (fstV D n b t = mx 1 (ce (D * ((t : Int) + 1) - b) n)) := Lib.hid rfl
  rw [HV.out]
  generalize ce (D * ((t : Int) + 1) - b) n = cv at *
  have V1 : IntKind.i64.wrap (D * ((t : Int) + 1)) = D * ((t : Int) + 1) := IntWalk.i64_in _ (by omega)
  have V2 : IntKind.i64.wrap (D * ((t : Int) + 1) - b) = D * ((t : Int) + 1) - b := IntWalk.i64_in _ (by omega)
  have HM : Hid (max 1 cv = mx 1 cv) := Lib.hid (by unfold mx; split <;> omega)
  unfold wnV
  go_enter Try.func73, Try.ntmps73
  go_wp2_with (go_at_call 104; refine (HCE.out _).mono ?_; rintro e w' ⟨rfl, rfl⟩)
  all_goals go_ret
  all_goals exact ⟨ret_i64 (by unfold mx; split <;> omega), by go_grown⟩
set_option maxHeartbeats 800000 in
theorem latest_any (D b : Int) (n t : Nat) (w : World) (hD : 0 ≤ D ∧ D ≤ 240) (hb : 0 ≤ b ∧ b ≤ 57600) (hx : 1 ≤ (n : Int) ∧ (n : Int) ≤ 40) (ht : (t : Int) + 1 ≤ n) :
    Calls Try.prog 74 #[wnV D n b, .int .i64 ((t : Int) + 1)] w fun e w' => e = .returned (.int .i64 (lstV D n b t)) ∧ Keep w w' := by
  obtain ⟨_, ⟨m3, m4⟩, _, m7, m8⟩ := win_bd hD hb hx ht
  have HFL := Lib.hid (fun W => floorOf_any (b + D * (t : Int)) n W (by omega) (by omega) hx.1 (by omega))
  have HV : Hid (lstV D n b t = mnW D (fl (b + D * (t : Int)) n + 1)) := Lib.hid rfl
  rw [HV.out]
  generalize fl (b + D * (t : Int)) n = fv at *
  rw [Int.add_comm b (D * (t : Int))] at HFL
  have V3 : IntKind.i64.wrap (t : Int) = (t : Int) := IntWalk.i64_in _ (by omega)
  have V4 : IntKind.i64.wrap (D * (t : Int)) = D * (t : Int) := IntWalk.i64_in _ (by omega)
  have V5 : IntKind.i64.wrap (D * (t : Int) + b) = D * (t : Int) + b := IntWalk.i64_in _ (by omega)
  have V6 : IntKind.i64.wrap (fv + 1) = fv + 1 := IntWalk.i64_in _ (by omega)
  unfold wnV
  obtain ⟨W0, hW0⟩ : ∃ W0, W0 = w.alloc (.cells #[.int .i64 D, .int .i64 (n : Int), .int .i64 b] 76) := ⟨_, rfl⟩
  have HK0 : Hid (Keep w W0) := Lib.hid (by rw [hW0]; go_grown)
  have q0 : W0.cell? ⟨w.heap.size, 0, none⟩ = some (.int .i64 D) := by rw [hW0]; simp
  have q1 : W0.cell? ⟨w.heap.size, 1, none⟩ = some (.int .i64 (n : Int)) := by rw [hW0]; simp
  have q2 : W0.cell? ⟨w.heap.size, 2, none⟩ = some (.int .i64 b) := by rw [hW0]; simp
  have hs0 : w.heap.size < W0.heap.size := by rw [hW0]; simp
  have HS : Hid (∀ W, Keep W0 W → (W.cell? ⟨w.heap.size, 0, none⟩ = some (.int .i64 D) ∧ W.cell? ⟨w.heap.size, 1, none⟩ = some (.int .i64 (n : Int)) ∧ W.cell? ⟨w.heap.size, 2, none⟩ = some (.int .i64 b)) ∧ Keep W0 W) := Lib.hid (fun W k =>
    ⟨⟨(k.cell (by exact hs0)).trans q0, (k.cell (by exact hs0)).trans q1, (k.cell (by exact hs0)).trans q2⟩, k⟩)
  go_enter Try.func74, Try.ntmps74
  go_upto_region 1 with fail
  rw [← hW0]
  clear hW0
  go_region_held3 (fun W => (W.cell? ⟨w.heap.size, 0, none⟩ = some (.int .i64 D) ∧ W.cell? ⟨w.heap.size, 1, none⟩ = some (.int .i64 (n : Int)) ∧ W.cell? ⟨w.heap.size, 2, none⟩ = some (.int .i64 b)) ∧ Keep W0 W)
    (first | exact HS.out _ (by go_grown))
    (first | (go_at_call 105; refine (HFL.out _).mono ?_; rintro e w' ⟨rfl, rfl⟩))
  go_wp2
  all_goals go_ret
  all_goals exact ⟨ret_i64 (by unfold mnW; split <;> omega), HK0.out.next (by go_grown)⟩
set_option maxHeartbeats 1600000 in
theorem wofE_any (D b : Int) (n : Nat) (w : World) (hD : 0 ≤ D ∧ D ≤ 240) (hb : 0 ≤ b ∧ b ≤ 57600) (hx : 1 ≤ (n : Int) ∧ (n : Int) ≤ 40) :
    Calls Try.prog 72 #[wnV D n b, .func (.func 73) #[wnV D n b] #[]] w fun e w' =>
      e = .returned (.slice (some ⟨w.heap.size + 1, 0, none⟩) n n) ∧ Own w' (w.heap.size + 1) (some ⟨w.heap.size + 1, 0, none⟩) n (fstL D b n) ∧ Keep w w' := by
  obtain ⟨i0, hi, hz0, hz1, hz2⟩ := info_parts Try.infoI
  have hb8 : i0.bytes * n ≤ 281474976710656 := by rw [hz2]; omega
  have hml : n ≤ maxLen := by unfold maxLen; omega
  have HCL := Lib.hid (fun (t : Nat) (h : t < n) W => earliest_any D b n t W hD hb hx (by omega))
  have HLE := Lib.hid (fstL_len D b n)
  have HGET := Lib.hid (fun t h => fstL_get D b n t h)
  have HIN := Lib.hid (show ∀ z ∈ fstL D b n, -80000 ≤ z ∧ z ≤ 80000 from fun z hz => by
    obtain ⟨t, ht, rfl⟩ := List.getElem_of_mem hz
    rw [fstL_len] at ht
    have e := fstL_get D b n t ht
    rw [getD_get _ t (by rw [fstL_len]; exact ht)] at e
    rw [e]
    obtain ⟨_, _, m5, m7⟩ := win_bd (t := t) hD hb hx (by omega)
    first
      | (unfold fstV mx; split <;> omega)
      | (unfold lstV mnW; split <;> omega))
  have HSET := Lib.hid (show ∀ t, t < n → (vals ((fstL D b n).take t) ++ List.replicate (n - t) (Value.int .i64 0)).set t (Value.int .i64 (fstV D n b t)) = vals ((fstL D b n).take (t + 1)) ++ List.replicate (n - (t + 1)) (Value.int .i64 0) from fun t h => by
    have e := fill_set (fstL D b n) t (by rw [fstL_len]; exact h) (.int .i64 0)
    rw [fstL_len, fstL_get D b n t h] at e; exact e)
  have HGT := Lib.hid (show ∀ t, t < n → (vals ((fstL D b n).take t) ++ List.replicate (n - t) (.int .i64 0))[t]? = some (Value.int .i64 0) from fun t h => by
    have e := fill_get (fstL D b n) t (by rw [fstL_len]; exact h) (.int .i64 0)
    rw [fstL_len] at e; exact e)
  generalize fstL D b n = F at *
  obtain ⟨W0, hW0⟩ : ∃ W0, W0 = w.alloc (.cells #[.int .i64 D, .int .i64 (n : Int), .int .i64 b] 76) := ⟨_, rfl⟩
  have HK0 : Hid (Keep w W0) := Lib.hid (by rw [hW0]; go_grown)
  have hs0 : W0.heap.size = w.heap.size + 1 := by rw [hW0]; simp
  have HQ1 : Hid (W0.cell? ⟨w.heap.size, 1, none⟩ = some (.int .i64 (n : Int))) := Lib.hid (by rw [hW0]; simp)
  have HU : Hid (wnV D n b = .agg #[.int .i64 D, .int .i64 (n : Int), .int .i64 b]) := Lib.hid rfl
  have hcl : ∀ (t : Nat), t < n → ∀ W, Calls Try.prog 73 #[.agg #[.int .i64 D, .int .i64 (n : Int), .int .i64 b], .int .i64 ((t : Int) + 1)] W fun e w' => e = .returned (.int .i64 (fstV D n b t)) ∧ Keep W w' := HCL.out
  have HCL2 := Lib.hid hcl
  clear hcl HCL
  unfold wnV
  go_enter Try.func72, Try.ntmps72
  go_wp2_with (at_make; rw [← hW0]; refine wpList_make_full W0 rfl _ _ 24 rfl (w.heap.size + 1) 2 i0 (.int .i64 0) 1 Try.underlying24 hi hz0 hz1 .i64 .i64 _ _ n rfl rfl rfl rfl hb8 hml (by omega) ?_)
  intro w0 hown0 hgrow0
  rw [← hW0] at hgrow0
  have hown0 : w0.ownsRow (w.heap.size + 1) 2 1 (.slice (some ⟨w.heap.size + 1, 0, none⟩) n n) n (List.replicate n (.int .i64 0)) := by simpa [Value.cells, toList_madeCells_one] using hown0
  have hk0 : Below (w.heap.size + 1) W0 w0 := (Below.refl _ _).grown hgrow0 (by omega) (fun k h => by cases h)
  have HOB := Lib.hid hown0
  have HKB := Lib.hid hk0
  have q1 : w0.cell? ⟨w.heap.size, 1, none⟩ = some (.int .i64 (n : Int)) := (hk0.cell (by show w.heap.size < _; omega)).trans HQ1.out
  clear hgrow0 hown0 hk0 hW0
  obtain ⟨R, hR⟩ : ∃ R, R = w.heap.size := ⟨_, rfl⟩
  have HRe := Lib.hid hR
  rw [← hR] at HOB HKB hs0 q1 ⊢
  clear hR
  go_wp2
  go_loopw [6, 12] (fun _ i wr => ∃ t : Nat, t ≤ n ∧ i = .int .i64 t ∧ Hid (wr.ownsRow (R + 1) 2 1 (.slice (some ⟨R + 1, 0, none⟩) n n) n (vals (F.take t) ++ List.replicate (n - t) (.int .i64 0))) ∧ Hid (Below (R + 1) W0 wr))
    (fun _ i _ => n - (intOf i).toNat)
  case atStart => exact ⟨0, Nat.zero_le _, rfl, Lib.hid (by simpa using HOB.out), HKB⟩
  case round =>
    obtain ⟨t, ht, rfl, HO, HK⟩ := hrel
    by_cases hlt : t < n
    · have hti : (t : Int) < (n : Int) := by omega
      have hC := Lib.hid (HCL2.out t hlt wr)
      have HE := Lib.hid (HSET.out t hlt)
      have HG := Lib.hid (HGT.out t hlt)
      have V1 : IntKind.i64.wrap ((t : Int) + 1) = (t : Int) + 1 := IntWalk.i64_in _ (by omega)
      generalize fstV D n b t = c at *
      go_wp2_with fail
      refine hC.out.mono ?_
      rintro e w3 ⟨rfl, k3⟩
      have hw3 := ownsRow_keep HO.out k3
      have hcy : w3.cell? ⟨R + 1, t, none⟩ = some (.int .i64 0) := by rw [hw3.cellAt t (by omega), HG.out]
      have hfy := hw3.frozenAt t
      have HST := Lib.hid (hw3.stored t (.int .i64 c))
      have HK3 : Hid (Below (R + 1) W0 w3) := Lib.hid (HK.out.trans (k3.mono (by have := HK.out.size; omega)))
      clear hw3 k3
      go_wp2
      go_roundw
      case rel =>
        obtain ⟨s1, s2⟩ := HST.out
        rw [HE.out] at s1
        exact ⟨t + 1, by omega, by go_num, Lib.hid s1, Lib.hid (HK3.out.setCell (Nat.le_refl _) _)⟩
      case measure => simp [intOf]; omega
    · have e := Lib.hid (show t = n by omega)
      have hti : ¬ (t : Int) < (n : Int) := by omega
      go_wp2
      go_ret
      have h := HO.out
      rw [e.out, Nat.sub_self, List.replicate_zero, List.append_nil, ← HLE.out, List.take_length] at h
      refine ⟨congrArg (fun j => Ending.returned (Value.slice (some ⟨j + 1, 0, none⟩) n n)) HRe.out, ?_, HK0.out.trans (HK.out.mono (by rw [HRe.out]; omega))⟩
      rw [← HRe.out]
      refine ⟨?_, by rw [HLE.out]; omega, fun z hz => by have := HIN.out z hz; exact ⟨by omega, by omega⟩⟩
      have h2 := h
      rw [HLE.out] at h2 ⊢
      exact h2
set_option maxHeartbeats 1600000 in
theorem wofL_any (D b : Int) (n : Nat) (w : World) (hD : 0 ≤ D ∧ D ≤ 240) (hb : 0 ≤ b ∧ b ≤ 57600) (hx : 1 ≤ (n : Int) ∧ (n : Int) ≤ 40) :
    Calls Try.prog 72 #[wnV D n b, .func (.func 74) #[wnV D n b] #[]] w fun e w' =>
      e = .returned (.slice (some ⟨w.heap.size + 1, 0, none⟩) n n) ∧ Own w' (w.heap.size + 1) (some ⟨w.heap.size + 1, 0, none⟩) n (lstL D b n) ∧ Keep w w' := by
  obtain ⟨i0, hi, hz0, hz1, hz2⟩ := info_parts Try.infoI
  have hb8 : i0.bytes * n ≤ 281474976710656 := by rw [hz2]; omega
  have hml : n ≤ maxLen := by unfold maxLen; omega
  have HCL := Lib.hid (fun (t : Nat) (h : t < n) W => latest_any D b n t W hD hb hx (by omega))
  have HLE := Lib.hid (lstL_len D b n)
  have HGET := Lib.hid (fun t h => lstL_get D b n t h)
  have HIN := Lib.hid (show ∀ z ∈ lstL D b n, -80000 ≤ z ∧ z ≤ 80000 from fun z hz => by
    obtain ⟨t, ht, rfl⟩ := List.getElem_of_mem hz
    rw [lstL_len] at ht
    have e := lstL_get D b n t ht
    rw [getD_get _ t (by rw [lstL_len]; exact ht)] at e
    rw [e]
    obtain ⟨_, _, m5, m7⟩ := win_bd (t := t) hD hb hx (by omega)
    first
      | (unfold fstV mx; split <;> omega)
      | (unfold lstV mnW; split <;> omega))
  have HSET := Lib.hid (show ∀ t, t < n → (vals ((lstL D b n).take t) ++ List.replicate (n - t) (Value.int .i64 0)).set t (Value.int .i64 (lstV D n b t)) = vals ((lstL D b n).take (t + 1)) ++ List.replicate (n - (t + 1)) (Value.int .i64 0) from fun t h => by
    have e := fill_set (lstL D b n) t (by rw [lstL_len]; exact h) (.int .i64 0)
    rw [lstL_len, lstL_get D b n t h] at e; exact e)
  have HGT := Lib.hid (show ∀ t, t < n → (vals ((lstL D b n).take t) ++ List.replicate (n - t) (.int .i64 0))[t]? = some (Value.int .i64 0) from fun t h => by
    have e := fill_get (lstL D b n) t (by rw [lstL_len]; exact h) (.int .i64 0)
    rw [lstL_len] at e; exact e)
  generalize lstL D b n = F at *
  obtain ⟨W0, hW0⟩ : ∃ W0, W0 = w.alloc (.cells #[.int .i64 D, .int .i64 (n : Int), .int .i64 b] 76) := ⟨_, rfl⟩
  have HK0 : Hid (Keep w W0) := Lib.hid (by rw [hW0]; go_grown)
  have hs0 : W0.heap.size = w.heap.size + 1 := by rw [hW0]; simp
  have HQ1 : Hid (W0.cell? ⟨w.heap.size, 1, none⟩ = some (.int .i64 (n : Int))) := Lib.hid (by rw [hW0]; simp)
  have HU : Hid (wnV D n b = .agg #[.int .i64 D, .int .i64 (n : Int), .int .i64 b]) := Lib.hid rfl
  have hcl : ∀ (t : Nat), t < n → ∀ W, Calls Try.prog 74 #[.agg #[.int .i64 D, .int .i64 (n : Int), .int .i64 b], .int .i64 ((t : Int) + 1)] W fun e w' => e = .returned (.int .i64 (lstV D n b t)) ∧ Keep W w' := HCL.out
  have HCL2 := Lib.hid hcl
  clear hcl HCL
  unfold wnV
  go_enter Try.func72, Try.ntmps72
  go_wp2_with (at_make; rw [← hW0]; refine wpList_make_full W0 rfl _ _ 24 rfl (w.heap.size + 1) 2 i0 (.int .i64 0) 1 Try.underlying24 hi hz0 hz1 .i64 .i64 _ _ n rfl rfl rfl rfl hb8 hml (by omega) ?_)
  intro w0 hown0 hgrow0
  rw [← hW0] at hgrow0
  have hown0 : w0.ownsRow (w.heap.size + 1) 2 1 (.slice (some ⟨w.heap.size + 1, 0, none⟩) n n) n (List.replicate n (.int .i64 0)) := by simpa [Value.cells, toList_madeCells_one] using hown0
  have hk0 : Below (w.heap.size + 1) W0 w0 := (Below.refl _ _).grown hgrow0 (by omega) (fun k h => by cases h)
  have HOB := Lib.hid hown0
  have HKB := Lib.hid hk0
  have q1 : w0.cell? ⟨w.heap.size, 1, none⟩ = some (.int .i64 (n : Int)) := (hk0.cell (by show w.heap.size < _; omega)).trans HQ1.out
  clear hgrow0 hown0 hk0 hW0
  obtain ⟨R, hR⟩ : ∃ R, R = w.heap.size := ⟨_, rfl⟩
  have HRe := Lib.hid hR
  rw [← hR] at HOB HKB hs0 q1 ⊢
  clear hR
  go_wp2
  go_loopw [6, 12] (fun _ i wr => ∃ t : Nat, t ≤ n ∧ i = .int .i64 t ∧ Hid (wr.ownsRow (R + 1) 2 1 (.slice (some ⟨R + 1, 0, none⟩) n n) n (vals (F.take t) ++ List.replicate (n - t) (.int .i64 0))) ∧ Hid (Below (R + 1) W0 wr))
    (fun _ i _ => n - (intOf i).toNat)
  case atStart => exact ⟨0, Nat.zero_le _, rfl, Lib.hid (by simpa using HOB.out), HKB⟩
  case round =>
    obtain ⟨t, ht, rfl, HO, HK⟩ := hrel
    by_cases hlt : t < n
    · have hti : (t : Int) < (n : Int) := by omega
      have hC := Lib.hid (HCL2.out t hlt wr)
      have HE := Lib.hid (HSET.out t hlt)
      have HG := Lib.hid (HGT.out t hlt)
      have V1 : IntKind.i64.wrap ((t : Int) + 1) = (t : Int) + 1 := IntWalk.i64_in _ (by omega)
      generalize lstV D n b t = c at *
      go_wp2_with fail
      refine hC.out.mono ?_
      rintro e w3 ⟨rfl, k3⟩
      have hw3 := ownsRow_keep HO.out k3
      have hcy : w3.cell? ⟨R + 1, t, none⟩ = some (.int .i64 0) := by rw [hw3.cellAt t (by omega), HG.out]
      have hfy := hw3.frozenAt t
      have HST := Lib.hid (hw3.stored t (.int .i64 c))
      have HK3 : Hid (Below (R + 1) W0 w3) := Lib.hid (HK.out.trans (k3.mono (by have := HK.out.size; omega)))
      clear hw3 k3
      go_wp2
      go_roundw
      case rel =>
        obtain ⟨s1, s2⟩ := HST.out
        rw [HE.out] at s1
        exact ⟨t + 1, by omega, by go_num, Lib.hid s1, Lib.hid (HK3.out.setCell (Nat.le_refl _) _)⟩
      case measure => simp [intOf]; omega
    · have e := Lib.hid (show t = n by omega)
      have hti : ¬ (t : Int) < (n : Int) := by omega
      go_wp2
      go_ret
      have h := HO.out
      rw [e.out, Nat.sub_self, List.replicate_zero, List.append_nil, ← HLE.out, List.take_length] at h
      refine ⟨congrArg (fun j => Ending.returned (Value.slice (some ⟨j + 1, 0, none⟩) n n)) HRe.out, ?_, HK0.out.trans (HK.out.mono (by rw [HRe.out]; omega))⟩
      rw [← HRe.out]
      refine ⟨?_, by rw [HLE.out]; omega, fun z hz => by have := HIN.out z hz; exact ⟨by omega, by omega⟩⟩
      have h2 := h
      rw [HLE.out] at h2 ⊢
      exact h2
set_option maxHeartbeats 3200000 in
set_option maxRecDepth 100000 in
theorem WindowsOf_any (ad : Option Addr) (cap : Nat) (d : List Int) (b : Int) (w : World) (hz : Ints w ad d) (ub : In64 b) :
    Calls Try.prog 44 #[.slice ad d.length cap, .int .i64 b] w fun e w' => ∃ rd rc rA rC, ∃ qd qc qA qC, e = .returned (.tuple #[.slice rd (fstsV d b).length rc, .slice qd (lstsV d b).length qc, .bool (winB d b)]) ∧
      OwnR w' w.heap.size rd rc rA rC (fstsV d b) ∧ OwnR w' w.heap.size qd qc qA qC (lstsV d b) ∧ (∀ k, footR rd rA (fstsV d b).length k → footR qd qA (lstsV d b).length k → False) ∧ Keep w w' := by
  have hdl := hz.small
  cases hok : okD d
  · have hw : winB d b = false := by unfold winB; rw [hok]; rfl
    rw [show fstsV d b = [] from by unfold fstsV; rw [hw]; rfl, show lstsV d b = [] from by unfold lstsV; rw [hw]; rfl, hw]
    go_enter Try.func44, Try.ntmps44
    go_wp2_with (go_at_call 27; refine (ValidDemands_any _ _ _ _ hz).mono ?_; rw [hok]; rintro e w' ⟨rfl, rfl⟩)
    refine bodyPost_ret (v := .tuple #[.slice none 0 0, .slice none 0 0, .bool false]) (by simp [results, Try.results44, go_sem]) rfl ?_
    exact ⟨none, 0, _, _, none, 0, _, _, rfl, OwnR.nil _ _, OwnR.nil _ _, fun k h _ => foot_nil _ k h, Below.refl _ _⟩
  have hp := okD_parts hok
  have h6 := hp.2.1
  have hD := okD_sum hok
  have e1 := mul_bd8 (D := d.sum) (x := d.sum) (by omega) (by omega)
  have HTOT := Lib.hid (fun W (k : Keep w W) => total_any ad cap d W (hz.keep k (Nat.le_refl _)) (okD_sumb hok) (by omega))
  have HWEQ : Hid (winB d b = inB b 0 (d.sum * d.sum - 1)) := Lib.hid (by unfold winB; rw [hok]; rfl)
  cases hw : winB d b
  · rw [show fstsV d b = [] from by unfold fstsV; rw [hw]; rfl, show lstsV d b = [] from by unfold lstsV; rw [hw]; rfl]
    have hin := HWEQ.out.symm.trans hw
    generalize d.sum = D at *
    have V1 : IntKind.i64.wrap (D * D) = D * D := IntWalk.i64_in _ (by omega)
    have V2 : IntKind.i64.wrap (D * D - 1) = D * D - 1 := IntWalk.i64_in _ (by omega)
    go_enter Try.func44, Try.ntmps44
    go_wp2_with (first | (go_at_call 27; refine (ValidDemands_any _ _ _ _ hz).mono ?_; rw [hok]; rintro e w' ⟨rfl, rfl⟩) | (go_at_call 68; refine (HTOT.out _ (Below.refl _ _)).mono ?_; rintro e w' ⟨rfl, rfl⟩) | (go_at_call 58; refine (within_any _ _ _ _).mono ?_; rw [hin]; rintro e w' ⟨rfl, rfl⟩))
    refine bodyPost_ret (v := .tuple #[.slice none 0 0, .slice none 0 0, .bool false]) (by simp [results, Try.results44, go_sem]) rfl ?_
    exact ⟨none, 0, _, _, none, 0, _, _, rfl, OwnR.nil _ _, OwnR.nil _ _, fun k h _ => foot_nil _ k h, Below.refl _ _⟩
  rw [show fstsV d b = fsts d b d.length from by unfold fstsV; rw [hw]; rfl, show lstsV d b = lsts d b d.length from by unfold lstsV; rw [hw]; rfl]
  have hb := (winB_parts hw).2
  have hin := HWEQ.out.symm.trans hw
  have HDM := Lib.hid hp.2.2.1
  have HFS := Lib.hid (fun k h => fsts_succ d b k h)
  have HLS := Lib.hid (fun k h => lsts_succ d b k h)
  have HFL := Lib.hid (fun k h => fsts_len d b k h)
  have HLL := Lib.hid (fun k h => lsts_len d b k h)
  have HFT := Lib.hid (fun k h => fsts_tot b k hok h)
  have HLT := Lib.hid (fun k h => lsts_tot b k hok h)
  have HF0 : Hid (fsts d b 0 = []) := Lib.hid (by simp [fsts])
  have HL0 : Hid (lsts d b 0 = []) := Lib.hid (by simp [lsts])
  have HVD := Lib.hid (ValidDemands_any ad cap d w hz)
  rw [hok] at HVD
  clear hw hok hp HWEQ
  generalize hDs : d.sum = D at *
  clear hDs
  generalize fsts d b = FS at *
  generalize lsts d b = LS at *
  have V1 : IntKind.i64.wrap (D * D) = D * D := IntWalk.i64_in _ (by omega)
  have V2 : IntKind.i64.wrap (D * D - 1) = D * D - 1 := IntWalk.i64_in _ (by omega)
  go_enter Try.func44, Try.ntmps44
  go_wp2_with (first | (go_at_call 27; refine HVD.out.mono ?_; rintro e w' ⟨rfl, rfl⟩) | (go_at_call 68; refine (HTOT.out _ (Below.refl _ _)).mono ?_; rintro e w' ⟨rfl, rfl⟩) | (go_at_call 58; refine (within_any _ _ _ _).mono ?_; rw [hin]; rintro e w' ⟨rfl, rfl⟩))
  go_loopw [8, 9, 11, 12, 27] (fun v1 v2 _ _ i wr => ∃ (k : Nat) (ed : Option Addr) (ec : Nat) (eA : Nat → Option Addr) (eC : Nat → Nat) (ld : Option Addr) (lc : Nat) (lA : Nat → Option Addr) (lC : Nat → Nat), k ≤ d.length ∧ i = .int .i64 k ∧ v1 = .slice ed k ec ∧ v2 = .slice ld k lc ∧
      Hid (OwnR wr w.heap.size ed ec eA eC (FS k)) ∧ Hid (OwnR wr w.heap.size ld lc lA lC (LS k)) ∧ Hid (∀ b, footR ed eA k b → footR ld lA k b → False) ∧ Hid (Keep w wr))
    (fun _ _ _ _ i _ => d.length - (intOf i).toNat)
  case atStart => exact ⟨0, _, _, _, _, _, _, _, _, Nat.zero_le _, rfl, rfl, rfl, Lib.hid (by rw [HF0.out]; exact OwnR.nil _ _), Lib.hid (by rw [HL0.out]; exact OwnR.nil _ _), Lib.hid (fun b h1 h2 => by
      rcases h1 with h1 | ⟨j, hj, _⟩
      · cases h1
      · omega), Lib.hid (Below.refl _ _)⟩
  case round =>
    obtain ⟨k, ed, ec, eA, eC, ld, lc, lA, lC, hk, rfl, rfl, rfl, HE, HL, HG, HK⟩ := hrel
    by_cases hlt : k < d.length
    · rcases (hz.keep HK.out (Nat.le_refl _)).at_ with h | ⟨bb, off, rfl, hb1, hc⟩
      · subst h; simp at hlt
      have hcx := hc k hlt
      have hdk := HDM.out k hlt
      have HF1 := Lib.hid (HFS.out k hlt)
      have HL1 := Lib.hid (HLS.out k hlt)
      clear hc
      generalize d.getD k 0 = xi at hcx hdk HF1 HL1
      obtain ⟨n, rfl⟩ : ∃ n : Nat, xi = n := ⟨xi.toNat, by omega⟩
      have HWE : Hid (∀ W, Calls Try.prog 72 #[.agg #[.int .i64 D, .int .i64 (n : Int), .int .i64 b], .func (.func 73) #[.agg #[.int .i64 D, .int .i64 (n : Int), .int .i64 b]] #[]] W fun e w' =>
        e = .returned (.slice (some ⟨W.heap.size + 1, 0, none⟩) n n) ∧ Own w' (W.heap.size + 1) (some ⟨W.heap.size + 1, 0, none⟩) n (fstL D b n) ∧ Keep W w') := Lib.hid (fun W => wofE_any D b n W (by omega) hb hdk)
      have HWL : Hid (∀ W, Calls Try.prog 72 #[.agg #[.int .i64 D, .int .i64 (n : Int), .int .i64 b], .func (.func 74) #[.agg #[.int .i64 D, .int .i64 (n : Int), .int .i64 b]] #[]] W fun e w' =>
        e = .returned (.slice (some ⟨W.heap.size + 1, 0, none⟩) n n) ∧ Own w' (W.heap.size + 1) (some ⟨W.heap.size + 1, 0, none⟩) n (lstL D b n) ∧ Keep W w') := Lib.hid (fun W => wofL_any D b n W (by omega) hb hdk)
      have HFlen := Lib.hid (fstL_len D b n)
      have HLlen := Lib.hid (lstL_len D b n)
      generalize hFn : fstL D b n = F at *
      generalize hLn : lstL D b n = L at *
      clear hFn hLn
      go_upto_region 11 with fail
      refine code_wp_gen8 (fun W2 hW2 => ?_)
      have hs2 : W2.heap.size = wr.heap.size + 1 := by rw [hW2]; simp
      have q0 : W2.cell? ⟨wr.heap.size, 0, none⟩ = some (.int .i64 D) := by rw [hW2]; simp [go_sem]
      have q1 : W2.cell? ⟨wr.heap.size, 1, none⟩ = some (.int .i64 (n : Int)) := by rw [hW2]; simp [go_sem]
      have q2 : W2.cell? ⟨wr.heap.size, 2, none⟩ = some (.int .i64 b) := by rw [hW2]; simp [go_sem]
      have HK2 : Hid (Keep wr W2) := Lib.hid (by rw [hW2]; go_grown)
      clear hW2 hcx
      generalize hM : wr.heap.size = M at *
      have HC0 : Hid (∀ W : World, W.heap[M]? = W2.heap[M]? → W.cell? ⟨M, 0, none⟩ = some (.int .i64 D) ∧ W.cell? ⟨M, 1, none⟩ = some (.int .i64 (n : Int)) ∧ W.cell? ⟨M, 2, none⟩ = some (.int .i64 b)) := Lib.hid (fun W e =>
        ⟨(World.cell?_of_block (w := W2) e).trans q0, (World.cell?_of_block (w := W2) e).trans q1, (World.cell?_of_block (w := W2) e).trans q2⟩)
      go_wp2_with fail
      refine (HWE.out _).mono ?_
      rintro e w3 ⟨rfl, o3, k3⟩
      have HFA := Lib.hid o3
      have HK3 : Hid (Keep W2 w3) := Lib.hid k3
      have hs3 := k3.size
      clear o3 k3 q0 q1 q2
      rw [hs2] at HFA ⊢
      have hwM : w.heap.size ≤ M := by have := HK.out.size; omega
      have hlt3 : M + 1 + 1 < w3.heap.size := by
        rcases own_block HFA.out.1 with ⟨h, _⟩ | ⟨q, h, _, h2, _⟩
        · cases h
        · cases h; omega
      have HKr3 : Hid (Keep wr w3) := Lib.hid (HK2.out.next HK3.out)
      have HEr : Hid (OwnR w3 w.heap.size ed ec eA eC (FS k)) := Lib.hid (HE.out.keep HKr3.out)
      have HLr : Hid (OwnR w3 w.heap.size ld lc lA lC (LS k)) := Lib.hid (HL.out.keep HKr3.out)
      have HKL1 : Hid (k = (FS k).length) := Lib.hid (HFL.out k hk).symm
      have HKL2 : Hid (k = (LS k).length) := Lib.hid (HLL.out k hk).symm
      have HLE : Hid (∀ b, footR ed eA k b → b < M) := Lib.hid (fun b h => by have h2 := (HE.out.lt b (by rw [← HKL1.out]; exact h)).2; omega)
      have HLLt : Hid (∀ b, footR ld lA k b → b < M) := Lib.hid (fun b h => by have h2 := (HL.out.lt b (by rw [← HKL2.out]; exact h)).2; omega)
      have hkf : (FS k).length < 1048576 := by rw [HFL.out k hk]; omega
      have hkl : (LS k).length < 1048576 := by rw [HLL.out k hk]; omega
      have htf : tot (FS k) + F.length ≤ 1099511627776 := by have := HFT.out k hk; have := HFlen.out; omega
      have htl : tot (LS k) + L.length ≤ 1099511627776 := by have := HLT.out k hk; have := HLlen.out; omega
      generalize hFk : FS k = Fk at *
      generalize hLk : LS k = Lk at *
      clear hFk hLk
      go_wp2_with (refine list_appR (by rfl) _ _ (by rfl) w.heap.size ed ec k eA eC Fk (some ⟨M + 1 + 1, 0, none⟩) n n F (by rfl) (HEr.out.keep (by go_grown)) HKL1.out w3.heap.size (by rfl) (by simp) HFlen.out.symm ((HFA.out.mono (by omega)).keep (by go_grown)) (fun b e h => by have h2 := HLE.out b (by rw [← HKL1.out] at h; exact h); cases e; omega) hkf htf (by simp; omega) ?_)
      intro g8 cap8 w8 hown8 hgr8 hat8 hlt8
      have HW8 : Hid (Wrote w3 w8 (fun b => ed = some ⟨b, 0, none⟩)) := Lib.hid (Wrote.trans (Wrote.of_keep (by go_grown)) (Wrote.of_grown hgr8 (fun q hq => by
        rcases own_block HEr.out.row with ⟨e, _⟩ | ⟨q2, e, _⟩
        · rw [e] at hq; simp [Value.ownBlock] at hq
        · rw [e] at hq; simp [Value.ownBlock] at hq; rw [e, hq])))
      have hs8 := HW8.out.size
      have HE8 : Hid (OwnR w8 w.heap.size (some ⟨g8, 0, none⟩) cap8 (adN eA k (some ⟨M + 1 + 1, 0, none⟩)) (cpN eC k n) (Fk ++ [F])) := Lib.hid (by rw [← HKL1.out] at hown8; exact hown8)
      have HL8 : Hid (OwnR w8 w.heap.size ld lc lA lC Lk) := Lib.hid (HLr.out.wrote HW8.out (fun b h e => HG.out b (.inl e) (by rw [← HKL2.out] at h; exact h)))
      have hat8' : ed = some ⟨g8, 0, none⟩ ∨ w3.heap.size ≤ g8 := hat8.imp id (fun h => by first | omega | (simp at h; omega))
      have HG8 : Hid (∀ b, footR (some ⟨g8, 0, none⟩) (adN eA k (some ⟨M + 1 + 1, 0, none⟩)) (k + 1) b → footR ld lA k b → False) := Lib.hid (gap_push (w := w3) HG.out (fun b e h => by have h2 := HLLt.out b h; cases e; omega) hat8' (fun b h => by have := HLLt.out b h; omega))
      have HLT8 : Hid (∀ b, footR (some ⟨g8, 0, none⟩) (adN eA k (some ⟨M + 1 + 1, 0, none⟩)) (k + 1) b → b < w8.heap.size) := Lib.hid (fun b h => (HE8.out.lt b (by rw [List.length_append, ← HKL1.out]; exact h)).2)
      have HK8 : Hid (Keep w w8) := Lib.hid (below_wrote (HK.out.trans (HKr3.out.mono (by omega))) HW8.out (by omega) (fun b e => by
        rcases own_block HEr.out.row with ⟨h, _⟩ | ⟨q, h, h2, _⟩
        · rw [h] at e; cases e
        · rw [h] at e; cases e; exact h2))
      obtain ⟨q0, q1, q2⟩ := HC0.out w8 ((HW8.out.block M (by omega) (fun e => by have := HLE.out M (.inl e); omega)).trans (HK3.out.block M (by omega)))
      clear hown8 hgr8 hat8 hat8'
      go_wp2_with fail
      refine (HWL.out _).mono ?_
      rintro e w9 ⟨rfl, o9, k9⟩
      have HFB := Lib.hid o9
      have HK9 : Hid (Keep w8 w9) := Lib.hid k9
      have hs9 := k9.size
      clear o9 k9 q0 q1 q2
      have HE9 : Hid (OwnR w9 w.heap.size (some ⟨g8, 0, none⟩) cap8 (adN eA k (some ⟨M + 1 + 1, 0, none⟩)) (cpN eC k n) (Fk ++ [F])) := Lib.hid (HE8.out.keep HK9.out)
      have HL9 : Hid (OwnR w9 w.heap.size ld lc lA lC Lk) := Lib.hid (HL8.out.keep HK9.out)
      generalize hT : w8.heap.size = T at *
      go_wp2_with (refine list_appR (by rfl) _ _ (by rfl) w.heap.size ld lc k lA lC Lk (some ⟨T + 1, 0, none⟩) n n L (by rfl) (HL9.out.keep (by go_grown)) HKL2.out w9.heap.size (by rfl) (by simp) HLlen.out.symm ((HFB.out.mono (by omega)).keep (by go_grown)) (fun b e h => by have h2 := HLLt.out b (by rw [← HKL2.out] at h; exact h); cases e; omega) hkl htl (by simp; omega) ?_)
      intro g10 cap10 w10 hown10 hgr10 hat10 hlt10
      have HW10 : Hid (Wrote w9 w10 (fun b => ld = some ⟨b, 0, none⟩)) := Lib.hid (Wrote.trans (Wrote.of_keep (by go_grown)) (Wrote.of_grown hgr10 (fun q hq => by
        rcases own_block HLr.out.row with ⟨e, _⟩ | ⟨q2, e, _⟩
        · rw [e] at hq; simp [Value.ownBlock] at hq
        · rw [e] at hq; simp [Value.ownBlock] at hq; rw [e, hq])))
      have HL10 : Hid (OwnR w10 w.heap.size (some ⟨g10, 0, none⟩) cap10 (adN lA k (some ⟨T + 1, 0, none⟩)) (cpN lC k n) (Lk ++ [L])) := Lib.hid (by rw [← HKL2.out] at hown10; exact hown10)
      have HE10 : Hid (OwnR w10 w.heap.size (some ⟨g8, 0, none⟩) cap8 (adN eA k (some ⟨M + 1 + 1, 0, none⟩)) (cpN eC k n) (Fk ++ [F])) := Lib.hid (HE9.out.wrote HW10.out (fun b h e => HG8.out b (by rw [List.length_append, ← HKL1.out] at h; exact h) (.inl e)))
      have hat10' : ld = some ⟨g10, 0, none⟩ ∨ w9.heap.size ≤ g10 := hat10.imp id (fun h => by first | omega | (simp at h; omega))
      have HG10 : Hid (∀ b, footR (some ⟨g10, 0, none⟩) (adN lA k (some ⟨T + 1, 0, none⟩)) (k + 1) b → footR (some ⟨g8, 0, none⟩) (adN eA k (some ⟨M + 1 + 1, 0, none⟩)) (k + 1) b → False) := Lib.hid (gap_push (w := w9) (fun b h1 h2 => HG8.out b h2 h1) (fun b e h => by have := HLT8.out b h; cases e; omega) hat10' (fun b h => by have := HLT8.out b h; omega))
      have HK10 : Hid (Keep w w10) := Lib.hid (below_wrote (HK8.out.trans (HK9.out.mono (by omega))) HW10.out (by omega) (fun b e => by
        rcases own_block HLr.out.row with ⟨h, _⟩ | ⟨q, h, h2, _⟩
        · rw [h] at e; cases e
        · rw [h] at e; cases e; exact h2))
      clear hown10 hgr10 hat10 hat10'
      go_wp2
      go_roundw
      case rel => exact ⟨k + 1, _, cap8, _, _, _, cap10, _, _, by omega, by go_num, rfl, rfl, Lib.hid (by rw [HF1.out]; exact HE10.out), Lib.hid (by rw [HL1.out]; exact HL10.out), Lib.hid (fun b h1 h2 => HG10.out b h2 h1), HK10⟩
      case measure => simp [intOf]; omega
    · have hke := Lib.hid (show k = d.length by omega)
      go_wp2
      have e := hke.out
      subst e
      refine bodyPost_ret (v := .tuple #[.slice ed d.length ec, .slice ld d.length lc, .bool true]) (by simp [results, Try.results44, go_sem]) rfl ?_
      have l1 := HFL.out d.length (Nat.le_refl _)
      have l2 := HLL.out d.length (Nat.le_refl _)
      exact ⟨ed, ec, eA, eC, ld, lc, lA, lC, by rw [l1, l2], HE.out, HL.out, fun b h1 h2 => HG.out b (by rw [l1] at h1; exact h1) (by rw [l2] at h2; exact h2), HK.out⟩
end Go.Proofs.Ytmckbjhmkcbjgaa
