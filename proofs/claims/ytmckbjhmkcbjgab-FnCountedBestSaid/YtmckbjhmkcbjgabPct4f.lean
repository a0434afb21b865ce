/- Percents, what the law says of them (pure): the sum, that each is rounded down or up, and that moving one lessens nothing. -/
import Derived.Test.YtmckbjhmkcbjgabPct4s
namespace Go.Proofs.Ytmckbjhmkcbjgab
open Go.ChangeShapes Go.WideShapes Go.ChangeAt Go.RowKit Go.Deep
set_option linter.unusedVariables false
theorem pctV_sel {cs : List Int} {p : Int} (h : cntsB cs = true) (hp : inB p 0 3 = true) : ∃ S, Top (reL cs.sum (partsP cs p)) S ∧ trues S = upsP cs p ∧ pctV cs p = addS (flL cs.sum (partsP cs p)) S := by
  have hB : pctB cs p = true := by simp [pctB, h, hp]
  have hV : pctV cs p = putL (flL cs.sum (partsP cs p)) (fixL 0 cs.sum (partsP cs p) (upsP cs p)) (upsP cs p - isC 1 (fixL 0 cs.sum (partsP cs p) (upsP cs p))) := by simp [pctV, hB]
  rw [hV]; clear hV hB
  obtain ⟨f1, f2, f3, f4, f5, f6⟩ := pct_facts h hp
  have hs := (cnts_parts h).2.2
  have hp := List.mergeSort_perm (cs.sum :: 0 :: reL cs.sum (partsP cs p)) (fun a b => decide (b ≤ a))
  have hsr : ((cs.sum :: 0 :: reL cs.sum (partsP cs p)).mergeSort (fun a b => decide (b ≤ a))).Pairwise fun a b => decide (b ≤ a) = true :=
    List.pairwise_mergeSort (fun a b c h1 h2 => by simp at *; omega) (fun a b => by simp; omega) _
  have hd : Desc ((cs.sum :: 0 :: reL cs.sum (partsP cs p)).mergeSort (fun a b => decide (b ≤ a))) := fun i j hij hj => by
    rw [List.pairwise_iff_getElem] at hsr
    have := hsr i j (by omega) hj hij
    rw [getD_get _ i (by omega), getD_get _ j hj]
    simpa using this
  have hr := ranks_of hs (rests_in hs _) f6 hp hd
  generalize ((cs.sum :: 0 :: reL cs.sum (partsP cs p)).mergeSort (fun a b => decide (b ≤ a))).getD (upsP cs p) 0 = T at hr
  generalize ((cs.sum :: 0 :: reL cs.sum (partsP cs p)).mergeSort (fun a b => decide (b ≤ a))).getD (upsP cs p + 1) 0 = Sx at hr
  have hT : 1 ≤ T := by
    by_cases e : upsP cs p = 0
    · have := hr.t0 e; omega
    · have := hr.t1 (by omega); omega
  have hc := fixL_cls (norm := 0) hs hr
  have hft := fixL_fits (norm := 0) hs hr
  have hcl : fixL 0 cs.sum (partsP cs p) (upsP cs p) = (reL cs.sum (partsP cs p)).map (clsX T T) := by
    rw [← hc]; unfold clsL loOf hiOf; simp
  have hlen := fixL_len 0 cs.sum (partsP cs p) (upsP cs p)
  have hfl := flL_len cs.sum (partsP cs p)
  generalize fixL 0 cs.sum (partsP cs p) (upsP cs p) = C at *
  exact ⟨selP C (upsP cs p - isC 1 C), top_selP _ hT hcl, by rw [selP_trues]; omega, by rw [add_put _ _ _ (by omega)]⟩
theorem addS_sum : ∀ (F : List Int) (S : List Bool), F.length = S.length → (addS F S).sum = F.sum + (trues S : Nat)
  | [], [], _ => by simp [addS, trues]
  | f :: F, s :: S, h => by
    have ih := addS_sum F S (by simpa using h)
    have e1 : addS (f :: F) (s :: S) = (if s then f + 1 else f) :: addS F S := rfl
    have e2 : trues (s :: S) = trues S + (if s = true then 1 else 0) := by unfold trues; rw [List.countP_cons]
    rw [e1, e2, List.sum_cons, List.sum_cons, ih]
    cases s <;> simp <;> omega
  | [], _ :: _, h => by simp at h
  | _ :: _, [], h => by simp at h
def ab8 (n : Int) : Int := if n < 0 then -n else n
theorem ab8_bd {n M : Int} (h : -M ≤ n ∧ n ≤ M) : 0 ≤ ab8 n ∧ ab8 n ≤ M := by unfold ab8; split <;> omega
/-- An error of a percent. -/
def eP (cs V : List Int) (W : Int) (i : Nat) : Int := V.getD i 0 * cs.sum - W * cs.getD i 0
def ePs (cs V : List Int) (W : Int) : List Int := (List.range V.length).map (eP cs V W)
theorem ePs_len (cs V : List Int) (W : Int) : (ePs cs V W).length = V.length := by simp [ePs]
theorem ePs_get (cs V : List Int) (W : Int) (i : Nat) (h : i < V.length) : (ePs cs V W).getD i 0 = eP cs V W i := by
  simp [ePs, List.getD_eq_getElem?_getD, h]
structure Fair (cs V : List Int) (W : Int) : Prop where
  len : V.length = cs.length
  sum : V.sum = W
  pos : 1 ≤ cs.sum ∧ cs.sum ≤ 40000000
  inV : ∀ i, i < V.length → 0 ≤ V.getD i 0 ∧ V.getD i 0 ≤ 100001 ∧ 0 ≤ V.getD i 0 * cs.sum ∧ V.getD i 0 * cs.sum ≤ 4000040000000
  inC : ∀ i, i < V.length → 0 ≤ W * cs.getD i 0 ∧ W * cs.getD i 0 ≤ 100000000000
  near : ∀ i, i < V.length → -cs.sum < eP cs V W i ∧ eP cs V W i < cs.sum
  best : ∀ i k, i < V.length → k < V.length → ab8 (eP cs V W i) + ab8 (eP cs V W k) ≤ ab8 (eP cs V W i - cs.sum) + ab8 (eP cs V W k + cs.sum)
theorem ab_move {T e1 e2 : Int} (h1 : -T < e1 ∧ e1 < T) (h2 : -T < e2 ∧ e2 < T) (h : e1 ≤ 0 ∨ 0 ≤ e2 ∨ e1 - e2 ≤ T) : ab8 e1 + ab8 e2 ≤ ab8 (e1 - T) + ab8 (e2 + T) := by
  unfold ab8; split <;> split <;> split <;> split <;> omega
theorem pct_fair {cs : List Int} {p : Int} (h : cntsB cs = true) (hp : inB p 0 3 = true) : Fair cs (pctV cs p) (wholeP p) := by
  obtain ⟨S, hT, ht, hV⟩ := pctV_sel h hp
  obtain ⟨f1, f2, f3, f4, f5, f6⟩ := pct_facts h hp
  obtain ⟨⟨hl1, hl2⟩, hc3, hc4⟩ := cnts_parts h
  have hw := whole_bd hp
  have hlF := flL_len cs.sum (partsP cs p)
  have hlR := reL_len cs.sum (partsP cs p)
  have hlS := hT.len
  have hFS : (flL cs.sum (partsP cs p)).length = S.length := by omega
  have hlen : (pctV cs p).length = cs.length := by rw [hV, addS_len _ _ hFS]; omega
  have hsum : (pctV cs p).sum = wholeP p := by rw [hV, addS_sum _ _ hFS, ht]; omega
  have hR : ∀ i, i < cs.length → 0 ≤ (reL cs.sum (partsP cs p)).getD i 0 ∧ (reL cs.sum (partsP cs p)).getD i 0 < cs.sum := fun i hi => by
    rw [getD_get _ i (by omega)]
    exact rests_in hc4 (partsP cs p) _ (List.getElem_mem (by omega))
  have hF : ∀ i, i < cs.length → 0 ≤ (flL cs.sum (partsP cs p)).getD i 0 ∧ (flL cs.sum (partsP cs p)).getD i 0 ≤ 100000 := fun i hi => by
    rw [getD_get _ i (by omega)]
    exact f4 _ (List.getElem_mem (by omega))
  have hRF : ∀ i, i < cs.length → (reL cs.sum (partsP cs p)).getD i 0 = wholeP p * cs.getD i 0 - cs.sum * (flL cs.sum (partsP cs p)).getD i 0 := fun i hi => by
    simp [reL, flL, partsP, List.getD_eq_getElem?_getD, hi, Int.mul_comm]
  have hVi : ∀ i, i < cs.length → (pctV cs p).getD i 0 = (if S.getD i false then (flL cs.sum (partsP cs p)).getD i 0 + 1 else (flL cs.sum (partsP cs p)).getD i 0) := fun i hi => by
    rw [hV]; exact zip_get _ _ _ hFS i (by omega)
  have hE : ∀ i, i < cs.length → eP cs (pctV cs p) (wholeP p) i = (if S.getD i false then cs.sum else 0) - (reL cs.sum (partsP cs p)).getD i 0 := fun i hi => by
    unfold eP; rw [hRF i hi, hVi i hi]
    cases S.getD i false
    · simp only [Bool.false_eq_true, if_false]; rw [Int.mul_comm ((flL cs.sum (partsP cs p)).getD i 0)]; omega
    · simp only [if_true]; rw [Int.add_mul, Int.mul_comm ((flL cs.sum (partsP cs p)).getD i 0)]; omega
  have hN : ∀ i, i < cs.length → -cs.sum < eP cs (pctV cs p) (wholeP p) i ∧ eP cs (pctV cs p) (wholeP p) i < cs.sum := fun i hi => by
    have := hR i hi
    rw [hE i hi]
    cases e : S.getD i false
    · simp only [Bool.false_eq_true, if_false]; omega
    · have := hT.pos i (by omega) e
      simp only [if_true]; omega
  refine ⟨hlen, hsum, ⟨hc4, f3⟩, fun i hi => ?_, fun i hi => ?_, fun i hi => hN i (by omega), fun i k hi hk => ?_⟩
  · have hF2 := hF i (by omega)
    have hv := hVi i (by omega)
    have hb : 0 ≤ (pctV cs p).getD i 0 ∧ (pctV cs p).getD i 0 ≤ 100001 := by
      rw [hv]; split <;> omega
    refine ⟨hb.1, hb.2, Int.mul_nonneg hb.1 (by omega), ?_⟩
    have : (pctV cs p).getD i 0 * cs.sum ≤ 100001 * 40000000 := Int.mul_le_mul hb.2 f3 (by omega) (by omega)
    omega
  · have hc := hc3 _ (getD_mem cs i (by omega))
    refine ⟨Int.mul_nonneg (by omega) hc.1, ?_⟩
    have : wholeP p * cs.getD i 0 ≤ 100000 * 1000000 := Int.mul_le_mul hw.2 hc.2 hc.1 (by omega)
    omega
  · refine ab_move (hN i (by omega)) (hN k (by omega)) ?_
    have r1 := hR i (by omega)
    have r2 := hR k (by omega)
    rw [hE i (by omega), hE k (by omega)]
    cases e1 : S.getD i false
    · left; simp only [Bool.false_eq_true, if_false]; omega
    · cases e2 : S.getD k false
      · right; right
        have := hT.top i k (by omega) (by omega) e1 e2
        simp only [Bool.false_eq_true, if_false, if_true]; omega
      · right; left; simp only [if_true]; omega
theorem r8Sum_any (ad : Option Addr) (cap : Nat) (zs : List Int) (w : World) (hz : Ints w ad zs) (hb : ∀ z ∈ zs, -1000000000 ≤ z ∧ z ≤ 1000000000) (hl : zs.length ≤ 1073741824) :
    Calls Try.prog 10 #[.slice ad zs.length cap] w fun e w' => e = .returned (.int .i64 zs.sum) ∧ w = w' := by
  have HB := Lib.hid hb; clear hb
  go_enter Try.func10, Try.ntmps10
  go_wp2
  go_loop [3, 4] (fun s i => ∃ k : Nat, k ≤ zs.length ∧ i = .int .i64 k ∧ s = .int .i64 (zs.take k).sum)
    (fun _ i => zs.length - (intOf i).toNat)
  case atStart => exact ⟨0, Nat.zero_le _, rfl, by simp⟩
  case round =>
    obtain ⟨k, hk, rfl, rfl⟩ := hrel
    by_cases hlt : k < zs.length
    · rcases hz.at_ with h | ⟨b, off, rfl, hb1, hc⟩
      · subst h; simp at hlt
      have hcx := hc k hlt
      have hx := HB.out _ (getD_mem zs k hlt)
      have hs := sum_take_bd 1000000000 1073741824 (by omega) zs HB.out (by omega) k
      have HS := Lib.hid (sum_take_succ zs k hlt)
      clear hc
      generalize zs.getD k 0 = x at hcx hx HS
      generalize (zs.take k).sum = s at hs HS
      go_wp2
      go_round
      case rel => exact ⟨k + 1, by omega, by go_num, by rw [HS.out]⟩
      case measure => simp [intOf]; omega
    · have HE := Lib.hid (show k = zs.length from by omega)
      go_wp2
      go_ret
      exact ⟨ret_i64 (by rw [HE.out, List.take_length]), rfl⟩
end Go.Proofs.Ytmckbjhmkcbjgab
