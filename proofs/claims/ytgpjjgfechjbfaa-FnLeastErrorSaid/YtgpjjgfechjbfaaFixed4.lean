/- What must be done for the least norm: the model's side. -/
import Derived.Test.YtgpjjgfechjbfaaBest4
import Derived.Test.YtgpjjgfechjbfaaNorm4
namespace Go.Proofs.Ytgpjjgfechjbfaa
open Go.ChangeShapes Go.WideShapes Go.ChangeAt Go.RowKit Go.Deep
set_option linter.unusedVariables false
theorem poisB_take_succ (norm den most : Int) (R : List Int) (i : Nat) (h : i < R.length) :
    poisB norm den most (R.take (i + 1)) = (poisB norm den most (R.take i) || (decide (norm = 2) && (decide (most < R.getD i 0) && decide (most < den - R.getD i 0)))) := by
  unfold poisB
  rw [take_succ_getD R i h, List.any_append]
  cases decide (norm = 2) <;> simp
/-- How far the counter of those that go up has come: exact, or beyond what may be. -/
def UpIs (norm den most : Int) (R : List Int) (u : Nat) (i : Nat) (up : Int) : Prop :=
  0 ≤ up ∧ up ≤ u + 1 + i + (isC 1 ((R.take i).map (fixX norm den most)) : Nat) ∧ (poisB norm den most (R.take i) = false → up = (isC 1 ((R.take i).map (fixX norm den most)) : Nat)) ∧ (poisB norm den most (R.take i) = true → (u : Int) < up)
theorem UpIs.zero (norm den most : Int) (R : List Int) (u : Nat) : UpIs norm den most R u 0 0 := ⟨by omega, by omega, fun _ => by simp [isC], fun h => by simp [poisB] at h⟩
theorem isC_map_succ (c : Int) (f : Int → Int) (R : List Int) (i : Nat) (h : i < R.length) : isC c ((R.take (i + 1)).map f) = isC c ((R.take i).map f) + (if f (R.getD i 0) = c then 1 else 0) := by
  unfold isC; rw [take_map_succ f R i h, List.countP_append, List.countP_cons, List.countP_nil]; simp
/-- One more: it is poison, or it is not. -/
theorem UpIs.poison {norm den most : Int} {R : List Int} {u i : Nat} {up : Int} (h : UpIs norm den most R u i up) (hi : i < R.length) (hn : norm = 2) (h1 : most < R.getD i 0) (h2 : most < den - R.getD i 0) (hx : fixX norm den most (R.getD i 0) = 1) : UpIs norm den most R u (i + 1) (u + 1 + 1) := by
  have hp := poisB_take_succ norm den most R i hi
  have hc := isC_map_succ 1 (fixX norm den most) R i hi
  rw [hx, if_pos rfl] at hc
  generalize R.getD i 0 = r at *
  have hp2 : poisB norm den most (R.take (i + 1)) = true := by rw [hp]; simp [hn, h1, h2]
  obtain ⟨a1, a2, a3, a4⟩ := h
  exact ⟨by omega, (by rw [hc]; omega), (fun q => by rw [hp2] at q; cases q), fun _ => by omega⟩
theorem UpIs.plain {norm den most : Int} {R : List Int} {u i : Nat} {up : Int} (h : UpIs norm den most R u i up) (hi : i < R.length) (hq : ¬ (norm = 2 ∧ most < R.getD i 0 ∧ most < den - R.getD i 0)) : UpIs norm den most R u (i + 1) (up + (if fixX norm den most (R.getD i 0) = 1 then 1 else 0)) := by
  have hp0 := poisB_take_succ norm den most R i hi
  have hc := isC_map_succ 1 (fixX norm den most) R i hi
  generalize R.getD i 0 = r at *
  have hp : poisB norm den most (R.take (i + 1)) = poisB norm den most (R.take i) := by
    rw [hp0]
    have : (decide (norm = 2) && (decide (most < r) && decide (most < den - r))) = false := by
      by_cases a : norm = 2 <;> by_cases b : most < r <;> by_cases c : most < den - r <;> simp_all
    rw [this, Bool.or_false]
  obtain ⟨h1, h2, h3, h4⟩ := h
  unfold UpIs
  rw [hp, hc]
  refine ⟨?_, ?_, fun q => ?_, fun q => ?_⟩
  · split <;> omega
  · split <;> omega
  · have := h3 q; split <;> omega
  · have := h4 q; split <;> omega
/-- The model's look at the end of a round. -/
theorem UpIs.fits {norm den most : Int} {R : List Int} {u : Nat} {up : Int} (h : UpIs norm den most R u R.length up) :
    fitsM norm den most R u ↔ (up ≤ u ∧ (u : Int) ≤ up + (isC 0 (R.map (fixX norm den most)) : Nat)) := by
  obtain ⟨h1, h2, h3, h4⟩ := h
  rw [List.take_length] at h3 h4
  unfold fitsM
  cases hp : poisB norm den most R
  · have := h3 hp
    simp only [true_and]
    omega
  · have := h4 hp
    constructor
    · intro q; cases q.1
    · intro q; omega
theorem Own.lit0 (w : World) : Own (w.alloc (.cells #[] 2)) w.heap.size (some ⟨w.heap.size, 0, none⟩) 0 [] := by
  have := World.ownsRow_lit (base := w.heap.size) (e := 2) (size := 1) w #[] 0 (by simp) (by simp) rfl
  exact ⟨by simpa using this, by simp, by simp⟩
theorem cell_new1 (w : World) (v : Value) (T : Nat) : (w.alloc (.cells #[v] T)).cell? ⟨w.heap.size, 0, none⟩ = some v := by simp
theorem isC_le (c : Int) (L : List Int) : isC c L ≤ L.length := List.countP_le_length ..
theorem UpIs.bd {norm den most : Int} {R : List Int} {u i : Nat} {up : Int} (h : UpIs norm den most R u i up) (hi : i ≤ 40) (hu : u ≤ 40) : 0 ≤ up ∧ up ≤ 200 := by
  have h2 := isC_le 1 ((R.take i).map (fixX norm den most))
  rw [List.length_map, List.length_take] at h2
  obtain ⟨a, b, _⟩ := h
  omega
/-- What l04Fixed tells, of a least one. -/
def FixedIs (w : World) (norm den : Int) (R : List Int) (u : Nat) (e : Ending) (w' : World) : Prop :=
  ∃ (m : Int) (rd : Option Addr) (rc : Nat), IsMst norm den R u m ∧ e = .returned (.tuple #[.slice rd (R.map (fixX norm den m)).length rc, .int .i64 ((u : Int) - (isC 1 (R.map (fixX norm den m)) : Nat))]) ∧ Own w' w.heap.size rd rc (R.map (fixX norm den m)) ∧ Keep w w'
set_option maxHeartbeats 6400000 in
set_option maxRecDepth 100000 in
theorem l04Fixed_any (norm den : Int) (u : Nat) (ad : Option Addr) (cap : Nat) (R : List Int) (w : World) (hz : Ints w ad R) (hR : ∀ r ∈ R, 0 ≤ r ∧ r < den) (hl : R.length ≤ 40) (hd : 1 ≤ den) (hd2 : den ≤ 1000000) (hu : u ≤ 40)
    (hex : ∃ m, IsMst norm den R u m ∧ m ≤ den) :
    Calls Try.prog 94 #[.slice ad R.length cap, .int .i64 den, .int .i64 u, .int .i64 norm] w (FixedIs w norm den R u) := by
  have HR := Lib.hid hR; have HEX := Lib.hid hex
  clear hR hex
  have hlen := hz.small
  go_enter Try.func94, Try.ntmps94
  go_wp2
  go_loopg [10, 11, 12, 13, 14, 15] ((den + 1).toNat) (fun kk m _ _ _ _ _ wr => ∃ j : Nat, (j : Int) ≤ den + 1 ∧ kk = (den + 1).toNat - j ∧ m = .int .i64 j ∧ Hid (∀ m' : Int, 0 ≤ m' → m' < j → ¬ fitsM norm den m' R u) ∧ Hid (Keep w wr))
  case atStart => exact ⟨0, by omega, rfl, rfl, Lib.hid (fun m' h1 h2 => by omega), Lib.hid (Below.refl _ _)⟩
  case round =>
    obtain ⟨j, hj, rfl, rfl, HNF, HB⟩ := hrel
    by_cases hjd : (j : Int) ≤ den
    · have HK := Lib.hid (show Keep w (wr.alloc (.cells #[] 2)) from HB.out.next (by go_grown))
      have HO0 := Lib.hid ((Own.lit0 wr).mono (B' := w.heap.size) HB.out.size)
      have hws : w.heap.size ≤ wr.heap.size := HB.out.size
      have hj0 : (0 : Int) ≤ (j : Int) := by omega
      go_wp2
      generalize wr.alloc (.cells #[] 2) = wa at *
      obtain ⟨b0, hb0⟩ : ∃ b0, b0 = wr.heap.size := ⟨_, rfl⟩
      rw [← hb0] at HO0 ⊢
      clear hb0
      go_loopg [11, 12, 13, 14, 15] R.length (fun kk ov up fr i _ wi => ∃ (k : Nat) (rd : Option Addr) (rc : Nat) (upv : Int), k ≤ R.length ∧ kk = R.length - k ∧ i = .int .i64 k ∧ ov = .slice rd k rc ∧ up = .int .i64 upv ∧ fr = .int .i64 (isC 0 ((R.take k).map (fixX norm den j)) : Nat) ∧ Hid (UpIs norm den j R u k upv) ∧ Hid (Own wi w.heap.size rd rc ((R.take k).map (fixX norm den j))) ∧ Hid (Keep w wi))
      case atStart => exact ⟨0, _, _, 0, Nat.zero_le _, rfl, rfl, rfl, rfl, by simp [isC], Lib.hid (UpIs.zero _ _ _ _ _), by simpa using HO0, HK⟩
      case round =>
        obtain ⟨k, rd, rc, upv, hk, rfl, rfl, rfl, rfl, rfl, HU, HO, HB2⟩ := hrel
        have hub := HU.out.bd (by omega) hu
        have hi0 := isC_le 0 ((R.take k).map (fixX norm den j))
        rw [List.length_map, List.length_take] at hi0
        by_cases hlt : k < R.length
        · rcases (hz.keep HB2.out (Nat.le_refl _)).at_ with h | ⟨b, off, rfl, hb, hc⟩
          · subst h; simp at hlt
          have hcx := hc k hlt
          have hr := HR.out _ (getD_mem R k hlt)
          have HT := Lib.hid (take_map_succ (fixX norm den j) R k hlt)
          have HI0 := Lib.hid (isC_map_succ 0 (fixX norm den j) R k hlt)
          have HPO := Lib.hid (fun h1 h2 h3 h4 => HU.out.poison hlt h1 h2 h3 h4)
          have HPL := Lib.hid (fun h => HU.out.plain hlt h)
          have HKL := Lib.hid (show ((R.take k).map (fixX norm den j)).length = k by simp; omega)
          have hsr := HB2.out.size
          clear hc
          generalize R.getD k 0 = r at *
          generalize isC 0 ((R.take k).map (fixX norm den j)) = F0 at *
          generalize (R.take k).map (fixX norm den j) = Z at *
          by_cases hn : norm = 2
          · have hnb : (norm == 2) = true := by simp [hn]
            by_cases h1 : (j : Int) < r
            · have hr0 : (r == 0) = false := by simp; omega
              by_cases h2 : (j : Int) < den - r
              · have HFX : Hid (fixX norm den j r = 1) := Lib.hid (by unfold fixX; rw [if_neg (by omega), if_pos hn, if_pos h1])
                have HUP : Hid (UpIs norm den j R u (k + 1) (u + 1 + 1)) := Lib.hid (HPO.out hn h1 h2 HFX.out)
                have HF : Hid (isC 0 ((R.take (k + 1)).map (fixX norm den j)) = F0) := Lib.hid (by rw [HI0.out, HFX.out]; simp)
                have HN := Lib.hid hn; clear hn
                go_wp2_with (refine list_app1 (by rfl) _ _ (by rfl) w.heap.size rd rc k Z (1) (by rfl) (HO.out.keep (by go_grown)) HKL.out.symm wr.heap.size (by rfl) (cell_new1 _ _ _) ⟨by omega, by omega⟩ (by rw [HKL.out]; omega) (by simp; omega) ?_; intro ad' cap' w2 hown2 hgr2; have hbel2 : Below w.heap.size wr w2 := below_own (by go_grown) (HO.out.keep (by go_grown)) hgr2 (by simp; omega) (Nat.le_refl _))
                go_roundg (R.length - (k + 1))
                case measure => omega
                case rel => exact ⟨k + 1, ad', cap', u + 1 + 1, by omega, rfl, by go_num, rfl, rfl, by rw [HF.out], Lib.hid HUP.out, Lib.hid (by rw [HT.out, HFX.out]; exact hown2), Lib.hid (HB2.out.trans hbel2)⟩
              · have HFX : Hid (fixX norm den j r = 1) := Lib.hid (by unfold fixX; rw [if_neg (by omega), if_pos hn, if_pos h1])
                have HUP : Hid (UpIs norm den j R u (k + 1) (upv + 1)) := Lib.hid (by have h := HPL.out (by omega); rw [HFX.out] at h; simpa using h)
                have HF : Hid (isC 0 ((R.take (k + 1)).map (fixX norm den j)) = F0) := Lib.hid (by rw [HI0.out, HFX.out]; simp)
                have HN := Lib.hid hn; clear hn
                go_wp2_with (refine list_app1 (by rfl) _ _ (by rfl) w.heap.size rd rc k Z (1) (by rfl) (HO.out.keep (by go_grown)) HKL.out.symm wr.heap.size (by rfl) (cell_new1 _ _ _) ⟨by omega, by omega⟩ (by rw [HKL.out]; omega) (by simp; omega) ?_; intro ad' cap' w2 hown2 hgr2; have hbel2 : Below w.heap.size wr w2 := below_own (by go_grown) (HO.out.keep (by go_grown)) hgr2 (by simp; omega) (Nat.le_refl _))
                go_roundg (R.length - (k + 1))
                case measure => omega
                case rel => exact ⟨k + 1, ad', cap', upv + 1, by omega, rfl, by go_num, rfl, rfl, by rw [HF.out], Lib.hid HUP.out, Lib.hid (by rw [HT.out, HFX.out]; exact hown2), Lib.hid (HB2.out.trans hbel2)⟩
            · by_cases h2 : (j : Int) < den - r
              · by_cases h0 : r = 0
                · have hr0 : (r == 0) = true := by simp [h0]
                  have HFX : Hid (fixX norm den j r = -1) := Lib.hid (by unfold fixX; rw [if_pos h0])
                  have HUP : Hid (UpIs norm den j R u (k + 1) upv) := Lib.hid (by have h := HPL.out (by omega); rw [HFX.out] at h; simpa using h)
                  have HF : Hid (isC 0 ((R.take (k + 1)).map (fixX norm den j)) = F0) := Lib.hid (by rw [HI0.out, HFX.out]; simp)
                  have H0 := Lib.hid h0; clear h0
                  have HN := Lib.hid hn; clear hn
                  go_wp2_with (refine list_app1 (by rfl) _ _ (by rfl) w.heap.size rd rc k Z (-1) (by rfl) (HO.out.keep (by go_grown)) HKL.out.symm wr.heap.size (by rfl) (cell_new1 _ _ _) ⟨by omega, by omega⟩ (by rw [HKL.out]; omega) (by simp; omega) ?_; intro ad' cap' w2 hown2 hgr2; have hbel2 : Below w.heap.size wr w2 := below_own (by go_grown) (HO.out.keep (by go_grown)) hgr2 (by simp; omega) (Nat.le_refl _))
                  go_roundg (R.length - (k + 1))
                  case measure => omega
                  case rel => exact ⟨k + 1, ad', cap', upv, by omega, rfl, by go_num, rfl, rfl, by rw [HF.out], Lib.hid HUP.out, Lib.hid (by rw [HT.out, HFX.out]; exact hown2), Lib.hid (HB2.out.trans hbel2)⟩
                · have hr0 : (r == 0) = false := by simp [h0]
                  have HFX : Hid (fixX norm den j r = -1) := Lib.hid (by unfold fixX; rw [if_neg h0, if_pos hn, if_neg h1, if_pos h2])
                  have HUP : Hid (UpIs norm den j R u (k + 1) upv) := Lib.hid (by have h := HPL.out (by omega); rw [HFX.out] at h; simpa using h)
                  have HF : Hid (isC 0 ((R.take (k + 1)).map (fixX norm den j)) = F0) := Lib.hid (by rw [HI0.out, HFX.out]; simp)
                  have HN := Lib.hid hn; clear hn
                  go_wp2_with (refine list_app1 (by rfl) _ _ (by rfl) w.heap.size rd rc k Z (-1) (by rfl) (HO.out.keep (by go_grown)) HKL.out.symm wr.heap.size (by rfl) (cell_new1 _ _ _) ⟨by omega, by omega⟩ (by rw [HKL.out]; omega) (by simp; omega) ?_; intro ad' cap' w2 hown2 hgr2; have hbel2 : Below w.heap.size wr w2 := below_own (by go_grown) (HO.out.keep (by go_grown)) hgr2 (by simp; omega) (Nat.le_refl _))
                  go_roundg (R.length - (k + 1))
                  case measure => omega
                  case rel => exact ⟨k + 1, ad', cap', upv, by omega, rfl, by go_num, rfl, rfl, by rw [HF.out], Lib.hid HUP.out, Lib.hid (by rw [HT.out, HFX.out]; exact hown2), Lib.hid (HB2.out.trans hbel2)⟩
              · by_cases h0 : r = 0
                · have hr0 : (r == 0) = true := by simp [h0]
                  have HFX : Hid (fixX norm den j r = -1) := Lib.hid (by unfold fixX; rw [if_pos h0])
                  have HUP : Hid (UpIs norm den j R u (k + 1) upv) := Lib.hid (by have h := HPL.out (by omega); rw [HFX.out] at h; simpa using h)
                  have HF : Hid (isC 0 ((R.take (k + 1)).map (fixX norm den j)) = F0) := Lib.hid (by rw [HI0.out, HFX.out]; simp)
                  have H0 := Lib.hid h0; clear h0
                  have HN := Lib.hid hn; clear hn
                  go_wp2_with (refine list_app1 (by rfl) _ _ (by rfl) w.heap.size rd rc k Z (-1) (by rfl) (HO.out.keep (by go_grown)) HKL.out.symm wr.heap.size (by rfl) (cell_new1 _ _ _) ⟨by omega, by omega⟩ (by rw [HKL.out]; omega) (by simp; omega) ?_; intro ad' cap' w2 hown2 hgr2; have hbel2 : Below w.heap.size wr w2 := below_own (by go_grown) (HO.out.keep (by go_grown)) hgr2 (by simp; omega) (Nat.le_refl _))
                  go_roundg (R.length - (k + 1))
                  case measure => omega
                  case rel => exact ⟨k + 1, ad', cap', upv, by omega, rfl, by go_num, rfl, rfl, by rw [HF.out], Lib.hid HUP.out, Lib.hid (by rw [HT.out, HFX.out]; exact hown2), Lib.hid (HB2.out.trans hbel2)⟩
                · have hr0 : (r == 0) = false := by simp [h0]
                  have HFX : Hid (fixX norm den j r = 0) := Lib.hid (by unfold fixX; rw [if_neg h0, if_pos hn, if_neg h1, if_neg h2])
                  have HUP : Hid (UpIs norm den j R u (k + 1) upv) := Lib.hid (by have h := HPL.out (by omega); rw [HFX.out] at h; simpa using h)
                  have HF : Hid (isC 0 ((R.take (k + 1)).map (fixX norm den j)) = F0 + 1) := Lib.hid (by rw [HI0.out, HFX.out]; simp)
                  have HN := Lib.hid hn; clear hn
                  go_wp2_with (refine list_app1 (by rfl) _ _ (by rfl) w.heap.size rd rc k Z (0) (by rfl) (HO.out.keep (by go_grown)) HKL.out.symm wr.heap.size (by rfl) (cell_new1 _ _ _) ⟨by omega, by omega⟩ (by rw [HKL.out]; omega) (by simp; omega) ?_; intro ad' cap' w2 hown2 hgr2; have hbel2 : Below w.heap.size wr w2 := below_own (by go_grown) (HO.out.keep (by go_grown)) hgr2 (by simp; omega) (Nat.le_refl _))
                  go_roundg (R.length - (k + 1))
                  case measure => omega
                  case rel => exact ⟨k + 1, ad', cap', upv, by omega, rfl, by go_num, rfl, rfl, by rw [HF.out]; go_num, Lib.hid HUP.out, Lib.hid (by rw [HT.out, HFX.out]; exact hown2), Lib.hid (HB2.out.trans hbel2)⟩
          · have hnb : (norm == 2) = false := by simpa using hn
            by_cases h1 : den - (j : Int) < r
            · have hr0 : (r == 0) = false := by simp; omega
              have HFX : Hid (fixX norm den j r = 1) := Lib.hid (by unfold fixX; rw [if_neg (by omega), if_neg hn, if_pos h1])
              have HUP : Hid (UpIs norm den j R u (k + 1) (upv + 1)) := Lib.hid (by have h := HPL.out (by omega); rw [HFX.out] at h; simpa using h)
              have HF : Hid (isC 0 ((R.take (k + 1)).map (fixX norm den j)) = F0) := Lib.hid (by rw [HI0.out, HFX.out]; simp)
              have HN := Lib.hid hn; clear hn
              go_wp2_with (refine list_app1 (by rfl) _ _ (by rfl) w.heap.size rd rc k Z (1) (by rfl) (HO.out.keep (by go_grown)) HKL.out.symm wr.heap.size (by rfl) (cell_new1 _ _ _) ⟨by omega, by omega⟩ (by rw [HKL.out]; omega) (by simp; omega) ?_; intro ad' cap' w2 hown2 hgr2; have hbel2 : Below w.heap.size wr w2 := below_own (by go_grown) (HO.out.keep (by go_grown)) hgr2 (by simp; omega) (Nat.le_refl _))
              go_roundg (R.length - (k + 1))
              case measure => omega
              case rel => exact ⟨k + 1, ad', cap', upv + 1, by omega, rfl, by go_num, rfl, rfl, by rw [HF.out], Lib.hid HUP.out, Lib.hid (by rw [HT.out, HFX.out]; exact hown2), Lib.hid (HB2.out.trans hbel2)⟩
            · by_cases h2 : r < den - (j : Int)
              · by_cases h0 : r = 0
                · have hr0 : (r == 0) = true := by simp [h0]
                  have HFX : Hid (fixX norm den j r = -1) := Lib.hid (by unfold fixX; rw [if_pos h0])
                  have HUP : Hid (UpIs norm den j R u (k + 1) upv) := Lib.hid (by have h := HPL.out (by omega); rw [HFX.out] at h; simpa using h)
                  have HF : Hid (isC 0 ((R.take (k + 1)).map (fixX norm den j)) = F0) := Lib.hid (by rw [HI0.out, HFX.out]; simp)
                  have H0 := Lib.hid h0; clear h0
                  have HN := Lib.hid hn; clear hn
                  go_wp2_with (refine list_app1 (by rfl) _ _ (by rfl) w.heap.size rd rc k Z (-1) (by rfl) (HO.out.keep (by go_grown)) HKL.out.symm wr.heap.size (by rfl) (cell_new1 _ _ _) ⟨by omega, by omega⟩ (by rw [HKL.out]; omega) (by simp; omega) ?_; intro ad' cap' w2 hown2 hgr2; have hbel2 : Below w.heap.size wr w2 := below_own (by go_grown) (HO.out.keep (by go_grown)) hgr2 (by simp; omega) (Nat.le_refl _))
                  go_roundg (R.length - (k + 1))
                  case measure => omega
                  case rel => exact ⟨k + 1, ad', cap', upv, by omega, rfl, by go_num, rfl, rfl, by rw [HF.out], Lib.hid HUP.out, Lib.hid (by rw [HT.out, HFX.out]; exact hown2), Lib.hid (HB2.out.trans hbel2)⟩
                · have hr0 : (r == 0) = false := by simp [h0]
                  have HFX : Hid (fixX norm den j r = -1) := Lib.hid (by unfold fixX; rw [if_neg h0, if_neg hn, if_neg h1, if_pos h2])
                  have HUP : Hid (UpIs norm den j R u (k + 1) upv) := Lib.hid (by have h := HPL.out (by omega); rw [HFX.out] at h; simpa using h)
                  have HF : Hid (isC 0 ((R.take (k + 1)).map (fixX norm den j)) = F0) := Lib.hid (by rw [HI0.out, HFX.out]; simp)
                  have HN := Lib.hid hn; clear hn
                  go_wp2_with (refine list_app1 (by rfl) _ _ (by rfl) w.heap.size rd rc k Z (-1) (by rfl) (HO.out.keep (by go_grown)) HKL.out.symm wr.heap.size (by rfl) (cell_new1 _ _ _) ⟨by omega, by omega⟩ (by rw [HKL.out]; omega) (by simp; omega) ?_; intro ad' cap' w2 hown2 hgr2; have hbel2 : Below w.heap.size wr w2 := below_own (by go_grown) (HO.out.keep (by go_grown)) hgr2 (by simp; omega) (Nat.le_refl _))
                  go_roundg (R.length - (k + 1))
                  case measure => omega
                  case rel => exact ⟨k + 1, ad', cap', upv, by omega, rfl, by go_num, rfl, rfl, by rw [HF.out], Lib.hid HUP.out, Lib.hid (by rw [HT.out, HFX.out]; exact hown2), Lib.hid (HB2.out.trans hbel2)⟩
              · by_cases h0 : r = 0
                · have hr0 : (r == 0) = true := by simp [h0]
                  have HFX : Hid (fixX norm den j r = -1) := Lib.hid (by unfold fixX; rw [if_pos h0])
                  have HUP : Hid (UpIs norm den j R u (k + 1) upv) := Lib.hid (by have h := HPL.out (by omega); rw [HFX.out] at h; simpa using h)
                  have HF : Hid (isC 0 ((R.take (k + 1)).map (fixX norm den j)) = F0) := Lib.hid (by rw [HI0.out, HFX.out]; simp)
                  have H0 := Lib.hid h0; clear h0
                  have HN := Lib.hid hn; clear hn
                  go_wp2_with (refine list_app1 (by rfl) _ _ (by rfl) w.heap.size rd rc k Z (-1) (by rfl) (HO.out.keep (by go_grown)) HKL.out.symm wr.heap.size (by rfl) (cell_new1 _ _ _) ⟨by omega, by omega⟩ (by rw [HKL.out]; omega) (by simp; omega) ?_; intro ad' cap' w2 hown2 hgr2; have hbel2 : Below w.heap.size wr w2 := below_own (by go_grown) (HO.out.keep (by go_grown)) hgr2 (by simp; omega) (Nat.le_refl _))
                  go_roundg (R.length - (k + 1))
                  case measure => omega
                  case rel => exact ⟨k + 1, ad', cap', upv, by omega, rfl, by go_num, rfl, rfl, by rw [HF.out], Lib.hid HUP.out, Lib.hid (by rw [HT.out, HFX.out]; exact hown2), Lib.hid (HB2.out.trans hbel2)⟩
                · have hr0 : (r == 0) = false := by simp [h0]
                  have HFX : Hid (fixX norm den j r = 0) := Lib.hid (by unfold fixX; rw [if_neg h0, if_neg hn, if_neg h1, if_neg h2])
                  have HUP : Hid (UpIs norm den j R u (k + 1) upv) := Lib.hid (by have h := HPL.out (by omega); rw [HFX.out] at h; simpa using h)
                  have HF : Hid (isC 0 ((R.take (k + 1)).map (fixX norm den j)) = F0 + 1) := Lib.hid (by rw [HI0.out, HFX.out]; simp)
                  have HN := Lib.hid hn; clear hn
                  go_wp2_with (refine list_app1 (by rfl) _ _ (by rfl) w.heap.size rd rc k Z (0) (by rfl) (HO.out.keep (by go_grown)) HKL.out.symm wr.heap.size (by rfl) (cell_new1 _ _ _) ⟨by omega, by omega⟩ (by rw [HKL.out]; omega) (by simp; omega) ?_; intro ad' cap' w2 hown2 hgr2; have hbel2 : Below w.heap.size wr w2 := below_own (by go_grown) (HO.out.keep (by go_grown)) hgr2 (by simp; omega) (Nat.le_refl _))
                  go_roundg (R.length - (k + 1))
                  case measure => omega
                  case rel => exact ⟨k + 1, ad', cap', upv, by omega, rfl, by go_num, rfl, rfl, by rw [HF.out]; go_num, Lib.hid HUP.out, Lib.hid (by rw [HT.out, HFX.out]; exact hown2), Lib.hid (HB2.out.trans hbel2)⟩
        · have HKR := Lib.hid (show k = R.length from by omega)
          have HUF : Hid (UpIs norm den j R u R.length upv) := Lib.hid (by rw [← HKR.out]; exact HU.out)
          have HFC : Hid (isC 0 ((R.take k).map (fixX norm den j)) = isC 0 (R.map (fixX norm den j))) := Lib.hid (by rw [HKR.out, List.take_length])
          have HFI := Lib.hid HUF.out.fits
          have HO2 : Hid (Own wr w.heap.size rd rc (R.map (fixX norm den j))) := Lib.hid (by have h := HO.out; rw [HKR.out, List.take_length] at h; exact h)
          clear HO HU
          rw [← HFC.out] at HFI
          generalize isC 0 ((R.take k).map (fixX norm den j)) = F0 at *
          have HNS : Hid (¬ fitsM norm den j R u → ∀ m' : Int, 0 ≤ m' → m' < ((j + 1 : Nat) : Int) → ¬ fitsM norm den m' R u) := Lib.hid (fun h m' h1 h2 => by
            by_cases e : m' = (j : Int)
            · subst e; exact h
            · exact HNF.out m' h1 (by omega))
          by_cases q1 : upv ≤ (u : Int)
          · by_cases q2 : (u : Int) ≤ upv + (F0 : Int)
            · have HFT := Lib.hid (HFI.out.2 ⟨q1, q2⟩)
              have hup : upv = (isC 1 (R.map (fixX norm den j)) : Nat) := by
                have h := HUF.out.2.2.1
                rw [List.take_length] at h
                exact h HFT.out.1
              have HUPE := Lib.hid hup; clear hup
              go_wp2
              refine bodyPost_ret (v := .tuple #[.slice rd k rc, .int .i64 ((u : Int) - upv)]) (by simp [results, Try.results94, go_sem]) rfl ?_
              exact ⟨j, rd, rc, ⟨hj0, HFT.out, fun m' h1 h2 => HNF.out m' h1 h2⟩, by rw [HKR.out, HUPE.out]; simp, HO2.out, HB2.out⟩
            · have HNT := Lib.hid (HNS.out (fun h => q2 (HFI.out.1 h).2))
              go_wp2
              go_roundg ((den + 1).toNat - (j + 1))
              case measure => omega
              case rel => exact ⟨j + 1, by omega, rfl, by go_num, HNT, HB2⟩
          · have HNT := Lib.hid (HNS.out (fun h => q1 (HFI.out.1 h).1))
            go_wp2
            go_roundg ((den + 1).toNat - (j + 1))
            case measure => omega
            case rel => exact ⟨j + 1, by omega, rfl, by go_num, HNT, HB2⟩
    · exfalso
      obtain ⟨m, ⟨m0, mf, _⟩, hm⟩ := HEX.out
      exact HNF.out m m0 (by omega) mf
end Go.Proofs.Ytgpjjgfechjbfaa
