/- Doubling masks: the model's side. -/
import Derived.Test.YtjoanfgchapbaaaSq9
import Derived.Test.YtjoanfgchapbaaaInts
import Derived.BigQuiet
import Derived.Deep.LoopGhost
namespace Go.Proofs.Ytjoanfgchapbaaa
open Go.ChangeShapes Go.WideShapes Go.ChangeAt Go.RowKit Go.Deep
set_option linter.unusedVariables false
theorem code_gen9 {P : Program} {c : Code} {Q : Exit → Act → World → Prop} {a : Act} {W : World} (h : ∀ W2, W2 = W → Code.wp P c Q a W2) : Code.wp P c Q a W := h W rfl
theorem OwnR.head {w : World} {lo cap B : Nat} {AD : Nat → Option Addr} {CP : Nat → Nat} {zss : List (List Int)} (h : OwnR w lo (some ⟨B, 0, none⟩) cap AD CP zss) (i : Nat) (hi : i < zss.length) : w.cell? ⟨B, i, none⟩ = some (.slice (AD i) (zss.getD i []).length (CP i)) := by
  rw [h.row.cellAt i (by omega), rowC_get AD CP zss i hi]
theorem OwnR.block {w : World} {lo cap : Nat} {ad : Option Addr} {AD : Nat → Option Addr} {CP : Nat → Nat} {zss : List (List Int)} (h : OwnR w lo ad cap AD CP zss) (hl : 1 ≤ zss.length) : ∃ B, ad = some ⟨B, 0, none⟩ ∧ lo ≤ B ∧ B < w.heap.size := by
  rcases own_block h.row with ⟨_, e, _⟩ | ⟨g, e, h1, h2, _⟩
  · omega
  · exact ⟨g, e, h1, h2⟩
theorem sqF_push0 (n m : Nat) : sqF (n + 1) m (fun _ _ => 0) = sqF n m (fun _ _ => 0) ++ [List.replicate m 0] := by
  rw [sqF_push]; congr 2
  apply List.ext_getElem
  · simp
  · intro i h1 h2; simp
set_option maxHeartbeats 1600000 in
set_option maxRecDepth 100000 in
theorem l09Square_any (n m : Nat) (w : World) (hn : n ≤ 1000) (hm : m ≤ 1000) :
    Calls Try.prog 73 #[.int .i64 n, .int .i64 m] w fun e w' => ∃ rd rc rA rC, e = .returned (.slice rd n rc) ∧ OwnR w' w.heap.size rd rc rA rC (sqF n m fun _ _ => 0) ∧ Keep w w' := by
  obtain ⟨i0, hi, hz0, hz1, hz2⟩ := info_parts Try.infoI
  have hb8 : i0.bytes * m ≤ 281474976710656 := by rw [hz2]; omega
  have hml : m ≤ maxLen := by unfold maxLen; omega
  have HSL := Lib.hid (fun k => sqF_len k m (fun _ _ => 0))
  have HST := Lib.hid (fun k => sqF_tot m (fun _ _ => 0) k)
  have HSP := Lib.hid (fun k => sqF_push0 k m)
  obtain ⟨B, hB⟩ : ∃ B, B = w.heap.size := ⟨_, rfl⟩
  go_enter Try.func73, Try.ntmps73
  go_wp2
  obtain ⟨W1, hW1⟩ : ∃ W1, W1 = w.alloc (.cells #[] 69) := ⟨_, rfl⟩
  have HR0 : Hid (OwnR W1 B (some ⟨B, 0, none⟩) 0 (fun _ => none) (fun _ => 0) []) := Lib.hid ⟨by simp, by simp [tot], by
      rw [hW1, hB]
      have := World.ownsRow_lit (base := w.heap.size) (e := 69) (size := 1) w #[] 0 (by omega) (by simp) rfl
      simpa [rowC] using this, fun j hj => by simp at hj, fun i j hi => by simp at hi, fun j hj => by simp at hj⟩
  have HK1 : Hid (Below B w W1) := Lib.hid (by rw [hW1, hB]; go_grown)
  have hs1 : B < W1.heap.size := by rw [hW1, hB]; simp
  rw [← hW1, ← hB]
  have HB := Lib.hid hB
  clear hW1 hB
  go_loopw [5, 6] (fun v i wr => ∃ (k : Nat) (rd : Option Addr) (rc : Nat) (rA : Nat → Option Addr) (rC : Nat → Nat), k ≤ n ∧ i = .int .i64 k ∧ v = .slice rd k rc ∧ Hid (OwnR wr B rd rc rA rC (sqF k m fun _ _ => 0)) ∧ Hid (Below B w wr) ∧ B < wr.heap.size)
    (fun _ i _ => n - (intOf i).toNat)
  case atStart => exact ⟨0, _, _, _, _, Nat.zero_le _, rfl, rfl, HR0, HK1, hs1⟩
  case round =>
    obtain ⟨k, rd, rc, rA, rC, hk, rfl, rfl, HR, HK, hBl⟩ := hrel
    by_cases hlt : k < n
    · have hkm : k * m ≤ 1000 * 1000 := Nat.mul_le_mul (by omega) hm
      go_wp2_with (at_make; refine wpList_make_full wr rfl _ _ 69 rfl wr.heap.size 2 i0 (.int .i64 0) 1 Try.underlying69 hi hz0 hz1 .i64 .i64 _ _ m rfl rfl rfl rfl hb8 hml (Nat.le_refl _) ?_)
      intro w0 hown0 hgrow0
      have hown0 : w0.ownsRow wr.heap.size 2 1 (.slice (some ⟨wr.heap.size, 0, none⟩) m m) m (List.replicate m (.int .i64 0)) := by simpa [Value.cells, toList_madeCells_one] using hown0
      have hk0 : Keep wr w0 := (Below.refl _ _).grown hgrow0 (Nat.le_refl _) (fun k h => by cases h)
      clear hgrow0
      obtain ⟨g3, hg3⟩ : ∃ g, g = wr.heap.size := ⟨_, rfl⟩
      rw [← hg3] at hown0 ⊢
      have hg3l : g3 < w0.heap.size := by
        rcases own_block hown0 with ⟨h, _⟩ | ⟨q, h, _, h3, _⟩
        · cases h
        · simp at h; omega
      have HZ : Hid (Own w0 B (some ⟨g3, 0, none⟩) m (List.replicate m 0)) := Lib.hid (Own.mono (B := g3) ⟨by
        rw [List.length_replicate]
        simpa [vals] using hown0, by simp; omega, fun z hz => by simp at hz; rw [hz.2]; exact ⟨by omega, by omega⟩⟩ (by omega))
      have HR3 : Hid (OwnR w0 B rd rc rA rC (sqF k m fun _ _ => 0)) := Lib.hid (HR.out.keep hk0)
      have HFR : Hid (∀ b, (some ⟨g3, 0, none⟩ : Option Addr) = some ⟨b, 0, none⟩ → ¬ footR rd rA (sqF k m fun _ _ => 0).length b) := Lib.hid (fun b e hf => by
        have h1 := (HR.out.lt b hf).2
        cases e; omega)
      have HKL : Hid (k = (sqF k m fun _ _ => 0).length) := Lib.hid (HSL.out k).symm
      have HTB : Hid (tot (sqF k m fun _ _ => 0) + (List.replicate m (0 : Int)).length ≤ 1099511627776) := Lib.hid (by rw [HST.out, List.length_replicate]; omega)
      have hlk : (sqF k m fun _ _ => 0).length < 1048576 := by rw [HSL.out]; omega
      have HK0 := Lib.hid hk0
      have HZL : Hid (m = (List.replicate m (0 : Int)).length) := Lib.hid (by simp)
      have HSPK := Lib.hid (HSP.out k)
      clear hown0 hk0 hg3
      generalize (sqF k m fun _ _ => 0) = Dk at *
      generalize List.replicate m (0 : Int) = Z at *
      have hBw0 : B ≤ w0.heap.size := by have := HK0.out.size; omega
      go_wp2_with (refine list_appR (by rfl) _ _ (by rfl) B rd rc k rA rC Dk (some ⟨g3, 0, none⟩) m m Z (by rfl) (HR3.out.keep (by go_grown)) HKL.out w0.heap.size (by rfl) (by simp) HZL.out (HZ.out.keep (by go_grown)) HFR.out hlk HTB.out (by simp; omega) ?_; intro g8 cap8 w8 hown8 hgr8 hat8 hlt8; have O8 := Lib.hid hown8; have G8 := Lib.hid hgr8; clear hown8 hgr8 hat8)
      go_roundw
      case rel =>
        have hw8 : Wrote w0 w8 (fun j => B ≤ j) := Wrote.trans (Wrote.of_keep (by go_grown)) (Wrote.of_grown G8.out (fun q hq => by
          rcases own_block HR3.out.row with ⟨e, _⟩ | ⟨q2, e, h2, _⟩
          · rw [e] at hq; simp [Value.ownBlock] at hq
          · rw [e] at hq; simp [Value.ownBlock] at hq; omega))
        exact ⟨k + 1, _, cap8, _, _, by omega, by go_num, rfl, Lib.hid (by rw [HSPK.out]; exact O8.out), Lib.hid (below_wrote (HK.out.trans (HK0.out.mono (by omega))) hw8 hBw0 (fun j h => h)), by have := hw8.size; have := HK0.out.size; omega⟩
      case measure => simp [intOf]; omega
    · have HE := Lib.hid (show k = n by omega)
      go_wp2
      go_ret
      have e := HE.out
      have hBB := HB.out
      subst e
      refine ⟨rd, rc, rA, rC, rfl, ?_, ?_⟩
      · rw [← hBB]; exact HR.out
      · have h := HK.out; rw [hBB] at h; exact h
/-- What is there of a doubled mask when the places before i, k are done. -/
def stF (H : Nat) (f : Nat → Nat → Int) (i k : Nat) : Nat → Nat → Int := fun a b => if md H a < i ∨ md H a = i ∧ md H b < k then dblF H f a b else 0
theorem stF_start (H : Nat) (f : Nat → Nat → Int) (a b : Nat) : stF H f 0 0 a b = 0 := by unfold stF; rw [if_neg (by omega)]
theorem stF_row (H : Nat) (f : Nat → Nat → Int) (i a b : Nat) (hb : b < 2 * H) : stF H f i H a b = stF H f (i + 1) 0 a b := by
  have : md H b < H := by unfold md; split <;> omega
  unfold stF
  by_cases h : md H a < i ∨ md H a = i
  · rw [if_pos (by omega), if_pos (by omega)]
  · rw [if_neg (by omega), if_neg (by omega)]
theorem stF_end (H : Nat) (f : Nat → Nat → Int) (a b : Nat) (ha : a < 2 * H) : stF H f H 0 a b = dblF H f a b := by
  have : md H a < H := by unfold md; split <;> omega
  unfold stF; rw [if_pos (by omega)]
theorem stF_step (H : Nat) (f : Nat → Nat → Int) (i k a b : Nat) (hi : i < H) (hk : k < H) (ha : a < 2 * H) (hb : b < 2 * H) :
    upd2 (upd2 (upd2 (upd2 (stF H f i k) i k (4 * f i k)) i (k + H) (4 * f i k + 2)) (i + H) k (4 * f i k + 3)) (i + H) (k + H) (4 * f i k + 1) a b = stF H f i (k + 1) a b := by
  unfold upd2 stF dblF
  by_cases h1 : a < H
  · have e1 : md H a = a := by unfold md; rw [if_pos h1]
    rw [e1, if_pos h1]
    by_cases h2 : b < H
    · have e2 : md H b = b := by unfold md; rw [if_pos h2]
      rw [e2, if_pos h2]
      rw [if_neg (by omega), if_neg (by omega), if_neg (by omega)]
      by_cases c : a = i ∧ b = k
      · obtain ⟨rfl, rfl⟩ := c
        rw [if_pos ⟨rfl, rfl⟩, if_pos (by omega)]; omega
      · rw [if_neg c]
        by_cases d : a < i ∨ a = i ∧ b < k
        · rw [if_pos d, if_pos (by omega)]
        · rw [if_neg d, if_neg (by omega)]
    · have e2 : md H b = b - H := by unfold md; rw [if_neg h2]
      rw [e2, if_neg h2]
      rw [if_neg (by omega), if_neg (by omega)]
      by_cases c : a = i ∧ b = k + H
      · obtain ⟨rfl, rfl⟩ := c
        rw [if_pos ⟨rfl, rfl⟩, if_pos (by omega), show k + H - H = k from by omega]
      · rw [if_neg c, if_neg (by omega)]
        by_cases d : a < i ∨ a = i ∧ b - H < k
        · rw [if_pos d, if_pos (by omega)]
        · rw [if_neg d, if_neg (by omega)]
  · have e1 : md H a = a - H := by unfold md; rw [if_neg h1]
    rw [e1, if_neg h1]
    by_cases h2 : b < H
    · have e2 : md H b = b := by unfold md; rw [if_pos h2]
      rw [e2, if_pos h2]
      rw [if_neg (by omega)]
      by_cases c : a = i + H ∧ b = k
      · obtain ⟨rfl, rfl⟩ := c
        rw [if_pos ⟨rfl, rfl⟩, if_pos (by omega), show i + H - H = i from by omega]
      · rw [if_neg c, if_neg (by omega), if_neg (by omega)]
        by_cases d : a - H < i ∨ a - H = i ∧ b < k
        · rw [if_pos d, if_pos (by omega)]
        · rw [if_neg d, if_neg (by omega)]
    · have e2 : md H b = b - H := by unfold md; rw [if_neg h2]
      rw [e2, if_neg h2]
      by_cases c : a = i + H ∧ b = k + H
      · obtain ⟨rfl, rfl⟩ := c
        rw [if_pos ⟨rfl, rfl⟩, if_pos (by omega), show i + H - H = i from by omega, show k + H - H = k from by omega]
      · rw [if_neg c, if_neg (by omega), if_neg (by omega), if_neg (by omega)]
        by_cases d : a - H < i ∨ a - H = i ∧ b - H < k
        · rw [if_pos d, if_pos (by omega)]
        · rw [if_neg d, if_neg (by omega)]
end Go.Proofs.Ytjoanfgchapbaaa
