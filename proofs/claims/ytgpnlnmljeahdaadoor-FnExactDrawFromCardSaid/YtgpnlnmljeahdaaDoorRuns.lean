/- Running sums: a list mapped by a function literal that writes a variable of its maker. -/
import Derived.Test.YtgpnlnmljeahdaaDoorDivs
import Derived.Test.YtgpnlnmljeahdaaDoorErrs
import Derived.RangeFuncBox
namespace Go.Proofs.YtgpnlnmljeahdaaDoor
open Go.ChangeShapes Go.WideShapes Go.ChangeAt Go.RowKit
set_option linter.unusedVariables false
theorem grown_set {a w : World} {row : Option Nat} {c : Nat} (h : a.grownBy w row) (hc : a.heap.size ≤ c ∨ row = some c) (v : Value) (off : Nat) : a.grownBy (w.setCell ⟨c, off, none⟩ v) row := by
  refine ⟨h.os, h.tape, h.output, by simpa [World.setCell] using h.size, fun k hk hr => ?_⟩
  rw [← h.block k hk hr]
  exact Below.heap_setCell _ _ _ _ (by
    show k ≠ c
    rcases hc with h1 | h1
    · omega
    · rw [h1] at hr; exact fun e => hr (by rw [e]))
theorem fill_get_of (ψ : List Int) (n k : Nat) (hl : ψ.length = n) (h : k < n) (z : Value) : (vals (ψ.take k) ++ List.replicate (n - k) z)[k]? = some z := by
  subst hl; exact fill_get ψ k h z
theorem fill_set_of (ψ : List Int) (n k : Nat) (hl : ψ.length = n) (h : k < n) (z : Value) : (vals (ψ.take k) ++ List.replicate (n - k) z).set k (.int .i64 (ψ.getD k 0)) = vals (ψ.take (k + 1)) ++ List.replicate (n - (k + 1)) z := by
  subst hl; exact fill_set ψ k h z
theorem Own.grown {w w' : World} {B c : Nat} {ad : Option Addr} {cap : Nat} {zs : List Int} (h : Own w B ad cap zs) (k : w.grownBy w' (some c)) (hc : c < B) : Own w' B ad cap zs := by
  refine ⟨h.1.kept k ?_, h.2⟩
  rcases own_block h.1 with ⟨rfl, _⟩ | ⟨g, rfl, h1, _⟩
  · exact .inl rfl
  · right; simp [Value.ownBlock]; omega
set_option maxHeartbeats 1600000 in
theorem mappedRun_any (c : Nat) (s : Nat → Int) (ψ : List Int) (p1 p2 p3 : Value) (ad : Option Addr) (cap : Nat) (zs : List Int) (w : World) (hl : ψ.length = zs.length) (hs : zs.length ≤ 1099511627776) (hin : ∀ z ∈ ψ, In64 z)
    (hc : Go.Boxed w c 2 (.int .i64 (s 0))) (hz : ∀ W, w.grownBy W (some c) → Ints W ad zs)
    (hf : ∀ k, k < zs.length → ∀ W, w.grownBy W (some c) → Go.Boxed W c 2 (.int .i64 (s k)) → ∀ x, x = zs.getD k 0 → Calls Tryd.prog 126 (#[.int .i64 x] ++ #[p1]) W fun e w' => e = .returned (.int .i64 (ψ.getD k 0)) ∧ w' = W.setCell ⟨c, 0, none⟩ (.int .i64 (s (k + 1)))) :
    Calls Tryd.prog 67 #[.slice ad zs.length cap, .func (.func 126) #[] #[p1]] w fun e w' =>
      ∃ rd rc, e = .returned (.slice rd ψ.length rc) ∧ Own w' w.heap.size rd rc ψ ∧ w.grownBy w' (some c) := by
  obtain ⟨i0, hi, hz0, hz1, hz2⟩ := info_parts Tryd.infoI
  have hb8 : i0.bytes * zs.length ≤ 281474976710656 := by rw [hz2]; omega
  have hml : zs.length ≤ maxLen := by unfold maxLen; omega
  have HF := Lib.hid hf; clear hf
  have HZ := Lib.hid hz; clear hz
  have HL := Lib.hid hl; clear hl
  have hcs := hc.lt
  have HC := Lib.hid hc; clear hc
  have hlen := (HZ.out w (keep_grown (Below.refl _ _) _)).small
  go_enter Tryd.func67, Tryd.ntmps67
  go_wp2_with (at_make; refine wpList_make_full w rfl _ _ 24 rfl w.heap.size 2 i0 (.int .i64 0) 1 Tryd.underlying24 hi hz0 hz1 .i64 .i64 _ _ zs.length rfl rfl rfl rfl hb8 hml (Nat.le_refl _) ?_)
  intro w0 hown0 hgrow0
  have hown0 : w0.ownsRow w.heap.size 2 1 (.slice (some ⟨w.heap.size, 0, none⟩) zs.length zs.length) zs.length (List.replicate zs.length (.int .i64 0)) := by simpa [Value.cells, toList_madeCells_one] using hown0
  have hk0 : Keep w w0 := (Below.refl _ _).grown hgrow0 (Nat.le_refl _) (fun k h => by cases h)
  clear hgrow0
  have hg0 := keep_grown hk0 (some c)
  have HC0 := Lib.hid (Go.Boxed.kept HC.out (keep_grown hk0 none) (by simp))
  obtain ⟨B, hB⟩ : ∃ B, B = w.heap.size := ⟨_, rfl⟩
  rw [← hB] at hown0 hcs ⊢
  have HB := Lib.hid hB; clear hB
  go_wp2
  go_loopw [6, 7, 13] (fun _ _ i wr => ∃ k : Nat, k ≤ zs.length ∧ i = .int .i64 k ∧ wr.ownsRow B 2 1 (.slice (some ⟨B, 0, none⟩) zs.length zs.length) zs.length (vals (ψ.take k) ++ List.replicate (zs.length - k) (.int .i64 0)) ∧ Hid (w.grownBy wr (some c)) ∧ Hid (Go.Boxed wr c 2 (.int .i64 (s k))))
    (fun _ _ i _ => zs.length - (intOf i).toNat)
  case atStart => exact ⟨0, Nat.zero_le _, rfl, by simpa using hown0, Lib.hid hg0, HC0⟩
  case round =>
    obtain ⟨k, hk, rfl, hown, HG, HX⟩ := hrel
    by_cases hlt : k < zs.length
    · rcases (HZ.out wr HG.out).at_ with h | ⟨b, off, rfl, hb, hc⟩
      · subst h; simp at hlt
      have hcx : wr.cell? ⟨b, off + k, none⟩ = some (.int .i64 (zs.getD k 0)) := hc k hlt
      have hown2 := ownsRow_setCell_other (a := ⟨c, 0, none⟩) hown (by simp [Value.ownBlock]; omega) (.int .i64 (s (k + 1)))
      have hcy : (wr.setCell ⟨c, 0, none⟩ (.int .i64 (s (k + 1)))).cell? ⟨B, k, none⟩ = some (.int .i64 0) := by rw [hown2.cellAt k (by omega), fill_get_of ψ zs.length k HL.out hlt]
      have hfy := hown2.frozenAt k
      have HST := Lib.hid (hown2.stored k (.int .i64 (ψ.getD k 0)))
      have HE := Lib.hid (fill_set_of ψ zs.length k HL.out hlt (.int .i64 0))
      have HFX := Lib.hid (HF.out k hlt wr HG.out HX.out)
      have HG2 := Lib.hid (grown_set (grown_set HG.out (.inr rfl) (.int .i64 (s (k + 1))) 0) (c := B) (.inl (by rw [HB.out]; omega)) (.int .i64 (ψ.getD k 0)) k)
      have HX2 := Lib.hid (Go.Boxed.kept (HX.out.set (.int .i64 (s (k + 1)))) (grown_set (keep_grown (Below.refl _ _) (some B)) (.inr rfl) (.int .i64 (ψ.getD k 0)) k) (by simp; omega))
      clear hc hown
      generalize wr.setCell ⟨c, 0, none⟩ (.int .i64 (s (k + 1))) = w2 at *
      generalize zs.getD k 0 = x at hcx HFX
      go_wp2_with (go_at_call 126; refine (HFX.out x rfl).mono ?_; rintro e w' ⟨rfl, rfl⟩)
      go_roundw
      case rel =>
        obtain ⟨s1, s2⟩ := HST.out
        rw [HE.out] at s1
        exact ⟨k + 1, by omega, by go_num, s1, HG2, HX2⟩
      case measure => simp [intOf]; omega
    · go_wp2
      go_ret
      have he := Lib.hid (show k = zs.length from by omega)
      have e := HB.out
      have hl := HL.out
      refine ⟨some ⟨B, 0, none⟩, zs.length, by rw [hl]; rfl, ⟨?_, by rw [hl]; exact hs, hin⟩, HG.out⟩
      rw [← e, hl]
      have h := hown
      rw [he.out, Nat.sub_self, ← hl, List.take_length, hl] at h
      simpa using h
/-- The running sums of a list. -/
def preS (zs : List Int) : List Int := (List.range zs.length).map fun k => (zs.take (k + 1)).sum
theorem preS_len (zs : List Int) : (preS zs).length = zs.length := by simp [preS]
theorem preS_get (zs : List Int) (k : Nat) (h : k < zs.length) : (preS zs).getD k 0 = (zs.take (k + 1)).sum := by simp [preS, List.getD_eq_getElem?_getD, h]
theorem preS_bd (M : Int) (hM : 0 ≤ M) (zs : List Int) (h : ∀ z ∈ zs, -M ≤ z ∧ z ≤ M) (hl : zs.length ≤ 40) : ∀ z ∈ preS zs, -(M * 40) ≤ z ∧ z ≤ M * 40 := by
  intro z hz
  unfold preS at hz
  obtain ⟨k, hk, rfl⟩ := List.mem_map.1 hz
  exact sum_take_bd M 40 hM zs h (by omega) (k + 1)
theorem clos_run (x s : Int) (c : Nat) (w : World) (hb : Go.Boxed w c 2 (.int .i64 s)) (h1 : -2000000000000 ≤ x) (h2 : x ≤ 2000000000000) (h3 : -1000000000000000 ≤ s) (h4 : s ≤ 1000000000000000) :
    Calls Tryd.prog 126 #[.int .i64 x, .pointer (some ⟨c, 0, none⟩)] w fun e w' => e = .returned (.int .i64 (s + x)) ∧ w' = w.setCell ⟨c, 0, none⟩ (.int .i64 (s + x)) := by
  have c0 := hb.cell
  have f0 := hb.frozen
  have HB2 := Lib.hid (hb.set (.int .i64 (s + x))); 
  have c2 := HB2.out.cell
  go_enter Tryd.func126, Tryd.ntmps126
  go_wp2
  go_ret
  exact ⟨rfl, rfl⟩
set_option maxHeartbeats 1600000 in
theorem runningSums_any (ad : Option Addr) (cap : Nat) (zs : List Int) (w : World) (hz : Ints w ad zs) (hl : zs.length ≤ 40) (hb : ∀ z ∈ zs, -2000000000000 ≤ z ∧ z ≤ 2000000000000) :
    Calls Tryd.prog 79 #[.slice ad zs.length cap] w fun e w' => ∃ rd rc, e = .returned (.slice rd (preS zs).length rc) ∧ Own w' w.heap.size rd rc (preS zs) ∧ Keep w w' := by
  have HB := Lib.hid hb; clear hb
  have hps := preS_bd 2000000000000 (by omega) zs HB.out hl
  have HP := Lib.hid (fun z hz => (⟨by have := hps z hz; omega, by have := hps z hz; omega⟩ : In64 z)); clear hps
  have hlen := hz.small
  go_enter Tryd.func79, Tryd.ntmps79
  go_wp2_with fail
  have hbx : Go.Boxed (w.alloc (.cells #[.int .i64 0] 2)) w.heap.size 2 (.int .i64 0) := Go.Boxed.new w _ _
  have h0 : Keep w (w.alloc (.cells #[.int .i64 0] 2)) := by go_grown
  refine (mappedRun_any w.heap.size (fun k => (zs.take k).sum) (preS zs) _ (.bool true) (.bool true) ad cap zs _ (preS_len zs) (by omega) HP.out (by simpa using hbx) (fun W g => ?_) (fun k hk W g hx x e => ?_)).mono ?_
  · have h1 : Keep w W := h0.grown g (by simp) (fun k e => by cases e; exact Nat.le_refl _)
    exact hz.keep h1 (Nat.le_refl _)
  · subst e
    have hs := sum_take_bd 2000000000000 40 (by omega) zs HB.out (by omega) k
    have hx2 := HB.out _ (getD_mem zs k hk)
    have e1 := sum_take_succ zs k hk
    have e2 := preS_get zs k hk
    rw [e2]
    show Calls Tryd.prog 126 #[.int .i64 (zs.getD k 0), .pointer (some ⟨w.heap.size, 0, none⟩)] W fun e w' => e = .returned (.int .i64 (zs.take (k + 1)).sum) ∧ w' = W.setCell ⟨w.heap.size, 0, none⟩ (.int .i64 (zs.take (k + 1)).sum)
    rw [e1]
    exact clos_run _ _ _ W hx (by omega) (by omega) (by omega) (by omega)
  rintro e w1 ⟨rd, rc, rfl, o1, g1⟩
  have g2 : Keep w w1 := h0.grown g1 (by simp) (fun k e => by cases e; exact Nat.le_refl _)
  have o2 := o1.mono (B' := w.heap.size) (by simp)
  go_wp2
  go_ret
  exact ⟨rd, rc, rfl, o2, g2⟩
end Go.Proofs.YtgpnlnmljeahdaaDoor
