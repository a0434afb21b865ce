/- Fractions out of their continued fractions: the panic caught. -/
import Derived.Test.YtjklmdlkhkmfpaaDoorFc7b
namespace Go.Proofs.YtjklmdlkhkmfpaaDoor
open Go.ChangeShapes Go.WideShapes Go.ChangeAt Go.RowKit Go.Deep
set_option linter.unusedVariables false
theorem caught_panicking (p : Addr) (x : Bool) (u : TypeId) (pv : Value) (older : List PanicEntry) (w : World) (hc : w.cell? p = some (.bool x)) (hz : w.frozen? p = false) :
    CallsD Tryd.prog 14 #[.pointer (some p)] (.panicking ({ v := .iface u pv, recovered := false } :: older)) w fun e u' w' =>
      e = .returned (.tuple #[]) ∧ u' = .panicking ({ v := .iface u pv, recovered := true } :: older) ∧ w' = w.setCell p (.bool false) := by
  refine callsD_of_wpS Tryd.func14 rfl fun c₀ cs hu => ?_
  apply wpS_region
  simp [wpOpsS, go_sem, recoverD, hu, Tryd.ntmps14, hc, hz, bodyPostS, results, Tryd.results14]
theorem caught_idle (p : Addr) (x : Bool) (w : World) (hc : w.cell? p = some (.bool x)) (hz : w.frozen? p = false) :
    CallsD Tryd.prog 14 #[.pointer (some p)] .returning w fun e u' w' => e = .returned (.tuple #[]) ∧ u' = .returning ∧ w' = w.setCell p (.bool true) := by
  refine callsD_of_wpS Tryd.func14 rfl fun c₀ cs hu => ?_
  apply wpS_region
  simp [wpOpsS, go_sem, recoverD, hu, Tryd.ntmps14, hc, hz, bodyPostS, results, Tryd.results14]
  cases c₀
  simp_all
set_option maxHeartbeats 1600000 in
theorem FromContinued_any (ad : Option Addr) (cap : Nat) (zs : List Int) (w : World) (hz : Ints w ad zs) (hcap : zs.length ≤ cap) :
    Calls Tryd.prog 7 #[.slice ad zs.length cap] w fun e w' => e = .returned (.tuple #[.int .i64 (fcN zs), .int .i64 (fcD zs), .bool (fcB zs)]) ∧ Keep w w' := by
  have hmf : ∀ (fn : Fn) (first cap : Array Value) (w : World), (Instr.makeFunc fn first cap).run Tryd.prog w = .ok (.func fn first cap) w := fun _ _ _ _ => rfl
  cases hC : isC zs
  · rw [show fcN zs = 0 from by unfold fcN fcB; rw [hC]; rfl, show fcD zs = 0 from by unfold fcD fcB; rw [hC]; rfl, show fcB zs = false from by unfold fcB; rw [hC]; rfl]
    have HI := Lib.hid (fun W (k : Keep w W) => isContinued_any ad cap zs W (hz.keep k (Nat.le_refl _)))
    rw [hC] at HI
    go_enter_defers Tryd.func7, Tryd.ntmps7
    go_wp2_with (go_at_call 13; refine (HI.out _ (by go_grown)).mono ?_; rintro e w' ⟨rfl, rfl⟩)
    simp [bodyPostD, Leaves, results, Tryd.results7, go_sem]
    go_grown
  obtain ⟨h0, h20, hb⟩ := isC_parts hC
  have hlen : zs.length = (zs.length - 1) + 1 := by omega
  obtain ⟨n, hn⟩ : ∃ n, n = zs.length := ⟨_, rfl⟩
  have HI := Lib.hid (fun W (k : Keep w W) => isContinued_any ad cap zs W (hz.keep k (Nat.le_refl _)))
  have HF : Hid (∀ W, Keep w W → Calls Tryd.prog 15 #[.slice ad zs.length cap] W fun e w' => ((fcO zs = true ∧ e = .returned (.agg #[.int .i64 (fcP zs).1, .int .i64 (fcP zs).2])) ∨ (fcO zs = false ∧ ∃ T v, e = .panicked [{ v := .iface T v, recovered := false }])) ∧ Keep W w') := by
    cases zs with
    | nil => simp at h0
    | cons a t => exact Lib.hid (fun W (k : Keep w W) => fractionOf_any t a ad cap (a :: t).length W (by simp) h20 (hz.keep k (Nat.le_refl _)) hcap hb)
  rw [hC] at HI
  have HN : Hid (fcN zs = if fcO zs then (fcP zs).1 else 0) := Lib.hid (by unfold fcN fcB; rw [hC, Bool.true_and])
  have HD : Hid (fcD zs = if fcO zs then (fcP zs).2 else 0) := Lib.hid (by unfold fcD fcB; rw [hC, Bool.true_and])
  have HB : Hid (fcB zs = fcO zs) := Lib.hid (by unfold fcB; rw [hC, Bool.true_and])
  rw [HN.out, HD.out, HB.out]
  rw [← hn] at HI HF ⊢
  have HA0 : Hid (∀ W, Keep (w.alloc (.cells #[.bool false] 4)) W → W.cell? ⟨w.heap.size, 0, none⟩ = some (.bool false) ∧ W.frozen? ⟨w.heap.size, 0, none⟩ = false) := Lib.hid (fun W k =>
    ⟨(k.cell (p := ⟨w.heap.size, 0, none⟩) (by simp)).trans (by simp [go_sem]), (k.frozen (p := ⟨w.heap.size, 0, none⟩) (by simp)).trans (by simp [go_sem])⟩)
  have HK0 : Hid (Keep w (w.alloc (.cells #[.bool false] 4))) := Lib.hid (by go_grown)
  clear hC HN HD HB hn hlen h0 h20 hb hcap hz
  cases ho : fcO zs
  · rw [ho] at HF
    go_enter_defers Tryd.func7, Tryd.ntmps7
    go_wp2_with (first | (go_at_call 13; refine (HI.out _ (by go_grown)).mono ?_; rintro e w' ⟨rfl, rfl⟩) | (go_at_call 15; refine (HF.out _ (by go_grown)).mono ?_; rintro e w1 ⟨⟨h, _⟩ | ⟨_, T, v, rfl⟩, k1⟩; exact absurd h Bool.false_ne_true))
    have HC := HA0.out _ k1
    refine leaves_cons (f := 14) (args := #[.pointer (some ⟨w.heap.size, 0, none⟩)]) (by simp) (by simp [go_sem]) ?_
    refine (caught_panicking ⟨w.heap.size, 0, none⟩ false T v [] _ HC.1 HC.2).mono ?_
    rintro e u' w'' ⟨rfl, rfl, rfl⟩
    have hcs : (w1.setCell ⟨w.heap.size, 0, none⟩ (.bool false)).cell? ⟨w.heap.size, 0, none⟩ = some (.bool false) := World.cell?_setCell_same _ _ _ HC.1
    simp [Leaves, settle, results, Tryd.results7, go_sem, hcs]
    exact (HK0.out.next k1).setCell (Nat.le_refl _) _
  · rw [ho] at HF
    generalize (fcP zs).1 = p at *
    generalize (fcP zs).2 = q at *
    go_enter_defers Tryd.func7, Tryd.ntmps7
    go_wp2_with (first | (go_at_call 13; refine (HI.out _ (by go_grown)).mono ?_; rintro e w' ⟨rfl, rfl⟩) | (go_at_call 15; refine (HF.out _ (by go_grown)).mono ?_; rintro e w1 ⟨⟨_, rfl⟩ | ⟨h, _⟩, k1⟩; rotate_left; exact absurd h.symm Bool.false_ne_true))
    refine code_gen7 (fun W5 hW5 => ?_)
    have K5 : Keep w1 W5 := by rw [hW5]; go_grown
    obtain ⟨x0, x1, y0, y1⟩ : Fr2 W5 w1.heap.size p q := by
      rw [hW5]; exact ⟨by simp [go_sem], by simp [go_sem], by simp [go_sem], by simp [go_sem]⟩
    obtain ⟨HC, HC2⟩ := HA0.out _ (k1.next K5)
    have HK5 : Hid (Keep w W5) := Lib.hid ((HK0.out.next k1).next K5)
    clear hW5 K5 k1 HA0 HK0 HI HF
    go_region
    go_wp2
    have hcs : (W5.setCell ⟨w.heap.size, 0, none⟩ (.bool true)).drew.cell? ⟨w.heap.size, 0, none⟩ = some (.bool true) := by
      have h : (W5.setCell ⟨w.heap.size, 0, none⟩ (.bool true)).cell? ⟨w.heap.size, 0, none⟩ = some (.bool true) := World.cell?_setCell_same _ _ _ HC
      simpa [go_sem] using h
    have hfs : (W5.setCell ⟨w.heap.size, 0, none⟩ (.bool true)).drew.frozen? ⟨w.heap.size, 0, none⟩ = false := by
      have h : (W5.setCell ⟨w.heap.size, 0, none⟩ (.bool true)).frozen? ⟨w.heap.size, 0, none⟩ = false := by simpa [go_sem] using HC2
      simpa [go_sem] using h
    have HK6 : Hid (Keep w (W5.setCell ⟨w.heap.size, 0, none⟩ (.bool true)).drew) := Lib.hid ((HK5.out.setCell (Nat.le_refl _) _).trans (by go_grown))
    generalize (W5.setCell ⟨w.heap.size, 0, none⟩ (.bool true)).drew = W6 at *
    refine leaves_cons (f := 14) (args := #[.pointer (some ⟨w.heap.size, 0, none⟩)]) (by simp) (by simp [go_sem]) ?_
    refine (caught_idle ⟨w.heap.size, 0, none⟩ true _ hcs hfs).mono ?_
    rintro e u' w'' ⟨rfl, rfl, rfl⟩
    have hcs2 : (W6.setCell ⟨w.heap.size, 0, none⟩ (.bool true)).cell? ⟨w.heap.size, 0, none⟩ = some (.bool true) := World.cell?_setCell_same _ _ _ hcs
    simp [Leaves, settle, results, Tryd.results7, go_sem, hcs2]
    exact HK6.out.setCell (Nat.le_refl _) _
end Go.Proofs.YtjklmdlkhkmfpaaDoor
