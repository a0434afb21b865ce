/- Fractions out of their continued fractions: the recursion, and its panic. -/
import Derived.Test.YtjklmdlkhkmfpaaDoorFc7
import Derived.BigQuiet
import Derived.Deep.Cut
namespace Go.Proofs.YtjklmdlkhkmfpaaDoor
open Go.ChangeShapes Go.WideShapes Go.ChangeAt Go.RowKit Go.Deep
set_option linter.unusedVariables false
theorem code_gen7 {P : Program} {c : Code} {Q : Exit → Act → World → Prop} {a : Act} {W : World} (h : ∀ W2, W2 = W → Code.wp P c Q a W2) : Code.wp P c Q a W := h W rfl
set_option maxHeartbeats 1600000 in
theorem fractionOf_any : ∀ (t : List Int) (a : Int) (ad : Option Addr) (cap n : Nat) (w : World), n = t.length + 1 → n ≤ 20 → Ints w ad (a :: t) → n ≤ cap → (∀ z ∈ a :: t, 0 ≤ z ∧ z ≤ 1000000000) →
    Calls Tryd.prog 15 #[.slice ad n cap] w fun e w' => ((fcO (a :: t) = true ∧ e = .returned (.agg #[.int .i64 (fcP (a :: t)).1, .int .i64 (fcP (a :: t)).2])) ∨ (fcO (a :: t) = false ∧ ∃ T v, e = .panicked [{ v := .iface T v, recovered := false }])) ∧ Keep w w' := by
  intro t
  induction t with
  | nil =>
    intro a ad cap n w hn h20 hz hcap hb
    simp only [List.length_nil, Nat.zero_add] at hn
    subst hn
    have ha := hb a (List.mem_cons_self ..)
    rcases hz.at_ with h | ⟨b, off, rfl, hb1, hc⟩
    · simp at h
    have hc0 : w.cell? ⟨b, off, none⟩ = some (.int .i64 a) := hc 0 (by simp)
    have hcx : (w.alloc (.cells #[.int .i64 0, .int .i64 0] 37)).cell? ⟨b, off, none⟩ = some (.int .i64 a) := ((show Keep w (w.alloc (.cells #[.int .i64 0, .int .i64 0] 37)) by go_grown).cell (p := ⟨b, off, none⟩) hb1).trans hc0
    rw [show fcO [a] = true from by unfold fcO; simp [fcO, fcP]; omega, show fcP [a] = (a, 1) from by simp [fcP]]
    clear hc hc0 hz hb
    go_enter Tryd.func15, Tryd.ntmps15
    go_wp2
    refine bodyPost_ret (v := .agg #[.int .i64 a, .int .i64 1]) (by simp [results, Tryd.results15, go_sem]) rfl ?_
    exact ⟨.inl ⟨trivial, rfl⟩, by go_grown⟩
  | cons x u ih =>
    intro a ad cap n w hn h20 hz hcap hb
    rcases hz.at_ with h | ⟨b, off, rfl, hb1, hc⟩
    · simp at h
    have hc0 : w.cell? ⟨b, off, none⟩ = some (.int .i64 a) := hc 0 (by simp)
    have K0 : Keep w (w.alloc (.cells #[.int .i64 0, .int .i64 0] 37)) := by go_grown
    have F0 := Fr2.new w
    have hs0 : (w.alloc (.cells #[.int .i64 0, .int .i64 0] 37)).heap.size = w.heap.size + 1 := by simp
    have HIH := Lib.hid (ih x (some ⟨b, off + 1, none⟩) (cap - 1) (n - 1) (w.alloc (.cells #[.int .i64 0, .int .i64 0] 37)) (by simp at hn; omega) (by omega) ((hz.tail (by simp)).keep K0 (Nat.le_refl _)) (by omega) (fun z hz => hb z (List.mem_cons_of_mem _ hz)))
    have hst := fun ho => fc_step hb ho
    have hbd := fun ho => fc_bd (x :: u) (fun z hz => hb z (List.mem_cons_of_mem _ hz)) ho
    have hE : fcO (a :: x :: u) = (fcO (x :: u) && decide (a * (fcP (x :: u)).1 + (fcP (x :: u)).2 ≤ 1000000000)) := rfl
    have hP : fcP (a :: x :: u) = (a * (fcP (x :: u)).1 + (fcP (x :: u)).2, (fcP (x :: u)).1) := rfl
    rw [hE, hP]
    simp only [List.length_cons] at hn
    have hn1 : ¬ (n : Int) = 1 := by omega
    have hc1 : ¬ cap = 1 := by omega
    have hle : (1 : Int) ≤ (n : Int) := by omega
    have hn0 : (0 : Int) < (n : Int) := by omega
    have hn2 : ((n : Int) == 1) = false := by simp; omega
    clear hc hE hP hb hz ih hn
    generalize fcO (x :: u) = ok at *
    generalize (fcP (x :: u)).1 = p at *
    generalize (fcP (x :: u)).2 = q at *
    generalize hW0 : w.alloc (.cells #[.int .i64 0, .int .i64 0] 37) = w0 at *
    have HW0 := Lib.hid hW0
    clear hW0
    have HK0 := Lib.hid K0
    have HF0 := Lib.hid F0
    have HC0 : Hid (w0.cell? ⟨b, off, none⟩ = some (.int .i64 a)) := Lib.hid ((K0.cell (p := ⟨b, off, none⟩) hb1).trans hc0)
    clear K0 F0 hc0
    go_enter Tryd.func15, Tryd.ntmps15
    go_wp2_with fail
    rw [HW0.out]
    refine HIH.out.mono ?_
    rintro e w1 ⟨h, k1⟩
    rcases h with ⟨ho, rfl⟩ | ⟨ho, T, v, rfl⟩
    · obtain ⟨s1, s2⟩ := hst ho
      obtain ⟨s3, s4, s5, s6⟩ := hbd ho
      subst ho
      have V1 : IntKind.i64.wrap (a * p) = a * p := IntWalk.i64_in _ (by omega)
      have V2 : IntKind.i64.wrap (a * p + q) = a * p + q := IntWalk.i64_in _ (by omega)
      have hs1 := k1.size
      have HK1 : Hid (Keep w w1) := Lib.hid (HK0.out.next k1)
      have HF1 : Hid (Fr2 w1 w.heap.size 0 0) := Lib.hid (HF0.out.keep k1 (by omega))
      have HC1 : Hid (w1.cell? ⟨b, off, none⟩ = some (.int .i64 a)) := Lib.hid ((k1.cell (p := ⟨b, off, none⟩) (by show b < w0.heap.size; omega)).trans HC0.out)
      clear k1
      go_upto_region 4 with fail
      refine code_gen7 (fun W5 hW5 => ?_)
      have hs5 : W5.heap.size = w1.heap.size + 1 := by rw [hW5]; simp
      have K5 : Keep w1 W5 := by rw [hW5]; go_grown
      obtain ⟨x0, x1, y0, y1⟩ : Fr2 W5 w1.heap.size p q := by
        rw [hW5]; exact ⟨by simp [go_sem], by simp [go_sem], by simp [go_sem], by simp [go_sem]⟩
      obtain ⟨r0, r1, g0, g1⟩ : Fr2 W5 w.heap.size 0 0 := HF1.out.keep K5 (by omega)
      have hcx : W5.cell? ⟨b, off, none⟩ = some (.int .i64 a) := (K5.cell (p := ⟨b, off, none⟩) (by show b < w1.heap.size; omega)).trans HC1.out
      have HK5 : Hid (Keep w W5) := Lib.hid (HK1.out.next K5)
      clear hW5 K5 HF1 HC1 HIH HC0 HF0 HK0
      go_wp2
      go_quiet (fail)
      by_cases hle2 : a * p + q ≤ 1000000000
      · have hgt : ¬ (1000000000 : Int) < a * p + q := by omega
        have HL := Lib.hid hle2
        clear hle2
        generalize hvv : a * p + q = v at *
        have HVV := Lib.hid hvv
        clear hvv
        go_wp2
        refine bodyPost_ret (v := .agg #[.int .i64 v, .int .i64 p]) (by simp [results, Tryd.results15, go_sem, r0, r1]) rfl ?_
        have HKD : Hid (Keep w (W5.drewN nq)) := Lib.hid (below_drewN HK5.out _)
        exact ⟨.inl ⟨by rw [HVV.out]; exact HL.out, by rw [HVV.out]⟩, (HKD.out.setCell (Nat.le_refl _) _).setCell (Nat.le_refl _) _⟩
      · have hgt : (1000000000 : Int) < a * p + q := by omega
        have HL := Lib.hid hle2
        clear hle2
        generalize hvv : a * p + q = v at *
        have HVV := Lib.hid hvv
        clear hvv
        go_wp2
        have HKD : Hid (Keep w (W5.drewN nq)) := Lib.hid (below_drewN HK5.out _)
        exact ⟨rfl, .inr ⟨by rw [HVV.out]; exact hgt, _, _, rfl⟩, HKD.out.trans (by go_grown)⟩
    · exact ⟨rfl, .inr ⟨by rw [ho]; rfl, T, v, rfl⟩, HK0.out.next k1⟩
end Go.Proofs.YtjklmdlkhkmfpaaDoor
