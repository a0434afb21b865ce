/- Fractions out of their continued fractions: the program's side, with its panic and the recover of it. -/
import Derived.Test.YtjklmdlkhkmfpaaDoorAr7
import Derived.Defers
import Derived.Recover
import Derived.Laws.Pointers
import Derived.WalkLawsBesides
namespace Go.Proofs.YtjklmdlkhkmfpaaDoor
open Go.ChangeShapes Go.WideShapes Go.ChangeAt Go.RowKit Go.Deep
set_option linter.unusedVariables false
/-- The fraction with a continued fraction: numerator, denominator. -/
def fcP : List Int → Int × Int
  | [] => (1, 0)
  | a :: t => (a * (fcP t).1 + (fcP t).2, (fcP t).1)
/-- No numerator on the way is too great. -/
def fcO : List Int → Bool
  | [] => true
  | a :: t => fcO t && decide ((fcP (a :: t)).1 ≤ 1000000000)
def isC (zs : List Int) : Bool := !decide (zs.length = 0) && okTr zs 1000000000 && (decide (zs.length = 1) || !decide (zs.getD (zs.length - 1) 0 = 1))
def fcB (zs : List Int) : Bool := isC zs && fcO zs
def fcN (zs : List Int) : Int := if fcB zs then (fcP zs).1 else 0
def fcD (zs : List Int) : Int := if fcB zs then (fcP zs).2 else 0
theorem fc_bd : ∀ (zs : List Int), (∀ z ∈ zs, 0 ≤ z ∧ z ≤ 1000000000) → fcO zs = true → 0 ≤ (fcP zs).1 ∧ (fcP zs).1 ≤ 1000000000 ∧ 0 ≤ (fcP zs).2 ∧ (fcP zs).2 ≤ 1000000000 := by
  intro zs
  induction zs with
  | nil => intro _ _; simp [fcP]
  | cons a t ih =>
    intro h ho
    unfold fcO at ho
    rw [Bool.and_eq_true, decide_eq_true_eq] at ho
    obtain ⟨h1, h2, h3, h4⟩ := ih (fun z hz => h z (List.mem_cons_of_mem _ hz)) ho.1
    have ha := h a (List.mem_cons_self ..)
    refine ⟨?_, ho.2, h1, h2⟩
    show 0 ≤ a * (fcP t).1 + (fcP t).2
    have := Int.mul_nonneg ha.1 h1
    omega
theorem fc_step {a : Int} {t : List Int} (h : ∀ z ∈ a :: t, 0 ≤ z ∧ z ≤ 1000000000) (ho : fcO t = true) : 0 ≤ a * (fcP t).1 ∧ a * (fcP t).1 ≤ 1000000000000000000 := by
  obtain ⟨h1, h2, h3, h4⟩ := fc_bd t (fun z hz => h z (List.mem_cons_of_mem _ hz)) ho
  have ha := h a (List.mem_cons_self ..)
  exact ⟨Int.mul_nonneg ha.1 h1, by
    have : a * (fcP t).1 ≤ 1000000000 * 1000000000 := Int.mul_le_mul ha.2 h2 h1 (by omega)
    omega⟩
theorem isC_parts {zs : List Int} (h : isC zs = true) : zs.length ≠ 0 ∧ zs.length ≤ 20 ∧ ∀ z ∈ zs, 0 ≤ z ∧ z ≤ 1000000000 := by
  unfold isC okTr at h
  simp only [Bool.and_eq_true, Bool.not_eq_true', decide_eq_false_iff_not, decide_eq_true_eq] at h
  refine ⟨h.1.1, h.1.2.1, fun z hz => ?_⟩
  obtain ⟨k, hk, rfl⟩ := List.getElem_of_mem hz
  have := trmB_bd (trms_at h.1.2.2 hk)
  rw [getD_get zs k hk] at this
  exact this
theorem Ints.tail {w : World} {b off : Nat} {a : Int} {t : List Int} (h : Ints w (some ⟨b, off, none⟩) (a :: t)) (ht : t ≠ []) : Ints w (some ⟨b, off + 1, none⟩) t := by
  refine ⟨by have := h.small; simp at this; omega, fun z hz => h.wf z (List.mem_cons_of_mem _ hz), ?_⟩
  rcases h.at_ with h1 | ⟨b', o', h1, h2, h3⟩
  · simp at h1
  · simp at h1
    obtain ⟨rfl, rfl⟩ := h1
    refine .inr ⟨b, off + 1, rfl, h2, fun i hi => ?_⟩
    have := h3 (i + 1) (by simp; omega)
    rw [List.getD_cons_succ] at this
    rw [show off + 1 + i = off + (i + 1) by omega]; exact this
/-- A fraction in memory. -/
structure Fr2 (W : World) (b : Nat) (u0 u1 : Int) : Prop where
  c0 : W.cell? ⟨b, 0, none⟩ = some (.int .i64 u0)
  c1 : W.cell? ⟨b, 1, none⟩ = some (.int .i64 u1)
  f0 : W.frozen? ⟨b, 0, none⟩ = false
  f1 : W.frozen? ⟨b, 1, none⟩ = false
theorem Fr2.keep {W W' : World} {b B : Nat} {u0 u1 : Int} (h : Fr2 W b u0 u1) (k : Below B W W') (hb : b < B) : Fr2 W' b u0 u1 :=
  ⟨(k.cell (p := ⟨b, 0, none⟩) hb).trans h.c0, (k.cell (p := ⟨b, 1, none⟩) hb).trans h.c1, (k.frozen (p := ⟨b, 0, none⟩) hb).trans h.f0, (k.frozen (p := ⟨b, 1, none⟩) hb).trans h.f1⟩
theorem Fr2.new (w : World) : Fr2 (w.alloc (.cells #[.int .i64 0, .int .i64 0] 37)) w.heap.size 0 0 :=
  ⟨by simp [go_sem], by simp [go_sem], by simp [go_sem], by simp [go_sem]⟩
set_option maxHeartbeats 1600000 in
theorem isContinued_any (ad : Option Addr) (cap : Nat) (zs : List Int) (w : World) (hz : Ints w ad zs) :
    Calls Tryd.prog 13 #[.slice ad zs.length cap] w fun e w' => e = .returned (.bool (isC zs)) ∧ w = w' := by
  have hlen := hz.small
  by_cases h0 : zs.length = 0
  · have h0i : (zs.length : Int) = 0 := by omega
    rw [show isC zs = false from by unfold isC; rw [decide_eq_true h0]; rfl]
    go_enter Tryd.func13, Tryd.ntmps13
    go_wp2
    go_ret
    exact ⟨rfl, rfl⟩
  have h0i : ¬ (zs.length : Int) = 0 := by omega
  cases hok : okTr zs 1000000000
  · rw [show isC zs = false from by unfold isC; rw [hok, Bool.and_false]; rfl]
    go_enter Tryd.func13, Tryd.ntmps13
    go_wp2_with (go_at_call 16; refine (areTerms_any _ _ _ _ _ hz).mono ?_; rw [hok]; rintro e w' ⟨rfl, rfl⟩)
    go_ret
    exact ⟨rfl, rfl⟩
  have HV : Hid (isC zs = (decide (zs.length = 1) || !decide (zs.getD (zs.length - 1) 0 = 1))) := Lib.hid (by unfold isC; rw [hok, decide_eq_false h0]; rfl)
  rw [HV.out]
  rcases hz.at_ with h | ⟨b, off, rfl, hb1, hc⟩
  · subst h; simp at h0
  have hcx := hc (zs.length - 1) (by omega)
  clear hc
  have e1 : (zs.length : Int) - 1 = ((zs.length - 1 : Nat) : Int) := by omega
  have V1 : IntKind.i64.wrap ((zs.length : Int) - 1) = ((zs.length - 1 : Nat) : Int) := by rw [IntWalk.i64_in _ (by omega)]; exact e1
  have hlt : ((zs.length - 1 : Nat) : Int) < (zs.length : Int) := by omega
  have hge : ¬ ((zs.length - 1 : Nat) : Int) < 0 := by omega
  have HAT := Lib.hid (areTerms_any (some ⟨b, off, none⟩) cap zs 1000000000 w hz)
  rw [hok] at HAT
  clear hok HV hz e1
  by_cases h1 : zs.length = 1
  · have h1i : (zs.length : Int) = 1 := by omega
    rw [decide_eq_true h1, Bool.true_or]
    clear hcx V1 hlt hge h1 h0
    go_enter Tryd.func13, Tryd.ntmps13
    go_wp2_with (go_at_call 16; refine HAT.out.mono ?_; rintro e w' ⟨rfl, rfl⟩)
    go_ret
    exact ⟨rfl, rfl⟩
  · have h1i : ¬ (zs.length : Int) = 1 := by omega
    rw [decide_eq_false h1, Bool.false_or]
    generalize zs.getD (zs.length - 1) 0 = x at *
    generalize zs.length - 1 = m at *
    go_enter Tryd.func13, Tryd.ntmps13
    go_wp2_with (go_at_call 16; refine HAT.out.mono ?_; rintro e w' ⟨rfl, rfl⟩)
    go_ret
    exact ⟨ret_bool (by by_cases c : x = 1 <;> simp [c, h1i]), rfl⟩
end Go.Proofs.YtjklmdlkhkmfpaaDoor
