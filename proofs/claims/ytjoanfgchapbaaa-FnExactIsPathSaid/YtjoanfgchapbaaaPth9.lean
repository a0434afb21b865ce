/- Paths through pictures: what one is. -/
import Derived.Test.YtjoanfgchapbaaaDbl9
import Derived.Test.YtjoanfgchapbaaaSq9
import Derived.Test.YtjoanfgchapbaaaGrd9
import Derived.Test.YtjoanfgchapbaaaPicI
import Derived.Test.YtjoanfgchapbaaaInts
import Derived.Deep.LoopGhost
namespace Go.Proofs.Ytjoanfgchapbaaa
open Go.ChangeShapes Go.WideShapes Go.ChangeAt Go.RowKit Go.Deep
set_option linter.unusedVariables false
def ptB (R C : Nat) (z : List Int) : Bool := decide (z.length = 2) && (inB (z.getD 0 0) 0 ((R : Int) - 1) && inB (z.getD 1 0) 0 ((C : Int) - 1))
def visB (pss : List (List Int)) (k : Nat) (a b : Int) : Bool := (List.range k).any fun j => decide ((pss.getD j []).getD 0 0 = a) && decide ((pss.getD j []).getD 1 0 = b)
def okP (R C : Nat) (pss : List (List Int)) (k : Nat) : Bool := ptB R C (pss.getD k []) && !visB pss k ((pss.getD k []).getD 0 0) ((pss.getD k []).getD 1 0)
def goB (R C : Nat) (pss : List (List Int)) : Bool := decide (pss.length = R * C) && (List.range pss.length).all (okP R C pss)
def pathB (zss pss : List (List Int)) : Bool := picB zss && goB zss.length (zss.getD 0 []).length pss
theorem go_no {R C : Nat} {pss : List (List Int)} {k : Nat} (h : k < pss.length) (e : okP R C pss k = false) : goB R C pss = false := by
  have : (List.range pss.length).all (okP R C pss) = false := by
    rw [List.all_eq_false]; exact ⟨k, List.mem_range.2 h, by rw [e]; simp⟩
  unfold goB; rw [this]; simp
theorem go_yes {R C : Nat} {pss : List (List Int)} (hl : pss.length = R * C) (h : ∀ k, k < pss.length → okP R C pss k = true) : goB R C pss = true := by
  have : (List.range pss.length).all (okP R C pss) = true := by
    rw [List.all_eq_true]; exact fun k hk => h k (List.mem_range.1 hk)
  unfold goB; rw [this, decide_eq_true hl]; rfl
theorem visB_zero (pss : List (List Int)) (a b : Int) : visB pss 0 a b = false := rfl
theorem visB_succ (pss : List (List Int)) (k : Nat) (a b : Int) : visB pss (k + 1) a b = (visB pss k a b || (decide ((pss.getD k []).getD 0 0 = a) && decide ((pss.getD k []).getD 1 0 = b))) := by
  unfold visB; rw [List.range_succ, List.any_append]; simp
/-- Whom the path has passed, as numbers. -/
def visF (pss : List (List Int)) (k : Nat) : Nat → Nat → Int := fun a b => if visB pss k a b then 1 else 0
theorem visF_zero (pss : List (List Int)) (a b : Nat) : visF pss 0 a b = 0 := by simp [visF, visB_zero]
theorem visF_step (pss : List (List Int)) (k a b : Nat) (ha : (pss.getD k []).getD 0 0 = (a : Int)) (hb : (pss.getD k []).getD 1 0 = (b : Int)) (x y : Nat) : upd2 (visF pss k) a b 1 x y = visF pss (k + 1) x y := by
  unfold upd2 visF
  rw [visB_succ, ha, hb]
  by_cases h : x = a ∧ y = b
  · rw [if_pos h]
    obtain ⟨rfl, rfl⟩ := h
    simp
  · rw [if_neg h]
    have : (decide ((a : Int) = (x : Int)) && decide ((b : Int) = (y : Int))) = false := by
      rw [Bool.and_eq_false_iff]
      by_cases e : x = a
      · right; exact decide_eq_false (fun e2 => h ⟨e, by omega⟩)
      · left; exact decide_eq_false (fun e2 => e (by omega))
    rw [this, Bool.or_false]
theorem storeNM {w : World} {lo cap B n m : Nat} {AD : Nat → Option Addr} {CP : Nat → Nat} {f : Nat → Nat → Int} (h : OwnR w lo (some ⟨B, 0, none⟩) cap AD CP (sqF n m f)) (i k : Nat) (hi : i < n) (hk : k < m) :
    ∃ g, w.cell? ⟨B, i, none⟩ = some (.slice (some ⟨g, 0, none⟩) m (CP i)) ∧ w.cell? ⟨g, k, none⟩ = some (.int .i64 (f i k)) ∧ w.frozen? ⟨g, k, none⟩ = false ∧ lo ≤ g ∧ OwnR (w.setCell ⟨g, k, none⟩ (.int .i64 1)) lo (some ⟨B, 0, none⟩) cap AD CP (sqF n m (upd2 f i k 1)) := by
  have hl := sqF_len n m f
  have hr := sqF_rowlen n m f i hi
  obtain ⟨g, e, h1, h2, h3, h4, _, h5⟩ := h.store i k (by omega) (by omega)
  have hh := h.head i (by omega)
  rw [e, hr] at hh
  rw [sqF_get n m f i k hi hk] at h3
  refine ⟨g, hh, h3, h4, h1, ?_⟩
  have := h5 1 (by unfold In64; omega)
  rw [sqF_set n m f i k hi 1] at this; exact this
end Go.Proofs.Ytjoanfgchapbaaa
