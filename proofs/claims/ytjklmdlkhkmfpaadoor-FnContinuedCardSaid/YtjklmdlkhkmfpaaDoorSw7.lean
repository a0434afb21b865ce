/- Standard words of at most four small numbers are words of lines: balanced, and as long as their numbers tell (by the kernel). -/
import Derived.Test.YtjklmdlkhkmfpaaDoorSt7
import Derived.Test.YtjklmdlkhkmfpaaDoorLin7
namespace Go.Proofs.YtjklmdlkhkmfpaaDoor
open Go.ChangeShapes Go.WideShapes Go.ChangeAt Go.RowKit Go.Deep
set_option linter.unusedVariables false
def rpL (l : List Int) : Nat → List Int
  | 0 => []
  | c + 1 => rpL l c ++ l
def stL : List Int → List Int → List Int → Option (List Int)
  | [], _, n => some n
  | x :: r, b, n => if (rpL n x.toNat ++ b).length ≤ 120 then stL r n (rpL n x.toNat ++ b) else none
theorem str_app (x y : List Int) : strOfNums (x ++ y) = strOfNums x ++ strOfNums y := by
  unfold strOfNums
  rw [bytes_app, List.map_append]
theorem rp_str (l : List Int) : ∀ c, repB (strOfNums l) c = strOfNums (rpL l c) := by
  intro c
  induction c with
  | zero => rfl
  | succ c ih => rw [repB_succ, ih, ← str_app]; rfl
theorem stGo_str : ∀ (zs b n : List Int), stGo zs (strOfNums b) (strOfNums n) = (stL zs b n).map strOfNums := by
  intro zs
  induction zs with
  | nil => intro b n; rfl
  | cons x r ih =>
    intro b n
    unfold stGo stL
    rw [rp_str, ← str_app, strOfNums_size, ih]
    split <;> rfl
/-- The length that the numbers tell, and the one before. -/
def lenF (zs : List Int) : Int × Int := zs.foldl (fun p n => (n * p.1 + p.2, p.1)) (1, 1)
theorem lenF_app (zs : List Int) (n : Int) : lenF (zs ++ [n]) = (n * (lenF zs).1 + (lenF zs).2, (lenF zs).1) := by unfold lenF; rw [List.foldl_append]; rfl
def lineOk (w : List Int) (n : Nat) (p : Int) : Bool := decide (1 ≤ p) && decide (p < n) && decide (n ≤ 120) && (decide (w = lnN p n p n) || decide (w = lnN p n (p - 1) n))
def stOk (zs : List Int) : Bool :=
  match stL zs [98] [97] with
  | none => true
  | some w => decide ((lenF zs).1 = w.length) && lineOk w w.length (w.map fun z => z - 97).sum
def allL : Nat → List (List Int)
  | 0 => [[]]
  | n + 1 => (allL n).flatMap fun l => [1 :: l, 2 :: l, 3 :: l]
theorem allL_mem : ∀ (zs : List Int), (∀ z ∈ zs, 1 ≤ z ∧ z ≤ 3) → zs ∈ allL zs.length := by
  intro zs
  induction zs with
  | nil => intro _; simp [allL]
  | cons a t ih =>
    intro h
    have h1 := ih (fun z hz => h z (List.mem_cons_of_mem _ hz))
    have h2 := h a (List.mem_cons_self ..)
    show a :: t ∈ (allL t.length).flatMap _
    rw [List.mem_flatMap]
    refine ⟨t, h1, ?_⟩
    have : a = 1 ∨ a = 2 ∨ a = 3 := by omega
    rcases this with rfl | rfl | rfl <;> simp
theorem stOk_all : ((allL 1).all stOk && (allL 2).all stOk && (allL 3).all stOk && (allL 4).all stOk) = true := by decide +kernel
theorem stOk_at {zs : List Int} (h1 : 1 ≤ zs.length) (h4 : zs.length ≤ 4) (h : ∀ z ∈ zs, 1 ≤ z ∧ z ≤ 3) : stOk zs = true := by
  have hm := allL_mem zs h
  have ha := stOk_all
  simp only [Bool.and_eq_true, List.all_eq_true] at ha
  have hn : zs.length = 1 ∨ zs.length = 2 ∨ zs.length = 3 ∨ zs.length = 4 := by omega
  rcases hn with e | e | e | e <;> rw [e] at hm
  · exact ha.1.1.1 _ hm
  · exact ha.1.1.2 _ hm
  · exact ha.1.2 _ hm
  · exact ha.2 _ hm
theorem st_good {zs : List Int} (h1 : 1 ≤ zs.length) (h4 : zs.length ≤ 4) (h : ∀ z ∈ zs, 1 ≤ z ∧ z ≤ 3) (hs : stB zs = true) :
    ((stS zs).size : Int) = (lenF zs).1 ∧ balB (stS zs) = true ∧ (stS zs).size ≤ 120 := by
  have hk := stOk_at h1 h4 h
  unfold stB at hs
  unfold stS
  have hO : stO zs = (stL zs [98] [97]).map strOfNums := by
    unfold stO at hs ⊢
    cases c : okTr zs 120
    · rw [c] at hs; simp at hs
    · simp only [if_true]
      exact stGo_str zs [98] [97]
  rw [hO] at hs ⊢
  unfold stOk at hk
  cases c : stL zs [98] [97] with
  | none => rw [c] at hs; simp at hs
  | some w =>
    rw [c] at hk
    simp only at hk
    rw [Bool.and_eq_true, decide_eq_true_eq] at hk
    obtain ⟨k1, k2⟩ := hk
    unfold lineOk at k2
    generalize (w.map fun z => z - 97).sum = p at k2
    simp only [Bool.and_eq_true, Bool.or_eq_true, decide_eq_true_eq] at k2
    obtain ⟨⟨⟨p1, p2⟩, p3⟩, p4⟩ := k2
    show ((strOfNums w).size : Int) = _ ∧ balB (strOfNums w) = true ∧ (strOfNums w).size ≤ 120
    rw [strOfNums_size]
    refine ⟨k1.symm, ?_, p3⟩
    rcases p4 with p4 | p4
    · have hb := lnW_bal (a := p) (d := (w.length : Int)) (s := p) (by omega) (by omega) (by omega) (by omega) p2 p3
      unfold lnW at hb
      rw [← p4] at hb; exact hb
    · have hb := lnW_bal (a := p) (d := (w.length : Int)) (s := p - 1) (by omega) (by omega) (by omega) (by omega) (by omega) p3
      unfold lnW at hb
      rw [← p4] at hb; exact hb
end Go.Proofs.YtjklmdlkhkmfpaaDoor
