/- Valid kernels: what one is; the program's look at one. -/
import Derived.Test.YtjoanfgchapbaaaTaps
import Derived.Test.YtjoanfgchapbaaaInts
import Derived.Maps.OwnOps
import Derived.Maps.OwnSet
import Derived.Maps.Keyed
import Derived.WideKeyPair
import Derived.Deep.LoopGhost
namespace Go.Proofs.Ytjoanfgchapbaaa
open Go.ChangeShapes Go.WideShapes Go.ChangeAt Go.RowKit Go.Deep Go.Maps Go.WideMaps
set_option linter.unusedVariables false
def tapB (g d r p : Int) : Bool := inB d 0 2 && (inB r (-2) 2 && ((decide (1 ≤ d) || decide (1 ≤ r)) && inB p 1 g))
def seenB (zs : List Int) (k : Nat) (d r : Int) : Bool := (List.range k).any fun j => decide (zs.getD (j * 3) 0 = d) && decide (zs.getD (j * 3 + 1) 0 = r)
def okT (g : Int) (zs : List Int) (k : Nat) : Bool := tapB g (zs.getD (k * 3) 0) (zs.getD (k * 3 + 1) 0) (zs.getD (k * 3 + 2) 0) && !seenB zs k (zs.getD (k * 3) 0) (zs.getD (k * 3 + 1) 0)
def sumT (zs : List Int) : Nat → Int
  | 0 => 0
  | k + 1 => sumT zs k + zs.getD (k * 3 + 2) 0
def krB (g : Int) (n : Nat) (zs : List Int) : Bool := inB g 1 64 && (decide (n ≤ 12) && ((List.range n).all (okT g zs) && decide (sumT zs n ≤ g)))
theorem kr_no {g : Int} {n : Nat} {zs : List Int} {k : Nat} (h : k < n) (e : okT g zs k = false) : krB g n zs = false := by
  have : (List.range n).all (okT g zs) = false := by
    rw [List.all_eq_false]; exact ⟨k, List.mem_range.2 h, by rw [e]; simp⟩
  unfold krB; rw [this]; simp
theorem kr_yes {g : Int} {n : Nat} {zs : List Int} (hb : inB g 1 64 = true) (h12 : n ≤ 12) (h : ∀ k, k < n → okT g zs k = true) : krB g n zs = decide (sumT zs n ≤ g) := by
  have : (List.range n).all (okT g zs) = true := by
    rw [List.all_eq_true]; exact fun k hk => h k (List.mem_range.1 hk)
  unfold krB; rw [this, hb, decide_eq_true h12]; simp
theorem okT_part {g : Int} {zs : List Int} {k : Nat} (h : okT g zs k = true) : 1 ≤ zs.getD (k * 3 + 2) 0 ∧ zs.getD (k * 3 + 2) 0 ≤ g := by
  unfold okT tapB at h
  simp only [Bool.and_eq_true] at h
  exact inB_iff.1 h.1.2.2.2
theorem sumT_bd {g : Int} {zs : List Int} (hg : g ≤ 64) : ∀ k, (∀ j, j < k → okT g zs j = true) → 0 ≤ sumT zs k ∧ sumT zs k ≤ 64 * (k : Int)
  | 0, _ => by simp [sumT]
  | k + 1, h => by
    have a := sumT_bd hg k (fun j hj => h j (by omega))
    have b := okT_part (h k (by omega))
    simp only [sumT]
    omega
theorem seenB_zero (zs : List Int) (d r : Int) : seenB zs 0 d r = false := rfl
theorem seenB_succ (zs : List Int) (k : Nat) (d r : Int) : seenB zs (k + 1) d r = (seenB zs k d r || (decide (zs.getD (k * 3) 0 = d) && decide (zs.getD (k * 3 + 1) 0 = r))) := by
  unfold seenB; rw [List.range_succ, List.any_append]; simp
theorem tri_in64 {zs : List Int} {n k : Nat} (hw : ∀ z ∈ zs, In64 z) (hl : zs.length = 3 * n) (hk : k < n) : In64 (zs.getD (k * 3) 0) ∧ In64 (zs.getD (k * 3 + 1) 0) ∧ In64 (zs.getD (k * 3 + 2) 0) :=
  ⟨hw _ (getD_mem zs _ (by omega)), hw _ (getD_mem zs _ (by omega)), hw _ (getD_mem zs _ (by omega))⟩
set_option maxHeartbeats 1600000 in
set_option maxRecDepth 100000 in
theorem isTap_any (d r p g : Int) (w : World) :
    Calls Try.prog 80 #[.agg #[.int .i64 d, .int .i64 r, .int .i64 p], .int .i64 g] w fun e w' => e = .returned (.bool (tapB g d r p)) ∧ Keep w w' := by
  have H1 := Lib.hid (fun W => within_any d 0 2 W)
  have H2 := Lib.hid (fun W => within_any r (-2) 2 W)
  have H3 := Lib.hid (fun W => within_any p 1 g W)
  unfold tapB
  generalize inB d 0 2 = b1 at *
  generalize inB r (-2) 2 = b2 at *
  generalize inB p 1 g = b3 at *
  cases b1
  · go_enter Try.func80, Try.ntmps80
    go_wp2_with fail
    refine (H1.out _).mono ?_
    rintro e w1 ⟨rfl, rfl⟩
    go_wp2
    go_ret
    exact ⟨rfl, by go_grown⟩
  cases b2
  · go_enter Try.func80, Try.ntmps80
    go_wp2_with fail
    refine (H1.out _).mono ?_
    rintro e w1 ⟨rfl, rfl⟩
    go_wp2_with fail
    refine (H2.out _).mono ?_
    rintro e w2 ⟨rfl, rfl⟩
    go_wp2
    go_ret
    exact ⟨rfl, by go_grown⟩
  by_cases h1 : 1 ≤ d
  · rw [decide_eq_true h1]
    go_enter Try.func80, Try.ntmps80
    go_wp2_with fail
    refine (H1.out _).mono ?_
    rintro e w1 ⟨rfl, rfl⟩
    go_wp2_with fail
    refine (H2.out _).mono ?_
    rintro e w2 ⟨rfl, rfl⟩
    go_wp2_with fail
    refine (H3.out _).mono ?_
    rintro e w3 ⟨rfl, rfl⟩
    go_wp2
    go_ret
    exact ⟨by simp, by go_grown⟩
  · rw [decide_eq_false h1]
    by_cases h2 : 1 ≤ r
    · rw [decide_eq_true h2]
      go_enter Try.func80, Try.ntmps80
      go_wp2_with fail
      refine (H1.out _).mono ?_
      rintro e w1 ⟨rfl, rfl⟩
      go_wp2_with fail
      refine (H2.out _).mono ?_
      rintro e w2 ⟨rfl, rfl⟩
      go_wp2_with fail
      refine (H3.out _).mono ?_
      rintro e w3 ⟨rfl, rfl⟩
      go_wp2
      go_ret
      exact ⟨by simp, by go_grown⟩
    · rw [decide_eq_false h2]
      go_enter Try.func80, Try.ntmps80
      go_wp2_with fail
      refine (H1.out _).mono ?_
      rintro e w1 ⟨rfl, rfl⟩
      go_wp2_with fail
      refine (H2.out _).mono ?_
      rintro e w2 ⟨rfl, rfl⟩
      go_wp2
      go_ret
      exact ⟨by simp, by go_grown⟩
theorem Try.arrK : ArrKey Try.prog 98 2 2 := ⟨Try.underlying98, by kernel_rfl, by kernel_rfl, by kernel_rfl⟩
theorem Try.typesSome : ∃ m, Try.prog.types.size = m + 1 := by
  have h : (98 : Nat) < Try.prog.types.size := of_decide_eq_true (by kernel_rfl)
  exact ⟨Try.prog.types.size - 1, by omega⟩
theorem Try.lawK : Keyed Try.prog 98 := Keyed.of_law Try.arrK.law
noncomputable def keyL (a b : Int) : Lit := .string (keyBytes [.int .i64 a, .int .i64 b])
theorem wf64 {n : Int} (h : In64 n) : (Lit.int .i64 n).wf = true := by
  obtain ⟨h1, h2⟩ := h
  simp [Lit.wf, IntKind.min, IntKind.max, IntKind.signed, IntKind.bits]; omega
theorem keyL_of {a b : Int} (ua : In64 a) (ub : In64 b) : keyOf Try.prog 98 (.agg #[.int .i64 a, .int .i64 b]) = some (keyL a b) :=
  keyOf_pair Try.arrK Try.underlying2 Try.typesSome (wf64 ua) (wf64 ub)
theorem keyL_inj {a b c d : Int} (ua : In64 a) (ub : In64 b) (uc : In64 c) (ud : In64 d) (h : keyL a b = keyL c d) : a = c ∧ b = d := by
  have e1 := keyL_of ua ub
  rw [h] at e1
  have e := Try.lawK.inj e1 (keyL_of uc ud)
  simpa using e
theorem keyL_lit {a b : Int} (ua : In64 a) (ub : In64 b) : WideAt.IsKeyLit (keyL a b) := Try.lawK.key (keyL_of ua ub)
/-- The map holds true at the places of the first k taps, and nothing else. -/
def Knows (D : DataW Unit) (zs : List Int) (k : Nat) : Prop := ∀ a b, In64 a → In64 b → D.atKey (keyL a b) (.lit (.bool false)) = .lit (.bool (seenB zs k a b))
theorem Knows.start (zs : List Int) : Knows (.map []) zs 0 := fun a b _ _ => by simp [DataW.atKey, seenB_zero]
theorem Knows.next {D : DataW Unit} {zs : List Int} {k : Nat} (h : Knows D zs k) (hD : IsMap D) (u0 : In64 (zs.getD (k * 3) 0)) (u1 : In64 (zs.getD (k * 3 + 1) 0)) :
    Knows (D.put (keyL (zs.getD (k * 3) 0) (zs.getD (k * 3 + 1) 0)) (.lit (.bool true))) zs (k + 1) := fun a b ua ub => by
  rw [seenB_succ]
  by_cases e : keyL a b = keyL (zs.getD (k * 3) 0) (zs.getD (k * 3 + 1) 0)
  · obtain ⟨e1, e2⟩ := keyL_inj ua ub u0 u1 e
    rw [e, atKey_put_same hD (keyL_lit u0 u1), decide_eq_true e1.symm, decide_eq_true e2.symm]; simp
  · rw [atKey_put_other e, h a b ua ub]
    have : (decide (zs.getD (k * 3) 0 = a) && decide (zs.getD (k * 3 + 1) 0 = b)) = false := by
      rw [Bool.and_eq_false_iff]
      by_cases e1 : zs.getD (k * 3) 0 = a
      · right; exact decide_eq_false (fun e2 => e (by rw [e1, e2]))
      · left; exact decide_eq_false e1
    rw [this]; simp
theorem plainElem_bool_inv {P : Program} {e : TypeId} (he : P.underlying e = some .bool) {v : Value} {x : Bool} {ps : List MemPlace} (h : plainElem (H := Unit) P e v = some (.lit (.bool x), ps)) : v = .bool x := by
  cases v <;> simp [plainElem, he] at h
  rw [h.1]
end Go.Proofs.Ytjoanfgchapbaaa
