/- What the laws of chapter 8 draw: demands, sequences. -/
import Derived.Test.YtmckbjhmkcbjgaaDraw8
import Derived.Test.YtmckbjhmkcbjgaaSeq8
import Derived.Test.YtmckbjhmkcbjgaaCopyL
import Derived.Test.YtmckbjhmkcbjgaaDev8
namespace Go.Proofs.Ytmckbjhmkcbjgaa
open Go.ChangeShapes Go.WideShapes Go.ChangeAt Go.RowKit Go.Deep
set_option linter.unusedVariables false
theorem prd_six {d : List Int} : ∀ {k : Nat}, (∀ j, j < k → 1 ≤ d.getD j 0 ∧ d.getD j 0 ≤ 5) → 1 ≤ prd d k ∧ prd d k ≤ 6 ^ k := by
  intro k
  induction k with
  | zero => intro _; simp [prd]
  | succ k ih =>
    intro h
    have h1 := ih (fun j hj => h j (by omega))
    have h2 := h k (by omega)
    rw [prd, Int.pow_succ]
    have e1 : prd d k * (d.getD k 0 + 1) ≤ 6 ^ k * 6 := Int.mul_le_mul h1.2 (by omega) (by omega) (by omega)
    have e2 : 1 * 1 ≤ prd d k * (d.getD k 0 + 1) := Int.mul_le_mul h1.1 (by omega) (by omega) (by omega)
    omega
theorem okD_few {d : List Int} (h1 : 1 ≤ d.length) (h2 : d.length ≤ 4) (h : ∀ z ∈ d, 1 ≤ z ∧ z ≤ 5) : okD d = true := by
  have hj : ∀ j, j < d.length → 1 ≤ d.getD j 0 ∧ d.getD j 0 ≤ 5 := fun j hj => h _ (getD_mem d j hj)
  have hp := prd_six hj
  have hdem : demB d d.length = true := by
    unfold demB
    rw [List.all_eq_true]
    intro j hjr
    have := hj j (List.mem_range.1 hjr)
    exact inB_iff.2 (by omega)
  have h6 : (6 : Int) ^ d.length ≤ 1296 := by
    rcases (by omega : d.length = 1 ∨ d.length = 2 ∨ d.length = 3 ∨ d.length = 4) with e | e | e | e <;> rw [e] <;> decide
  unfold okD
  rw [decide_eq_true (show 1 ≤ d.length ∧ d.length ≤ 6 by omega), hdem, decide_eq_true (by omega)]; rfl
set_option maxHeartbeats 3200000 in
theorem R8Demands_any (ad : Option Addr) (cap : Nat) (zs : List Int) (w : World) (hz : Bytes w ad zs) :
    Calls Try.prog 16 #[.slice ad zs.length cap] w fun e w' => ∃ (vs : List Int) (rd : Option Addr) (rc : Nat), e = .returned (.slice rd vs.length rc) ∧ Own w' w.heap.size rd rc vs ∧ okD vs = true ∧ vs.length ≤ 4 ∧ Keep w w' := by
  have S0 : SrcAt (w.alloc (.cells #[.slice ad zs.length cap, .int .i64 0, .int .u64 0] 89)) w.heap.size ad cap zs 0 :=
    ⟨by simp, ⟨0, Nat.le_refl _, by simp⟩, ⟨0, by omega, by omega, by simp⟩, by simp, by simp⟩
  have k0 : Keep w (w.alloc (.cells #[.slice ad zs.length cap, .int .i64 0, .int .u64 0] 89)) := by go_grown
  have z0 := hz.keep k0 (Nat.le_refl _)
  have hz0 : (w.alloc (.cells #[.slice ad zs.length cap, .int .i64 0, .int .u64 0] 89)).heap.size = w.heap.size + 1 := by simp
  have HA : Hid (∀ a o, ad = some ⟨a, o, none⟩ → zs ≠ [] → a ≠ w.heap.size) := Lib.hid (fun a o h hne => by
    rcases hz.at_ with h1 | ⟨a', o', h1, h2, _⟩
    · exact absurd h1 hne
    · rw [h1] at h; simp at h; omega)
  go_enter Try.func16, Try.ntmps16
  go_wp2_with fail
  refine (l00From_any ad cap zs.length w).mono ?_
  rintro e w0 ⟨rfl, rfl⟩
  generalize w.alloc (.cells #[.slice ad zs.length cap, .int .i64 0, .int .u64 0] 89) = w0 at *
  obtain ⟨sb, hsb⟩ : ∃ b, b = w.heap.size := ⟨_, rfl⟩
  rw [← hsb] at S0 hz0 HA
  rw [← hsb]
  have HSB := Lib.hid hsb; clear hsb
  have o1 : Own (w0.alloc (.cells #[] 2)) (sb + 1) (some ⟨sb + 1, 0, none⟩) 0 [] := by
    have h := Own.lit0 w0
    rw [hz0] at h; exact h
  have ka : Below w0.heap.size w0 (w0.alloc (.cells #[] 2)) := by go_grown
  have S1 := S0.keep ka S0.lt
  have z1 := z0.keep ka (Nat.le_refl _)
  have es : (w0.alloc (.cells #[] 2)).heap.size = sb + 2 := by simp; omega
  have HO1 := Lib.hid o1
  have HK1 : Hid (Keep w (w0.alloc (.cells #[] 2))) := Lib.hid (k0.trans (ka.mono k0.size))
  clear o1 ka k0 S0 z0
  go_wp2_with fail
  generalize w0.alloc (.cells #[] 2) = w2 at *
  refine (pick_any sb ad cap zs 0 4 _ S1 z1 (by omega) (by omega) (by omega)).mono ?_
  rintro e w3 ⟨c, c0, c1, rfl, s3, g3, e3⟩
  have z3 := z1.grown g3 HA.out
  have o3 := HO1.out.beside g3 (by omega)
  have k3 := below_beside HK1.out g3 HK1.out.size (by rw [HSB.out]; exact Nat.le_refl _)
  have HS3 := Lib.hid s3; have HZ3 := Lib.hid z3; have HO3 := Lib.hid o3; have HK3 := Lib.hid k3
  clear s3 g3 z3 o3 k3 HO1 HK1 S1 z1
  obtain ⟨n, hn⟩ : ∃ n : Nat, 1 + c = n := ⟨(1 + c).toNat, by omega⟩
  have V1 : IntKind.i64.wrap (1 + c) = (n : Int) := by rw [hn]; exact IntWalk.i64_in _ (by omega)
  have hn1 : 1 ≤ n ∧ n ≤ 4 := by omega
  clear hn
  go_wp2
  go_loopg [4, 5] n (fun k out nn wr => ∃ (vs : List Int) (rd : Option Addr) (rc : Nat), k ≤ n ∧ nn = .int .i64 k ∧ out = .slice rd vs.length rc ∧ Hid (Own wr (sb + 1) rd rc vs) ∧ vs.length + k = n ∧ Hid (∀ z ∈ vs, 1 ≤ z ∧ z ≤ 5) ∧
      Hid (SrcAt wr sb ad cap zs (6 - k)) ∧ Hid (Keep w wr) ∧ sb + 1 ≤ wr.heap.size)
  case atStart =>
    exact ⟨[], _, _, by omega, rfl, rfl, HO3, by simp, Lib.hid (fun z hz => by simp at hz), Lib.hid (HS3.out.more (by omega)), HK3, by omega⟩
  case round =>
    obtain ⟨vs, rd, rc, hk4, rfl, rfl, HO, hvl, HV, HSR, HK, hsz⟩ := hrel
    by_cases hpos : 0 < gk
    · have hp0 : (0 : Int) < gk := by omega
      go_wp2_with fail
      refine (pick_any sb ad cap zs (6 - gk) 5 _ HSR.out (hz.keep HK.out (Nat.le_refl _)) (by omega) (by omega) (by omega)).mono ?_
      rintro e w4 ⟨x, x0, x1, rfl, s4, g4, e4⟩
      have o4 := HO.out.beside g4 (by omega)
      have k4 := below_beside HK.out g4 HK.out.size (by rw [HSB.out]; exact Nat.le_refl _)
      have HS4 := Lib.hid s4; have HO4 := Lib.hid o4; have HK4 := Lib.hid k4
      have hs4 : wr.heap.size ≤ w4.heap.size := by omega
      have V2 : IntKind.i64.wrap (1 + x) = 1 + x := IntWalk.i64_in _ (by omega)
      clear s4 g4 o4 k4 e4
      go_wp2_with (refine list_app1 (by rfl) _ _ (by rfl) (sb + 1) rd rc vs.length _ (1 + x) (by rfl) (HO4.out.keep (by go_grown)) rfl w4.heap.size (by rfl) (by simp) ⟨by omega, by omega⟩ (by omega) (by simp; omega) ?_; intro ad' cap' w5 hown5 hgr5; have hbel5 : Below (sb + 1) w4 w5 := below_own (by go_grown) (HO4.out.keep (by go_grown)) hgr5 (by simp; omega) (Nat.le_refl _))
      go_roundg (gk - 1)
      case measure => omega
      case rel =>
        have hws : w.heap.size ≤ sb + 1 := by rw [HSB.out]; omega
        have h5 := hbel5.size
        refine ⟨vs ++ [1 + x], ad', cap', by omega, by go_num, by simp, Lib.hid hown5, by simp; omega, Lib.hid (fun z hz => ?_), Lib.hid (((HS4.out.more (by omega)).keep hbel5 (by omega))), Lib.hid (Below.trans HK4.out (hbel5.mono hws)), by omega⟩
        rcases List.mem_append.1 hz with h | h
        · exact HV.out z h
        · simp at h; subst h; omega
    · have h0 : gk = 0 := by omega
      subst h0
      have hws : w.heap.size ≤ sb + 1 := by rw [HSB.out]; omega
      have HOK := Lib.hid (okD_few (by omega) (by omega) HV.out)
      have hv4 : vs.length ≤ 4 := by omega
      go_wp2
      go_ret
      exact ⟨vs, rd, rc, rfl, HO.out.mono hws, HOK.out, hv4, HK.out⟩
/-! ### a sequence that is drawn -/
/-- What is left of the demands. -/
def Left (d out C : List Int) : Prop := C.length = d.length ∧ (∀ i, i < d.length → C.getD i 0 = d.getD i 0 - cntI out i ∧ 0 ≤ C.getD i 0) ∧ C.sum = d.sum - out.length ∧ ∀ z ∈ out, 0 ≤ z ∧ z < (d.length : Int)
theorem sum_set8 : ∀ (C : List Int) (x : Nat) (v : Int), x < C.length → (C.set x v).sum = C.sum - C.getD x 0 + v := by
  intro C
  induction C with
  | nil => intro x v h; simp at h
  | cons a t ih =>
    intro x v h
    cases x with
    | zero => simp; omega
    | succ x =>
      rw [List.set_cons_succ, List.sum_cons, ih x v (by simpa using h), List.sum_cons, List.getD_cons_succ]; omega
theorem cntI_app (out : List Int) (x i : Nat) : cntI (out ++ [(x : Int)]) i = cntI out i + (if x = i then 1 else 0) := by
  unfold cntI
  rw [List.countP_append, List.countP_singleton]
  by_cases c : x = i
  · subst c; simp
  · rw [if_neg c, if_neg (by simp; omega)]; simp
theorem Left.step {d out C : List Int} (h : Left d out C) {x : Nat} (hx : x < d.length) (hc : 1 ≤ C.getD x 0) : Left d (out ++ [(x : Int)]) (C.set x (C.getD x 0 - 1)) := by
  obtain ⟨h1, h2, h3, h4⟩ := h
  refine ⟨by simp [h1], fun i hi => ?_, ?_, fun z hz => ?_⟩
  · have hg : (C.set x (C.getD x 0 - 1)).getD i 0 = if x = i then C.getD x 0 - 1 else C.getD i 0 := by
      rw [List.getD_eq_getElem?_getD, List.getElem?_set]
      by_cases c : x = i
      · subst c; rw [if_pos rfl, if_pos (by omega), if_pos rfl]; rfl
      · rw [if_neg c, if_neg c, List.getD_eq_getElem?_getD]
    have := h2 i hi
    rw [hg, cntI_app]
    by_cases c : x = i
    · subst c; rw [if_pos rfl, if_pos rfl]; omega
    · rw [if_neg c, if_neg c]; omega
  · rw [sum_set8 C x _ (by omega), h3]; simp; omega
  · rcases List.mem_append.1 hz with h | h
    · exact h4 z h
    · simp at h; subst h; omega
theorem sum_pos8 : ∀ (C : List Int), (∀ i, i < C.length → 0 ≤ C.getD i 0) → 0 ≤ C.sum ∧ (0 < C.sum → ∃ i, i < C.length ∧ 1 ≤ C.getD i 0) ∧ (C.sum = 0 → ∀ i, i < C.length → C.getD i 0 = 0) := by
  intro C
  induction C with
  | nil => intro _; refine ⟨by simp, fun h => by simp at h, fun _ i h => by simp at h⟩
  | cons a t ih =>
    intro h
    obtain ⟨h1, h2, h3⟩ := ih (fun i hi => by have := h (i + 1) (by simpa using hi); rwa [List.getD_cons_succ] at this)
    have ha : 0 ≤ a := by have := h 0 (by simp); simpa using this
    rw [List.sum_cons]
    refine ⟨by omega, fun hs => ?_, fun hs i hi => ?_⟩
    · by_cases c : 0 < a
      · exact ⟨0, by simp, by simp; omega⟩
      · obtain ⟨i, hi, hc⟩ := h2 (by omega)
        exact ⟨i + 1, by simpa using hi, by rw [List.getD_cons_succ]; exact hc⟩
    · cases i with
      | zero => simp; omega
      | succ i => rw [List.getD_cons_succ]; exact h3 (by omega) i (by simpa using hi)
theorem Left.done {d out C : List Int} (h : Left d out C) (hok : okD d = true) (hl : (out.length : Int) = d.sum) : seqO d out = true := by
  obtain ⟨h1, h2, h3, h4⟩ := h
  have hz := (sum_pos8 C (fun i hi => (h2 i (by omega)).2)).2.2 (by omega)
  unfold seqO seqB eqB
  rw [hok, Bool.true_and, Bool.and_eq_true, decide_eq_true_eq]
  constructor
  · unfold rngB
    rw [List.all_eq_true]
    intro k hk
    have := h4 _ (getD_mem out k (List.mem_range.1 hk))
    rw [inB_iff]; omega
  · refine List.ext_getElem (by rw [cntL_len]) (fun i a b => ?_)
    have e1 := (h2 i b).1
    have e2 := hz i (by omega)
    rw [← getD_get _ i a, cntL_get d.length out i b, ← getD_get d i b]; omega
theorem Left.start {d : List Int} (hok : okD d = true) : Left d [] d := ⟨rfl, fun i hi => by have := (okD_parts hok).2.2.1 i hi; rw [cntI_nil]; omega, by simp, fun z hz => by simp at hz⟩
theorem mod_walk {x t n : Nat} (hn : 0 < n) (ht : 0 < t) : (((x + 1) % n) + (t - 1)) % n = (x + t) % n := by
  rw [Nat.mod_add_mod]; congr 1; omega
theorem mod_start {x y n : Nat} (hx : x < n) (hy : y < n) : ∃ t, t < n ∧ (x + t) % n = y := by
  by_cases h : x ≤ y
  · exact ⟨y - x, by omega, by rw [show x + (y - x) = y by omega, Nat.mod_eq_of_lt hy]⟩
  · exact ⟨y + n - x, by omega, by rw [show x + (y + n - x) = y + n by omega, Nat.add_mod_right, Nat.mod_eq_of_lt hy]⟩
end Go.Proofs.Ytmckbjhmkcbjgaa
