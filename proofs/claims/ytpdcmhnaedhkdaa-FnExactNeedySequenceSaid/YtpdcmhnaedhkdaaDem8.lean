/- Demands: what valid ones are; the program's look and the model's. -/
import Derived.Test.YtpdcmhnaedhkdaaInts
import Derived.Test.YtpdcmhnaedhkdaaMem
import Derived.Test.YtpdcmhnaedhkdaaBl7
namespace Go.Proofs.Ytpdcmhnaedhkdaa
open Go.ChangeShapes Go.WideShapes Go.ChangeAt Go.RowKit
set_option linter.unusedVariables false
/-- The first k demands are within their limits. -/
def demB (d : List Int) (k : Nat) : Bool := (List.range k).all fun j => inB (d.getD j 0) 1 40
/-- How many states the first k demands have. -/
def prd (d : List Int) : Nat → Int
  | 0 => 1
  | k + 1 => prd d k * (d.getD k 0 + 1)
def okD (d : List Int) : Bool := decide (1 ≤ d.length ∧ d.length ≤ 6) && (demB d d.length && decide (prd d d.length ≤ 5000))
theorem demB_succ (d : List Int) (k : Nat) : demB d (k + 1) = (demB d k && inB (d.getD k 0) 1 40) := by
  unfold demB; rw [List.range_succ, List.all_append]; simp
theorem demB_at {d : List Int} {n k : Nat} (h : demB d n = true) (hk : k < n) : 1 ≤ d.getD k 0 ∧ d.getD k 0 ≤ 40 := by
  unfold demB at h; rw [List.all_eq_true] at h; exact inB_iff.1 (h k (List.mem_range.2 hk))
theorem demB_no {d : List Int} {n k : Nat} (h : k < n) (hf : inB (d.getD k 0) 1 40 = false) : demB d n = false := by
  unfold demB; rw [List.all_eq_false]; exact ⟨k, List.mem_range.2 h, by rw [hf]; exact Bool.false_ne_true⟩
theorem prd_bd {d : List Int} : ∀ {k : Nat}, demB d k = true → 1 ≤ prd d k ∧ prd d k ≤ 41 ^ k := by
  intro k
  induction k with
  | zero => intro _; simp [prd]
  | succ k ih =>
    intro h
    rw [demB_succ, Bool.and_eq_true] at h
    have h1 := ih h.1
    have h2 := inB_iff.1 h.2
    rw [prd, Int.pow_succ]
    have e1 : prd d k * (d.getD k 0 + 1) ≤ 41 ^ k * 41 := Int.mul_le_mul h1.2 (by omega) (by omega) (by omega)
    have e2 : 1 * 1 ≤ prd d k * (d.getD k 0 + 1) := Int.mul_le_mul h1.1 (by omega) (by omega) (by omega)
    omega
theorem prd_lim {d : List Int} {k : Nat} (h : demB d k = true) (hk : k ≤ 6) : 1 ≤ prd d k ∧ prd d k ≤ 4750104241 := by
  have h1 := prd_bd h
  refine ⟨h1.1, ?_⟩
  have h2 : (41 : Int) ^ k ≤ 41 ^ 6 := by
    rcases (by omega : k = 0 ∨ k = 1 ∨ k = 2 ∨ k = 3 ∨ k = 4 ∨ k = 5 ∨ k = 6) with rfl | rfl | rfl | rfl | rfl | rfl | rfl <;> decide
  have h3 : (41 : Int) ^ 6 = 4750104241 := by decide
  omega
theorem okD_parts {d : List Int} (h : okD d = true) : 1 ≤ d.length ∧ d.length ≤ 6 ∧ (∀ k, k < d.length → 1 ≤ d.getD k 0 ∧ d.getD k 0 ≤ 40) ∧ prd d d.length ≤ 5000 := by
  unfold okD at h
  simp only [Bool.and_eq_true, decide_eq_true_eq] at h
  exact ⟨h.1.1, h.1.2, fun k hk => demB_at h.2.1 hk, h.2.2⟩
theorem okD_mem {d : List Int} (h : okD d = true) : ∀ z ∈ d, 1 ≤ z ∧ z ≤ 40 := by
  intro z hz
  obtain ⟨k, hk, rfl⟩ := List.getElem_of_mem hz
  have := (okD_parts h).2.2.1 k hk
  rw [getD_get d k hk] at this; exact this
theorem okD_sum {d : List Int} (h : okD d = true) : (d.length : Int) ≤ d.sum ∧ d.sum ≤ 240 := by
  have h1 := okD_parts h
  have h2 := okD_mem h
  have : ∀ (l : List Int), (∀ z ∈ l, 1 ≤ z ∧ z ≤ 40) → (l.length : Int) ≤ l.sum ∧ l.sum ≤ 40 * l.length := by
    intro l
    induction l with
    | nil => intro _; simp
    | cons a t ih =>
      intro hl
      have i1 := ih (fun z hz => hl z (List.mem_cons_of_mem _ hz))
      have i2 := hl a (List.mem_cons_self ..)
      simp only [List.length_cons, List.sum_cons, Int.natCast_add, Int.natCast_one]
      omega
  have := this d h2
  omega
/-- The model counts states only up to their limit. -/
def prM (d : List Int) (k : Nat) : Int := mnW (prd d k) 5001
theorem prM_step {d : List Int} {k : Nat} (h : demB d (k + 1) = true) : prM d (k + 1) = mnW (prM d k * (d.getD k 0 + 1)) 5001 := by
  rw [demB_succ, Bool.and_eq_true] at h
  have h1 := prd_bd h.1
  have h2 := inB_iff.1 h.2
  unfold prM
  rw [prd]
  generalize prd d k = p at *
  generalize d.getD k 0 = x at *
  unfold mnW
  by_cases c : p < 5001
  · rw [if_pos c]
  · rw [if_neg c]
    have e1 : 5001 * (x + 1) ≤ p * (x + 1) := Int.mul_le_mul_of_nonneg_right (by omega) (by omega)
    have e2 : 5001 * 2 ≤ 5001 * (x + 1) := Int.mul_le_mul_of_nonneg_left (by omega) (by omega)
    rw [if_neg (by omega), if_neg (by omega)]
theorem prM_bd {d : List Int} {k : Nat} (h : demB d k = true) : 1 ≤ prM d k ∧ prM d k ≤ 5001 := by
  have h1 := prd_bd h
  unfold prM mnW
  split <;> omega
set_option maxHeartbeats 800000 in
theorem ValidDemands_any (ad : Option Addr) (cap : Nat) (d : List Int) (w : World) (hz : Ints w ad d) :
    Calls Try.prog 52 #[.slice ad d.length cap] w fun e w' => e = .returned (.bool (okD d)) ∧ w = w' := by
  have hlen := hz.small
  by_cases h6 : 1 ≤ d.length ∧ d.length ≤ 6
  · have HE : Hid (okD d = (demB d d.length && decide (prd d d.length ≤ 5000))) := Lib.hid (by simp [okD, h6])
    rw [HE.out]
    obtain ⟨V, hV⟩ : ∃ V, V = (demB d d.length && decide (prd d d.length ≤ 5000)) := ⟨_, rfl⟩
    rw [← hV]
    have HV := Lib.hid hV
    clear hV HE
    go_enter Try.func52, Try.ntmps52
    go_wp2
    go_loop [3, 5, 16] (fun s _ i => ∃ k : Nat, k ≤ d.length ∧ i = .int .i64 k ∧ s = .int .i64 (prd d k) ∧ Hid (demB d k = true)) (fun _ _ i => d.length - (intOf i).toNat)
    case atStart => exact ⟨0, Nat.zero_le _, rfl, rfl, Lib.hid (by simp [demB])⟩
    case round =>
      obtain ⟨k, hk, rfl, rfl, HA⟩ := hrel
      by_cases hlt : k < d.length
      · rcases hz.at_ with h | ⟨b, off, rfl, hb1, hc⟩
        · subst h; simp at hlt
        have hcx := hc k hlt
        have hp := prd_lim HA.out (by omega)
        have HS : Hid (prd d (k + 1) = prd d k * (d.getD k 0 + 1)) := Lib.hid rfl
        have HN := Lib.hid (demB_succ d k)
        have HF := Lib.hid (fun (hf : inB (d.getD k 0) 1 40 = false) => demB_no hlt hf)
        have HP := Lib.hid (fun (ht : inB (d.getD k 0) 1 40 = true) => prd_lim (d := d) (k := k + 1) (by rw [demB_succ, HA.out, ht]; rfl) (by omega))
        clear hc
        generalize d.getD k 0 = x at hcx HS HN HF HP
        cases hin : inB x 1 40
        · go_wp2_with (go_at_call 47; refine (within_any _ _ _ _).mono ?_; rw [hin]; rintro e w' ⟨rfl, rfl⟩)
          go_ret
          exact ⟨ret_bool (by rw [HV.out, HF.out hin]; rfl), rfl⟩
        · have hx := inB_iff.1 hin
          have hp2 := HP.out hin
          rw [HS.out] at hp2
          have W1 : IntKind.i64.wrap (x + 1) = x + 1 := IntWalk.i64_in _ (by omega)
          have W2 : IntKind.i64.wrap (prd d k * (x + 1)) = prd d k * (x + 1) := IntWalk.i64_in _ (by omega)
          go_wp2_with (go_at_call 47; refine (within_any _ _ _ _).mono ?_; rw [hin]; rintro e w' ⟨rfl, rfl⟩)
          go_round
          case rel => exact ⟨k + 1, by omega, by go_num, by rw [HS.out], Lib.hid (by rw [HN.out, HA.out, hin]; rfl)⟩
          case measure => simp [intOf]; omega
      · have he := Lib.hid (show k = d.length by omega)
        have hp := prd_lim HA.out (by omega)
        have HP : Hid (V = decide (prd d k ≤ 5000)) := Lib.hid (by rw [HV.out, ← he.out, HA.out]; rfl)
        go_wp2
        go_ret
        exact ⟨ret_bool (by rw [HP.out]), rfl⟩
  · have HE : Hid (okD d = false) := Lib.hid (by simp [okD, h6])
    rw [HE.out]
    clear HE
    by_cases h0 : d.length < 1
    · go_enter Try.func52, Try.ntmps52
      go_wp2
      go_ret
      exact ⟨rfl, rfl⟩
    · have h7 : 6 < d.length := by omega
      clear h6
      go_enter Try.func52, Try.ntmps52
      go_wp2
      go_ret
      exact ⟨rfl, rfl⟩
set_option maxHeartbeats 800000 in
theorem l08Is_any (ad : Option Addr) (cap : Nat) (d : List Int) (w : World) (hz : Ints w ad d) :
    Calls Try.prog 50 #[.slice ad d.length cap] w fun e w' => e = .returned (.bool (okD d)) ∧ Keep w w' := by
  have hlen := hz.small
  cases h6 : inB (d.length : Int) 1 6
  · have h6' := inB_not.1 h6
    have HE : Hid (okD d = false) := Lib.hid (by unfold okD; rw [decide_eq_false (by omega)]; rfl)
    rw [HE.out]
    clear HE h6'
    go_enter Try.func50, Try.ntmps50
    go_wp2_with (go_at_call 45; refine (l00In_any _ _ _ _).mono ?_; rw [h6]; rintro e w' ⟨rfl, rfl⟩)
    go_ret
    exact ⟨rfl, Below.refl _ _⟩
  · have h6' := inB_iff.1 h6
    have HE : Hid (okD d = (demB d d.length && decide (prM d d.length ≤ 5000))) := Lib.hid (by
      unfold okD; rw [decide_eq_true (show 1 ≤ d.length ∧ d.length ≤ 6 by omega), Bool.true_and]
      congr 1
      unfold prM mnW
      split <;> simp <;> omega)
    rw [HE.out]
    obtain ⟨V, hV⟩ : ∃ V, V = (demB d d.length && decide (prM d d.length ≤ 5000)) := ⟨_, rfl⟩
    rw [← hV]
    have HV := Lib.hid hV
    clear hV HE
    go_enter Try.func50, Try.ntmps50
    go_wp2_with (go_at_call 45; refine (l00In_any _ _ _ _).mono ?_; rw [h6]; rintro e w' ⟨rfl, rfl⟩)
    go_loopw [3, 4] (fun s i wr => ∃ k : Nat, k ≤ d.length ∧ i = .int .i64 k ∧ s = .int .i64 (prM d k) ∧ Hid (demB d k = true) ∧ Hid (Keep w wr)) (fun _ i _ => d.length - (intOf i).toNat)
    case atStart => exact ⟨0, Nat.zero_le _, rfl, rfl, Lib.hid (by simp [demB]), Lib.hid (Below.refl _ _)⟩
    case round =>
      obtain ⟨k, hk, rfl, rfl, HA, HK⟩ := hrel
      by_cases hlt : k < d.length
      · rcases (hz.keep HK.out (Nat.le_refl _)).at_ with h | ⟨b, off, rfl, hb1, hc⟩
        · subst h; simp at hlt
        have hcx := hc k hlt
        have hp := prM_bd HA.out
        have HN := Lib.hid (demB_succ d k)
        have HS := Lib.hid (fun (ht : inB (d.getD k 0) 1 40 = true) => prM_step (d := d) (k := k) (by rw [demB_succ, HA.out, ht]; rfl))
        have HF := Lib.hid (fun (hf : inB (d.getD k 0) 1 40 = false) => demB_no hlt hf)
        clear hc
        generalize d.getD k 0 = x at hcx HN HF HS
        cases hin : inB x 1 40
        · go_wp2_with (go_at_call 45; refine (l00In_any _ _ _ _).mono ?_; rw [hin]; rintro e w' ⟨rfl, rfl⟩)
          go_ret
          exact ⟨ret_bool (by rw [HV.out, HF.out hin]; rfl), HK.out⟩
        · have hx := inB_iff.1 hin
          have hs := Lib.hid (HS.out hin)
          generalize prM d k = p at hp hs
          have hm : 1 ≤ p * (x + 1) ∧ p * (x + 1) ≤ 5001 * 41 := by
            have e1 : p * (x + 1) ≤ 5001 * 41 := Int.mul_le_mul hp.2 (by omega) (by omega) (by omega)
            have e2 : 1 * 1 ≤ p * (x + 1) := Int.mul_le_mul hp.1 (by omega) (by omega) (by omega)
            omega
          have W1 : IntKind.i64.wrap (x + 1) = x + 1 := IntWalk.i64_in _ (by omega)
          have W2 : IntKind.i64.wrap (p * (x + 1)) = p * (x + 1) := IntWalk.i64_in _ (by omega)
          go_wp2_with (first | (go_at_call 45; refine (l00In_any _ _ _ _).mono ?_; rw [hin]; rintro e w' ⟨rfl, rfl⟩) | (go_at_call 89; refine (l00MinW_any _ _ _).mono ?_; rintro e w' ⟨rfl, rfl⟩))
          go_roundw
          case rel => exact ⟨k + 1, by omega, by go_num, by rw [hs.out], Lib.hid (by rw [HN.out, HA.out, hin]; rfl), HK⟩
          case measure => simp [intOf]; omega
      · have he := Lib.hid (show k = d.length by omega)
        have hp := prM_bd HA.out
        have HP : Hid (V = decide (prM d k ≤ 5000)) := Lib.hid (by rw [HV.out, ← he.out, HA.out]; rfl)
        generalize prM d k = p at hp HP
        go_wp2
        go_ret
        exact ⟨ret_bool (by rw [HP.out]), HK.out⟩
end Go.Proofs.Ytpdcmhnaedhkdaa
