/- The needy sequence: the first product with the least deviation (the library's MinFunc with the program's comparison). -/
import Derived.Test.YtpdcmhnaedhkdaaNy8
import Derived.Deep.RegionHeld3
namespace Go.Proofs.Ytpdcmhnaedhkdaa
open Go.ChangeShapes Go.WideShapes Go.ChangeAt Go.RowKit Go.Deep
set_option linter.unusedVariables false
/-- The first one with the least value. -/
def mf8 (v : Int → Int) (m : Int) (L : List Int) : Int := L.foldl (fun m x => if v x < v m then x else m) m
theorem mf8_step (v : Int → Int) (m : Int) (L : List Int) (k : Nat) (h : k < L.length) : mf8 v m (L.take (k + 1)) = if v (L.getD k 0) < v (mf8 v m (L.take k)) then L.getD k 0 else mf8 v m (L.take k) := by
  unfold mf8
  rw [List.take_succ_eq_append_getElem h, List.foldl_append, getD_get L k h]; rfl
theorem mf8_mem (v : Int → Int) (L : List Int) (m : Int) : mf8 v m L = m ∨ mf8 v m L ∈ L := by
  induction L generalizing m with
  | nil => exact .inl rfl
  | cons a t ih =>
    show mf8 v (if v a < v m then a else m) t = m ∨ mf8 v (if v a < v m then a else m) t ∈ a :: t
    rcases ih (if v a < v m then a else m) with h | h
    · rw [h]
      by_cases c : v a < v m
      · rw [if_pos c]; exact .inr (List.mem_cons_self ..)
      · rw [if_neg c]; exact .inl rfl
    · exact .inr (List.mem_cons_of_mem _ h)
/-- The products that are left. -/
def opn (d : List Int) (f : Nat → Int) (n : Nat) : List Int := ((List.range n).filter fun i => decide (f i < d.getD i 0)).map fun (i : Nat) => (i : Int)
theorem opn_succ (d : List Int) (f : Nat → Int) (n : Nat) : opn d f (n + 1) = if f n < d.getD n 0 then opn d f n ++ [(n : Int)] else opn d f n := by
  unfold opn
  rw [List.range_succ, List.filter_append, List.map_append]
  by_cases c : f n < d.getD n 0
  · rw [if_pos c, List.filter_cons_of_pos (by exact decide_eq_true c)]; rfl
  · rw [if_neg c, List.filter_cons_of_neg (by rw [decide_eq_false c]; exact Bool.false_ne_true)]; simp
theorem opn_mem {d : List Int} {f : Nat → Int} {n : Nat} {z : Int} (h : z ∈ opn d f n) : ∃ i : Nat, z = i ∧ i < n ∧ f i < d.getD i 0 := by
  unfold opn at h
  obtain ⟨i, hi, rfl⟩ := List.mem_map.1 h
  have h2 := List.mem_filter.1 hi
  exact ⟨i, rfl, List.mem_range.1 h2.1, by simpa using h2.2⟩
/-- The program's choice is the model's. -/
theorem nbst_mf (d : List Int) (f : Nat → Int) (k : Int) (v : Int → Int) (hv : ∀ i : Nat, v (i : Int) = ndv d f k i) : ∀ n, (opn d f n = [] ∧ nbst d f k n = -1) ∨ (∃ m L, opn d f n = m :: L ∧ nbst d f k n = mf8 v m L) := by
  intro n
  induction n with
  | zero => exact .inl ⟨rfl, rfl⟩
  | succ n ih =>
    rw [opn_succ]
    by_cases c : f n < d.getD n 0
    · rw [if_pos c]
      right
      rcases ih with ⟨h1, h2⟩ | ⟨m, L, h1, h2⟩
      · refine ⟨n, [], by rw [h1]; rfl, ?_⟩
        rw [nbst_yes ⟨c, .inl (by omega)⟩]; rfl
      · refine ⟨m, L ++ [(n : Int)], by rw [h1]; rfl, ?_⟩
        have e : mf8 v m (L ++ [(n : Int)]) = if v n < v (mf8 v m L) then (n : Int) else mf8 v m L := by unfold mf8; rw [List.foldl_append]; rfl
        rcases nbst_ok d f k n with ⟨h3, h4⟩ | ⟨b, h3, _, _⟩
        · exfalso
          have : m ∈ opn d f n := by rw [h1]; exact List.mem_cons_self ..
          obtain ⟨i, _, hi, hl⟩ := opn_mem this
          have := h4 i hi; omega
        · rw [e, ← h2, h3, hv, hv]
          by_cases c2 : ndv d f k n < ndv d f k b
          · rw [if_pos c2, nbst_yes ⟨c, .inr (by rw [h3, Int.toNat_natCast]; exact c2)⟩]
          · rw [if_neg c2, nbst_not (fun h => by
              rcases h.2 with h5 | h5
              · rw [h3] at h5; omega
              · rw [h3, Int.toNat_natCast] at h5; exact c2 h5), h3]
    · rw [if_neg c, nbst_not (fun h => c h.1)]
      exact ih
set_option maxHeartbeats 1600000 in
theorem MinFunc_any (ad : Option Addr) (cap : Nat) (L : List Int) (v : Int → Int) (bx : Nat) (w : World) (hz : Ints w ad L) (h0 : L ≠ [])
    (hcl : ∀ x y, x ∈ L → y ∈ L → ∀ W, Keep w W → Calls Try.prog 94 #[.int .i64 x, .int .i64 y, .pointer (some ⟨bx, 0, none⟩)] W fun e w' => (∃ c : Int, e = .returned (.int .i64 c) ∧ (c < 0 ↔ v x < v y)) ∧ Keep W w') :
    Calls Try.prog 93 #[.slice ad L.length cap, .func (.func 94) #[] #[.pointer (some ⟨bx, 0, none⟩)]] w fun e w' => e = .returned (.int .i64 (mf8 v (L.getD 0 0) (L.drop 1))) ∧ Keep w w' := by
  have hlen := hz.small
  have HCL := Lib.hid hcl
  clear hcl
  have hl1 : 1 ≤ L.length := by cases L with | nil => exact absurd rfl h0 | cons a t => simp
  have hl1i : ¬ (L.length : Int) < 1 := by omega
  rcases hz.at_ with h | ⟨b, off, rfl, hb1, hc⟩
  · exact absurd h h0
  obtain ⟨T, hT⟩ : ∃ T, T = L.drop 1 := ⟨_, rfl⟩
  obtain ⟨x00, hx00⟩ : ∃ x, x = L.getD 0 0 := ⟨_, rfl⟩
  have hcx0 : w.cell? ⟨b, off, none⟩ = some (.int .i64 x00) := by rw [hx00]; exact hc 0 (by omega)
  have HC := Lib.hid hc
  have hpos : (0 : Int) < (L.length : Int) := by omega
  have HDL : Hid (T.length = L.length - 1) := Lib.hid (by rw [hT]; simp)
  have HDG : Hid (∀ k, T.getD k 0 = L.getD (k + 1) 0) := Lib.hid (fun k => by rw [hT]; simp [List.getD_eq_getElem?_getD])
  rw [← hT, ← hx00]
  have HM0 : Hid (x00 ∈ L) := Lib.hid (by rw [hx00]; exact getD_mem L 0 (by omega))
  have HMM := Lib.hid (fun k (h : k < L.length) => getD_mem L k h)
  clear hc h0 hT hx00
  go_enter Try.func93, Try.ntmps93
  go_wp2
  go_loopw [5, 6] (fun m i wr => ∃ k : Nat, k + 1 ≤ L.length ∧ i = .int .i64 ((k : Int) + 1) ∧ m = .int .i64 (mf8 v x00 (T.take k)) ∧ Hid (mf8 v x00 (T.take k) ∈ L) ∧ Hid (Keep w wr)) (fun _ i _ => L.length - (intOf i).toNat)
  case atStart => exact ⟨0, by omega, rfl, by simp [mf8], Lib.hid (by simpa [mf8] using HM0.out), Lib.hid (Below.refl _ _)⟩
  case round =>
    obtain ⟨k, hk, rfl, rfl, HIN, HK⟩ := hrel
    by_cases hlt : k + 1 < L.length
    · have hlti : (k : Int) + 1 < (L.length : Int) := by omega
      have hcx : wr.cell? ⟨b, off + (k + 1), none⟩ = some (.int .i64 (L.getD (k + 1) 0)) := by rw [HK.out.cell (by exact hb1)]; exact HC.out (k + 1) hlt
      have e1 : ((k : Int) + 1) = ((k + 1 : Nat) : Int) := by omega
      have HS := Lib.hid (mf8_step v x00 T k (by rw [HDL.out]; omega))
      have HXM := Lib.hid (HMM.out (k + 1) hlt)
      rw [HDG.out k] at HS
      have HCC := Lib.hid (HCL.out _ _ HXM.out HIN.out wr HK.out)
      have V1 : IntKind.i64.wrap (((k + 1 : Nat) : Int) + 1) = ((k + 1 : Nat) : Int) + 1 := IntWalk.i64_in _ (by omega)
      have hki : ((k + 1 : Nat) : Int) < (L.length : Int) := by omega
      rw [e1]
      clear e1 hlti
      generalize L.getD (k + 1) 0 = x at *
      generalize mf8 v x00 (T.take k) = m at *
      by_cases c : v x < v m
      · rw [if_pos c] at HS
        go_wp2_with fail
        refine HCC.out.mono ?_
        rintro e w2 ⟨⟨cc, rfl, hcc⟩, k2⟩
        have hneg : cc < 0 := hcc.2 c
        have hcx2 : w2.cell? ⟨b, off + (k + 1), none⟩ = some (.int .i64 x) := by rw [k2.cell (by show b < wr.heap.size; have := HK.out.size; omega)]; exact hcx
        clear hcc
        go_wp2
        go_roundw
        case rel => exact ⟨k + 1, by omega, by go_num, by rw [HS.out], Lib.hid (by rw [HS.out]; exact HXM.out), Lib.hid (HK.out.next k2)⟩
        case measure => simp [intOf]; omega
      · rw [if_neg c] at HS
        go_wp2_with fail
        refine HCC.out.mono ?_
        rintro e w2 ⟨⟨cc, rfl, hcc⟩, k2⟩
        have hneg : ¬ cc < 0 := fun h => by have := hcc.1 h; omega
        clear hcc
        go_wp2
        go_roundw
        case rel => exact ⟨k + 1, by omega, by go_num, by rw [HS.out], Lib.hid (by rw [HS.out]; exact HIN.out), Lib.hid (HK.out.next k2)⟩
        case measure => simp [intOf]; omega
    · have hlti : ¬ (k : Int) + 1 < (L.length : Int) := by omega
      have HE : Hid (T.take k = T) := Lib.hid (List.take_of_length_le (by rw [HDL.out]; omega))
      go_wp2
      go_ret
      exact ⟨ret_i64 (by rw [HE.out]), HK.out⟩
end Go.Proofs.Ytpdcmhnaedhkdaa
