/- Mixtures: what a valid one is; the model's look at one. -/
import Derived.Test.YtgpnlnmljeahdaaDoorMix
import Derived.Test.YtgpnlnmljeahdaaDoorSame
import Derived.Test.YtgpnlnmljeahdaaDoorTab5
import Derived.Test.YtgpnlnmljeahdaaDoorInts
import Derived.Deep.RegionHeld3
namespace Go.Proofs.YtgpnlnmljeahdaaDoor
open Go.ChangeShapes Go.WideShapes Go.ChangeAt Go.RowKit Go.Deep
set_option linter.unusedVariables false
def numB6 (z : List Int) : Bool := z.all fun x => inB x (-1000000) 1000000
/-- Row k is none of those ahead of it. -/
def uniqB (zss : List (List Int)) (k : Nat) : Bool := (List.range k).all fun j => !eqB (zss.getD j []) (zss.getD k [])
def mixRow (us : List Int) (zss : List (List Int)) (k : Nat) : Bool :=
  inB (us.getD k 0) 1 1000000 && (decide ((zss.getD k []).length = (zss.getD 0 []).length) && (numB6 (zss.getD k []) && uniqB zss k))
/-- A valid mixture. -/
def mixB (us : List Int) (zss : List (List Int)) : Bool :=
  inB (zss.length : Int) 1 64 && (decide (us.length = zss.length) && (decide ((zss.getD 0 []).length ≤ 40) && ((List.range zss.length).all (mixRow us zss) && decide (us.sum ≤ 1000000))))
theorem range_all_succ (p : Nat → Bool) (k : Nat) : (List.range (k + 1)).all p = ((List.range k).all p && p k) := by rw [List.range_succ, List.all_append]; simp
theorem range_all_no {p : Nat → Bool} {n k : Nat} (h : k < n) (hf : p k = false) : (List.range n).all p = false := by
  rw [List.all_eq_false]; exact ⟨k, List.mem_range.2 h, by simp [hf]⟩
theorem range_all_get {p : Nat → Bool} {n : Nat} (h : (List.range n).all p = true) {k : Nat} (hk : k < n) : p k = true := List.all_eq_true.1 h _ (List.mem_range.2 hk)
theorem mix_size {us : List Int} {zss : List (List Int)} (h : mixB us zss = true) : (1 ≤ zss.length ∧ zss.length ≤ 64) ∧ us.length = zss.length ∧ (zss.getD 0 []).length ≤ 40 ∧ us.sum ≤ 1000000 := by
  unfold mixB at h
  simp only [Bool.and_eq_true, decide_eq_true_eq] at h
  have := inB_iff.1 h.1
  exact ⟨by omega, h.2.1, h.2.2.1, h.2.2.2.2⟩
theorem mix_row {us : List Int} {zss : List (List Int)} (h : mixB us zss = true) {k : Nat} (hk : k < zss.length) : (1 ≤ us.getD k 0 ∧ us.getD k 0 ≤ 1000000) ∧ (zss.getD k []).length = (zss.getD 0 []).length ∧ ∀ x ∈ zss.getD k [], -1000000 ≤ x ∧ x ≤ 1000000 := by
  unfold mixB at h
  simp only [Bool.and_eq_true] at h
  have := range_all_get h.2.2.2.1 hk
  unfold mixRow numB6 at this
  simp only [Bool.and_eq_true, decide_eq_true_eq, List.all_eq_true] at this
  exact ⟨inB_iff.1 this.1, this.2.1, fun x hx => inB_iff.1 (this.2.2.1 x hx)⟩
theorem take_sum_bd (us : List Int) (n : Nat) (h : ∀ k, k < n → 1 ≤ us.getD k 0 ∧ us.getD k 0 ≤ 1000000) (k : Nat) (hk : k ≤ n) (hn : n ≤ us.length) : 0 ≤ (us.take k).sum ∧ (us.take k).sum ≤ 1000000 * (k : Int) := by
  induction k with
  | zero => simp
  | succ k ih =>
    have h1 := ih (by omega)
    have h2 := h k (by omega)
    rw [sum_take_succ us k (by omega)]
    omega
set_option maxHeartbeats 3200000 in
set_option maxRecDepth 100000 in
theorem l06Is_any (B : Nat) (ad : Option Addr) (cap : Nat) (us : List Int) (bd : Option Addr) (bcap : Nat) (zss : List (List Int)) (w : World) (hz : Ints w ad us) (hzz : Intss w bd zss)
    (c0 : w.cell? ⟨B, 0, none⟩ = some (.slice ad us.length cap)) (c1 : w.cell? ⟨B, 1, none⟩ = some (.slice bd zss.length bcap)) :
    Calls Tryd.prog 83 #[.pointer (some ⟨B, 0, none⟩)] w fun e w' => e = .returned (.bool (mixB us zss)) ∧ Keep w w' := by
  have hlu := hz.small
  have hlz := hzz.small
  have hBs : B < w.heap.size := World.block_lt_of_cell? _ _ c0
  cases h1 : inB (zss.length : Int) 1 64
  · rw [show mixB us zss = false from by unfold mixB; rw [h1]; rfl]
    go_enter Tryd.func83, Tryd.ntmps83
    go_wp2
    go_quiet ((go_at_call 106; exact Calls.quiet_of_same ((l00In_any _ _ _ _).mono fun _ _ h => ⟨h.1.trans (by rw [h1]), h.2.symm⟩)))
    go_wp2
    go_ret
    exact ⟨rfl, below_drewN (Below.refl _ _) _⟩
  have hn := inB_iff.1 h1
  by_cases h2 : us.length = zss.length
  case neg =>
    rw [show mixB us zss = false from by unfold mixB; rw [decide_eq_false h2]; simp]
    have hne : ((us.length : Int) != (zss.length : Int)) = true := by simp; omega
    go_enter Tryd.func83, Tryd.ntmps83
    go_wp2
    go_quiet ((go_at_call 106; exact Calls.quiet_of_same ((l00In_any _ _ _ _).mono fun _ _ h => ⟨h.1.trans (by rw [h1]), h.2.symm⟩)))
    go_wp2
    go_ret
    exact ⟨rfl, below_drewN (Below.refl _ _) _⟩
  have hne : ((us.length : Int) != (zss.length : Int)) = false := by simp; omega
  have HL := Lib.hid h2; clear h2
  rcases hzz.at_ with h | ⟨b, off, rfl, hb, hc⟩
  · subst h; simp at hn
  obtain ⟨p0, d0, hc0, hd0, hi0⟩ := hc 0 (by omega)
  rw [Nat.add_zero] at hc0
  have hs0 := hi0.small
  have HC := Lib.hid hc; clear hc hi0
  have HEQ : Hid (mixB us zss = (decide ((zss.getD 0 []).length ≤ 40) && ((List.range zss.length).all (mixRow us zss) && decide (us.sum ≤ 1000000)))) := Lib.hid (by unfold mixB; rw [h1, decide_eq_true HL.out]; rfl)
  rw [HEQ.out]
  clear HEQ
  have HRW : Hid (∀ k, mixRow us zss k = (inB (us.getD k 0) 1 1000000 && (decide ((zss.getD k []).length = (zss.getD 0 []).length) && (numB6 (zss.getD k []) && uniqB zss k)))) := Lib.hid (fun k => rfl)
  obtain ⟨m, hm⟩ : ∃ m, m = (zss.getD 0 []).length := ⟨_, rfl⟩
  rw [← hm] at hc0 hd0 hs0 HRW ⊢
  have HM := Lib.hid hm; clear hm
  by_cases h3 : m ≤ 40
  case neg =>
    rw [decide_eq_false h3, Bool.false_and]
    have hgt : decide ((40 : Int) < (m : Int)) = true := decide_eq_true (by omega)
    go_enter Tryd.func83, Tryd.ntmps83
    go_wp2
    go_quiet ((go_at_call 106; exact Calls.quiet_of_same ((l00In_any _ _ _ _).mono fun _ _ h => ⟨h.1.trans (by rw [h1]), h.2.symm⟩)))
    go_wp2
    go_ret
    exact ⟨rfl, below_drewN (Below.refl _ _) _⟩
  rw [decide_eq_true h3, Bool.true_and]
  have hgt : decide ((40 : Int) < (m : Int)) = false := decide_eq_false (by omega)
  obtain ⟨V, hV⟩ : ∃ V, V = ((List.range zss.length).all (mixRow us zss) && decide (us.sum ≤ 1000000)) := ⟨_, rfl⟩
  rw [← hV]
  have HV := Lib.hid hV; clear hV
  go_enter Tryd.func83, Tryd.ntmps83
  go_wp2
  go_quiet ((go_at_call 106; exact Calls.quiet_of_same ((l00In_any _ _ _ _).mono fun _ _ h => ⟨h.1.trans (by rw [h1]), h.2.symm⟩)))
  go_wp2
  go_loopg [3, 4, 5, 6] zss.length (fun kk s i _ _ wr => ∃ k : Nat, k ≤ zss.length ∧ kk = zss.length - k ∧ i = .int .i64 k ∧ s = .int .i64 (us.take k).sum ∧ Hid ((List.range k).all (mixRow us zss) = true) ∧ Hid (Keep w wr))
  case atStart => exact ⟨0, Nat.zero_le _, rfl, rfl, rfl, Lib.hid (by simp), Lib.hid (below_drewN (Below.refl _ _) _)⟩
  case round =>
    obtain ⟨k, hk, rfl, rfl, rfl, HA, HK⟩ := hrel
    obtain ⟨wo, rfl⟩ : ∃ x, x = wr := ⟨wr, rfl⟩
    have hsb := take_sum_bd us k (fun j hj => by
      have h := range_all_get HA.out hj
      rw [HRW.out, Bool.and_eq_true] at h
      exact inB_iff.1 h.1) k (Nat.le_refl _) (by rw [HL.out]; exact hk)
    have HSS := Lib.hid (fun h : k < us.length => sum_take_succ us k h)
    have HSE : Hid (k = zss.length → (us.take k).sum = us.sum) := Lib.hid (fun h => by rw [h, ← HL.out, List.take_length])
    have e0 := (HK.out.cell (p := ⟨B, 0, none⟩) (by exact hBs)).trans c0
    have e1 := (HK.out.cell (p := ⟨B, 1, none⟩) (by exact hBs)).trans c1
    have e2 := (HK.out.cell (p := ⟨b, off, none⟩) (by exact hb)).trans hc0
    generalize (us.take k).sum = S at *
    by_cases hlt : k < zss.length
    · have hku : k < us.length := by rw [HL.out]; exact hlt
      rcases hz.at_ with h | ⟨b2, off2, rfl, hb2, hc2⟩
      · rw [h] at hku; simp at hku
      have hcu := hc2 k hku
      have e3 := (HK.out.cell (p := ⟨b2, off2 + k, none⟩) (by exact hb2)).trans hcu
      obtain ⟨p, d, hcx, hd, hi⟩ := HC.out k hlt
      have e4 := (HK.out.cell (p := ⟨b, off + k, none⟩) (by exact hb)).trans hcx
      have HI := Lib.hid hi
      have hsm := hi.small
      have HS := Lib.hid (range_all_succ (mixRow us zss) k)
      have HF := Lib.hid (fun h => range_all_no (p := mixRow us zss) hlt h)
      have HX := Lib.hid hcx
      have HR := Lib.hid (HRW.out k)
      have HUQ : Hid (uniqB zss k = (List.range k).all fun j => !eqB (zss.getD j []) (zss.getD k [])) := Lib.hid rfl
      have HSK := Lib.hid (HSS.out hku)
      clear hcx hi hc2 hcu
      generalize us.getD k 0 = u at *
      cases h4 : inB u 1 1000000
      · have HNO : Hid (V = false) := Lib.hid (by rw [HV.out, HF.out (by rw [HR.out, h4]; rfl)]; rfl)
        generalize zss.getD k [] = zk at *
        go_wp2
        go_quiet ((go_at_call 106; exact Calls.quiet_of_same ((l00In_any _ _ _ _).mono fun _ _ h => ⟨h.1.trans (by rw [h4]), h.2.symm⟩)))
        go_wp2
        go_ret
        exact ⟨ret_bool HNO.out.symm, below_drewN HK.out _⟩
      have hub := inB_iff.1 h4
      by_cases hl : (zss.getD k []).length = m
      case neg =>
        have HNO : Hid (V = false) := Lib.hid (by rw [HV.out, HF.out (by rw [HR.out, decide_eq_false hl]; simp)]; rfl)
        generalize zss.getD k [] = zk at *
        have hle : ((zk.length : Int) != (m : Int)) = true := by simp; omega
        go_wp2
        go_quiet ((go_at_call 106; exact Calls.quiet_of_same ((l00In_any _ _ _ _).mono fun _ _ h => ⟨h.1.trans (by rw [h4]), h.2.symm⟩)))
        go_wp2
        go_ret
        exact ⟨ret_bool HNO.out.symm, below_drewN HK.out _⟩
      have HLK := Lib.hid hl; clear hl
      obtain ⟨zk, hzk⟩ : ∃ zk, zk = zss.getD k [] := ⟨_, rfl⟩
      rw [← hzk] at e4 hd HI hsm HLK HR HUQ HX
      have HZK := Lib.hid hzk; clear hzk
      have hle : ((zk.length : Int) != (m : Int)) = false := by have := HLK.out; simp; omega
      go_wp2
      go_quiet ((go_at_call 106; exact Calls.quiet_of_same ((l00In_any _ _ _ _).mono fun _ _ h => ⟨h.1.trans (by rw [h4]), h.2.symm⟩)))
      go_wp2
      go_loopg [5] zk.length (fun kk i wi => ∃ t : Nat, t ≤ zk.length ∧ kk = zk.length - t ∧ i = .int .i64 t ∧ Hid (numB6 (zk.take t) = true) ∧ Hid (Keep w wi))
      case atStart => exact ⟨0, Nat.zero_le _, rfl, rfl, Lib.hid (by simp [numB6]), Lib.hid (below_drewN HK.out _)⟩
      case round =>
        obtain ⟨t, ht, rfl, rfl, HA2, HK2⟩ := hrel
        obtain ⟨wp, rfl⟩ : ∃ x, x = wr := ⟨wr, rfl⟩
        have q1 := (HK2.out.cell (p := ⟨B, 1, none⟩) (by exact hBs)).trans c1
        have q4 := (HK2.out.cell (p := ⟨b, off + k, none⟩) (by exact hb)).trans HX.out
        by_cases htl : t < zk.length
        · rcases HI.out.at_ with h | ⟨b3, off3, rfl, hb3, hc3⟩
          · rw [h] at htl; simp at htl
          have q5 := (HK2.out.cell (p := ⟨b3, off3 + t, none⟩) (by exact hb3)).trans (hc3 t htl)
          have HS2 := Lib.hid (all_take_succ (fun x => inB x (-1000000) 1000000) zk t 0 htl)
          have HF2 := Lib.hid (fun h => all_no (p := fun x => inB x (-1000000) 1000000) (0 : Int) htl h)
          clear hc3
          generalize zk.getD t 0 = x at *
          cases hin : inB x (-1000000) 1000000
          · have HNO : Hid (V = false) := Lib.hid (by rw [HV.out, HF.out (by rw [HR.out]; unfold numB6; rw [HF2.out hin]; simp)]; rfl)
            go_wp2_with (go_at_call 106; refine (l00In_any _ _ _ _).mono ?_; rw [hin]; rintro e w' ⟨rfl, rfl⟩)
            go_ret
            exact ⟨ret_bool HNO.out.symm, HK2.out⟩
          · go_wp2_with (go_at_call 106; refine (l00In_any _ _ _ _).mono ?_; rw [hin]; rintro e w' ⟨rfl, rfl⟩)
            go_roundg (zk.length - (t + 1))
            case measure => omega
            case rel => exact ⟨t + 1, by omega, by omega, by go_num, Lib.hid (by have h := HA2.out; unfold numB6 at h ⊢; rw [HS2.out, h, hin]; rfl), HK2⟩
        · have HNB : Hid (numB6 zk = true) := Lib.hid (by have h := HA2.out; rw [show t = zk.length by omega, List.take_length] at h; exact h)
          clear HA2
          go_wp2
          go_loopg [6] k (fun kk j wj => ∃ t : Nat, t ≤ k ∧ kk = k - t ∧ j = .int .i64 t ∧ Hid ((List.range t).all (fun j => !eqB (zss.getD j []) zk) = true) ∧ Hid (Keep w wj))
          case atStart => exact ⟨0, Nat.zero_le _, rfl, rfl, Lib.hid (by simp), HK2⟩
          case round =>
            obtain ⟨j, hj, rfl, rfl, HA3, HK3⟩ := hrel
            obtain ⟨wq, rfl⟩ : ∃ x, x = wr := ⟨wr, rfl⟩
            by_cases hjk : j < k
            · have hjz : j < zss.length := by omega
              obtain ⟨pj, dj, hcj, hdj, hij⟩ := HC.out j hjz
              have HS3 := Lib.hid (range_all_succ (fun j => !eqB (zss.getD j []) zk) j)
              have HF3 := Lib.hid (fun h => range_all_no (p := fun j => !eqB (zss.getD j []) zk) hjk h)
              have HSM : Hid (∀ W, Keep w W → Calls Tryd.prog 129 #[.slice pj (zss.getD j []).length dj, .slice p zk.length d] W fun e w' => e = .returned (.bool (eqB (zss.getD j []) zk)) ∧ Keep w w') := Lib.hid (fun W k => (l00Same_any pj p dj d _ zk W (hij.keep k (Nat.le_refl _)) (HI.out.keep k (Nat.le_refl _))).mono fun _ _ ⟨a, b⟩ => ⟨a, k.next b⟩)
              have HSX : Hid (∀ W, Keep w W → (W.cell? ⟨B, 1, none⟩ = some (.slice (some ⟨b, off, none⟩) zss.length bcap) ∧ W.cell? ⟨b, off + j, none⟩ = some (.slice pj (zss.getD j []).length dj) ∧ W.cell? ⟨b, off + k, none⟩ = some (.slice p zk.length d)) ∧ Keep w W) := Lib.hid (fun W kk => ⟨⟨(kk.cell (p := ⟨B, 1, none⟩) (by exact hBs)).trans c1, (kk.cell (p := ⟨b, off + j, none⟩) (by exact hb)).trans hcj, (kk.cell (p := ⟨b, off + k, none⟩) (by exact hb)).trans HX.out⟩, kk⟩)
              have hsj := hij.small
              obtain ⟨⟨r1, r2, r3⟩, _⟩ := HSX.out wq HK3.out
              have hkq := HK3.out
              clear hcj hij e0 e1 e2 e3 e4 q1 q4
              generalize zss.getD j [] = zj at *
              cases hs : eqB zj zk
              all_goals
                rw [hs] at HSM
                go_wp2
                go_region_held3 (fun W => (W.cell? ⟨B, 1, none⟩ = some (.slice (some ⟨b, off, none⟩) zss.length bcap) ∧ W.cell? ⟨b, off + j, none⟩ = some (.slice pj zj.length dj) ∧ W.cell? ⟨b, off + k, none⟩ = some (.slice p zk.length d)) ∧ Keep w W)
                  (first | exact HSX.out _ (by assumption) | exact HSX.out _ (Keep.next hkq (by go_grown)))
                  (first | (go_at_call 129; refine (HSM.out _ (by first | assumption | exact Keep.next hkq (by go_grown))).mono ?_; rintro e w1 ⟨rfl, k1⟩))
                go_wp2
              · go_roundg (k - (j + 1))
                case measure => omega
                case rel => exact ⟨j + 1, by omega, by omega, by go_num, Lib.hid (by rw [HS3.out, HA3.out, hs]; rfl), Lib.hid (by first | assumption | exact Keep.next hkq (by go_grown))⟩
              · have HNO : Hid (V = false) := Lib.hid (by rw [HV.out, HF.out (by rw [HR.out, HUQ.out, HF3.out (by rw [hs]; rfl)]; simp)]; rfl)
                go_ret
                exact ⟨ret_bool HNO.out.symm, by first | assumption | exact Keep.next hkq (by go_grown)⟩
            · have HUK : Hid (uniqB zss k = true) := Lib.hid (by have h := HA3.out; rw [show j = k by omega] at h; rw [HUQ.out]; exact h)
              go_wp2
              go_roundg (zss.length - (k + 1))
              case measure => omega
              case rel =>
                refine ⟨k + 1, by omega, rfl, by go_num, ?_, Lib.hid ?_, HK3⟩
                · rw [HSK.out]
                · rw [HS.out, HA.out, HR.out, h4, decide_eq_true HLK.out, HNB.out, HUK.out]; rfl
    · have HE := Lib.hid (show k = zss.length by omega)
      have HAV : Hid (V = decide (us.sum ≤ 1000000)) := Lib.hid (by rw [HV.out, ← HE.out, HA.out, Bool.true_and])
      have HSF := Lib.hid (HSE.out HE.out)
      go_wp2
      go_ret
      exact ⟨ret_bool (by rw [HAV.out, ← HSF.out]), HK.out⟩
theorem specValidMixture_any (ad : Option Addr) (cap : Nat) (us : List Int) (bd : Option Addr) (bcap : Nat) (zss : List (List Int)) (w : World) (hz : Ints w ad us) (hzz : Intss w bd zss) :
    Calls Tryd.prog 37 #[mixV ad us.length cap bd zss.length bcap] w fun e w' => e = .returned (.bool (mixB us zss)) ∧ Keep w w' := by
  have hbl : Below w.heap.size w (w.alloc (.cells #[.slice ad us.length cap, .slice bd zss.length bcap] 31)) := by go_grown
  go_enter Tryd.func37, Tryd.ntmps37
  go_wp2_with fail
  refine (l06Is_any w.heap.size ad cap us bd bcap zss _ (hz.keep hbl (Nat.le_refl _)) (hzz.keep hbl (Nat.le_refl _)) (by simp) (by simp)).mono ?_
  rintro e w1 ⟨rfl, k1⟩
  have hk1 : Below w.heap.size w w1 := (Below.trans hbl (k1.mono (by simp <;> omega)))
  go_wp2
  go_ret
  exact ⟨rfl, hk1⟩
end Go.Proofs.YtgpnlnmljeahdaaDoor
