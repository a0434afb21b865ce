/- Quotas: seats times votes, divided by all votes, rounded down and up. -/
import Derived.Test.YtklpnllkpapdoaaVotes
import Derived.Deep.RegionHeld3
namespace Go.Proofs.Ytklpnllkpapdoaa
open Go.ChangeShapes Go.WideShapes Go.ChangeAt Go.RowKit
set_option linter.unusedVariables false
def qLow (s : Int) (zs : List Int) : List Int := zs.map fun z => fl (s * z) zs.sum
def qHigh (s : Int) (zs : List Int) : List Int := zs.map fun z => ce (s * z) zs.sum
theorem sm_bd {s z : Int} (h1 : 0 ≤ s) (h2 : s ≤ 100) (h3 : 0 ≤ z) (h4 : z ≤ 1000000) : 0 ≤ s * z ∧ s * z ≤ 100000000 := by
  have e1 : s * z ≤ 100 * z := Int.mul_le_mul_of_nonneg_right h2 h3
  have e2 := Int.mul_nonneg h1 h3
  omega
theorem fl_quo {a b : Int} (ha : 0 ≤ a) : a.tdiv b = fl a b := by unfold fl; exact Int.tdiv_eq_ediv_of_nonneg ha
theorem ce_quo {a b : Int} (ha : 0 ≤ a) (hb : 1 ≤ b) : (a + b - 1).tdiv b = ce a b := by
  rw [Int.tdiv_eq_ediv_of_nonneg (by omega)]
  obtain ⟨h1, h2⟩ := fl_mul (a := -a) hb
  have e : ce a b = -fl (-a) b := rfl
  rw [e]
  have := fl_eq (a := a + b - 1) (b := b) (q := -fl (-a) b) hb (by rw [Int.mul_neg]; omega) (by rw [Int.mul_neg]; omega)
  unfold fl at this ⊢; exact this
theorem quo_in {s z T : Int} (h1 : 0 ≤ s) (h2 : s ≤ 100) (h3 : 0 ≤ z) (h4 : z ≤ 1000000) (hT : 1 ≤ T) : (0 ≤ fl (s * z) T ∧ fl (s * z) T ≤ 100000000) ∧ 0 ≤ ce (s * z) T ∧ ce (s * z) T ≤ 100000000 := by
  obtain ⟨m1, m2⟩ := sm_bd h1 h2 h3 h4
  have f := fl_bd (a := s * z) (M := 100000000) hT (by omega) (by omega) (by omega)
  have c := ce_bd (a := s * z) (M := 100000000) hT (by omega) (by omega) (by omega)
  have f0 : 0 ≤ fl (s * z) T := by unfold fl; exact Int.ediv_nonneg m1 (by omega)
  have c0 : 0 ≤ ce (s * z) T := by
    have := fl_bd (a := -(s * z)) (b := T) (M := 100000000) hT (by omega) (by omega) (by omega)
    obtain ⟨g1, g2⟩ := fl_mul (a := -(s * z)) hT
    unfold ce; unfold fl at g1
    by_cases h : -(s * z) / T ≤ 0
    · omega
    · exfalso
      have h8 : T * 1 ≤ T * (-(s * z) / T) := Int.mul_le_mul_of_nonneg_left (by omega) (by omega)
      omega
  omega
theorem fill_set_mapQ (φ : Int → Int) (zs : List Int) (k : Nat) (h : k < zs.length) (z : Value) : (vals ((zs.take k).map φ) ++ List.replicate (zs.length - k) z).set k (.int .i64 (φ (zs.getD k 0))) = vals ((zs.take (k + 1)).map φ) ++ List.replicate (zs.length - (k + 1)) z := by
  have h1 := fill_set (zs.map φ) k (by simpa using h) z
  have e : (zs.map φ).getD k 0 = φ (zs.getD k 0) := by simp [List.getD_eq_getElem?_getD, h]
  rw [e, List.length_map, ← List.map_take, ← List.map_take] at h1
  exact h1
theorem fill_get_mapQ (φ : Int → Int) (zs : List Int) (k : Nat) (h : k < zs.length) (z : Value) : (vals ((zs.take k).map φ) ++ List.replicate (zs.length - k) z)[k]? = some z := by
  have h1 := fill_get (zs.map φ) k (by simpa using h) z
  rw [List.length_map, ← List.map_take] at h1
  exact h1
set_option maxHeartbeats 1600000 in
/-- The images of a list under the closure of quotas, whatever that computes. -/
theorem mappedQ_any (φ : Int → Int) (p1 p2 p3 : Value) (ad : Option Addr) (cap : Nat) (zs : List Int) (w : World) (hz : Ints w ad zs) (hs : zs.length ≤ 1099511627776) (hin : ∀ z ∈ zs, In64 (φ z))
    (hf : ∀ x ∈ zs, ∀ W, Keep w W → Calls Try.prog 45 #[.int .i64 x, p1, p2, p3] W fun e w' => e = .returned (.int .i64 (φ x)) ∧ W = w') :
    Calls Try.prog 44 #[.slice ad zs.length cap, .func (.func 45) #[] #[p1, p2, p3]] w fun e w' =>
      ∃ rd rc, e = .returned (.slice rd (zs.map φ).length rc) ∧ Own w' w.heap.size rd rc (zs.map φ) ∧ Keep w w' := by
  obtain ⟨i0, hi, hz0, hz1, hz2⟩ := info_parts Try.infoI
  have hb8 : i0.bytes * zs.length ≤ 281474976710656 := by rw [hz2]; omega
  have hml : zs.length ≤ maxLen := by unfold maxLen; omega
  have HF := Lib.hid hf; clear hf
  go_enter Try.func44, Try.ntmps44
  go_wp2_with (at_make; refine wpList_make_full w rfl _ _ 24 rfl w.heap.size 2 i0 (.int .i64 0) 1 Try.underlying24 hi hz0 hz1 .i64 .i64 _ _ zs.length rfl rfl rfl rfl hb8 hml (Nat.le_refl _) ?_)
  intro w0 hown0 hgrow0
  have hown0 : w0.ownsRow w.heap.size 2 1 (.slice (some ⟨w.heap.size, 0, none⟩) zs.length zs.length) zs.length (List.replicate zs.length (.int .i64 0)) := by simpa [Value.cells, toList_madeCells_one] using hown0
  have hk0 : Keep w w0 := (Below.refl _ _).grown hgrow0 (Nat.le_refl _) (fun k h => by cases h)
  clear hgrow0
  obtain ⟨B, hB⟩ : ∃ B, B = w.heap.size := ⟨_, rfl⟩
  rw [← hB] at hown0 ⊢
  have HB := Lib.hid hB; clear hB
  have hlen := hz.small
  go_wp2
  go_loopw [6, 7, 13] (fun _ _ i wr => ∃ k : Nat, k ≤ zs.length ∧ i = .int .i64 k ∧ wr.ownsRow B 2 1 (.slice (some ⟨B, 0, none⟩) zs.length zs.length) zs.length (vals ((zs.take k).map φ) ++ List.replicate (zs.length - k) (.int .i64 0)) ∧ Below B w wr)
    (fun _ _ i _ => zs.length - (intOf i).toNat)
  case atStart => exact ⟨0, Nat.zero_le _, rfl, by simpa using hown0, by rw [HB.out]; exact hk0⟩
  case round =>
    obtain ⟨k, hk, rfl, hown, hbel⟩ := hrel
    by_cases hlt : k < zs.length
    · rcases hz.at_ with h | ⟨b, off, rfl, hb, hc⟩
      · subst h; simp at hlt
      have hcx : wr.cell? ⟨b, off + k, none⟩ = some (.int .i64 (zs.getD k 0)) := (hbel.cell (by show b < B; rw [HB.out]; exact hb)).trans (hc k hlt)
      have hcy : wr.cell? ⟨B, k, none⟩ = some (.int .i64 0) := by rw [hown.cellAt k (by omega), fill_get_mapQ φ zs k hlt]
      have hmem : zs.getD k 0 ∈ zs := by rw [List.getD_eq_getElem?_getD, List.getElem?_eq_getElem hlt]; exact List.getElem_mem hlt
      have hfy := hown.frozenAt k
      have HST := Lib.hid (hown.stored k (.int .i64 (φ (zs.getD k 0))))
      have HE := Lib.hid (fill_set_mapQ φ zs k hlt (.int .i64 0))
      have HFX := Lib.hid (HF.out (zs.getD k 0) hmem wr (by have h := hbel; rw [HB.out] at h; exact h))
      clear hc hmem
      generalize zs.getD k 0 = x at hcx HST HE HFX
      go_wp2_with (go_at_call 45; refine HFX.out.mono ?_; rintro e w' ⟨rfl, rfl⟩)
      go_roundw
      case rel =>
        obtain ⟨s1, s2⟩ := HST.out
        rw [HE.out] at s1
        refine ⟨k + 1, by omega, by go_num, s1, ?_⟩
        exact hbel.setCell (Nat.le_refl _) _
      case measure => simp [intOf]; omega
    · go_wp2
      go_ret
      have he : k = zs.length := by omega
      subst he
      have e := HB.out
      subst e
      refine ⟨some ⟨w.heap.size, 0, none⟩, zs.length, by simp, ⟨by simpa using hown, by simpa using hs, ?_⟩, hbel⟩
      intro z hz; obtain ⟨y, hy, rfl⟩ := List.mem_map.1 hz; exact hin y hy
set_option maxHeartbeats 1600000 in
theorem quotas_any (φ : Int → Int) (F : Nat) (s : Int) (ad : Option Addr) (cap : Nat) (zs : List Int) (w : World) (hz : Ints w ad zs) (hv : okVotes zs = true)
    (hin : ∀ z ∈ zs, In64 (φ z))
    (hf : ∀ x ∈ zs, ∀ W b1 b2 b3, W.cell? ⟨b1, 0, none⟩ = some (.func (.func F) #[] #[]) → W.cell? ⟨b2, 0, none⟩ = some (.int .i64 s) → W.cell? ⟨b3, 0, none⟩ = some (.int .i64 zs.sum) →
      Calls Try.prog 45 #[.int .i64 x, .pointer (some ⟨b1, 0, none⟩), .pointer (some ⟨b2, 0, none⟩), .pointer (some ⟨b3, 0, none⟩)] W fun e w' => e = .returned (.int .i64 (φ x)) ∧ W = w') :
    Calls Try.prog 26 #[.slice ad zs.length cap, .int .i64 s, .func (.func F) #[] #[]] w fun e w' =>
      ∃ rd rc, e = .returned (.slice rd (zs.map φ).length rc) ∧ Own w' w.heap.size rd rc (zs.map φ) ∧ Keep w w' := by
  have HF := Lib.hid hf; clear hf
  have HI := Lib.hid hin; clear hin
  have HN := Lib.hid (okVotes_num hv)
  have hl := okVotes_len hv
  clear hv
  go_enter Try.func26, Try.ntmps26
  go_wp2_with fail
  refine (total_any ad cap zs _ (hz.keep (B := _) (by go_grown) (Nat.le_refl _)) (fun z hz => by have := HN.out z hz; omega) (by omega)).mono ?_
  rintro e w1 ⟨rfl, rfl⟩
  go_wp2_with fail
  refine (mappedQ_any φ _ _ _ ad cap zs _ (hz.keep (B := _) (by go_grown) (Nat.le_refl _)) (by omega) HI.out (fun x hx W k => ?_)).mono ?_
  · have c1 : W.cell? ⟨w.heap.size + 1, 0, none⟩ = some (.func (.func F) #[] #[]) := by rw [k.cell (by simp)]; simp [go_sem]
    have c2 : W.cell? ⟨w.heap.size, 0, none⟩ = some (.int .i64 s) := by rw [k.cell (by simp; omega)]; simp [go_sem]
    have c3 : W.cell? ⟨w.heap.size + 1 + 1, 0, none⟩ = some (.int .i64 zs.sum) := by rw [k.cell (by simp)]; simp [go_sem]
    exact HF.out x hx W _ _ _ c1 c2 c3
  rintro e w2 ⟨rd, rc, rfl, o2, k2⟩
  have g2 : Keep w w2 := Keep.next (by go_grown) k2
  have o3 := o2.mono (B' := w.heap.size) (by simp; omega)
  clear o2 k2
  go_wp2
  go_ret
  exact ⟨rd, rc, by simp, o3, g2⟩
theorem closQ_fl (x s T : Int) (b1 b2 b3 : Nat) (w : World) (c1 : w.cell? ⟨b1, 0, none⟩ = some (.func (.func 27) #[] #[])) (c2 : w.cell? ⟨b2, 0, none⟩ = some (.int .i64 s)) (c3 : w.cell? ⟨b3, 0, none⟩ = some (.int .i64 T)) (hs : 0 ≤ s) (hs2 : s ≤ 100) (hT : 1 ≤ T) (hT2 : T ≤ 12000000) (hx : 0 ≤ x) (hx2 : x ≤ 1000000) :
    Calls Try.prog 45 #[.int .i64 x, .pointer (some ⟨b1, 0, none⟩), .pointer (some ⟨b2, 0, none⟩), .pointer (some ⟨b3, 0, none⟩)] w fun e w' => e = .returned (.int .i64 (fl (s * x) T)) ∧ w = w' := by
  obtain ⟨m1, m2⟩ := sm_bd hs hs2 hx hx2
  go_enter Try.func45, Try.ntmps45
  go_wp2_with (go_at_call 27; refine (floorOf_any (s * x) T _ (by omega) (by omega) (by omega) (by omega)).mono ?_; rintro e w' ⟨rfl, rfl⟩)
  go_ret
  exact ⟨rfl, rfl⟩
theorem quotasLow_any (s : Int) (ad : Option Addr) (cap : Nat) (zs : List Int) (w : World) (hz : Ints w ad zs) (hv : okVotes zs = true) (hs : 0 ≤ s) (hs2 : s ≤ 100) :
    Calls Try.prog 26 #[.slice ad zs.length cap, .int .i64 s, .func (.func 27) #[] #[]] w fun e w' =>
      ∃ rd rc, e = .returned (.slice rd (qLow s zs).length rc) ∧ Own w' w.heap.size rd rc (qLow s zs) ∧ Keep w w' := by
  have hn := okVotes_num hv
  have ht := okVotes_sum hv
  refine quotas_any (fun z => fl (s * z) zs.sum) 27 s ad cap zs w hz hv (fun z hz => ?_) (fun x hx W b1 b2 b3 c1 c2 c3 => ?_)
  · have h := hn z hz
    have := quo_in hs hs2 h.1 h.2 (T := zs.sum) (by omega)
    exact ⟨by omega, by omega⟩
  · have h := hn x hx
    exact closQ_fl x s zs.sum b1 b2 b3 W c1 c2 c3 hs hs2 (by omega) (by omega) h.1 h.2
def okQ (s : Int) (zs : List Int) : Bool := okVotes zs && inB s 0 100
def qLowV (s : Int) (zs : List Int) : List Int := if okQ s zs then qLow s zs else []
def qHighV (s : Int) (zs : List Int) : List Int := if okQ s zs then qHigh s zs else []
end Go.Proofs.Ytklpnllkpapdoaa
