/- The parties by the rests of their quotas: what partiesByRest returns. -/
import Derived.Test.YtklpnllkpapdoaaParties
import Derived.Deep.RegionHeld3
namespace Go.Proofs.Ytklpnllkpapdoaa
open Go.ChangeShapes Go.WideShapes Go.ChangeAt Go.RowKit
set_option linter.unusedVariables false
theorem row_keep {w w' : World} {B e g n cap : Nat} {xs : List Value} (h : w.ownsRow B e 1 (.slice (some ⟨g, 0, none⟩) n cap) n xs) (k : Keep w w') : w'.ownsRow B e 1 (.slice (some ⟨g, 0, none⟩) n cap) n xs :=
  h.kept (row := none) ⟨k.os, k.tape, k.output, k.size, fun j hj _ => k.block j hj⟩ (.inr (by simp [Value.ownBlock]))
def idxL (k : Nat) : List Int := (List.range k).map fun i : Nat => (i : Int)
theorem idxL_len (k : Nat) : (idxL k).length = k := by simp [idxL]
theorem idxL_take (n k : Nat) (h : k ≤ n) : (idxL n).take k = idxL k := by
  unfold idxL; rw [← List.map_take, List.take_range, Nat.min_eq_left h]
theorem idxL_get (n t : Nat) (h : t < n) : (idxL n).getD t 0 = t := by
  unfold idxL; simp [List.getD_eq_getElem?_getD, h]
theorem tmod_rest {s z T : Int} (h1 : 0 ≤ s) (h3 : 0 ≤ z) : (s * z).tmod T = (s * z) % T := Int.tmod_eq_emod_of_nonneg (Int.mul_nonneg h1 h3)
set_option maxHeartbeats 3200000 in
theorem partiesByRest_any (ad : Option Addr) (cap : Nat) (zs : List Int) (s : Int) (w : World) (hz : Ints w ad zs) (hv : okVotes zs = true) (s1 : 0 ≤ s) (s2 : s ≤ 100) :
    Calls Try.prog 28 #[.slice ad zs.length cap, .int .i64 s] w fun e w' =>
      ∃ b, ∃ p : List Nat, e = .returned (.slice (some ⟨b, 0, none⟩) zs.length zs.length) ∧ w.heap.size ≤ b ∧ b < w'.heap.size ∧ p.Perm (List.range zs.length) ∧ (∀ i j, i < j → j < zs.length → bef (rests s zs) (p.getD j 0) (p.getD i 0) = false) ∧
        (∀ r, r < zs.length → w'.cell? ⟨b, r, none⟩ = some (.int .i64 ((p.getD r 0 : Nat) : Int))) ∧ Keep w w' := by
  have HN := Lib.hid (okVotes_num hv)
  have hl := okVotes_len hv
  have ht := okVotes_sum hv
  have hpos : 1 ≤ zs.length := by
    rcases Nat.eq_zero_or_pos zs.length with h | h
    · have := List.eq_nil_of_length_eq_zero h; subst this; simp at ht
    · exact h
  clear hv
  have HR : Hid (∀ k, k < zs.length → (rests s zs).getD k 0 = (s * zs.getD k 0) % zs.sum) := Lib.hid (fun k hk => by
    unfold rests; simp [List.getD_eq_getElem?_getD, hk])
  have HRL : Hid ((rests s zs).length = zs.length) := Lib.hid (by simp [rests])
  generalize rests s zs = R at HR HRL ⊢
  obtain ⟨i0, hi, hz0, hz1, hz2⟩ := info_parts Try.infoI
  obtain ⟨iN, hiN, hn0, hn1, hn2, _⟩ := infoN_parts
  have hb8 : i0.bytes * zs.length ≤ 281474976710656 := by rw [hz2]; omega
  have hb8' : iN.bytes * zs.length ≤ 281474976710656 := by rw [hn2]; omega
  have hml : zs.length ≤ maxLen := by unfold maxLen; omega
  go_enter Try.func28, Try.ntmps28
  go_wp2_with fail
  refine (total_any ad cap zs _ hz (fun z hz => by have := HN.out z hz; omega) (by omega)).mono ?_
  rintro e w' ⟨rfl, rfl⟩
  go_wp2_with (at_make; refine wpList_make_full w rfl _ _ 24 rfl w.heap.size 2 i0 (.int .i64 0) 1 Try.underlying24 hi hz0 hz1 .i64 .i64 _ _ zs.length rfl rfl rfl rfl hb8 hml (Nat.le_refl _) ?_)
  intro w1 hown1 hgrow1
  have hown1 : w1.ownsRow w.heap.size 2 1 (.slice (some ⟨w.heap.size, 0, none⟩) zs.length zs.length) zs.length (List.replicate zs.length (.int .i64 0)) := by simpa [Value.cells, toList_madeCells_one] using hown1
  have k1 : Keep w w1 := (Below.refl _ _).grown hgrow1 (Nat.le_refl _) (fun k h => by cases h)
  clear hgrow1
  have l1 : w.heap.size < w1.heap.size := by
    rcases hown1.2 with ⟨_, h⟩ | ⟨g, c, cur, h1, h2, h3, _⟩
    · omega
    · simp at h1; obtain ⟨rfl, _⟩ := h1; exact lt_of_block h3
  have k1a : Below w1.heap.size w1 (w1.alloc (.cells #[.slice (some ⟨w.heap.size, 0, none⟩) zs.length zs.length] 24)) := by go_grown
  have cB1 : (w1.alloc (.cells #[.slice (some ⟨w.heap.size, 0, none⟩) zs.length zs.length] 24)).cell? ⟨w1.heap.size, 0, none⟩ = some (.slice (some ⟨w.heap.size, 0, none⟩) zs.length zs.length) := by simp
  have s2 : (w1.alloc (.cells #[.slice (some ⟨w.heap.size, 0, none⟩) zs.length zs.length] 24)).heap.size = w1.heap.size + 1 := by simp
  have HO1 := Lib.hid hown1; have K1 := Lib.hid k1; have K1A := Lib.hid k1a; have CB1 := Lib.hid cB1
  have l2 : w1.heap.size < (w1.alloc (.cells #[.slice (some ⟨w.heap.size, 0, none⟩) zs.length zs.length] 24)).heap.size := by omega
  clear hown1 k1 k1a cB1
  go_wp2_with (at_make; refine wpList_make_full (w1.alloc (.cells #[.slice (some ⟨w.heap.size, 0, none⟩) zs.length zs.length] 24)) rfl _ _ 50 rfl (w1.heap.size + 1) 3 iN (.int .i64 0) 1 Try.underlying50 hiN hn0 hn1 .i64 .i64 _ _ zs.length rfl rfl rfl rfl hb8' hml (by simp) ?_)
  generalize (w1.alloc (.cells #[.slice (some ⟨w.heap.size, 0, none⟩) zs.length zs.length] 24)) = w2 at *
  intro w3 hown3 hgrow3
  have hown3 : w3.ownsRow (w1.heap.size + 1) 3 1 (.slice (some ⟨(w1.heap.size + 1), 0, none⟩) zs.length zs.length) zs.length (List.replicate zs.length (.int .i64 0)) := by simpa [Value.cells, toList_madeCells_one] using hown3
  have k3 : Keep w2 w3 := (Below.refl _ _).grown hgrow3 (Nat.le_refl _) (fun k h => by cases h)
  clear hgrow3
  have l3 : (w1.heap.size + 1) < w3.heap.size := by
    rcases hown3.2 with ⟨_, h⟩ | ⟨g, c, cur, h1, h2, h3, _⟩
    · omega
    · simp at h1; obtain ⟨rfl, _⟩ := h1; exact lt_of_block h3
  have k3a : Below w3.heap.size w3 (w3.alloc (.cells #[.slice (some ⟨(w1.heap.size + 1), 0, none⟩) zs.length zs.length] 50)) := by go_grown
  have cB3 : (w3.alloc (.cells #[.slice (some ⟨(w1.heap.size + 1), 0, none⟩) zs.length zs.length] 50)).cell? ⟨w3.heap.size, 0, none⟩ = some (.slice (some ⟨(w1.heap.size + 1), 0, none⟩) zs.length zs.length) := by simp
  have l4 : w3.heap.size < (w3.alloc (.cells #[.slice (some ⟨(w1.heap.size + 1), 0, none⟩) zs.length zs.length] 50)).heap.size := by simp
  have k24 : Keep w2 (w3.alloc (.cells #[.slice (some ⟨(w1.heap.size + 1), 0, none⟩) zs.length zs.length] 50)) := Keep.next k3 k3a
  have HO0 := Lib.hid (row_keep HO1.out (Keep.next K1A.out k24))
  have HO2 := Lib.hid (row_keep hown3 k3a)
  have C1 := Lib.hid ((k24.cell (p := ⟨w1.heap.size, 0, none⟩) (by show w1.heap.size < w2.heap.size; omega)).trans CB1.out)
  have C3 := Lib.hid cB3
  have K4 := Lib.hid (Keep.next (Keep.next K1.out K1A.out) k24)
  clear HO1 K1 K1A CB1 hown3 k3 k3a cB3 k24
  go_wp2
  generalize w3.alloc (.cells #[.slice (some ⟨(w1.heap.size + 1), 0, none⟩) zs.length zs.length] 50) = w4 at *
  obtain ⟨b0, hb0⟩ : ∃ b, b = w.heap.size := ⟨_, rfl⟩
  obtain ⟨b2, hb2⟩ : ∃ b, b = w1.heap.size + 1 := ⟨_, rfl⟩
  obtain ⟨b1, hb1⟩ : ∃ b, b = w1.heap.size := ⟨_, rfl⟩
  obtain ⟨b3, hb3⟩ : ∃ b, b = w3.heap.size := ⟨_, rfl⟩
  rw [← hb0, ← hb1] at l1; have l2' : b1 < b2 := by omega
  clear l2 s2; rw [← hb2, ← hb3] at l3; rw [← hb3] at l4
  rw [← hb0] at HO0; rw [← hb2] at HO2; rw [← hb0, ← hb1] at C1; rw [← hb2, ← hb3] at C3
  rw [← hb0, ← hb2, ← hb1, ← hb3]
  have HB0 := Lib.hid hb0; clear hb0 hb1 hb2 hb3
  clear hi hz0 hz1 hz2 hiN hn0 hn1 hn2 hb8 hb8'
  go_wp2
  go_loopw [8, 9, 20] (fun _ _ i wr => ∃ k : Nat, k ≤ zs.length ∧ i = .int .i64 k ∧ wr.ownsRow b0 2 1 (.slice (some ⟨b0, 0, none⟩) zs.length zs.length) zs.length (vals (R.take k) ++ List.replicate (zs.length - k) (.int .i64 0)) ∧
      wr.ownsRow b2 3 1 (.slice (some ⟨b2, 0, none⟩) zs.length zs.length) zs.length (vals ((idxL zs.length).take k) ++ List.replicate (zs.length - k) (.int .i64 0)) ∧
      wr.cell? ⟨b1, 0, none⟩ = some (.slice (some ⟨b0, 0, none⟩) zs.length zs.length) ∧ wr.cell? ⟨b3, 0, none⟩ = some (.slice (some ⟨b2, 0, none⟩) zs.length zs.length) ∧ Below b0 w wr ∧ b3 < wr.heap.size)
    (fun _ _ i _ => zs.length - (intOf i).toNat)
  case atStart => exact ⟨0, Nat.zero_le _, rfl, by simpa using HO0.out, by simpa using HO2.out, C1.out, C3.out, by rw [HB0.out]; exact K4.out, l4⟩
  case round =>
    obtain ⟨k, hk, rfl, ho0, ho2, c1, c3, hbel, hsz⟩ := hrel
    by_cases hlt : k < zs.length
    · rcases hz.at_ with h | ⟨b, off, rfl, hb, hc⟩
      · subst h; simp at hlt
      have hcx : wr.cell? ⟨b, off + k, none⟩ = some (.int .i64 (zs.getD k 0)) := (hbel.cell (by show b < b0; rw [HB0.out]; exact hb)).trans (hc k hlt)
      have hx := HN.out _ (getD_mem zs k hlt)
      have hRx := HR.out k hlt
      have hcy0 : wr.cell? ⟨b0, k, none⟩ = some (.int .i64 0) := by
        have h := fill_get R k (by rw [HRL.out]; exact hlt) (.int .i64 0)
        rw [HRL.out] at h; rw [ho0.cellAt k (by omega), h]
      have hcy2 : wr.cell? ⟨b2, k, none⟩ = some (.int .i64 0) := by
        have h := fill_get (idxL zs.length) k (by rw [idxL_len]; exact hlt) (.int .i64 0)
        rw [idxL_len] at h; rw [ho2.cellAt k (by omega), h]
      have hfy0 := ho0.frozenAt k
      have hfy2 := ho2.frozenAt k
      have E0 := Lib.hid (fill_set R k (by rw [HRL.out]; exact hlt) (.int .i64 0))
      rw [HRL.out, hRx] at E0
      have E2 := Lib.hid (fill_set (idxL zs.length) k (by rw [idxL_len]; exact hlt) (.int .i64 0))
      rw [idxL_len, idxL_get _ _ hlt] at E2
      clear hc hRx
      generalize zs.getD k 0 = x at hcx hx E0
      obtain ⟨m1, m2⟩ := sm_bd s1 s2 hx.1 hx.2
      have hT : zs.sum ≠ 0 := by omega
      have S0 := Lib.hid (ho0.stored k (.int .i64 ((s * x) % zs.sum)))
      have O2 := Lib.hid (ownsRow_setCell_other ho2 (a := ⟨b0, k, none⟩) (by simp [Value.ownBlock]; omega) (.int .i64 ((s * x) % zs.sum)))
      have HC1 := Lib.hid c1
      clear ho0 ho2
      go_wp2
      have W1 : Hid (IntKind.i64.wrap (s * x) = s * x) := Lib.hid (IntWalk.i64_in _ (by omega))
      go_region_held3 (fun w' => w'.cell? ⟨b1, 0, none⟩ = some (.slice (some ⟨b0, 0, none⟩) zs.length zs.length))
        (first | exact c1 | exact (World.cell?_setCell_other wr _ _ _ (by simp <;> omega)).trans c1)
        (fail)
      go_wp2
      go_roundw
      case rel =>
        obtain ⟨q1, q2⟩ := S0.out
        rw [E0.out] at q1
        obtain ⟨r1, r2⟩ := O2.out.stored k (.int .i64 (k : Int))
        rw [E2.out] at r1
        refine ⟨k + 1, by omega, by go_num, ?_, r1, ?_, ?_, ?_, ?_⟩
        · have q3 := ownsRow_setCell_other q1 (a := ⟨b2, k, none⟩) (by simp [Value.ownBlock]; omega) (.int .i64 (k : Int))
          exact q3
        · show ((wr.setCell _ _).setCell _ _).cell? _ = _
          rw [World.cell?_setCell_other _ _ _ _ (by simp <;> omega), World.cell?_setCell_other _ _ _ _ (by simp <;> omega)]; exact HC1.out
        · show ((wr.setCell _ _).setCell _ _).cell? _ = _
          rw [World.cell?_setCell_other _ _ _ _ (by simp <;> omega), World.cell?_setCell_other _ _ _ _ (by simp <;> omega)]; exact c3
        · exact ((hbel.setCell (by show b0 ≤ b0; omega) _).setCell (by show b0 ≤ b2; omega) _).drew
        · show b3 < ((wr.setCell _ _).setCell _ _).heap.size
          simpa using hsz
      case measure => simp [intOf]; omega
    · have HK := Lib.hid (show k = zs.length from by omega)
      have hp0 : ∀ t, t < zs.length → wr.cell? ⟨b2, t, none⟩ = some (.int .i64 t) ∧ wr.frozen? ⟨b2, t, none⟩ = false := fun t ht => by
        refine ⟨?_, ho2.frozenAt t⟩
        rw [ho2.cellAt t (by omega), HK.out, Nat.sub_self, List.replicate_zero, List.append_nil, List.take_of_length_le (by rw [idxL_len]; omega)]
        rw [List.getElem?_map, List.getElem?_eq_getElem (by rw [idxL_len]; exact ht)]
        have := idxL_get zs.length t ht
        rw [getD_get _ t (by rw [idxL_len]; exact ht)] at this
        rw [this]; rfl
      have hr0 : ∀ t, t < zs.length → wr.cell? ⟨b0, t, none⟩ = some (.int .i64 (R.getD t 0)) := fun t ht => by
        rw [ho0.cellAt t (by omega), HK.out, Nat.sub_self, List.replicate_zero, List.append_nil, List.take_of_length_le (by rw [HRL.out]; omega)]
        rw [List.getElem?_map, List.getElem?_eq_getElem (by rw [HRL.out]; exact ht), getD_get _ t (by rw [HRL.out]; exact ht)]; rfl
      have HS := Lib.hid (sortParties_any zs.length b0 b1 b2 b3 R wr hpos hl c3 c1 hp0 hr0 (by omega) (by omega) (by omega))
      clear hp0 hr0 ho0 ho2 c1
      go_wp2_with fail
      refine HS.out.mono ?_
      rintro e w5 ⟨rfl, p, hperm, hsort, hcells, c3', k5⟩
      have hsz5 := k5.size
      have P1 := Lib.hid hperm; have P2 := Lib.hid hsort; have P3 := Lib.hid hcells
      clear hperm hsort hcells c3
      go_wp2
      go_ret
      have e := HB0.out
      exact ⟨b2, p, rfl, by omega, by omega, P1.out, P2.out, P3.out, by have := hbel.trans (k5.mono (B' := b0) (by omega)); rw [e] at this; exact this⟩
end Go.Proofs.Ytklpnllkpapdoaa
