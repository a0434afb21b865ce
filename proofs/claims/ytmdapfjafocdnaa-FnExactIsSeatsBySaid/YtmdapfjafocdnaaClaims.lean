/- The claims of all parties. -/
import Derived.Test.YtmdapfjafocdnaaWorth
namespace Go.Proofs.Ytmdapfjafocdnaa
open Go.ChangeShapes Go.WideShapes Go.ChangeAt Go.RowKit
set_option linter.unusedVariables false
theorem Try.infoC : (Try.prog.info? 84).map (fun i => (i.zero, i.size, i.bytes)) = some (some (.agg #[.int .i64 0, .int .i64 0, .int .i64 0, .int .i64 0]), 4, 32) := by kernel_rfl
/-- The claims of the first n parties lie in the block g. -/
def ClaimsAt (W : World) (g : Nat) (ls : List Int) (cn cd : Nat → Int → Int) (n : Nat) : Prop :=
  ∀ j, j < n → W.cell? ⟨g, j * 4, none⟩ = some (.int .i64 j) ∧ W.cell? ⟨g, j * 4 + 1, none⟩ = some (.int .i64 (ls.getD j 0)) ∧ W.cell? ⟨g, j * 4 + 2, none⟩ = some (.int .i64 (cn j (ls.getD j 0))) ∧ W.cell? ⟨g, j * 4 + 3, none⟩ = some (.int .i64 (cd j (ls.getD j 0)))
/-- A block of so many cells that can be read and written. -/
def Room (W : World) (g n : Nat) : Prop := ∀ i, i < n → (∃ u, W.cell? ⟨g, i, none⟩ = some u) ∧ W.frozen? ⟨g, i, none⟩ = false
theorem Room.keep {W W' : World} {g n B : Nat} (h : Room W g n) (k : Below B W W') (hg : g < B) : Room W' g n := fun i hi => by
  obtain ⟨⟨u, hu⟩, hf⟩ := h i hi
  exact ⟨⟨u, (k.cell (p := ⟨g, i, none⟩) hg).trans hu⟩, (k.frozen (p := ⟨g, i, none⟩) hg).trans hf⟩
theorem cell_set_far (W : World) (g i j : Nat) (u : Value) (h : i ≠ j) : (W.setCell ⟨g, j, none⟩ u).cell? ⟨g, i, none⟩ = W.cell? ⟨g, i, none⟩ :=
  World.cell?_setCell_other _ _ _ _ (by first | (simp; done) | (simp; exact h))
theorem Room.set {W : World} {g n : Nat} (h : Room W g n) (j : Nat) (u : Value) : Room (W.setCell ⟨g, j, none⟩ u) g n := fun i hi => by
  obtain ⟨⟨v, hv⟩, hf⟩ := h i hi
  refine ⟨?_, by simpa using hf⟩
  by_cases e : i = j
  · subst e; exact ⟨u, World.cell?_setCell_same _ _ _ hv⟩
  · exact ⟨v, by rw [cell_set_far _ _ _ _ _ e]; exact hv⟩
def set4 (W : World) (g k : Nat) (a b c d : Value) : World := (((W.setCell ⟨g, k * 4, none⟩ a).setCell ⟨g, k * 4 + 1, none⟩ b).setCell ⟨g, k * 4 + 2, none⟩ c).setCell ⟨g, k * 4 + 3, none⟩ d
theorem Room.set4 {W : World} {g n : Nat} (h : Room W g n) (k : Nat) (a b c d : Value) : Room (set4 W g k a b c d) g n := (((h.set _ _).set _ _).set _ _).set _ _
theorem set4_get {W : World} {g n k : Nat} (h : Room W g n) (hk : k * 4 + 3 < n) (a b c d : Value) :
    (set4 W g k a b c d).cell? ⟨g, k * 4, none⟩ = some a ∧ (set4 W g k a b c d).cell? ⟨g, k * 4 + 1, none⟩ = some b ∧ (set4 W g k a b c d).cell? ⟨g, k * 4 + 2, none⟩ = some c ∧ (set4 W g k a b c d).cell? ⟨g, k * 4 + 3, none⟩ = some d := by
  unfold Go.Proofs.Ytmdapfjafocdnaa.set4
  obtain ⟨⟨u0, h0⟩, _⟩ := h (k * 4) (by omega)
  obtain ⟨⟨u1, h1⟩, _⟩ := (h.set (k * 4) a) (k * 4 + 1) (by omega)
  obtain ⟨⟨u2, h2⟩, _⟩ := ((h.set (k * 4) a).set (k * 4 + 1) b) (k * 4 + 2) (by omega)
  obtain ⟨⟨u3, h3⟩, _⟩ := (((h.set (k * 4) a).set (k * 4 + 1) b).set (k * 4 + 2) c) (k * 4 + 3) (by omega)
  refine ⟨?_, ?_, ?_, World.cell?_setCell_same _ _ _ h3⟩
  · rw [cell_set_far _ _ _ _ _ (by omega), cell_set_far _ _ _ _ _ (by omega), cell_set_far _ _ _ _ _ (by omega)]; exact World.cell?_setCell_same _ _ _ h0
  · rw [cell_set_far _ _ _ _ _ (by omega), cell_set_far _ _ _ _ _ (by omega)]; exact World.cell?_setCell_same _ _ _ h1
  · rw [cell_set_far _ _ _ _ _ (by omega)]; exact World.cell?_setCell_same _ _ _ h2
theorem set4_far {W : World} {g k i : Nat} (a b c d : Value) (h : i < k * 4) : (set4 W g k a b c d).cell? ⟨g, i, none⟩ = W.cell? ⟨g, i, none⟩ := by
  unfold Go.Proofs.Ytmdapfjafocdnaa.set4
  rw [cell_set_far _ _ _ _ _ (by omega), cell_set_far _ _ _ _ _ (by omega), cell_set_far _ _ _ _ _ (by omega), cell_set_far _ _ _ _ _ (by omega)]
theorem ClaimsAt.next {W : World} {g n k : Nat} {ls : List Int} {cn cd : Nat → Int → Int} (h : ClaimsAt W g ls cn cd k) (r : Room W g n) (hk : k * 4 + 3 < n) :
    ClaimsAt (set4 W g k (.int .i64 k) (.int .i64 (ls.getD k 0)) (.int .i64 (cn k (ls.getD k 0))) (.int .i64 (cd k (ls.getD k 0)))) g ls cn cd (k + 1) := fun j hj => by
  rcases Nat.lt_or_eq_of_le (Nat.le_of_lt_succ hj) with h1 | h1
  · obtain ⟨c0, c1, c2, c3⟩ := h j h1
    exact ⟨by rw [set4_far _ _ _ _ (by omega)]; exact c0, by rw [set4_far _ _ _ _ (by omega)]; exact c1, by rw [set4_far _ _ _ _ (by omega)]; exact c2, by rw [set4_far _ _ _ _ (by omega)]; exact c3⟩
  · subst h1; exact set4_get r hk _ _ _ _
theorem ClaimsAt.keep {W W' : World} {g n B : Nat} {ls : List Int} {cn cd : Nat → Int → Int} (h : ClaimsAt W g ls cn cd n) (k : Below B W W') (hg : g < B) : ClaimsAt W' g ls cn cd n := fun j hj => by
  obtain ⟨c0, c1, c2, c3⟩ := h j hj
  exact ⟨(k.cell (p := ⟨g, j * 4, none⟩) hg).trans c0, (k.cell (p := ⟨g, j * 4 + 1, none⟩) hg).trans c1, (k.cell (p := ⟨g, j * 4 + 2, none⟩) hg).trans c2, (k.cell (p := ⟨g, j * 4 + 3, none⟩) hg).trans c3⟩
theorem room_of_row {W : World} {B e g n : Nat} {xs : List Value} (h : W.ownsRow B e 4 (.slice (some ⟨g, 0, none⟩) n n) n xs) : Room W g (n * 4) := fun i hi => by
  refine ⟨?_, h.frozenAt i⟩
  rw [h.cellAt i hi]
  have : i < xs.length := by rw [h.1]; exact hi
  exact ⟨xs[i], List.getElem?_eq_getElem this⟩
set_option maxHeartbeats 1600000 in
set_option maxRecDepth 100000 in
theorem claimsAt_any (F : Nat) (bd : Array Value) (ad : Option Addr) (cap : Nat) (zs : List Int) (ld : Option Addr) (lcap : Nat) (ls : List Int) (cn cd : Nat → Int → Int) (w : World) (hz : Ints w ad zs) (hl : Ints w ld ls) (hlen : ls.length = zs.length) (hpos : 1 ≤ ls.length) (h12 : ls.length ≤ 12) (hls : ∀ z ∈ ls, 0 ≤ z ∧ z ≤ 100)
    (HCO : ∀ (p : Nat) (k : Int) (W : World), Ints W ad zs → p < zs.length → 0 ≤ k → k ≤ 1000 → Calls Try.prog 63 #[conV ad zs.length cap (.func (.func F) bd #[]), .int .i64 p, .int .i64 k] W fun e w' => e = .returned (cV p k (cn p k) (cd p k)) ∧ Keep W w') :
    Calls Try.prog 62 #[conV ad zs.length cap (.func (.func F) bd #[]), .slice ld ls.length lcap] w fun e w' =>
      ∃ g, e = .returned (.slice (some ⟨g, 0, none⟩) ls.length ls.length) ∧ g < w'.heap.size ∧ ClaimsAt w' g ls cn cd ls.length ∧ Keep w w' := by
  obtain ⟨i0, hi, hz0, hz1, hz2⟩ := info_parts Try.infoC
  have hb8 : i0.bytes * ls.length ≤ 281474976710656 := by rw [hz2]; omega
  have hml : ls.length ≤ maxLen := by unfold maxLen; omega
  have HC := Lib.hid HCO; clear HCO
  have HLEN := Lib.hid hlen; clear hlen
  have HLS := Lib.hid hls; clear hls
  have kb : Keep w (w.alloc (.cells #[.slice ad zs.length cap, .func (.func F) bd #[]] 75)) := by go_grown
  have b0 : (w.alloc (.cells #[.slice ad zs.length cap, .func (.func F) bd #[]] 75)).cell? ⟨w.heap.size, 0, none⟩ = some (.slice ad zs.length cap) := by simp
  have b1 : (w.alloc (.cells #[.slice ad zs.length cap, .func (.func F) bd #[]] 75)).cell? ⟨w.heap.size, 1, none⟩ = some (.func (.func F) bd #[]) := by simp
  have hwa : (w.alloc (.cells #[.slice ad zs.length cap, .func (.func F) bd #[]] 75)).heap.size = w.heap.size + 1 := by simp
  unfold conV at HC ⊢
  go_enter Try.func62, Try.ntmps62
  go_wp2_with (at_make; refine wpList_make_full (w.alloc (.cells #[.slice ad zs.length cap, .func (.func F) bd #[]] 75)) rfl _ _ 79 rfl (w.alloc (.cells #[.slice ad zs.length cap, .func (.func F) bd #[]] 75)).heap.size 84 i0 (.agg #[.int .i64 0, .int .i64 0, .int .i64 0, .int .i64 0]) 4 Try.underlying79 hi hz0 hz1 .i64 .i64 _ _ ls.length rfl rfl rfl rfl hb8 hml (Nat.le_refl _) ?_)
  intro w0 hown0 hgrow0
  generalize w.alloc (.cells #[.slice ad zs.length cap, .func (.func F) bd #[]] 75) = wa at *
  have hk0 : Keep wa w0 := (Below.refl _ _).grown hgrow0 (Nat.le_refl _) (fun k h => by cases h)
  clear hgrow0
  obtain ⟨B, hB0⟩ : ∃ B, B = w.heap.size + 1 := ⟨_, rfl⟩
  rw [← hB0] at hown0
  rw [← hB0]
  have hB : B = wa.heap.size := by rw [hwa]; exact hB0
  have hBw : w.heap.size + 1 = B := hB0.symm
  clear hB0
  have hR := room_of_row hown0
  have hBlt : B < w0.heap.size := by
    obtain ⟨⟨u, hu⟩, _⟩ := hR 0 (by omega)
    exact World.block_lt_of_cell? _ _ hu
  have HR0 := Lib.hid hR; have HK0 := Lib.hid hk0; have HB := Lib.hid hB
  clear hown0 hR hk0 hB
  have HBA := Lib.hid (And.intro b0 b1)
  clear b0 b1
  have hw0s := HK0.out.size
  go_wp2
  go_loopw [6, 7, 13] (fun _ _ i wr => ∃ k : Nat, k ≤ ls.length ∧ i = .int .i64 k ∧ Hid (Room wr B (ls.length * 4)) ∧ Hid (ClaimsAt wr B ls cn cd k) ∧ Hid (Below B wa wr) ∧ w0.heap.size ≤ wr.heap.size)
    (fun _ _ i _ => ls.length - (intOf i).toNat)
  case atStart => exact ⟨0, Nat.zero_le _, rfl, HR0, Lib.hid (fun j hj => by omega), Lib.hid (by rw [HB.out]; exact HK0.out), Nat.le_refl _⟩
  case round =>
    obtain ⟨k, hk, rfl, HR, HCA, HBW, hsz⟩ := hrel
    by_cases hlt : k < ls.length
    · have kwr : Keep w wr := kb.trans (HBW.out.mono (by omega))
      rcases (hl.keep kwr (Nat.le_refl _)).at_ with h | ⟨b, off, rfl, hb, hc⟩
      · subst h; simp at hlt
      have hcx := hc k hlt
      have hx := HLS.out _ (getD_mem ls k hlt)
      have b0 : wr.cell? ⟨w.heap.size, 0, none⟩ = some (.slice ad zs.length cap) := (HBW.out.cell (p := ⟨w.heap.size, 0, none⟩) (by show w.heap.size < B; omega)).trans HBA.out.1
      have b1 : wr.cell? ⟨w.heap.size, 1, none⟩ = some (.func (.func F) bd #[]) := (HBW.out.cell (p := ⟨w.heap.size, 1, none⟩) (by show w.heap.size < B; omega)).trans HBA.out.2
      have HCX := Lib.hid (HC.out k (ls.getD k 0) wr (hz.keep kwr (Nat.le_refl _)) (by rw [← HLEN.out]; exact hlt) hx.1 (by omega))
      have HNX : Hid (∀ W', Keep wr W' → ClaimsAt (set4 W' B k (.int .i64 k) (.int .i64 (ls.getD k 0)) (.int .i64 (cn k (ls.getD k 0))) (.int .i64 (cd k (ls.getD k 0)))) B ls cn cd (k + 1)) := Lib.hid (fun W' k2 => (HCA.out.keep k2 (by omega)).next (HR.out.keep k2 (by omega)) (by omega))
      have HRX : Hid (∀ W', Keep wr W' → Room W' B (ls.length * 4)) := Lib.hid (fun W' k2 => HR.out.keep k2 (by omega))
      clear hc
      generalize ls.getD k 0 = x at hcx hx HCX HNX
      go_wp2_with fail
      refine HCX.out.mono ?_
      rintro e w2 ⟨rfl, k2⟩
      have HR2 := Lib.hid (HRX.out w2 k2)
      obtain ⟨⟨u0, q0⟩, f0⟩ := HR2.out (k * 4) (by omega)
      obtain ⟨⟨u1, q1⟩, f1⟩ := HR2.out (k * 4 + 1) (by omega)
      obtain ⟨⟨u2, q2⟩, f2⟩ := HR2.out (k * 4 + 2) (by omega)
      obtain ⟨⟨u3, q3⟩, f3⟩ := HR2.out (k * 4 + 3) (by omega)
      have HK2 := Lib.hid k2
      unfold cV
      go_wp2
      go_roundw
      case rel =>
        have hs2 := HK2.out.size
        exact ⟨k + 1, by omega, by go_num, Lib.hid (HR2.out.set4 k _ _ _ _), Lib.hid (HNX.out w2 HK2.out), Lib.hid (((((HBW.out.trans (HK2.out.mono (by omega))).setCell (Nat.le_refl _) _).setCell (Nat.le_refl _) _).setCell (Nat.le_refl _) _).setCell (Nat.le_refl _) _), by simp [World.setCell]; omega⟩
      case measure => simp [intOf]; omega
    · have hkn : k = ls.length := by omega
      have kwr : Keep w wr := kb.trans (HBW.out.mono (by omega))
      have hbw := HBW.out.size
      have hBB := HB.out
      subst hkn
      go_wp2
      go_ret
      exact ⟨B, rfl, by omega, HCA.out, kwr⟩
/-- Party p, with one seat less than it may keep, stands against all others. -/
def standsN (n d : Int) (p : Nat) (ls : List Int) (cn cd : Nat → Int → Int) (j : Nat) : Prop := j = p ∨ 0 ≤ cmpW n d (cn j (ls.getD j 0)) (cd j (ls.getD j 0))
def standsB (n d : Int) (p : Nat) (ls : List Int) (cn cd : Nat → Int → Int) : Bool := decide (∀ j, j < ls.length → j = p ∨ 0 ≤ cmpW n d (cn j (ls.getD j 0)) (cd j (ls.getD j 0)))
set_option maxHeartbeats 1600000 in
set_option maxRecDepth 100000 in
theorem standsAgainst_any (p : Nat) (k n d : Int) (g : Nat) (ls : List Int) (cn cd : Nat → Int → Int) (w : World) (hg : g < w.heap.size) (hc : ClaimsAt w g ls cn cd ls.length) (h12 : ls.length ≤ 12)
    (n0 : 0 ≤ n) (n1 : n ≤ 1000000000000) (d0 : 0 ≤ d) (d1 : d ≤ 1001000) (HB : ∀ j, j < ls.length → 0 ≤ cn j (ls.getD j 0) ∧ cn j (ls.getD j 0) ≤ 1000000000000 ∧ 0 ≤ cd j (ls.getD j 0) ∧ cd j (ls.getD j 0) ≤ 1001000) :
    Calls Try.prog 64 #[cV p k n d, .slice (some ⟨g, 0, none⟩) ls.length ls.length] w fun e w' => e = .returned (.bool (standsB n d p ls cn cd)) ∧ Keep w w' := by
  have HBD := Lib.hid HB; clear HB
  have HNO : Hid (∀ j, j < ls.length → j ≠ p → cmpW n d (cn j (ls.getD j 0)) (cd j (ls.getD j 0)) < 0 → standsB n d p ls cn cd = false) := Lib.hid (fun j hj hne h => by
    unfold standsB; rw [decide_eq_false_iff_not]; intro h2; rcases h2 j hj with h3 | h3
    · exact hne h3
    · omega)
  have HYES : Hid ((∀ j, j < ls.length → j = p ∨ 0 ≤ cmpW n d (cn j (ls.getD j 0)) (cd j (ls.getD j 0))) → standsB n d p ls cn cd = true) := Lib.hid (fun h => by unfold standsB; rw [decide_eq_true_eq]; exact h)
  have HC := Lib.hid hc; clear hc
  have kb : Keep w (w.alloc (.cells #[.int .i64 p, .int .i64 k, .int .i64 n, .int .i64 d] 84)) := by go_grown
  have B0 : Four (w.alloc (.cells #[.int .i64 p, .int .i64 k, .int .i64 n, .int .i64 d] 84)) w.heap.size (.int .i64 p) (.int .i64 k) (.int .i64 n) (.int .i64 d) := ⟨by simp, by simp, by simp, by simp, by simp, by simp, by simp, by simp⟩
  have hwa : (w.alloc (.cells #[.int .i64 p, .int .i64 k, .int .i64 n, .int .i64 d] 84)).heap.size = w.heap.size + 1 := by simp
  unfold cV
  go_enter Try.func64, Try.ntmps64
  go_wp2
  generalize w.alloc (.cells #[.int .i64 p, .int .i64 k, .int .i64 n, .int .i64 d] 84) = wa at *
  have HB0 := Lib.hid B0; clear B0
  go_loopw [6, 9] (fun _ i wr => ∃ j : Nat, j ≤ ls.length ∧ i = .int .i64 j ∧ Hid (Keep wa wr) ∧ Hid (∀ j', j' < j → j' = p ∨ 0 ≤ cmpW n d (cn j' (ls.getD j' 0)) (cd j' (ls.getD j' 0))))
    (fun _ i _ => ls.length - (intOf i).toNat)
  case atStart => exact ⟨0, Nat.zero_le _, rfl, Lib.hid (Below.refl _ _), Lib.hid (fun j' h => by omega)⟩
  case round =>
    obtain ⟨j, hj, rfl, HKW, HALL⟩ := hrel
    by_cases hlt : j < ls.length
    · have hsr := HKW.out.size
      obtain ⟨q0, q1, q2, q3⟩ := (HC.out.keep (Keep.next kb HKW.out) hg) j hlt
      have hbd := HBD.out j hlt
      have HN := Lib.hid (HNO.out j hlt)
      have HALL2 : Hid ((j = p ∨ 0 ≤ cmpW n d (cn j (ls.getD j 0)) (cd j (ls.getD j 0))) → ∀ j', j' < j + 1 → j' = p ∨ 0 ≤ cmpW n d (cn j' (ls.getD j' 0)) (cd j' (ls.getD j' 0))) := Lib.hid (fun h j' hj' => by
        rcases Nat.lt_or_eq_of_le (Nat.le_of_lt_succ hj') with h3 | h3
        · exact HALL.out j' h3
        · rw [h3]; exact h)
      generalize ls.getD j 0 = x at q0 q1 q2 q3 hbd HN HALL2
      generalize cn j x = cn1 at q2 hbd HN HALL2
      generalize cd j x = cd1 at q3 hbd HN HALL2
      have B1 := HB0.out.keep HKW.out (by omega)
      have kc : Keep wr (wr.alloc (.cells #[.int .i64 j, .int .i64 x, .int .i64 cn1, .int .i64 cd1] 84)) := by go_grown
      have B2 := B1.keep kc B1.lt
      have B3 : Four (wr.alloc (.cells #[.int .i64 j, .int .i64 x, .int .i64 cn1, .int .i64 cd1] 84)) wr.heap.size (.int .i64 j) (.int .i64 x) (.int .i64 cn1) (.int .i64 cd1) := ⟨by simp, by simp, by simp, by simp, by simp, by simp, by simp, by simp⟩
      have KC := Lib.hid (HKW.out.next kc); clear kc B1
      obtain ⟨a0, a1, a2, a3, _, _, _, _⟩ := B2
      by_cases hjp : j = p
      · have hb : ((j : Int) != (p : Int)) = false := by simp [hjp]
        have HJP := Lib.hid hjp; clear hjp
        go_wp2
        go_roundw
        case rel => exact ⟨j + 1, by omega, by go_num, KC, Lib.hid (HALL2.out (.inl HJP.out))⟩
        case measure => simp [intOf]; omega
      · have hb : ((j : Int) != (p : Int)) = true := by simp; omega
        have HJP := Lib.hid hjp; clear hjp
        have HCM := Lib.hid (fun W => compare_any n d cn1 cd1 W n0 n1 hbd.1 hbd.2.1 d0 d1 hbd.2.2.1 hbd.2.2.2)
        generalize cmpW n d cn1 cd1 = c at HCM HN HALL2
        by_cases hcn : c < 0
        · go_wp2_with (go_at_call 87; refine (HCM.out _).mono ?_; rintro e w3 ⟨rfl, k3⟩)
          go_ret
          exact ⟨ret_bool (HN.out HJP.out hcn).symm, Keep.next (Keep.next kb KC.out) k3⟩
        · go_wp2_with (go_at_call 87; refine (HCM.out _).mono ?_; rintro e w3 ⟨rfl, k3⟩)
          go_roundw
          case rel => exact ⟨j + 1, by omega, by go_num, Lib.hid (Keep.next KC.out k3), Lib.hid (HALL2.out (.inr (by omega)))⟩
          case measure => simp [intOf]; omega
    · have hjn : j = ls.length := by omega
      subst hjn
      go_wp2
      go_ret
      exact ⟨ret_bool (HYES.out HALL.out).symm, Keep.next kb HKW.out⟩
end Go.Proofs.Ytmdapfjafocdnaa
