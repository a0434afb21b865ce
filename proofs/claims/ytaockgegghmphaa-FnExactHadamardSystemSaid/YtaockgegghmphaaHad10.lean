/- Systems of even common bits: the program's side, and the model's. -/
import Derived.Test.YtaockgegghmphaaAvg10
import Derived.Test.YtaockgegghmphaaCnt10
import Derived.Deep.LoopGhost
namespace Go.Proofs.Ytaockgegghmphaa
open Go.ChangeShapes Go.WideShapes Go.ChangeAt Go.RowKit Go.Deep
set_option linter.unusedVariables false
/-- A struct of a number and a list that grows, at block b; the list lies elsewhere, from the end of W0 on. -/
structure GrwX (W0 W : World) (b : Nat) (g : Int) (rd : Option Addr) (rc : Nat) (vs : List Int) : Prop where
  c0 : W.cell? ⟨b, 0, none⟩ = some (.int .i64 g)
  c1 : W.cell? ⟨b, 1, none⟩ = some (.slice rd vs.length rc)
  f0 : W.frozen? ⟨b, 0, none⟩ = false
  f1 : W.frozen? ⟨b, 1, none⟩ = false
  lt : b < W.heap.size
  le : W0.heap.size ≤ b
  o : Own W W0.heap.size rd rc vs
  ne : ∀ a, rd = some a → a.block ≠ b
  k : Keep W0 W
theorem GrwX.keep {W0 W W' : World} {b : Nat} {g : Int} {rd : Option Addr} {rc : Nat} {vs : List Int} (h : GrwX W0 W b g rd rc vs) (k : Keep W W') : GrwX W0 W' b g rd rc vs :=
  ⟨(k.cell (p := ⟨b, 0, none⟩) h.lt).trans h.c0, (k.cell (p := ⟨b, 1, none⟩) h.lt).trans h.c1, (k.frozen (p := ⟨b, 0, none⟩) h.lt).trans h.f0, (k.frozen (p := ⟨b, 1, none⟩) h.lt).trans h.f1, Nat.lt_of_lt_of_le h.lt k.size, h.le, h.o.keep k, h.ne, Keep.next h.k k⟩
theorem GrwX.app {W0 W W' : World} {b : Nat} {g : Int} {rd : Option Addr} {rc : Nat} {vs : List Int} {g' cap' : Nat} {y : Int} (h : GrwX W0 W b g rd rc vs)
    (o : Own W' W0.heap.size (some ⟨g', 0, none⟩) cap' (vs ++ [y])) (gr : W.grownBy W' (Value.slice rd vs.length rc).ownBlock) (hat : rd = some ⟨g', 0, none⟩ ∨ W.heap.size ≤ g') :
    (W'.cell? ⟨b, 1, none⟩ = some (.slice rd vs.length rc) ∧ W'.frozen? ⟨b, 1, none⟩ = false) ∧ GrwX W0 (W'.setCell ⟨b, 1, none⟩ (.slice (some ⟨g', 0, none⟩) (vs.length + 1) cap')) b g (some ⟨g', 0, none⟩) cap' (vs ++ [y]) := by
  have k1 : Keep W0 W' := h.k.trans (below_own (Below.refl _ _) h.o gr h.k.size (Nat.le_refl _))
  have hr : some b ≠ (Value.slice rd vs.length rc).ownBlock := by
    intro e
    rcases own_block h.o.1 with ⟨rfl, _⟩ | ⟨k, rfl, _⟩
    · simp [Value.ownBlock] at e
    · simp [Value.ownBlock] at e; exact h.ne _ rfl e.symm
  have hblk := gr.block b h.lt hr
  have hne : g' ≠ b := by
    rcases hat with e | e
    · exact h.ne _ e
    · have := h.lt; omega
  have d0 : W'.cell? ⟨b, 0, none⟩ = some (.int .i64 g) := (World.cell?_of_block (w := W) hblk).trans h.c0
  have d1 : W'.cell? ⟨b, 1, none⟩ = some (.slice rd vs.length rc) := (World.cell?_of_block (w := W) hblk).trans h.c1
  have e0 : W'.frozen? ⟨b, 0, none⟩ = false := (World.frozen?_of_block (w := W) hblk).trans h.f0
  have e1 : W'.frozen? ⟨b, 1, none⟩ = false := (World.frozen?_of_block (w := W) hblk).trans h.f1
  have hlt := Nat.lt_of_lt_of_le h.lt gr.size
  refine ⟨⟨d1, e1⟩, ?_, ?_, by simpa using e0, by simpa using e1, by simpa using hlt, h.le, o.set (by show b ≠ g'; omega) _, fun a e => by simp at e; subst e; exact hne, k1.setCell (p := ⟨b, 1, none⟩) h.le _⟩
  · rw [World.cell?_setCell_other _ _ _ _ (by simp)]; exact d0
  · rw [List.length_append]; exact World.cell?_setCell_same _ _ _ d1
theorem grwX_nil (W0 W : World) (b : Nat) (g : Int) (c0 : W.cell? ⟨b, 0, none⟩ = some (.int .i64 g)) (c1 : W.cell? ⟨b, 1, none⟩ = some (.slice none 0 0)) (f0 : W.frozen? ⟨b, 0, none⟩ = false) (f1 : W.frozen? ⟨b, 1, none⟩ = false) (le : W0.heap.size ≤ b) (k : Keep W0 W) : GrwX W0 W b g none 0 [] :=
  ⟨c0, c1, f0, f1, block_lt_of_cell c0, le, Own.nil _ _, fun a h => by simp at h, k⟩
/-- The result's box, behind the last store. -/
theorem res_set {W : World} {b : Nat} {u0 u1 : Value} (h0 : W.cell? ⟨b, 0, none⟩ = some u0) (h1 : W.cell? ⟨b, 1, none⟩ = some u1) (v0 v1 : Value) :
    ((W.setCell ⟨b, 0, none⟩ v0).setCell ⟨b, 1, none⟩ v1).cell? ⟨b, 0, none⟩ = some v0 ∧ ((W.setCell ⟨b, 0, none⟩ v0).setCell ⟨b, 1, none⟩ v1).cell? ⟨b, 1, none⟩ = some v1 :=
  ⟨by rw [World.cell?_setCell_other _ _ _ _ (by simp), World.cell?_setCell_same _ _ _ h0], World.cell?_setCell_same _ _ _ (by rw [World.cell?_setCell_other _ _ _ _ (by simp)]; exact h1)⟩
theorem Own.set2 {W : World} {B b : Nat} {rd : Option Addr} {rc : Nat} {vs : List Int} (h : Own W B rd rc vs) (hb : b < B) (v0 v1 : Value) : Own ((W.setCell ⟨b, 0, none⟩ v0).setCell ⟨b, 1, none⟩ v1) B rd rc vs := by
  rcases own_block h.1 with ⟨rfl, h2, h3⟩ | ⟨k, rfl, h1, _⟩
  · obtain rfl : vs = [] := List.length_eq_zero_iff.1 h2
    first
      | (subst h3; exact Own.nil _ _)
      | exact ⟨h.1.kept (row := some b) (by
          exact grownBy_trans (Go.grownBy_setCell' W b v0) (Go.grownBy_setCell' _ b v1)) (.inl rfl), h.2⟩
  · exact (h.set (a := ⟨b, 0, none⟩) (by show b ≠ k; omega) _).set (a := ⟨b, 1, none⟩) (by show b ≠ k; omega) _
def hadOk (k : Int) : Bool := inB k 0 3
def hadG (k : Int) : Int := if hadOk k then ((2 ^ k.toNat : Nat) : Int) else 0
def hadV (k : Int) : List Int := if hadOk k then hadL (2 ^ k.toNat) (2 ^ k.toNat) else []
theorem pow3 {k : Int} (h : hadOk k = true) : ∃ n : Nat, k = n ∧ n ≤ 3 ∧ 1 ≤ 2 ^ n ∧ 2 ^ n ≤ 8 := by
  have := inB_iff.1 h
  obtain ⟨n, rfl⟩ : ∃ n : Nat, k = n := ⟨k.toNat, by omega⟩
  have hn : n ≤ 3 := by omega
  have h3 : 2 ^ n ≤ 2 ^ 3 := Nat.pow_le_pow_right (by omega) hn
  exact ⟨n, rfl, hn, Nat.one_le_two_pow, by simpa using h3⟩
theorem hadS_bd (j : Nat) {t : Nat} (ht : t ≤ 8) : hadS j t < 256 := by
  have h := hadS_lt j t
  have h3 : 2 ^ t ≤ 2 ^ 8 := Nat.pow_le_pow_right (by omega) ht
  omega
/-- One step of a set: the bit t, or not. -/
theorem had_step (j t : Nat) (hj : j < 8) (ht : t < 8) : ∃ c P : Nat, c = pc (t &&& j) ∧ P = 2 ^ t ∧ wrap64 ((2 : Int) ^ t) = (P : Int) ∧ P ≤ 256 ∧
    bits .or .i64 ((hadS j t : Nat) : Int) (P : Int) = ((hadS j t ||| P : Nat) : Int) ∧ bits .and .i64 (t : Int) (j : Int) = ((t &&& j : Nat) : Int) ∧ t &&& j < 4096 ∧ hadS j (t + 1) = if c % 2 = 0 then hadS j t ||| P else hadS j t := by
  have h3 : 2 ^ t ≤ 2 ^ 8 := Nat.pow_le_pow_right (by omega) (by omega)
  have h4 : t &&& j ≤ t := Nat.and_le_left
  refine ⟨_, _, rfl, rfl, ?_, by omega, ?_, i64_andX t j (by omega) (by omega), by omega, rfl⟩
  · rw [show ((2 : Int) ^ t) = ((2 ^ t : Nat) : Int) from by norm_cast]; generalize 2 ^ t = q at *; exact IntWalk.wrap64_in _ (by omega)
  · have := hadS_bd j (t := t) (by omega); exact i64_orX _ _ (by omega) (by omega)
set_option maxHeartbeats 1600000 in
set_option maxRecDepth 100000 in
theorem HadamardSystem_any (k : Int) (w : World) (uk : In64 k) :
    Calls Try.prog 41 #[.int .i64 k] w fun e w' => ∃ rd rc, e = .returned (.tuple #[valV (hadG k) rd (hadV k).length rc, .bool (hadOk k)]) ∧ Own w' w.heap.size rd rc (hadV k) ∧ Keep w w' := by
  cases h1 : hadOk k
  · rw [show hadG k = 0 from by simp [hadG, h1], show hadV k = [] from by simp [hadV, h1]]
    unfold hadOk at h1
    go_enter Try.func41, Try.ntmps41
    go_wp2_with (go_at_call 55; refine (within_any _ _ _ _).mono ?_; rw [h1]; rintro e w' ⟨rfl, rfl⟩)
    refine bodyPost_ret (v := .tuple #[valV 0 none 0 0, .bool false]) (by simp [results, Try.results41, go_sem]) rfl ?_
    exact ⟨none, 0, rfl, Own.nil _ _, by go_grown⟩
  obtain ⟨n, rfl, hn, p1, p2⟩ := pow3 h1
  rw [show hadG n = ((2 ^ n : Nat) : Int) from by simp [hadG, h1], show hadV n = hadL (2 ^ n) (2 ^ n) from by simp [hadV, h1]]
  unfold hadOk at h1
  have e1 : wrap64 ((2 : Int) ^ n) = ((2 ^ n : Nat) : Int) := by
    rw [show ((2 : Int) ^ n) = ((2 ^ n : Nat) : Int) from by norm_cast]; exact IntWalk.wrap64_in _ (by omega)
  generalize 2 ^ n = m at *
  have HL := Lib.hid (hadL_len m)
  have HSU := Lib.hid (hadL_succ m)
  have H0 : Hid (hadL m 0 = []) := Lib.hid rfl
  have HB := Lib.hid (fun j t ht => hadS_bd j (t := t) ht)
  have HST := Lib.hid (fun j t hj ht => had_step j t hj ht)
  go_enter Try.func41, Try.ntmps41
  go_wp2_with (go_at_call 55; refine (within_any _ _ _ _).mono ?_; rw [h1]; rintro e w' ⟨rfl, rfl⟩)
  simp only [e1]
  clear e1
  have G0 : GrwX (w.alloc (.cells #[.int .i64 0, .slice none 0 0] 27)) ((w.alloc (.cells #[.int .i64 0, .slice none 0 0] 27)).alloc (.cells #[.int .i64 (m : Nat), .slice none 0 0] 27)) (w.heap.size + 1) m none 0 [] :=
    grwX_nil _ _ _ _ (by simp [go_sem]) (by simp [go_sem]) (by simp [go_sem]) (by simp [go_sem]) (by simp) (by go_grown)
  have R0 : (w.alloc (.cells #[.int .i64 0, .slice none 0 0] 27)).cell? ⟨w.heap.size, 0, none⟩ = some (.int .i64 0) := by simp
  have R1 : (w.alloc (.cells #[.int .i64 0, .slice none 0 0] 27)).cell? ⟨w.heap.size, 1, none⟩ = some (.slice none 0 0) := by simp
  have F0 : (w.alloc (.cells #[.int .i64 0, .slice none 0 0] 27)).frozen? ⟨w.heap.size, 0, none⟩ = false := by simp
  have F1 : (w.alloc (.cells #[.int .i64 0, .slice none 0 0] 27)).frozen? ⟨w.heap.size, 1, none⟩ = false := by simp
  have HKA : Hid (Keep w (w.alloc (.cells #[.int .i64 0, .slice none 0 0] 27))) := Lib.hid (by go_grown)
  have hsz : (w.alloc (.cells #[.int .i64 0, .slice none 0 0] 27)).heap.size = w.heap.size + 1 := by simp
  have HG0 := Lib.hid G0; have HR0 := Lib.hid R0; have HR1 := Lib.hid R1; have HF0 := Lib.hid F0; have HF1 := Lib.hid F1; have HSZ := Lib.hid hsz
  clear G0 R0 R1 F0 F1 hsz
  generalize hwa : w.alloc (.cells #[.int .i64 0, .slice none 0 0] 27) = wa at *
  clear hwa
  go_loopg [17] m (fun kk i wr => ∃ (j : Nat) (rd : Option Addr) (rc : Nat), j ≤ m ∧ kk = m - j ∧ i = .int .i64 j ∧ Hid (GrwX wa wr (w.heap.size + 1) m rd rc (hadL m j)))
  case atStart => exact ⟨0, none, 0, by omega, rfl, rfl, by rw [H0.out]; exact HG0⟩
  case round =>
    obtain ⟨j, rd, rc, hj, rfl, rfl, HG⟩ := hrel
    have b0 := HG.out.c0; have b1 := HG.out.c1
    rw [HL.out] at b1
    by_cases hlt : j < m
    · have hle : (j : Int) < (m : Int) := by omega
      have HSJ := Lib.hid (HST.out j)
      have HBJ := Lib.hid (HB.out j)
      have HZ : Hid (hadS j 0 = 0) := Lib.hid rfl
      obtain ⟨wo, hwo⟩ : ∃ x, x = wr := ⟨_, rfl⟩
      go_wp2
      go_loop [6, 22] (fun s i => ∃ t : Nat, t ≤ m ∧ i = .int .i64 t ∧ s = .int .i64 ((hadS j t : Nat) : Int)) (fun _ i => m - (intOf i).toNat)
      case atStart => exact ⟨0, by omega, rfl, by rw [HZ.out]; rfl⟩
      case round =>
        obtain ⟨t, ht, rfl, rfl⟩ := hrel
        have hsb := HBJ.out t (by omega)
        by_cases htl : t < m
        · have hle2 : (t : Int) < (m : Int) := by omega
          obtain ⟨c, P, hc, hP, f1, f2, f3, f4, f5, f6⟩ := HSJ.out t (by omega) (by omega)
          have HQ := Lib.hid (fun W => size_any (t &&& j) W f5)
          rw [← hc] at HQ
          have HS6 := Lib.hid f6
          have hcb : c ≤ 64 := by rw [hc]; exact pc_le _
          clear hc hP f6
          generalize hadS j t = s at *
          have f7 : IntKind.u64.wrap ((t &&& j : Nat) : Int) = ((t &&& j : Nat) : Int) := by rw [IntKind.wrap_u64]; omega
          generalize t &&& j = q at *
          by_cases hev : c % 2 = 0
          · have he : ((c : Int) % 2 == 0) = true := by simp; omega
            have HS7 : Hid (hadS j (t + 1) = s ||| P) := Lib.hid (by rw [HS6.out, if_pos hev])
            generalize s ||| P = s2 at *
            go_wp2_with (go_at_call 75; refine (HQ.out _).mono ?_; rintro e w' ⟨rfl, rfl⟩)
            go_round
            case rel => exact ⟨t + 1, by omega, by go_num, by rw [HS7.out]⟩
            case measure => simp [intOf]; omega
          · have he : ((c : Int) % 2 == 0) = false := by simp; omega
            have HS7 : Hid (hadS j (t + 1) = s) := Lib.hid (by rw [HS6.out, if_neg hev])
            go_wp2_with (go_at_call 75; refine (HQ.out _).mono ?_; rintro e w' ⟨rfl, rfl⟩)
            go_round
            case rel => exact ⟨t + 1, by omega, by go_num, by rw [HS7.out]⟩
            case measure => simp [intOf]; omega
        · have HE := Lib.hid (show t = m by omega)
          have hle2 : ¬ (t : Int) < (m : Int) := by omega
          have HSU2 : Hid (hadL m (j + 1) = hadL m j ++ [((hadS j t : Nat) : Int)]) := Lib.hid (by rw [HSU.out, HE.out])
          have HLJ := Lib.hid (HL.out j)
          generalize hadS j t = s at *
          generalize hadL m j = L at *
          have hws := HG.out.k.size
          go_wp2_with (refine list_app2 (by rfl) _ _ (by rfl) wa.heap.size rd rc j L (s : Int) (by rfl) (HG.out.o.keep (by go_grown)) HLJ.out.symm wr.heap.size (by rfl) (by simp) ⟨by omega, by omega⟩ (by rw [HLJ.out]; omega) (by simp; omega) ?_; intro g3 cap3 w3 hown3 hgr3 hat3 hlt3; obtain ⟨⟨h1c, h1f⟩, hg3⟩ := (HG.out.keep (W' := wr.alloc (.cells #[.int .i64 (s : Int)] 2)) (by go_grown)).app hown3 (by rw [HLJ.out]; exact hgr3) (by simpa using hat3); rw [HLJ.out] at h1c hg3; have HG3 := Lib.hid hg3; clear hown3 hgr3 hat3 hg3)
          go_roundg (m - (j + 1))
          case measure => omega
          case rel => exact ⟨j + 1, _, _, by omega, rfl, by go_num, by rw [HSU2.out]; exact HG3⟩
    · have HE := Lib.hid (show j = m by omega)
      have hle : ¬ (j : Int) < (m : Int) := by omega
      have r0 := (HG.out.k.cell (p := ⟨w.heap.size, 0, none⟩) (by rw [HSZ.out]; show w.heap.size < w.heap.size + 1; omega)).trans HR0.out
      have r1 := (HG.out.k.cell (p := ⟨w.heap.size, 1, none⟩) (by rw [HSZ.out]; show w.heap.size < w.heap.size + 1; omega)).trans HR1.out
      have q0 := (HG.out.k.frozen (p := ⟨w.heap.size, 0, none⟩) (by rw [HSZ.out]; show w.heap.size < w.heap.size + 1; omega)).trans HF0.out
      have q1 := (HG.out.k.frozen (p := ⟨w.heap.size, 1, none⟩) (by rw [HSZ.out]; show w.heap.size < w.heap.size + 1; omega)).trans HF1.out
      have HRS := Lib.hid (res_set r0 r1 (.int .i64 (m : Nat)) (.slice rd j rc))
      have HO := Lib.hid ((HG.out.o.set2 (b := w.heap.size) (by rw [HSZ.out]; omega) (.int .i64 (m : Nat)) (.slice rd j rc)).mono (B' := w.heap.size) (by rw [HSZ.out]; omega))
      have HK := Lib.hid (((HKA.out.trans (HG.out.k.mono (by rw [HSZ.out]; omega))).setCell (p := ⟨w.heap.size, 0, none⟩) (Nat.le_refl _) (.int .i64 (m : Nat))).setCell (p := ⟨w.heap.size, 1, none⟩) (Nat.le_refl _) (.slice rd j rc))
      go_wp2
      refine bodyPost_ret (v := .tuple #[valV (m : Nat) rd j rc, .bool true]) (by simp [results, Try.results41, go_sem, HRS.out.1, HRS.out.2]) rfl ?_
      exact ⟨rd, rc, by rw [HL.out, ← HE.out], by rw [← HE.out]; have h := HO.out; rw [HE.out] at h ⊢; exact h, HK.out⟩
set_option maxHeartbeats 1600000 in
set_option maxRecDepth 100000 in
theorem specHadamardSystem_any (k : Int) (w : World) (uk : In64 k) :
    Calls Try.prog 40 #[.int .i64 k] w fun e w' => ∃ rd rc, e = .returned (.tuple #[valV (hadG k) rd (hadV k).length rc, .bool (hadOk k)]) ∧ Own w' w.heap.size rd rc (hadV k) ∧ Keep w w' := by
  cases h1 : hadOk k
  · rw [show hadG k = 0 from by simp [hadG, h1], show hadV k = [] from by simp [hadV, h1]]
    unfold hadOk at h1
    go_enter Try.func40, Try.ntmps40
    go_wp2_with (go_at_call 72; refine (l00In_any _ _ _ _).mono ?_; rw [h1]; rintro e w' ⟨rfl, rfl⟩)
    refine bodyPost_ret (v := .tuple #[valV 0 none 0 0, .bool false]) (by simp [results, Try.results40, go_sem]) rfl ?_
    exact ⟨none, 0, rfl, Own.nil _ _, by go_grown⟩
  obtain ⟨n, rfl, hn, p1, p2⟩ := pow3 h1
  rw [show hadG n = ((2 ^ n : Nat) : Int) from by simp [hadG, h1], show hadV n = hadL (2 ^ n) (2 ^ n) from by simp [hadV, h1]]
  unfold hadOk at h1
  have e1 : wrap64 ((2 : Int) ^ n) = ((2 ^ n : Nat) : Int) := by
    rw [show ((2 : Int) ^ n) = ((2 ^ n : Nat) : Int) from by norm_cast]; exact IntWalk.wrap64_in _ (by omega)
  generalize 2 ^ n = m at *
  have HL := Lib.hid (hadL_len m)
  have HSU := Lib.hid (hadL_succ m)
  have H0 : Hid (hadL m 0 = []) := Lib.hid rfl
  have HB := Lib.hid (fun j t ht => hadS_bd j (t := t) ht)
  have HST := Lib.hid (fun j t hj ht => had_step j t hj ht)
  go_enter Try.func40, Try.ntmps40
  go_wp2_with (go_at_call 72; refine (l00In_any _ _ _ _).mono ?_; rw [h1]; rintro e w' ⟨rfl, rfl⟩)
  simp only [e1]
  clear e1
  have G0 : GrwX (w.alloc (.cells #[.int .i64 0, .slice none 0 0] 27)) (((w.alloc (.cells #[.int .i64 0, .slice none 0 0] 27)).alloc (.cells #[] 2)).alloc (.cells #[.int .i64 (m : Nat), .slice (some ⟨w.heap.size + 1, 0, none⟩) 0 0] 27)) (w.heap.size + 1 + 1) m (some ⟨w.heap.size + 1, 0, none⟩) 0 [] := by
    have o := World.ownsRow_lit (base := (w.alloc (.cells #[.int .i64 0, .slice none 0 0] 27)).heap.size) (e := 2) (size := 1) (w.alloc (.cells #[.int .i64 0, .slice none 0 0] 27)) #[] 0 (Nat.le_refl _) (by simp) rfl
    have o2 : Own ((w.alloc (.cells #[.int .i64 0, .slice none 0 0] 27)).alloc (.cells #[] 2)) (w.alloc (.cells #[.int .i64 0, .slice none 0 0] 27)).heap.size (some ⟨w.heap.size + 1, 0, none⟩) 0 [] := ⟨by simpa using o, by simp, by simp⟩
    exact ⟨by simp [go_sem], by simp [go_sem], by simp [go_sem], by simp [go_sem], by simp, by first | (simp; done) | (simp; omega), o2.keep (by go_grown), fun a h => by simp at h; subst h; simp, by go_grown⟩
  have R0 : (w.alloc (.cells #[.int .i64 0, .slice none 0 0] 27)).cell? ⟨w.heap.size, 0, none⟩ = some (.int .i64 0) := by simp
  have R1 : (w.alloc (.cells #[.int .i64 0, .slice none 0 0] 27)).cell? ⟨w.heap.size, 1, none⟩ = some (.slice none 0 0) := by simp
  have F0 : (w.alloc (.cells #[.int .i64 0, .slice none 0 0] 27)).frozen? ⟨w.heap.size, 0, none⟩ = false := by simp
  have F1 : (w.alloc (.cells #[.int .i64 0, .slice none 0 0] 27)).frozen? ⟨w.heap.size, 1, none⟩ = false := by simp
  have HKA : Hid (Keep w (w.alloc (.cells #[.int .i64 0, .slice none 0 0] 27))) := Lib.hid (by go_grown)
  have hsz : (w.alloc (.cells #[.int .i64 0, .slice none 0 0] 27)).heap.size = w.heap.size + 1 := by simp
  have HG0 := Lib.hid G0; have HR0 := Lib.hid R0; have HR1 := Lib.hid R1; have HF0 := Lib.hid F0; have HF1 := Lib.hid F1; have HSZ := Lib.hid hsz
  clear G0 R0 R1 F0 F1 hsz
  generalize hwa : w.alloc (.cells #[.int .i64 0, .slice none 0 0] 27) = wa at *
  clear hwa
  go_loopg [6] m (fun kk i wr => ∃ (j : Nat) (rd : Option Addr) (rc : Nat), j ≤ m ∧ kk = m - j ∧ i = .int .i64 j ∧ Hid (GrwX wa wr (w.heap.size + 1 + 1) m rd rc (hadL m j)))
  case atStart => exact ⟨0, _, _, by omega, rfl, rfl, by rw [H0.out]; exact HG0⟩
  case round =>
    obtain ⟨j, rd, rc, hj, rfl, rfl, HG⟩ := hrel
    have b0 := HG.out.c0; have b1 := HG.out.c1
    rw [HL.out] at b1
    by_cases hlt : j < m
    · have hle : (j : Int) < (m : Int) := by omega
      have HSJ := Lib.hid (HST.out j)
      have HBJ := Lib.hid (HB.out j)
      have HZ : Hid (hadS j 0 = 0) := Lib.hid rfl
      obtain ⟨wo, hwo⟩ : ∃ x, x = wr := ⟨_, rfl⟩
      go_wp2
      go_loop [7, 8] (fun s i => ∃ t : Nat, t ≤ m ∧ i = .int .i64 t ∧ s = .int .i64 ((hadS j t : Nat) : Int)) (fun _ i => m - (intOf i).toNat)
      case atStart => exact ⟨0, by omega, rfl, by rw [HZ.out]; rfl⟩
      case round =>
        obtain ⟨t, ht, rfl, rfl⟩ := hrel
        have hsb := HBJ.out t (by omega)
        by_cases htl : t < m
        · have hle2 : (t : Int) < (m : Int) := by omega
          obtain ⟨c, P, hc, hP, f1, f2, f3, f4, f5, f6⟩ := HSJ.out t (by omega) (by omega)
          have HQ := Lib.hid (fun W => l10Count_any (t &&& j) W f5)
          rw [← hc] at HQ
          have HS6 := Lib.hid f6
          have hcb : c ≤ 64 := by rw [hc]; exact pc_le _
          clear hc hP f6
          generalize hadS j t = s at *
          generalize t &&& j = q at *
          by_cases hev : c % 2 = 0
          · have he : ((c : Int) % 2 == 0) = true := by simp; omega
            have HS7 : Hid (hadS j (t + 1) = s ||| P) := Lib.hid (by rw [HS6.out, if_pos hev])
            generalize s ||| P = s2 at *
            go_wp2_with (go_at_call 74; refine (HQ.out _).mono ?_; rintro e w' ⟨rfl, rfl⟩)
            go_round
            case rel => exact ⟨t + 1, by omega, by go_num, by rw [HS7.out]⟩
            case measure => simp [intOf]; omega
          · have he : ((c : Int) % 2 == 0) = false := by simp; omega
            have HS7 : Hid (hadS j (t + 1) = s) := Lib.hid (by rw [HS6.out, if_neg hev])
            go_wp2_with (go_at_call 74; refine (HQ.out _).mono ?_; rintro e w' ⟨rfl, rfl⟩)
            go_round
            case rel => exact ⟨t + 1, by omega, by go_num, by rw [HS7.out]⟩
            case measure => simp [intOf]; omega
        · have HE := Lib.hid (show t = m by omega)
          have hle2 : ¬ (t : Int) < (m : Int) := by omega
          have HSU2 : Hid (hadL m (j + 1) = hadL m j ++ [((hadS j t : Nat) : Int)]) := Lib.hid (by rw [HSU.out, HE.out])
          have HLJ := Lib.hid (HL.out j)
          generalize hadS j t = s at *
          generalize hadL m j = L at *
          have hws := HG.out.k.size
          go_wp2_with (refine list_app2 (by rfl) _ _ (by rfl) wa.heap.size rd rc j L (s : Int) (by rfl) (HG.out.o.keep (by go_grown)) HLJ.out.symm wr.heap.size (by rfl) (by simp) ⟨by omega, by omega⟩ (by rw [HLJ.out]; omega) (by simp; omega) ?_; intro g3 cap3 w3 hown3 hgr3 hat3 hlt3; obtain ⟨⟨h1c, h1f⟩, hg3⟩ := (HG.out.keep (W' := wr.alloc (.cells #[.int .i64 (s : Int)] 2)) (by go_grown)).app hown3 (by rw [HLJ.out]; exact hgr3) (by simpa using hat3); rw [HLJ.out] at h1c hg3; have HG3 := Lib.hid hg3; clear hown3 hgr3 hat3 hg3)
          go_roundg (m - (j + 1))
          case measure => omega
          case rel => exact ⟨j + 1, _, _, by omega, rfl, by go_num, by rw [HSU2.out]; exact HG3⟩
    · have HE := Lib.hid (show j = m by omega)
      have hle : ¬ (j : Int) < (m : Int) := by omega
      have r0 := (HG.out.k.cell (p := ⟨w.heap.size, 0, none⟩) (by rw [HSZ.out]; show w.heap.size < w.heap.size + 1; omega)).trans HR0.out
      have r1 := (HG.out.k.cell (p := ⟨w.heap.size, 1, none⟩) (by rw [HSZ.out]; show w.heap.size < w.heap.size + 1; omega)).trans HR1.out
      have q0 := (HG.out.k.frozen (p := ⟨w.heap.size, 0, none⟩) (by rw [HSZ.out]; show w.heap.size < w.heap.size + 1; omega)).trans HF0.out
      have q1 := (HG.out.k.frozen (p := ⟨w.heap.size, 1, none⟩) (by rw [HSZ.out]; show w.heap.size < w.heap.size + 1; omega)).trans HF1.out
      have HRS := Lib.hid (res_set r0 r1 (.int .i64 (m : Nat)) (.slice rd j rc))
      have HO := Lib.hid ((HG.out.o.set2 (b := w.heap.size) (by rw [HSZ.out]; omega) (.int .i64 (m : Nat)) (.slice rd j rc)).mono (B' := w.heap.size) (by rw [HSZ.out]; omega))
      have HK := Lib.hid (((HKA.out.trans (HG.out.k.mono (by rw [HSZ.out]; omega))).setCell (p := ⟨w.heap.size, 0, none⟩) (Nat.le_refl _) (.int .i64 (m : Nat))).setCell (p := ⟨w.heap.size, 1, none⟩) (Nat.le_refl _) (.slice rd j rc))
      go_wp2
      refine bodyPost_ret (v := .tuple #[valV (m : Nat) rd j rc, .bool true]) (by simp [results, Try.results40, go_sem, HRS.out.1, HRS.out.2]) rfl ?_
      exact ⟨rd, rc, by rw [HL.out, ← HE.out], by rw [← HE.out]; have h := HO.out; rw [HE.out] at h ⊢; exact h, HK.out⟩
end Go.Proofs.Ytaockgegghmphaa
