/- The best cycle: distances, the library's least quotient, and the program's look. -/
import Derived.Test.YtomfhkpmdalknaaBcP11
import Derived.Test.YtomfhkpmdalknaaInts
import Derived.Test.YtomfhkpmdalknaaDu11
import Derived.Deep.LoopGhost
import Derived.Deep.RegionHeld3
namespace Go.Proofs.Ytomfhkpmdalknaa
open Go.ChangeShapes Go.WideShapes Go.ChangeAt Go.RowKit Go.Deep
set_option linter.unusedVariables false
/-- A fraction. -/
abbrev frY (l d : Int) : Value := .agg #[.int .i64 l, .int .i64 d]
def sgnY (x y : Int) : Int := if x < y then -1 else if y < x then 1 else 0
set_option maxHeartbeats 800000 in
theorem sideY_any (a b c d : Int) (w : World) (h1 : -1000000000 ≤ a * d ∧ a * d ≤ 1000000000) (h2 : -1000000000 ≤ c * b ∧ c * b ≤ 1000000000) :
    Calls Try.prog 80 #[frY a b, frY c d] w fun e w' => e = .returned (.int .i64 (sgnY (a * d) (c * b))) ∧ Keep w w' := by
  have V1 : IntKind.i64.wrap (a * d) = a * d := IntWalk.i64_in _ (by omega)
  have V2 : IntKind.i64.wrap (c * b) = c * b := IntWalk.i64_in _ (by omega)
  have HC := Lib.hid (fun W => Compare64_any (a * d) (c * b) W)
  have HS : Hid ((if a * d < c * b then -1 else if c * b < a * d then 1 else 0) = sgnY (a * d) (c * b)) := Lib.hid rfl
  rw [HS.out] at HC
  generalize sgnY (a * d) (c * b) = S at *
  go_enter Try.func80, Try.ntmps80
  go_wp2_with (go_at_call 112; refine (HC.out _).mono ?_; rintro e w' ⟨rfl, rfl⟩)
  go_ret
  exact ⟨rfl, by go_grown⟩
theorem roundY_any (a b : Int) (w : World) (ha : -1000000000 ≤ a) (ha' : a ≤ 1000000000) (hb : 1 ≤ b) (hb' : b ≤ 1000000000) :
    Calls Try.prog 76 #[.int .i64 a, .int .i64 b] w fun e w' => e = .returned (.agg #[.int .i64 (fl a b), .int .i64 (ce a b)]) ∧ Keep w w' := by
  go_enter Try.func76, Try.ntmps76
  go_wp2_with (first | (go_at_call 110; refine (floorOf_any _ _ _ (by omega) (by omega) hb hb').mono ?_; rintro e w' ⟨rfl, rfl⟩) | (go_at_call 111; refine (ceilingOf_any _ _ _ (by omega) (by omega) hb hb').mono ?_; rintro e w' ⟨rfl, rfl⟩))
  refine bodyPost_ret (v := .agg #[.int .i64 (fl a b), .int .i64 (ce a b)]) (by simp [results, Try.results76, go_sem]) rfl ?_
  exact ⟨rfl, by go_grown⟩
set_option maxHeartbeats 1600000 in
set_option maxRecDepth 100000 in
theorem distC_any (BD BN : Nat) (num den k n : Int) (w : World) (cD : w.cell? ⟨BD, 0, none⟩ = some (.int .i64 den)) (cN : w.cell? ⟨BN, 0, none⟩ = some (.int .i64 num)) (h1 : 0 ≤ k * den ∧ k * den ≤ 400000) (h2 : 0 ≤ num * n ∧ num * n ≤ 400000) :
    Calls Try.prog 77 #[frY k n, .pointer (some ⟨BD, 0, none⟩), .pointer (some ⟨BN, 0, none⟩)] w fun e w' => e = .returned (frY (bcD num den k n) n) ∧ Keep w w' := by
  have HA := Lib.hid (fun W => absolute_any (k * den - num * n) W (by omega) (by omega))
  have HDV : Hid (ab (k * den - num * n) = bcD num den k n) := Lib.hid rfl
  rw [HDV.out] at HA
  generalize bcD num den k n = D at *
  have V1 : IntKind.i64.wrap (k * den) = k * den := IntWalk.i64_in _ (by omega)
  have V2 : IntKind.i64.wrap (num * n) = num * n := IntWalk.i64_in _ (by omega)
  have V3 : IntKind.i64.wrap (k * den - num * n) = k * den - num * n := IntWalk.i64_in _ (by omega)
  have lD := block_lt_of_cell cD
  have lN := block_lt_of_cell cN
  obtain ⟨wa, hwa⟩ : ∃ x, x = w.alloc (.cells #[.int .i64 k, .int .i64 n] 89) := ⟨_, rfl⟩
  have HS : Hid (∀ W, Keep (w.alloc (.cells #[.int .i64 k, .int .i64 n] 89)) W → ((W.cell? ⟨w.heap.size, 0, none⟩ = some (.int .i64 k) ∧ W.cell? ⟨w.heap.size, 1, none⟩ = some (.int .i64 n)) ∧ W.cell? ⟨BD, 0, none⟩ = some (.int .i64 den) ∧ W.cell? ⟨BN, 0, none⟩ = some (.int .i64 num)) ∧ Keep w W) := Lib.hid (fun W kk => by
    have k0 : Keep w W := Keep.next (by go_grown) kk
    refine ⟨⟨⟨(kk.cell (p := ⟨w.heap.size, 0, none⟩) (by simp)).trans (by simp), (kk.cell (p := ⟨w.heap.size, 1, none⟩) (by simp)).trans (by simp)⟩, (k0.cell (p := ⟨BD, 0, none⟩) lD).trans cD, (k0.cell (p := ⟨BN, 0, none⟩) lN).trans cN⟩, k0⟩)
  go_enter Try.func77, Try.ntmps77
  go_wp2
  go_region_held3 (fun W => ((W.cell? ⟨w.heap.size, 0, none⟩ = some (.int .i64 k) ∧ W.cell? ⟨w.heap.size, 1, none⟩ = some (.int .i64 n)) ∧ W.cell? ⟨BD, 0, none⟩ = some (.int .i64 den) ∧ W.cell? ⟨BN, 0, none⟩ = some (.int .i64 num)) ∧ Keep w W)
    (first | exact HS.out _ (by go_grown))
    (first | (go_at_call 75; refine (HA.out _).mono ?_; rintro e w' ⟨rfl, rfl⟩))
  all_goals go_wp2
  all_goals refine bodyPost_ret (v := frY D n) (by simp [results, Try.results77, go_sem]) rfl ?_
  all_goals exact ⟨rfl, by go_grown⟩
theorem DuY.other {W : World} {b c : Nat} {x y : Value} (h : DuY W c x y) (hb : b ≠ c) (v0 v1 : Value) : DuY ((W.setCell ⟨b, 0, none⟩ v0).setCell ⟨b, 1, none⟩ v1) c x y := by
  refine ⟨?_, ?_, by simpa using h.f0, by simpa using h.f1⟩
  · rw [World.cell?_setCell_other _ _ _ _ (by simp), World.cell?_setCell_other _ _ _ _ (by simp)]; exact h.c0
  · rw [World.cell?_setCell_other _ _ _ _ (by simp), World.cell?_setCell_other _ _ _ _ (by simp)]; exact h.c1
theorem sgnY_neg (x y : Int) : sgnY x y < 0 ↔ x < y := by
  unfold sgnY
  split
  · omega
  · split <;> omega
set_option maxHeartbeats 1600000 in
set_option maxRecDepth 100000 in
/-- Which of two quotients is nearer. -/
theorem cmpC_any (BF BD BN : Nat) (num den k n l c : Int) (w : World) (cF : w.cell? ⟨BF, 0, none⟩ = some (.func (.func 77) #[] #[.pointer (some ⟨BD, 0, none⟩), .pointer (some ⟨BN, 0, none⟩)]))
    (cD : w.cell? ⟨BD, 0, none⟩ = some (.int .i64 den)) (cN : w.cell? ⟨BN, 0, none⟩ = some (.int .i64 num)) (hd : 1 ≤ den ∧ den ≤ 1000) (hu : 0 ≤ num ∧ num ≤ den) (hk : 0 ≤ k ∧ k ≤ n ∧ 1 ≤ n ∧ n ≤ 400) (hl : 0 ≤ l ∧ l ≤ c ∧ 1 ≤ c ∧ c ≤ 400) :
    Calls Try.prog 79 #[frY k n, frY l c, .pointer (some ⟨BF, 0, none⟩)] w fun e w' => (∃ q : Int, e = .returned (.int .i64 q) ∧ (q < 0 ↔ bcD num den k n * c < bcD num den l c * n)) ∧ Keep w w' := by
  obtain ⟨a1, a2, a3⟩ := bc_bd hd hu ⟨hk.1, hk.2.1⟩ hk.2.2.2
  obtain ⟨b1, b2, b3⟩ := bc_bd hd hu ⟨hl.1, hl.2.1⟩ hl.2.2.2
  have t1 := bc_bd2 a3 (show 0 ≤ c ∧ c ≤ 400 by omega)
  have t2 := bc_bd2 b3 (show 0 ≤ n ∧ n ≤ 400 by omega)
  have lD := block_lt_of_cell cD
  have lN := block_lt_of_cell cN
  have lF := block_lt_of_cell cF
  have HX := Lib.hid (fun W (kk : Keep w W) => distC_any BD BN num den k n W ((kk.cell (p := ⟨BD, 0, none⟩) lD).trans cD) ((kk.cell (p := ⟨BN, 0, none⟩) lN).trans cN) a1 a2)
  have HY := Lib.hid (fun W (kk : Keep w W) => distC_any BD BN num den l c W ((kk.cell (p := ⟨BD, 0, none⟩) lD).trans cD) ((kk.cell (p := ⟨BN, 0, none⟩) lN).trans cN) b1 b2)
  generalize bcD num den k n = X at *
  generalize bcD num den l c = Y at *
  have HSD := Lib.hid (fun W => sideY_any X n Y c W (by omega) (by omega))
  have HSG := Lib.hid (sgnY_neg (X * c) (Y * n))
  generalize sgnY (X * c) (Y * n) = SG at *
  obtain ⟨wa, hwa⟩ : ∃ x, x = (w.alloc (.cells #[.int .i64 k, .int .i64 n] 89)).alloc (.cells #[.int .i64 l, .int .i64 c] 89) := ⟨_, rfl⟩
  have HKA : Hid (Keep w wa) := Lib.hid (by rw [hwa]; go_grown)
  have HS : Hid (∀ W, Keep wa W → (((W.cell? ⟨w.heap.size, 0, none⟩ = some (.int .i64 k) ∧ W.cell? ⟨w.heap.size, 1, none⟩ = some (.int .i64 n)) ∧ (W.cell? ⟨w.heap.size + 1, 0, none⟩ = some (.int .i64 l) ∧ W.cell? ⟨w.heap.size + 1, 1, none⟩ = some (.int .i64 c))) ∧ W.cell? ⟨BF, 0, none⟩ = some (.func (.func 77) #[] #[.pointer (some ⟨BD, 0, none⟩), .pointer (some ⟨BN, 0, none⟩)])) ∧ Keep wa W) := Lib.hid (fun W kk => by
    have k0 : Keep w W := Keep.next HKA.out kk
    have hsz : wa.heap.size = w.heap.size + 1 + 1 := by rw [hwa]; simp
    refine ⟨⟨⟨⟨?_, ?_⟩, ?_, ?_⟩, (k0.cell (p := ⟨BF, 0, none⟩) lF).trans cF⟩, kk⟩
    · exact (kk.cell (p := ⟨w.heap.size, 0, none⟩) (by rw [hsz]; show w.heap.size < _; omega)).trans (by rw [hwa]; simp)
    · exact (kk.cell (p := ⟨w.heap.size, 1, none⟩) (by rw [hsz]; show w.heap.size < _; omega)).trans (by rw [hwa]; simp)
    · exact (kk.cell (p := ⟨w.heap.size + 1, 0, none⟩) (by rw [hsz]; show w.heap.size + 1 < _; omega)).trans (by rw [hwa]; simp)
    · exact (kk.cell (p := ⟨w.heap.size + 1, 1, none⟩) (by rw [hsz]; show w.heap.size + 1 < _; omega)).trans (by rw [hwa]; simp))
  have HWA := Lib.hid hwa
  clear hwa lD lN lF cD cN cF a1 a2 a3 b1 b2 b3 t1 t2
  go_enter Try.func79, Try.ntmps79
  go_wp2
  rw [← HWA.out]
  obtain ⟨⟨⟨⟨x0, x1⟩, y0, y1⟩, f0⟩, _⟩ := HS.out wa (Below.refl _ _)
  go_region_held3 (fun W => (((W.cell? ⟨w.heap.size, 0, none⟩ = some (.int .i64 k) ∧ W.cell? ⟨w.heap.size, 1, none⟩ = some (.int .i64 n)) ∧ (W.cell? ⟨w.heap.size + 1, 0, none⟩ = some (.int .i64 l) ∧ W.cell? ⟨w.heap.size + 1, 1, none⟩ = some (.int .i64 c))) ∧ W.cell? ⟨BF, 0, none⟩ = some (.func (.func 77) #[] #[.pointer (some ⟨BD, 0, none⟩), .pointer (some ⟨BN, 0, none⟩)])) ∧ Keep wa W)
    (first | exact HS.out _ (Keep.next (Keep.next (Keep.next (by go_grown) kX) kY) kS) | exact HS.out _ (Keep.next (Keep.next (Keep.next (by go_grown) kY) kX) kS) | exact HS.out _ (Keep.next (Keep.next (by go_grown) kX) kY) | exact HS.out _ (Keep.next (Keep.next (by go_grown) kY) kX) | exact HS.out _ (Keep.next (by go_grown) kX) | exact HS.out _ (Keep.next (by go_grown) kY) | exact HS.out _ (by go_grown))
    (first | (go_at_call 77; first | (with_reducible refine (HX.out _ (by first | exact Keep.next HKA.out (Keep.next (by go_grown) kY) | exact Keep.next HKA.out (by go_grown))).mono ?_; rintro e wX ⟨rfl, kX⟩) | (with_reducible refine (HY.out _ (by first | exact Keep.next HKA.out (Keep.next (by go_grown) kX) | exact Keep.next HKA.out (by go_grown))).mono ?_; rintro e wY ⟨rfl, kY⟩)) | (go_at_call 80; refine (HSD.out _).mono ?_; rintro e wS ⟨rfl, kS⟩))
  all_goals go_wp2
  all_goals go_ret
  all_goals exact ⟨⟨_, rfl, HSG.out⟩, Keep.next HKA.out (by first | exact Keep.next (Keep.next (Keep.next (by go_grown) kX) kY) kS | exact Keep.next (Keep.next (Keep.next (by go_grown) kY) kX) kS)⟩
/-- A list of pairs in memory. -/
structure Frs (w : World) (ad : Option Addr) (L : List (Int × Int)) : Prop where
  small : L.length ≤ 1000
  at_ : ∃ b off, ad = some ⟨b, off, none⟩ ∧ b < w.heap.size ∧ ∀ i, i < L.length → w.cell? ⟨b, off + i * 2, none⟩ = some (.int .i64 (L.getD i (0, 1)).1) ∧ w.cell? ⟨b, off + i * 2 + 1, none⟩ = some (.int .i64 (L.getD i (0, 1)).2)
theorem bcS_in {num den : Int} {L : List (Int × Int)} (hb : ∀ i, i < L.length → 0 ≤ (L.getD i (0, 1)).1 ∧ (L.getD i (0, 1)).1 ≤ (L.getD i (0, 1)).2 ∧ 1 ≤ (L.getD i (0, 1)).2 ∧ (L.getD i (0, 1)).2 ≤ 400) : ∀ k, k < L.length → 0 ≤ (bcS num den L k).1 ∧ (bcS num den L k).1 ≤ (bcS num den L k).2 ∧ 1 ≤ (bcS num den L k).2 ∧ (bcS num den L k).2 ≤ 400 := by
  intro k
  induction k with
  | zero => intro h; exact hb 0 h
  | succ k ih => intro h; exact bcU_in (ih (by omega)) (hb (k + 1) h)
set_option maxHeartbeats 3200000 in
set_option maxRecDepth 100000 in
theorem MinFuncF_any (BF : Nat) (num den : Int) (ad : Option Addr) (cap : Nat) (L : List (Int × Int)) (w : World) (h1 : 1 ≤ L.length) (hz : Frs w ad L)
    (hb : ∀ i, i < L.length → 0 ≤ (L.getD i (0, 1)).1 ∧ (L.getD i (0, 1)).1 ≤ (L.getD i (0, 1)).2 ∧ 1 ≤ (L.getD i (0, 1)).2 ∧ (L.getD i (0, 1)).2 ≤ 400)
    (hcl : ∀ k n l c : Int, (0 ≤ k ∧ k ≤ n ∧ 1 ≤ n ∧ n ≤ 400) → (0 ≤ l ∧ l ≤ c ∧ 1 ≤ c ∧ c ≤ 400) → ∀ W, Keep w W → Calls Try.prog 79 #[frY k n, frY l c, .pointer (some ⟨BF, 0, none⟩)] W fun e w' => (∃ q : Int, e = .returned (.int .i64 q) ∧ (q < 0 ↔ bcD num den k n * c < bcD num den l c * n)) ∧ Keep W w') :
    Calls Try.prog 78 #[.slice ad L.length cap, .func (.func 79) #[] #[.pointer (some ⟨BF, 0, none⟩)]] w fun e w' => e = .returned (frY (bcS num den L (L.length - 1)).1 (bcS num den L (L.length - 1)).2) ∧ Keep w w' := by
  have hsm := hz.small
  obtain ⟨b, off, rfl, hbl, hc⟩ := hz.at_
  have HC := Lib.hid hc
  have HCL := Lib.hid hcl
  have HSI := Lib.hid (fun k hk => bcS_in (num := num) (den := den) hb k hk)
  have HBI := Lib.hid hb
  have HS0 : Hid (bcS num den L 0 = L.getD 0 (0, 1)) := Lib.hid rfl
  have HSS : Hid (∀ k, bcS num den L (k + 1) = if bcD num den (L.getD (k + 1) (0, 1)).1 (L.getD (k + 1) (0, 1)).2 * (bcS num den L k).2 < bcD num den (bcS num den L k).1 (bcS num den L k).2 * (L.getD (k + 1) (0, 1)).2 then ((L.getD (k + 1) (0, 1)).1, (L.getD (k + 1) (0, 1)).2) else bcS num den L k) := Lib.hid (fun k => rfl)
  clear hcl hb hc hz
  generalize bcS num den L = S at *
  obtain ⟨c0, c1⟩ := HC.out 0 (by omega)
  rw [Nat.zero_mul, Nat.add_zero] at c0 c1
  rw [← HS0.out] at c0 c1
  have hl0 : ¬ (L.length : Int) < 1 := by omega
  have hpos : (0 : Int) < (L.length : Int) := by omega
  go_enter Try.func78, Try.ntmps78
  go_wp2
  go_loopw [6] (fun i wr => ∃ k : Nat, k + 1 ≤ L.length ∧ i = .int .i64 ((k : Int) + 1) ∧ Hid (DuY wr (w.heap.size + 1) (.int .i64 (S k).1) (.int .i64 (S k).2)) ∧ Hid (DuY wr w.heap.size (.int .i64 0) (.int .i64 0)) ∧ Hid (Keep w wr)) (fun i _ => L.length - (intOf i).toNat)
  case atStart =>
    refine ⟨0, by omega, rfl, Lib.hid ?_, Lib.hid ?_, Lib.hid (by go_grown)⟩
    · have h := DuY.new (w.alloc (.cells #[.int .i64 0, .int .i64 0] 89)) (.int .i64 (S 0).1) (.int .i64 (S 0).2) 89
      rwa [show (w.alloc (.cells #[.int .i64 0, .int .i64 0] 89)).heap.size = w.heap.size + 1 by simp] at h
    · exact (DuY.new w (.int .i64 0) (.int .i64 0) 89).keep (by go_grown)
  case round =>
    obtain ⟨k, hk, rfl, HM, HR, HK⟩ := hrel
    by_cases hlt : k + 1 < L.length
    · have hlti : (k : Int) + 1 < (L.length : Int) := by omega
      obtain ⟨d0, d1⟩ := HC.out (k + 1) hlt
      have x0 := (HK.out.cell (p := ⟨b, off + (k + 1) * 2, none⟩) hbl).trans d0
      have x1 := (HK.out.cell (p := ⟨b, off + (k + 1) * 2 + 1, none⟩) hbl).trans d1
      have HBX := Lib.hid (HBI.out (k + 1) hlt)
      have HSK := Lib.hid (HSI.out k (by omega))
      have HSU := Lib.hid (HSS.out k)
      have e1 : ((k : Int) + 1) = ((k + 1 : Nat) : Int) := by omega
      have V1 : IntKind.i64.wrap (((k + 1 : Nat) : Int) + 1) = ((k + 1 : Nat) : Int) + 1 := IntWalk.i64_in _ (by omega)
      have hki : ((k + 1 : Nat) : Int) < (L.length : Int) := by omega
      have hk0 : (0 : Int) ≤ ((k + 1 : Nat) : Int) := by omega
      have hblr : b < wr.heap.size := Nat.lt_of_lt_of_le hbl HK.out.size
      clear d0 d1 c0 c1
      obtain ⟨xa, hxa⟩ : ∃ q, q = (L.getD (k + 1) (0, 1)).1 := ⟨_, rfl⟩
      obtain ⟨xb, hxb⟩ : ∃ q, q = (L.getD (k + 1) (0, 1)).2 := ⟨_, rfl⟩
      rw [← hxa] at x0 HSU HBX
      rw [← hxb] at x1 HSU HBX
      clear hxa hxb
      have HCC := Lib.hid (fun W (kk : Keep wr W) => HCL.out xa xb (S k).1 (S k).2 HBX.out HSK.out W (Keep.next HK.out kk))
      have HS : Hid (∀ W, Keep wr W → ((W.cell? ⟨b, off + (k + 1) * 2, none⟩ = some (.int .i64 xa) ∧ W.cell? ⟨b, off + (k + 1) * 2 + 1, none⟩ = some (.int .i64 xb)) ∧ W.cell? ⟨w.heap.size + 1, 0, none⟩ = some (.int .i64 (S k).1) ∧ W.cell? ⟨w.heap.size + 1, 1, none⟩ = some (.int .i64 (S k).2)) ∧ Keep wr W) := Lib.hid (fun W kk => ⟨⟨⟨(kk.cell (p := ⟨b, off + (k + 1) * 2, none⟩) hblr).trans x0, (kk.cell (p := ⟨b, off + (k + 1) * 2 + 1, none⟩) hblr).trans x1⟩, (HM.out.keep kk).c0, (HM.out.keep kk).c1⟩, kk⟩)
      obtain ⟨m0, m1, m2, m3⟩ := HM.out
      rw [e1]
      clear e1 hlti
      by_cases c : bcD num den xa xb * (S k).2 < bcD num den (S k).1 (S k).2 * xb
      · rw [if_pos c] at HSU
        have HCB := Lib.hid c
        clear c
        go_wp2
        have hk8 : (0 : Int) ≤ (k : Int) + 1 := by omega
        have hk9 : (k : Int) + 1 < (L.length : Int) := by omega
        go_region_held3 (fun W => ((W.cell? ⟨b, off + (k + 1) * 2, none⟩ = some (.int .i64 xa) ∧ W.cell? ⟨b, off + (k + 1) * 2 + 1, none⟩ = some (.int .i64 xb)) ∧ W.cell? ⟨w.heap.size + 1, 0, none⟩ = some (.int .i64 (S k).1) ∧ W.cell? ⟨w.heap.size + 1, 1, none⟩ = some (.int .i64 (S k).2)) ∧ Keep wr W)
          (first | exact HS.out _ (Keep.next (by go_grown) k2) | exact HS.out _ (by go_grown))
          (first | (go_at_call 79; refine (HCC.out _ (by go_grown)).mono ?_; rintro e w2 ⟨⟨q, rfl, hq⟩, k2⟩; have hneg : q < 0 := hq.2 HCB.out; clear hq))
        have HK2 := Lib.hid (show Keep wr w2 from Keep.next (by go_grown) k2)
        clear k2 x0 x1 m0 m1 m2 m3
        obtain ⟨⟨⟨x0, x1⟩, _, _⟩, _⟩ := HS.out w2 HK2.out
        obtain ⟨m0, m1, m2, m3⟩ := HM.out.keep HK2.out
        go_wp2
        go_roundw
        case rel =>
          refine ⟨k + 1, by omega, by go_num, Lib.hid ?_, Lib.hid ?_, Lib.hid ?_⟩
          · rw [HSU.out]; exact (HM.out.keep HK2.out).put _ _
          · exact (HR.out.keep HK2.out).other (by omega) _ _
          · exact keep_put (Keep.next HK.out HK2.out) (by omega) _ _
        case measure => simp [intOf]; omega
      · rw [if_neg c] at HSU
        have HCB := Lib.hid c
        clear c
        go_wp2
        have hk8 : (0 : Int) ≤ (k : Int) + 1 := by omega
        have hk9 : (k : Int) + 1 < (L.length : Int) := by omega
        go_region_held3 (fun W => ((W.cell? ⟨b, off + (k + 1) * 2, none⟩ = some (.int .i64 xa) ∧ W.cell? ⟨b, off + (k + 1) * 2 + 1, none⟩ = some (.int .i64 xb)) ∧ W.cell? ⟨w.heap.size + 1, 0, none⟩ = some (.int .i64 (S k).1) ∧ W.cell? ⟨w.heap.size + 1, 1, none⟩ = some (.int .i64 (S k).2)) ∧ Keep wr W)
          (first | exact HS.out _ (Keep.next (by go_grown) k2) | exact HS.out _ (by go_grown))
          (first | (go_at_call 79; refine (HCC.out _ (by go_grown)).mono ?_; rintro e w2 ⟨⟨q, rfl, hq⟩, k2⟩; have hneg : ¬ q < 0 := (fun h => by have h5 := hq.1 h; have h6 := HCB.out; omega); clear hq))
        have HK2 := Lib.hid (show Keep wr w2 from Keep.next (by go_grown) k2)
        clear k2
        go_wp2
        go_roundw
        case rel => exact ⟨k + 1, by omega, by go_num, Lib.hid (by rw [HSU.out]; exact HM.out.keep HK2.out), Lib.hid (HR.out.keep HK2.out), Lib.hid (Keep.next HK.out HK2.out)⟩
        case measure => simp [intOf]; omega
    · have HE := Lib.hid (show k = L.length - 1 by omega)
      have hle : ¬ (k : Int) + 1 < (L.length : Int) := by omega
      obtain ⟨m0, m1, _, _⟩ := HM.out
      obtain ⟨r0, r1, r2, r3⟩ := HR.out
      have HF := Lib.hid (HR.out.put (.int .i64 (S k).1) (.int .i64 (S k).2))
      have HKF := Lib.hid (keep_put (b := w.heap.size) HK.out (Nat.le_refl _) (.int .i64 (S k).1) (.int .i64 (S k).2))
      go_wp2
      refine bodyPost_ret (v := frY (S k).1 (S k).2) (by simp [results, Try.results78, go_sem, HF.out.c0, HF.out.c1]) rfl ?_
      exact ⟨by rw [HE.out], HKF.out⟩
end Go.Proofs.Ytomfhkpmdalknaa
