/- The best cycle: the program's look. -/
import Derived.Test.YtomfhkpmdalknaaBcI11
import Derived.Laws.EntriesVeiled
namespace Go.Proofs.Ytomfhkpmdalknaa
open Go.ChangeShapes Go.WideShapes Go.ChangeAt Go.RowKit Go.Deep
set_option linter.unusedVariables false
/-- Pairs as they lie in memory. -/
def frC (L : List (Int × Int)) : List Value := L.flatMap fun q => [.int .i64 q.1, .int .i64 q.2]
theorem frC_app (L : List (Int × Int)) (a b c d : Int) : frC (L ++ [(a, b), (c, d)]) = frC L ++ [.int .i64 a, .int .i64 b, .int .i64 c, .int .i64 d] := by unfold frC; rw [List.flatMap_append]; rfl
theorem frC_len (L : List (Int × Int)) : (frC L).length = L.length * 2 := by
  induction L with
  | nil => rfl
  | cons a t ih => show (_ :: _ :: frC t).length = _; simp only [List.length_cons]; omega
theorem frC_get (L : List (Int × Int)) : ∀ i, i < L.length → (frC L)[2 * i]? = some (.int .i64 (L.getD i (0, 1)).1) ∧ (frC L)[2 * i + 1]? = some (.int .i64 (L.getD i (0, 1)).2) := by
  induction L with
  | nil => intro i h; simp at h
  | cons a t ih =>
    intro i h
    have e : frC (a :: t) = .int .i64 a.1 :: .int .i64 a.2 :: frC t := rfl
    rw [e]
    cases i with
    | zero => exact ⟨rfl, rfl⟩
    | succ i =>
      have h2 := ih i (by simpa using h)
      rw [show 2 * (i + 1) = 2 * i + 1 + 1 by omega, List.getElem?_cons_succ, List.getElem?_cons_succ, List.getElem?_cons_succ, List.getElem?_cons_succ, List.getD_cons_succ]
      exact h2
theorem own_blk2 {w : World} {B e : Nat} {ad : Option Addr} {n cap : Nat} {xs : List Value} (h : w.ownsRow B e 2 (.slice ad n cap) n xs) :
    (ad = none ∧ n = 0 ∧ cap = 0) ∨ ∃ g, ad = some ⟨g, 0, none⟩ ∧ B ≤ g ∧ g < w.heap.size := by
  rcases h.2 with ⟨h1, h2⟩ | ⟨g, c, cur, h1, h2, h3, _⟩
  · simp at h1; exact .inl ⟨h1.1, h2, h1.2.2⟩
  · simp at h1
    exact .inr ⟨g, h1.1, h2, lt_of_block h3⟩
theorem row_keep2 {w w' : World} {B e n cap : Nat} {ad : Option Addr} {xs : List Value} (h : w.ownsRow B e 2 (.slice ad n cap) n xs) (k : Keep w w') : w'.ownsRow B e 2 (.slice ad n cap) n xs := by
  refine h.kept (row := none) ⟨k.os, k.tape, k.output, k.size, fun j hj _ => k.block j hj⟩ ?_
  rcases own_blk2 h with ⟨rfl, _⟩ | ⟨g, rfl, _⟩
  · exact .inl rfl
  · right; simp [Value.ownBlock]
theorem below_row2 {w0 w w' : World} {B lo e n cap : Nat} {ad : Option Addr} {xs : List Value} (h : Below B w0 w) (o : w.ownsRow lo e 2 (.slice ad n cap) n xs) (m : w.grownBy w' (Value.slice ad n cap).ownBlock) (hB : B ≤ w.heap.size) (hlo : B ≤ lo) : Below B w0 w' := by
  refine h.grown m hB fun k hk => ?_
  rcases own_blk2 o with ⟨rfl, _⟩ | ⟨k2, rfl, h4, _⟩
  · simp [Value.ownBlock] at hk
  · simp [Value.ownBlock] at hk; omega
theorem bcQ_bd {num den : Int} (hd : 1 ≤ den) (hu : 0 ≤ num ∧ num ≤ den) : ∀ (M : Nat), M ≤ 400 → ∀ q ∈ bcQ num den M, 0 ≤ q.1 ∧ q.1 ≤ q.2 ∧ 1 ≤ q.2 ∧ q.2 ≤ 400 := by
  intro M
  induction M with
  | zero => intro _ q hq; simp [bcQ] at hq
  | succ m ih =>
    intro hM q hq
    rw [bcQ] at hq
    rcases List.mem_append.1 hq with hq | hq
    · exact ih (by omega) q hq
    have hnn : 0 ≤ num * ((m : Int) + 1) := Int.mul_nonneg hu.1 (by omega)
    have hle : num * ((m : Int) + 1) ≤ den * ((m : Int) + 1) := Int.mul_le_mul_of_nonneg_right hu.2 (by omega)
    obtain ⟨f1, f2⟩ := fl_mul (a := num * ((m : Int) + 1)) (b := den) hd
    obtain ⟨c1, c2⟩ := fl_mul (a := -(num * ((m : Int) + 1))) (b := den) hd
    have f0 : 0 ≤ fl (num * ((m : Int) + 1)) den := Int.ediv_nonneg hnn (by omega)
    have fn : fl (num * ((m : Int) + 1)) den ≤ (m : Int) + 1 := by
      by_cases c : fl (num * ((m : Int) + 1)) den ≤ (m : Int) + 1
      · exact c
      · have := Int.mul_le_mul_of_nonneg_left (show (m : Int) + 1 + 1 ≤ fl (num * ((m : Int) + 1)) den by omega) (show 0 ≤ den by omega)
        rw [Int.mul_add den ((m : Int) + 1)] at this; omega
    have g0 : fl (-(num * ((m : Int) + 1))) den ≤ 0 := by
      by_cases c : fl (-(num * ((m : Int) + 1))) den ≤ 0
      · exact c
      · have := Int.mul_le_mul_of_nonneg_left (show 1 ≤ fl (-(num * ((m : Int) + 1))) den by omega) (show 0 ≤ den by omega); omega
    have gn : -((m : Int) + 1) ≤ fl (-(num * ((m : Int) + 1))) den := by
      by_cases c : -((m : Int) + 1) ≤ fl (-(num * ((m : Int) + 1))) den
      · exact c
      · have := Int.mul_le_mul_of_nonneg_left (show fl (-(num * ((m : Int) + 1))) den + 1 ≤ -((m : Int) + 1) by omega) (show 0 ≤ den by omega)
        rw [Int.mul_add, Int.mul_neg] at this; omega
    rcases List.mem_cons.1 hq with rfl | hq
    · exact ⟨f0, fn, by show (1 : Int) ≤ (m : Int) + 1; omega, by show (m : Int) + 1 ≤ 400; omega⟩
    · rw [List.mem_singleton] at hq; subst hq
      refine ⟨?_, ?_, by show (1 : Int) ≤ (m : Int) + 1; omega, by show (m : Int) + 1 ≤ 400; omega⟩
      · show 0 ≤ ce _ _; rw [ce_eq]; omega
      · show ce _ _ ≤ (m : Int) + 1; rw [ce_eq]; omega
theorem Try.infoF : (Try.prog.info? 89).map (fun i => (i.zero, i.size, i.bytes)) = some (some (.agg #[.int .i64 0, .int .i64 0]), 2, 16) := by kernel_rfl
theorem infoF_parts : ∃ i, Try.prog.info? 89 = some i ∧ i.zero = some (.agg #[.int .i64 0, .int .i64 0]) ∧ i.size = 2 ∧ i.bytes = 16 := by
  obtain ⟨i, h1, h2⟩ := Option.map_eq_some_iff.1 Try.infoF
  simp only [Prod.mk.injEq] at h2
  exact ⟨i, h1, h2.1, h2.2.1, h2.2.2⟩
set_option maxHeartbeats 3200000 in
set_option maxRecDepth 100000 in
theorem BestCycle_any (num den most : Int) (w : World) (un : In64 num) (ud : In64 den) (um : In64 most) :
    Calls Try.prog 31 #[.int .i64 num, .int .i64 den, .int .i64 most] w fun e w' => e = .returned (.tuple #[.int .i64 (bcV num den most).1, .int .i64 (bcV num den most).2, .bool (bcB num den most)]) ∧ Keep w w' := by
  have HNO : Hid (bcB num den most = false → bcV num den most = (0, 0)) := Lib.hid (fun h => by simp [bcV, h])
  have HDD : Hid (bcB num den most = (inB den 1 1000 && (inB num 0 den && inB most 1 400))) := Lib.hid rfl
  cases h1 : inB den 1 1000
  · have hb : bcB num den most = false := by rw [HDD.out, h1]; rfl
    rw [HNO.out hb, hb]
    go_enter Try.func31, Try.ntmps31
    go_wp2_with (go_at_call 60; refine (within_any _ _ _ _).mono ?_; rw [h1]; rintro e w' ⟨rfl, rfl⟩)
    refine bodyPost_ret (v := .tuple #[.int .i64 0, .int .i64 0, .bool false]) (by simp [results, Try.results31, go_sem]) rfl ?_
    exact ⟨rfl, by go_grown⟩
  cases h2 : inB num 0 den
  · have hb : bcB num den most = false := by rw [HDD.out, h1, h2]; rfl
    rw [HNO.out hb, hb]
    go_enter Try.func31, Try.ntmps31
    go_wp2_with (go_at_call 60; refine (within_any _ _ _ _).mono ?_; (first | rw [h1] | rw [h2]); rintro e w' ⟨rfl, rfl⟩)
    refine bodyPost_ret (v := .tuple #[.int .i64 0, .int .i64 0, .bool false]) (by simp [results, Try.results31, go_sem]) rfl ?_
    exact ⟨rfl, by go_grown⟩
  cases h3 : inB most 1 400
  · have hb : bcB num den most = false := by rw [HDD.out, h1, h2, h3]; rfl
    rw [HNO.out hb, hb]
    go_enter Try.func31, Try.ntmps31
    go_wp2_with (go_at_call 60; refine (within_any _ _ _ _).mono ?_; (first | rw [h1] | rw [h2] | rw [h3]); rintro e w' ⟨rfl, rfl⟩)
    refine bodyPost_ret (v := .tuple #[.int .i64 0, .int .i64 0, .bool false]) (by simp [results, Try.results31, go_sem]) rfl ?_
    exact ⟨rfl, by go_grown⟩
  have hd := inB_iff.1 h1; have hu := inB_iff.1 h2; have hm := inB_iff.1 h3
  have hb : bcB num den most = true := by rw [HDD.out, h1, h2, h3]; rfl
  obtain ⟨M, rfl⟩ : ∃ M : Nat, most = M := ⟨most.toNat, by omega⟩
  rw [show bcV num den (M : Int) = bcN num den M from by simp [bcV, hb], hb]
  clear HNO HDD hb
  obtain ⟨i0, hi, hz0, hz1, hz2⟩ := infoF_parts
  have HQS : Hid (∀ m : Nat, frC (bcQ num den (m + 1)) = frC (bcQ num den m) ++ [.int .i64 (fl (num * ((m : Int) + 1)) den), .int .i64 ((m : Int) + 1), .int .i64 (ce (num * ((m : Int) + 1)) den), .int .i64 ((m : Int) + 1)]) := Lib.hid (fun m => by rw [bcQ, frC_app])
  have HQ0 : Hid (frC (bcQ num den 0) = []) := Lib.hid rfl
  have HRES : Hid (bcS num den (bcQ num den M) ((bcQ num den M).length - 1) = bcN num den M) := Lib.hid (by
    have h := bcS_bcN (num := num) (den := den) hd.1 hu (M - 1) 0
    rw [show M - 1 + 1 + 0 = M by omega] at h
    rw [bcQ_len, show 2 * M - 1 = 2 * (M - 1) + 1 by omega]; exact h)
  have hql := bcQ_len num den M
  have HQB : Hid (∀ i, i < (bcQ num den M).length → 0 ≤ ((bcQ num den M).getD i (0, 1)).1 ∧ ((bcQ num den M).getD i (0, 1)).1 ≤ ((bcQ num den M).getD i (0, 1)).2 ∧ 1 ≤ ((bcQ num den M).getD i (0, 1)).2 ∧ ((bcQ num den M).getD i (0, 1)).2 ≤ 400) := Lib.hid (fun i hi => bcQ_bd hd.1 hu M (by omega) _ (by rw [List.getD_eq_getElem?_getD, List.getElem?_eq_getElem hi]; exact List.getElem_mem hi))
  have HGT := Lib.hid (frC_get (bcQ num den M))
  have HMI := Lib.hid (fun (BF : Nat) ad cap W h1 h2 h4 => MinFuncF_any BF num den ad cap (bcQ num den M) W h1 h2 HQB.out h4)
  rw [HRES.out] at HMI
  have HCP := Lib.hid (fun (BF BD BN : Nat) (k n l c : Int) W cF cD cN hk hl => cmpC_any BF BD BN num den k n l c W cF cD cN hd hu hk hl)
  obtain ⟨wa, hwa⟩ : ∃ x, x = (w.alloc (.cells #[.int .i64 num] 2)).alloc (.cells #[.int .i64 den] 2) := ⟨_, rfl⟩
  have HKA : Hid (Keep w wa) := Lib.hid (by rw [hwa]; go_grown)
  have N0 : wa.cell? ⟨w.heap.size, 0, none⟩ = some (.int .i64 num) := by rw [hwa]; simp
  have D0 : wa.cell? ⟨w.heap.size + 1, 0, none⟩ = some (.int .i64 den) := by rw [hwa]; simp
  have HN0 := Lib.hid N0; have HD0 := Lib.hid D0
  have HC2 := Lib.hid (fun W (k : Keep wa W) => (And.intro ((k.cell (p := ⟨w.heap.size, 0, none⟩) (block_lt_of_cell HN0.out)).trans HN0.out) ((k.cell (p := ⟨w.heap.size + 1, 0, none⟩) (block_lt_of_cell HD0.out)).trans HD0.out)))
  have HWA := Lib.hid hwa
  clear hwa N0 D0
  go_enter Try.func31, Try.ntmps31
  go_wp2_with (go_at_call 60; refine (within_any _ _ _ _).mono ?_; (first | rw [h1] | rw [h2] | rw [h3]); rintro e w' ⟨rfl, rfl⟩)
  rw [← HWA.out]
  go_loopw [9, 10, 11] (fun q c _ wr => ∃ (m : Nat) (rd : Option Addr) (rc : Nat), m ≤ M ∧ c = .int .i64 ((m : Int) + 1) ∧ q = .slice rd (2 * m) rc ∧ Hid (wr.ownsRow wa.heap.size 89 2 (.slice rd (2 * m) rc) (2 * m) (frC (bcQ num den m))) ∧ Hid (Keep wa wr)) (fun _ c _ _ => M + 1 - (intOf c).toNat)
  case atStart => exact ⟨0, none, 0, by omega, rfl, rfl, Lib.hid (World.ownsRow_nil _ _ _ _), Lib.hid (Below.refl _ _)⟩
  case round =>
    obtain ⟨m, rd, rc, hmM, rfl, rfl, HO, HK⟩ := hrel
    obtain ⟨n0, d0⟩ := HC2.out wr HK.out
    by_cases hlt : m < M
    · have hle : (m : Int) + 1 ≤ (M : Int) := by omega
      have m1 : 0 ≤ num * ((m : Int) + 1) := Int.mul_nonneg hu.1 (by omega)
      have m2 : num * ((m : Int) + 1) ≤ 1000 * 400 := Int.mul_le_mul (by omega) (by omega) (by omega) (by omega)
      have V1 : IntKind.i64.wrap (num * ((m : Int) + 1)) = num * ((m : Int) + 1) := IntWalk.i64_in _ (by omega)
      have HRY := Lib.hid (fun W => roundY_any (num * ((m : Int) + 1)) den W (by omega) (by omega) (by omega) (by omega))
      have HQM := Lib.hid (HQS.out m)
      generalize fl (num * ((m : Int) + 1)) den = f at *
      generalize ce (num * ((m : Int) + 1)) den = g at *
      go_wp2_with (first | (go_at_call 76; refine (HRY.out _).mono ?_; rintro e w2 ⟨rfl, k2⟩; have HK2 := Lib.hid k2; clear k2) | (refine wpList_append_lies _ rfl _ _ 91 (by rfl) wa.heap.size 89 i0 (.agg #[.int .i64 0, .int .i64 0]) 2 16 Try.underlying91 hi hz0 hz1 hz2 rfl (by omega) (.slice rd (2 * m) rc) (2 * m) (frC (bcQ num den m)) (by rfl) (row_keep2 HO.out (Keep.next HK2.out (by go_grown))) ⟨w2.heap.size + 1, 0, none⟩ 2 2 [.int .i64 f, .int .i64 ((m : Int) + 1), .int .i64 g, .int .i64 ((m : Int) + 1)] (by rfl) (by simp) ?_ ?_ (by omega) (by unfold maxLen; omega) (by omega) (by have h5 := HK.out.size; have h6 := HK2.out.size; simp; omega) _ rfl ?_))
      · intro j u hj
        match j, hj with
        | 0, hj => simp at hj; subst hj; simp [Addr.add]
        | 1, hj => simp at hj; subst hj; simp [Addr.add]
        | 2, hj => simp at hj; subst hj; simp [Addr.add]
        | 3, hj => simp at hj; subst hj; simp [Addr.add]
        | j + 4, hj => simp at hj
      · intro u hu; simp at hu; rcases hu with rfl | rfl | rfl | rfl <;> rfl
      · intro g1 c1 w3 ho hgr hor hlt3
        have HB3 := Lib.hid (below_row2 (Keep.next HK.out (Keep.next HK2.out (by go_grown))) (row_keep2 HO.out (Keep.next HK2.out (by go_grown))) hgr (by have h5 := HK.out.size; have h6 := HK2.out.size; simp; omega) (Nat.le_refl _))
        rw [← HQM.out] at ho
        have HO3 := Lib.hid ho
        clear ho hgr hor
        go_wp2
        go_roundw
        case rel => exact ⟨m + 1, some ⟨g1, 0, none⟩, c1, by omega, by go_num, rfl, HO3, HB3⟩
        case measure => simp [intOf]; omega
    · have hle : ¬ (m : Int) + 1 ≤ (M : Int) := by omega
      obtain rfl : m = M := by omega
      rcases own_blk2 HO.out with ⟨h, h2, _⟩ | ⟨b, rfl, hb1, hb2⟩
      · omega
      have HFR : Hid (∀ W, Keep wr W → Frs W (some ⟨b, 0, none⟩) (bcQ num den m)) := Lib.hid (fun W k => ⟨by rw [hql]; omega, b, 0, rfl, Nat.lt_of_lt_of_le hb2 k.size, fun i hi => by
        have ho := row_keep2 HO.out k
        have h3 := HGT.out i hi
        rw [hql] at hi
        rw [Nat.zero_add, show i * 2 = 2 * i by omega]
        exact ⟨(ho.cellAt (2 * i) (by omega)).trans h3.1, (ho.cellAt (2 * i + 1) (by omega)).trans h3.2⟩⟩)
      rw [hql] at HMI
      have HBX : Hid (∀ T W, Keep (wr.alloc (.cells #[.func (.func 77) #[] #[.pointer (some ⟨w.heap.size + 1, 0, none⟩), .pointer (some ⟨w.heap.size, 0, none⟩)]] T)) W → W.cell? ⟨wr.heap.size, 0, none⟩ = some (.func (.func 77) #[] #[.pointer (some ⟨w.heap.size + 1, 0, none⟩), .pointer (some ⟨w.heap.size, 0, none⟩)]) ∧ W.cell? ⟨w.heap.size + 1, 0, none⟩ = some (.int .i64 den) ∧ W.cell? ⟨w.heap.size, 0, none⟩ = some (.int .i64 num)) := Lib.hid (fun T W kk => by
        have h5 := HC2.out W (Keep.next HK.out (Keep.next (by go_grown) kk))
        exact ⟨(kk.cell (p := ⟨wr.heap.size, 0, none⟩) (by simp)).trans (by simp), h5.2, h5.1⟩)
      clear n0 d0 HGT HQB HQS HQ0
      go_wp2_with (go_at_call 78; refine (HMI.out wr.heap.size (some ⟨b, 0, none⟩) rc _ (by omega) (HFR.out _ (by go_grown)) (fun k n l c hk hl W kk => HCP.out wr.heap.size (w.heap.size + 1) w.heap.size k n l c W (HBX.out _ W (Keep.next (by go_grown) kk)).1 (HBX.out _ W (Keep.next (by go_grown) kk)).2.1 (HBX.out _ W (Keep.next (by go_grown) kk)).2.2 hk hl)).mono ?_; rintro e w3 ⟨rfl, k3⟩; have HK3 := Lib.hid k3; clear k3)
      go_quiet (fail)
      go_wp2
      refine bodyPost_ret (v := .tuple #[.int .i64 (bcN num den m).1, .int .i64 (bcN num den m).2, .bool true]) (by simp [results, Try.results31, go_sem]) rfl ?_
      exact ⟨rfl, Keep.next HKA.out (Keep.next HK.out (Keep.next (by go_grown) (Keep.next HK3.out (below_drewN (by go_grown) _))))⟩
end Go.Proofs.Ytomfhkpmdalknaa
