/- Doubling masks: the program's. -/
import Derived.Test.YtjoanfgchapbaaaDbl9b
import Derived.Test.YtjoanfgchapbaaaFlat9
import Derived.Test.YtjoanfgchapbaaaVals
import Derived.StillTailTactics
namespace Go.Proofs.Ytjoanfgchapbaaa
open Go.ChangeShapes Go.WideShapes Go.ChangeAt Go.RowKit Go.Deep
set_option linter.unusedVariables false
/-- How far a place lies behind the old square. -/
def dv (h x : Nat) : Nat := if x < h then 0 else 1
def addA (a b : Nat) : Int := if a = 0 then (if b = 0 then 0 else 2) else (if b = 0 then 3 else 1)
theorem dv_tdiv {h x : Nat} (h1 : 1 ≤ h) (hx : x < 2 * h) : ((x : Int).tdiv (h : Int)) = ((dv h x : Nat) : Int) := by
  unfold dv
  rw [← Int.ofNat_tdiv]
  by_cases c : x < h
  · rw [if_pos c, Nat.div_eq_of_lt c]
  · rw [if_neg c]
    have : x / h = 1 := by
      rw [Nat.div_eq_iff (by omega)]; omega
    rw [this]
theorem md_tmod {h x : Nat} (h1 : 1 ≤ h) (hx : x < 2 * h) : ((x : Int).tmod (h : Int)) = ((md h x : Nat) : Int) := by
  unfold md
  rw [← Int.ofNat_tmod]
  by_cases c : x < h
  · rw [if_pos c, Nat.mod_eq_of_lt c]
  · rw [if_neg c, Nat.mod_eq_sub_mod (by omega), Nat.mod_eq_of_lt (by omega)]
theorem md_lt {h x : Nat} (h1 : 1 ≤ h) (hx : x < 2 * h) : md h x < h := by unfold md; split <;> omega
theorem dv_lt (h x : Nat) : dv h x < 2 := by unfold dv; split <;> omega
theorem dbl_add (h : Nat) (f : Nat → Nat → Int) (i k : Nat) : 4 * f (md h i) (md h k) + addA (dv h i) (dv h k) = dblF h f i k := by
  unfold dblF addA dv
  by_cases a : i < h
  · rw [if_pos a, if_pos a, if_pos rfl]
    by_cases b : k < h
    · rw [if_pos b, if_pos b, if_pos rfl]
    · rw [if_neg b, if_neg b, if_neg (by omega)]
  · rw [if_neg a, if_neg a, if_neg (by omega)]
    by_cases b : k < h
    · rw [if_pos b, if_pos b, if_pos rfl]
    · rw [if_neg b, if_neg b, if_neg (by omega)]
/-- What is there of the doubled mask when the first i rows and k numbers of the next are done. -/
def ptF (H : Nat) (f : Nat → Nat → Int) (i k : Nat) : Nat → Nat → Int := fun a b => if a < i ∨ a = i ∧ b < k then dblF H f a b else 0
theorem ptF_step (H : Nat) (f : Nat → Nat → Int) (i k a b : Nat) : upd2 (ptF H f i k) i k (dblF H f i k) a b = ptF H f i (k + 1) a b := by
  unfold upd2 ptF
  by_cases c : a = i ∧ b = k
  · obtain ⟨rfl, rfl⟩ := c
    rw [if_pos ⟨rfl, rfl⟩, if_pos (by omega)]
  · rw [if_neg c]
    by_cases d : a < i ∨ a = i ∧ b < k
    · rw [if_pos d, if_pos (by omega)]
    · rw [if_neg d, if_neg (by omega)]
theorem ptF_row (H : Nat) (f : Nat → Nat → Int) (n i a b : Nat) (hb : b < n) : ptF H f i n a b = ptF H f (i + 1) 0 a b := by
  unfold ptF
  by_cases h : a < i ∨ a = i
  · rw [if_pos (by omega), if_pos (by omega)]
  · rw [if_neg (by omega), if_neg (by omega)]
theorem ptF_end (H : Nat) (f : Nat → Nat → Int) (n a b : Nat) (ha : a < n) : ptF H f n 0 a b = dblF H f a b := by unfold ptF; rw [if_pos (by omega)]
set_option maxHeartbeats 6400000 in
set_option maxRecDepth 100000 in
theorem doubled_any (ad : Option Addr) (cap H : Nat) (f : Nat → Nat → Int) (w : World) (hz : Intss w ad (sqF H H f)) (h1 : 1 ≤ H) (h4 : H ≤ 4) (hf : ∀ i k, 0 ≤ f i k ∧ f i k ≤ 63) :
    Calls Try.prog 65 #[.slice ad H cap] w fun e w' => ∃ B M, e = .returned (.slice (some ⟨B, 0, none⟩) (2 * H) (2 * H)) ∧ Flat w' w.heap.size B M (2 * H) (2 * H) (dblF H f) ∧ Keep w w' := by
  have hl := sqF_len H H f
  have HBL := Lib.hid (fun (W : World) => blank_any (2 * H) (2 * H) W (by omega) (by omega) (by omega))
  rw [show ((2 * H : Nat) : Int) = 2 * (H : Int) from by omega] at HBL
  go_enter Try.func65, Try.ntmps65
  go_wp2_with fail
  refine (HBL.out _).mono ?_
  rintro e w2 ⟨B, M, rfl, F0, k2⟩
  obtain ⟨w1, hw1⟩ : ∃ w1, w1 = w.alloc (.cells #[.int .i64 0, .int .i64 2, .int .i64 3, .int .i64 1] 129) := ⟨_, rfl⟩
  have hk1 : Keep w w1 := by rw [hw1]; go_grown
  have hs1 : w.heap.size < w1.heap.size := by rw [hw1]; simp
  have hA : ∀ a b, a < 2 → b < 2 → w1.cell? ⟨w.heap.size, a * 2 + b, none⟩ = some (.int .i64 (addA a b)) := by
    intro a b ha hb
    rw [hw1]
    have : (a = 0 ∨ a = 1) ∧ (b = 0 ∨ b = 1) := by omega
    rcases this with ⟨rfl | rfl, rfl | rfl⟩ <;> simp [addA]
  rw [← hw1] at F0 k2
  clear hw1
  obtain ⟨A0, hA0⟩ : ∃ A0, A0 = w.heap.size := ⟨_, rfl⟩
  rw [← hA0] at hA hs1
  have HA0 := Lib.hid hA0
  have HA2 : Hid (∀ a b, a < 2 → b < 2 → w2.cell? ⟨A0, a * 2 + b, none⟩ = some (.int .i64 (addA a b))) := Lib.hid (fun a b ha hb => (k2.cell (p := ⟨A0, a * 2 + b, none⟩) (by exact hs1)).trans (hA a b ha hb))
  have HZ2 : Hid True := Lib.hid trivial
  have HK2 : Hid (Keep w w2) := Lib.hid (Keep.next hk1 k2)
  obtain ⟨lo, hlo⟩ : ∃ lo, lo = w1.heap.size := ⟨_, rfl⟩
  rw [← hlo] at F0
  have hlo2 : lo ≤ w2.heap.size := by have := k2.size; omega
  have hA0lo : A0 < lo := by omega
  have hwlo : w.heap.size ≤ lo := by omega
  clear hA0
  have HZB : Hid (∀ b off, ad = some ⟨b, off, none⟩ → b < lo) := Lib.hid (fun b off e => by
    rcases hz.at_ with h | ⟨b', off', e', h', _⟩
    · rw [h] at hl; simp at hl; omega
    · rw [e] at e'; cases e'; omega)
  have HF0 : Hid (Flat w2 lo B M (2 * H) (2 * H) (ptF H f 0 0)) := Lib.hid (F0.congr (fun i k _ _ => by unfold ptF; rw [if_neg (by omega)]))
  have HKW := HK2
  have HZ := Lib.hid hz
  clear F0 k2 hk1 hA hz hl hlo HBL HZ2 HZB
  obtain ⟨n, hn⟩ : ∃ n, n = 2 * H := ⟨_, rfl⟩
  rw [← hn] at HF0 ⊢
  have hn8 : 2 ≤ n ∧ n ≤ 8 := by omega
  have HN := Lib.hid hn
  clear hn
  rcases HZ.out.at_ with h | ⟨b, off, rfl, hb, hc⟩
  · have := sqF_len H H f; rw [h] at this; simp at this; omega
  have HC := Lib.hid hc; clear hc
  go_wp2
  go_loopg [6, 7, 8, 21] n (fun kk _i _r _k iv wi => ∃ i : Nat, i ≤ n ∧ kk = n - i ∧ iv = .int .i64 i ∧ Hid (Flat wi lo B M n n (ptF H f i 0)) ∧ Hid (Below lo w2 wi))
  case atStart => exact ⟨0, Nat.zero_le _, rfl, rfl, HF0, Lib.hid (Below.refl _ _)⟩
  case round =>
    obtain ⟨i, hi, rfl, rfl, HFI, HKI⟩ := hrel
    obtain ⟨wm, rfl⟩ : ∃ x, x = wr := ⟨wr, rfl⟩
    by_cases hil : i < n
    · have hrow := HFI.out.row i hil
      go_wp2
      go_loopg [8, 28] n (fun kk _k kv wj => ∃ k : Nat, k ≤ n ∧ kk = n - k ∧ kv = .int .i64 k ∧ Hid (Flat wj lo B M n n (ptF H f i k)) ∧ Hid (Below lo w2 wj))
      case atStart => exact ⟨0, Nat.zero_le _, rfl, rfl, HFI, HKI⟩
      case round =>
        obtain ⟨k, hk, rfl, rfl, HFK, HKK⟩ := hrel
        by_cases hkl : k < n
        · have hnn := HN.out
          have hmi := md_lt (h := H) (x := i) h1 (by omega)
          have hmk := md_lt (h := H) (x := k) h1 (by omega)
          have hdi := dv_lt H i
          have hdk := dv_lt H k
          have T1 := md_tmod (h := H) (x := i) h1 (by omega)
          have T2 := md_tmod (h := H) (x := k) h1 (by omega)
          have T3 := dv_tdiv (h := H) (x := i) h1 (by omega)
          have T4 := dv_tdiv (h := H) (x := k) h1 (by omega)
          have HADD := Lib.hid (dbl_add H f i k)
          have HSTP := Lib.hid (fun a b => ptF_step H f i k a b)
          have KW : Hid (Keep w wr) := Lib.hid (HK2.out.trans (HKK.out.mono hwlo))
          obtain ⟨p, d, hcx, hd, hin⟩ := HC.out (md H i) (by rw [sqF_len]; exact hmi)
          rw [sqF_rowlen H H f _ hmi] at hcx
          rcases hin.at_ with h | ⟨b2, off2, rfl, hb2, hc2⟩
          · have := sqF_rowlen H H f _ hmi; rw [h] at this; simp at this; omega
          have q2 := hc2 (md H k) (by rw [sqF_rowlen H H f _ hmi]; exact hmk)
          rw [sqF_get H H f _ _ hmi hmk] at q2
          have m1 := (KW.out.cell (p := ⟨b, off + md H i, none⟩) (by exact hb)).trans hcx
          have m2 := (KW.out.cell (p := ⟨b2, off2 + md H k, none⟩) (by exact hb2)).trans q2
          have m3 := (HKK.out.cell (p := ⟨A0, dv H i * 2 + dv H k, none⟩) (by exact hA0lo)).trans (HA2.out _ _ hdi hdk)
          rw [HA0.out] at m3
          have HFD : Flat wr.drew lo B M n n (ptF H f i k) := HFK.out.same rfl rfl
          have HKD : Below lo w2 wr.drew := HKK.out.drew
          have m4 := HFD.cell i k hil hkl
          have m5 := HFD.frozen (i * n + k)
          have HST : Hid (Flat (wr.drew.setCell ⟨M, i * n + k, none⟩ (.int .i64 (dblF H f i k))) lo B M n n (ptF H f i (k + 1))) := Lib.hid ((HFD.set i k hil hkl (dblF H f i k)).congr (fun a b _ _ => HSTP.out a b))
          have HBW : Hid (Below lo w2 (wr.drew.setCell ⟨M, i * n + k, none⟩ (.int .i64 (dblF H f i k)))) := Lib.hid (HFD.below HKD (Nat.le_refl _) _ _)
          clear HFD HKD
          have hfb := hf (md H i) (md H k)
          have hab : 0 ≤ addA (dv H i) (dv H k) ∧ addA (dv H i) (dv H k) ≤ 3 := by unfold addA; split <;> split <;> omega
          have hin0 : i * n + k < n * n := flat_lt hil hkl
          have hnn2 : n * n ≤ 8 * 8 := Nat.mul_le_mul hn8.2 hn8.2
          have hadd := HADD.out
          clear hcx q2 hc2 hin HSTP HADD hd
          generalize f (md H i) (md H k) = v at *
          generalize addA (dv H i) (dv H k) = u at *
          generalize dblF H f i k = x at *
          generalize md H i = mi at *
          generalize md H k = mk at *
          generalize dv H i = di at *
          generalize dv H k = dk at *
          generalize ptF H f i k i k = old at *
          have V3 : IntKind.i64.wrap (4 * v) = 4 * v := IntWalk.i64_in _ (by omega)
          have V4 : IntKind.i64.wrap (4 * v + u) = x := by rw [hadd]; exact IntWalk.i64_in _ (by omega)
          have hmi1 : (mi : Int) < (H : Int) := by omega
          have hmk1 : (mk : Int) < (H : Int) := by omega
          have hdi1 : (di : Int) < 2 := by omega
          have hdk1 : (dk : Int) < 2 := by omega
          have hki1 : (k : Int) < (n : Int) := by omega
          generalize hin1 : i * n = F at *
          have V5 : IntKind.i64.wrap (di : Int) = (di : Int) := IntWalk.i64_in _ (by omega)
          have V6 : IntKind.i64.wrap (dk : Int) = (dk : Int) := IntWalk.i64_in _ (by omega)
          have hH0 : ¬ H = 0 := by omega
          have hH1 : (H : Int) ≠ 0 := by omega
          clear hnn
          go_wp2
          go_still_tail 25, (by kernel_rfl)
          change wpList _ _ _ _ _ (World.drew wr)
          clear m1 m2 m3 KW
          generalize World.drew wr = WD at *
          go_wp2
          go_roundg (n - (k + 1))
          case measure => omega
          case rel => exact ⟨k + 1, by omega, rfl, by go_num, HST, HBW⟩
        · have HE := Lib.hid (show k = n by omega)
          go_wp2
          go_roundg (n - (i + 1))
          case measure => omega
          case rel => exact ⟨i + 1, by omega, rfl, by go_num, Lib.hid (by
            have h := HFK.out
            rw [HE.out] at h
            exact h.congr (fun a b _ hb => ptF_row H f n i a b hb)), HKK⟩
    · have HE := Lib.hid (show i = n by omega)
      go_wp2
      go_ret
      have e2 := HN.out
      subst e2
      refine ⟨B, M, rfl, ?_, HK2.out.trans (HKI.out.mono hwlo)⟩
      have h := HFI.out
      rw [HE.out] at h
      exact (h.congr (fun a b ha _ => ptF_end H f _ a b ha)).mono hwlo
set_option maxHeartbeats 1600000 in
theorem DoublingMask_any (o : Int) (w : World) (u : In64 o) :
    Calls Try.prog 26 #[.int .i64 o] w fun e w' => ∃ rd rc rA rC, e = .returned (.tuple #[.slice rd (dbV o).length rc, .bool (inB o 0 3)]) ∧ OwnG w' w.heap.size rd rc rA rC (dbV o) ∧ Keep w w' := by
  cases h : inB o 0 3
  · rw [show dbV o = [] from by unfold dbV; rw [h]; rfl]
    go_enter Try.func26, Try.ntmps26
    go_wp2_with (go_at_call 63; refine (within_any _ _ _ _).mono ?_; rw [h]; rintro e w' ⟨rfl, rfl⟩)
    go_ret2
    exact ⟨none, 0, _, _, rfl, OwnG.nil _ _, Below.refl _ _⟩
  · have h2 := inB_iff.1 h
    obtain ⟨n, rfl⟩ : ∃ n : Nat, o = n := ⟨o.toNat, by omega⟩
    rw [show dbV (n : Int) = dbL n from by unfold dbV; rw [h, if_pos rfl, Int.toNat_natCast]]
    have hn3 : n ≤ 3 := by omega
    have HB1 := Lib.hid (fun W => blank_any 1 1 W (by omega) (by omega) (by omega))
    have HD := Lib.hid (fun (d : Nat) (hd : d ≤ 2) (W : World) (ad : Option Addr) (cap : Nat) (hz : Intss W ad (dbL d)) => doubled_any ad cap (2 ^ d) (dbF d) W hz (two_pow3 (by omega)).1 (by
      have := two_pow3 (d := d + 1) (by omega); rw [Nat.pow_succ] at this; omega) (fun i k => dbF_64 (by omega) i k))
    go_enter Try.func26, Try.ntmps26
    go_wp2_with (first | (go_at_call 63; refine (within_any _ _ _ _).mono ?_; rw [h]; rintro e w' ⟨rfl, rfl⟩) | fail)
    refine (HB1.out _).mono ?_
    rintro e w1 ⟨B, M, rfl, F0, k1⟩
    have HF0 : Hid (Flat w1 w.heap.size B M (2 ^ 0) (2 ^ 0) (dbF 0)) := Lib.hid F0
    have HK1 := Lib.hid k1
    clear F0 k1
    go_wp2
    go_loopg [4, 10] n (fun kk v iv wr => ∃ (d B M : Nat), d ≤ n ∧ kk = n - d ∧ iv = .int .i64 d ∧ v = .slice (some ⟨B, 0, none⟩) (2 ^ d) (2 ^ d) ∧ Hid (Flat wr w.heap.size B M (2 ^ d) (2 ^ d) (dbF d)) ∧ Hid (Keep w wr))
    case atStart => exact ⟨0, B, M, Nat.zero_le _, rfl, rfl, rfl, HF0, HK1⟩
    case round =>
      obtain ⟨d, B, M, hd, rfl, rfl, rfl, HF, HK⟩ := hrel
      by_cases hlt : d < n
      · have hp := two_pow3 (d := d) (by omega)
        have HZ : Hid (Intss wr (some ⟨B, 0, none⟩) (dbL d)) := Lib.hid (HF.out.ints (Nat.le_trans (Nat.mul_le_mul hp.2 hp.2) (by omega)) (by omega) (fun i k _ _ => by have := dbF_64 (show d ≤ 3 by omega) i k; exact ⟨by omega, by omega⟩))
        have HC := Lib.hid (HD.out d (by omega) wr _ (2 ^ d) HZ.out)
        have HPW : Hid (2 * 2 ^ d = 2 ^ (d + 1)) := Lib.hid (by rw [Nat.pow_succ]; omega)
        rw [HPW.out] at HC
        have HDS : Hid (dblF (2 ^ d) (dbF d) = dbF (d + 1)) := Lib.hid rfl
        rw [HDS.out] at HC
        clear hp HZ HDS HPW
        generalize 2 ^ d = q at *
        generalize hq2 : 2 ^ (d + 1) = q2 at *
        have HQ2 := Lib.hid hq2; clear hq2
        go_wp2_with fail
        refine HC.out.mono ?_
        rintro e w2 ⟨B2, M2, rfl, F2, k2⟩
        have HF2 : Hid (Flat w2 w.heap.size B2 M2 q2 q2 (dbF (d + 1))) := Lib.hid (F2.mono HK.out.size)
        have HK2 : Hid (Keep w w2) := Lib.hid (Keep.next HK.out k2)
        clear F2 k2
        go_wp2
        go_roundg (n - (d + 1))
        case measure => omega
        case rel => exact ⟨d + 1, B2, M2, by omega, rfl, by go_num, by rw [HQ2.out], by rw [HQ2.out]; exact HF2, HK2⟩
      · have HE := Lib.hid (show d = n by omega)
        have hp := two_pow3 (d := d) (by omega)
        have HG : Hid (OwnG wr w.heap.size (some ⟨B, 0, none⟩) (2 ^ d) (fun i => some ⟨M, i * 2 ^ d, none⟩) (fun _ => 2 ^ d) (dbL d)) := Lib.hid (HF.out.g (Nat.le_trans (Nat.mul_le_mul hp.2 hp.2) (by omega)) (by omega) (fun i k _ _ => by have := dbF_64 (show d ≤ 3 by omega) i k; exact ⟨by omega, by omega⟩))
        have hl : (dbL d).length = 2 ^ d := sqF_len _ _ _
        clear hp
        generalize 2 ^ d = q at *
        go_wp2
        go_ret2
        have e := HE.out
        subst e
        exact ⟨_, _, _, _, by rw [hl]; rfl, HG.out, HK.out⟩
end Go.Proofs.Ytjoanfgchapbaaa
