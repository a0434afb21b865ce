/- Tables: what a table rounding is; the model's side. -/
import Derived.Test.YtjoanfgchapbaabSum5
namespace Go.Proofs.Ytjoanfgchapbaab
open Go.ChangeShapes Go.WideShapes Go.ChangeAt Go.RowKit Go.Deep
set_option linter.unusedVariables false
def rB (g n x : Int) : Bool := decide (n = fl x g) || decide (n = ce x g)
def elR (g : Int) (z r : List Int) : Bool := decide (r.length = z.length) && (List.range r.length).all fun k => rB g (r.getD k 0) (z.getD k 0)
/-- Each integer is the floor or the ceiling of its element. -/
def elB (g : Int) (zss rss : List (List Int)) : Bool := decide (rss.length = zss.length) && (List.range rss.length).all fun i => elR g (zss.getD i []) (rss.getD i [])
def prB (g : Int) (A B : List Int) : Bool := (List.range A.length).all fun i => rB g (B.getD i 0) (A.getD i 0)
theorem upto_succ (p : Nat → Bool) (k : Nat) : (List.range (k + 1)).all p = ((List.range k).all p && p k) := by rw [List.range_succ, List.all_append]; simp
theorem upto_no {p : Nat → Bool} {n k : Nat} (h : k < n) (hf : p k = false) : (List.range n).all p = false := by
  rw [List.all_eq_false]; exact ⟨k, List.mem_range.2 h, by simp [hf]⟩
theorem upto_get {p : Nat → Bool} {n : Nat} (h : (List.range n).all p = true) {k : Nat} (hk : k < n) : p k = true := List.all_eq_true.1 h _ (List.mem_range.2 hk)
theorem rB_bd {g n x M : Int} (hg : 1 ≤ g) (h : rB g n x = true) (h1 : -M ≤ x) (h2 : x ≤ M) (hM : 0 ≤ M) : -M ≤ n ∧ n ≤ M := by
  unfold rB at h
  simp only [Bool.or_eq_true, decide_eq_true_eq] at h
  have a := fl_bd (a := x) (b := g) (M := M) hg h1 h2 hM
  have b := ce_bd (a := x) (b := g) (M := M) hg h1 h2 hM
  rcases h with h | h <;> omega
theorem sum_bd6 (zs : List Int) (M : Int) (h : ∀ z ∈ zs, -M ≤ z ∧ z ≤ M) : -(M * (zs.length : Int)) ≤ zs.sum ∧ zs.sum ≤ M * (zs.length : Int) := by
  induction zs with
  | nil => simp
  | cons a t ih =>
    have h1 := ih (fun z hz => h z (List.mem_cons_of_mem _ hz))
    have h2 := h a (List.mem_cons_self ..)
    rw [List.sum_cons, List.length_cons]
    have e : M * ((t.length + 1 : Nat) : Int) = M * (t.length : Int) + M := by rw [Int.natCast_succ, Int.mul_add, Int.mul_one]
    rw [e]; omega
theorem elB_len {g : Int} {zss rss : List (List Int)} (h : elB g zss rss = true) : rss.length = zss.length := by
  unfold elB at h; simp only [Bool.and_eq_true, decide_eq_true_eq] at h; exact h.1
/-- Integers that are floors or ceilings of a valid table's elements are as many, and small. -/
theorem elB_rows {g : Int} {zss rss : List (List Int)} (hv : tabB g zss = true) (h : elB g zss rss = true) : ∀ k, k < rss.length → (rss.getD k []).length = (zss.getD 0 []).length ∧ ∀ x ∈ rss.getD k [], -1000000 ≤ x ∧ x ≤ 1000000 := fun k hk => by
  have hl := elB_len h
  unfold elB at h; simp only [Bool.and_eq_true] at h
  have h1 := upto_get h.2 hk
  unfold elR at h1; simp only [Bool.and_eq_true, decide_eq_true_eq] at h1
  have hr := tab_row hv (k := k) (by omega)
  have hs := tab_size hv
  refine ⟨by omega, fun x hx => ?_⟩
  obtain ⟨j, hj, rfl⟩ := List.getElem_of_mem hx
  have h2 := upto_get h1.2 hj
  have h3 := hr.2 _ (getD_mem (zss.getD k []) j (by omega))
  rw [getD_get _ j hj] at h2
  exact rB_bd hs.1.1 h2 (by omega) (by omega) (by omega)
theorem sums_get (zss : List (List Int)) (i : Nat) (h : i < zss.length) : (sumsL zss).getD i 0 = (zss.getD i []).sum := by
  rw [getD_get _ i (by rw [sumsL_len]; exact h), getDD_get zss i h]; simp [sumsL]
theorem sums_bd {zss : List (List Int)} (h : ∀ k, k < zss.length → (zss.getD k []).length ≤ 5 ∧ ∀ x ∈ zss.getD k [], -1000000 ≤ x ∧ x ≤ 1000000) (z : Int) (hz : z ∈ sumsL zss) : -5000000 ≤ z ∧ z ≤ 5000000 := by
  obtain ⟨i, hi, rfl⟩ := List.getElem_of_mem hz
  have hi2 : i < zss.length := by rw [sumsL_len] at hi; exact hi
  rw [← getD_get _ i hi, sums_get zss i hi2]
  have a := h i hi2
  have b := sum_bd5 _ a.2
  omega
theorem down_get (m : Nat) (zss : List (List Int)) (t : Nat) (h : t < m) : (downL m zss).getD t 0 = colS zss zss.length t := by
  unfold downL downT
  rw [List.getD_eq_getElem?_getD, List.getElem?_map, List.getElem?_range h]; rfl
theorem down_bd {zss : List (List Int)} {m : Nat} (hl : zss.length ≤ 5) (h : ∀ k, k < zss.length → (zss.getD k []).length = m ∧ ∀ x ∈ zss.getD k [], -1000000 ≤ x ∧ x ≤ 1000000) (z : Int) (hz : z ∈ downL m zss) : -5000000 ≤ z ∧ z ≤ 5000000 := by
  unfold downL downT at hz
  obtain ⟨t, _, rfl⟩ := List.mem_map.1 hz
  have := colS_bd zss m h zss.length t (Nat.le_refl _)
  omega
theorem l05Round_any (n x g : Int) (w : World) (h1 : -1000000000 ≤ x) (h2 : x ≤ 1000000000) (g1 : 1 ≤ g) (g2 : g ≤ 1000000000) :
    Calls Try.prog 132 #[.int .i64 n, .int .i64 x, .int .i64 g] w fun e w' => e = .returned (.bool (rB g n x)) ∧ w = w' := by
  by_cases h : n = fl x g
  · have hb : (n == fl x g) = true := by simp [h]
    have HR : Hid (rB g n x = true) := Lib.hid (by unfold rB; rw [decide_eq_true h, Bool.true_or])
    go_enter Try.func132, Try.ntmps132
    go_wp2_with (go_at_call 155; refine (l01Floor_any _ _ _ (by omega) (by omega) (by omega) (by omega)).mono ?_; rintro e w' ⟨rfl, rfl⟩)
    go_ret
    exact ⟨ret_bool HR.out.symm, rfl⟩
  · have hb : (n == fl x g) = false := by simp [h]
    have HR : Hid (rB g n x = decide (n = ce x g)) := Lib.hid (by unfold rB; rw [decide_eq_false h, Bool.false_or])
    have hc : (n == ce x g) = decide (n = ce x g) := rfl
    go_enter Try.func132, Try.ntmps132
    go_wp2_with (first | (go_at_call 155; refine (l01Floor_any _ _ _ (by omega) (by omega) (by omega) (by omega)).mono ?_; rintro e w' ⟨rfl, rfl⟩) | (go_at_call 156; refine (l01Ceil_any _ _ _ (by omega) (by omega) (by omega) (by omega)).mono ?_; rintro e w' ⟨rfl, rfl⟩))
    all_goals go_ret
    all_goals exact ⟨ret_bool (by first | (rw [HR.out]; done) | (rw [HR.out]; simp [*]; done)), rfl⟩
set_option maxHeartbeats 3200000 in
set_option maxRecDepth 100000 in
theorem l05Elements_any (B : Nat) (g : Int) (ad : Option Addr) (cap : Nat) (zss : List (List Int)) (rd : Option Addr) (rc : Nat) (rss : List (List Int)) (w : World) (hz : Intss w ad zss) (hr : Intss w rd rss) (hv : tabB g zss = true)
    (c0 : w.cell? ⟨B, 0, none⟩ = some (.int .i64 g)) (c1 : w.cell? ⟨B, 1, none⟩ = some (.slice ad zss.length cap)) :
    Calls Try.prog 89 #[.pointer (some ⟨B, 0, none⟩), .slice rd rss.length rc] w fun e w' => e = .returned (.bool (elB g zss rss)) ∧ Keep w w' := by
  have hlen := hz.small
  have hlen2 := hr.small
  have hBs : B < w.heap.size := World.block_lt_of_cell? _ _ c0
  have hsz := tab_size hv
  by_cases hl : rss.length = zss.length
  · have hle : ((rss.length : Int) != (zss.length : Int)) = false := by rw [hl]; simp
    have HL := Lib.hid hl; clear hl
    have HEQ : Hid (elB g zss rss = (List.range rss.length).all fun i => elR g (zss.getD i []) (rss.getD i [])) := Lib.hid (by unfold elB; rw [decide_eq_true HL.out, Bool.true_and])
    have HTR := Lib.hid (fun k hk => tab_row hv (k := k) hk)
    rw [HEQ.out]
    go_enter Try.func89, Try.ntmps89
    go_wp2
    go_loopg [5, 6] rss.length (fun kk i _j wr => ∃ k : Nat, k ≤ rss.length ∧ kk = rss.length - k ∧ i = .int .i64 k ∧ Hid ((List.range k).all (fun i => elR g (zss.getD i []) (rss.getD i [])) = true) ∧ Hid (Keep w wr))
    case atStart => exact ⟨0, Nat.zero_le _, rfl, rfl, Lib.hid (by simp), Lib.hid (Below.refl _ _)⟩
    case round =>
      obtain ⟨k, hk, rfl, rfl, HA, HK⟩ := hrel
      obtain ⟨wo, rfl⟩ : ∃ x, x = wr := ⟨wr, rfl⟩
      by_cases hlt : k < rss.length
      · have hlz : k < zss.length := by have := HL.out; omega
        rcases hz.at_ with h | ⟨b, off, rfl, hb, hc⟩
        · subst h; simp at hlz
        rcases hr.at_ with h | ⟨b2, off2, rfl, hb2, hc2⟩
        · subst h; simp at hlt
        have e0 := (HK.out.cell (p := ⟨B, 1, none⟩) (by exact hBs)).trans c1
        obtain ⟨p, d, hx1, hd, hi⟩ := hc k hlz
        obtain ⟨p2, d2, hx2, hd2, hi2⟩ := hc2 k hlt
        have e1 := (HK.out.cell (p := ⟨b, off + k, none⟩) (by exact hb)).trans hx1
        have e2 := (HK.out.cell (p := ⟨b2, off2 + k, none⟩) (by exact hb2)).trans hx2
        have hs1 := hi.small
        have hs2 := hi2.small
        have HS := Lib.hid (upto_succ (fun i => elR g (zss.getD i []) (rss.getD i [])) k)
        have HF := Lib.hid (fun h => upto_no (p := fun i => elR g (zss.getD i []) (rss.getD i [])) (n := rss.length) hlt h)
        have HX1 := Lib.hid hx1; have HX2 := Lib.hid hx2; have HI := Lib.hid hi; have HI2 := Lib.hid hi2
        have HT := Lib.hid (HTR.out k hlz)
        clear hc hc2 hx1 hx2 hi hi2
        generalize zss.getD k [] = zk at *
        generalize rss.getD k [] = rk at *
        by_cases hlk : rk.length = zk.length
        · have hne : ((rk.length : Int) != (zk.length : Int)) = false := by rw [hlk]; simp
          have HLK := Lib.hid hlk; clear hlk
          go_wp2
          go_quiet (fail)
          go_wp2
          go_loopg [6] rk.length (fun kk j wi => ∃ t : Nat, t ≤ rk.length ∧ kk = rk.length - t ∧ j = .int .i64 t ∧ Hid ((List.range t).all (fun k => rB g (rk.getD k 0) (zk.getD k 0)) = true) ∧ Hid (Keep w wi))
          case atStart => exact ⟨0, Nat.zero_le _, rfl, rfl, Lib.hid (by simp), Lib.hid (below_drewN HK.out _)⟩
          case round =>
            obtain ⟨t, ht, rfl, rfl, HA2, HK2⟩ := hrel
            have q0 := (HK2.out.cell (p := ⟨B, 0, none⟩) (by exact hBs)).trans c0
            have q1 := (HK2.out.cell (p := ⟨B, 1, none⟩) (by exact hBs)).trans c1
            have q2 := (HK2.out.cell (p := ⟨b, off + k, none⟩) (by exact hb)).trans HX1.out
            have q3 := (HK2.out.cell (p := ⟨b2, off2 + k, none⟩) (by exact hb2)).trans HX2.out
            by_cases htl : t < rk.length
            · have htz : t < zk.length := by have := HLK.out; omega
              rcases HI.out.at_ with h | ⟨b3, off3, rfl, hb3, hc3⟩
              · subst h; simp at htz
              rcases HI2.out.at_ with h | ⟨b4, off4, rfl, hb4, hc4⟩
              · subst h; simp at htl
              have q4 := (HK2.out.cell (p := ⟨b3, off3 + t, none⟩) (by exact hb3)).trans (hc3 t htz)
              have q5 := (HK2.out.cell (p := ⟨b4, off4 + t, none⟩) (by exact hb4)).trans (hc4 t htl)
              have hx := HT.out.2 _ (getD_mem zk t htz)
              have HS2 := Lib.hid (upto_succ (fun k => rB g (rk.getD k 0) (zk.getD k 0)) t)
              have HF2 := Lib.hid (fun h => upto_no (p := fun k => rB g (rk.getD k 0) (zk.getD k 0)) (n := rk.length) htl h)
              clear hc3 hc4
              generalize zk.getD t 0 = x at *
              generalize rk.getD t 0 = y at *
              have hRB := fun W => l05Round_any y x g W (by omega) (by omega) (by omega) (by omega)
              cases hb5 : rB g y x
              · rw [hb5] at hRB
                have HRB := Lib.hid hRB; clear hRB
                have HR := Lib.hid (HF.out (by unfold elR; rw [HF2.out hb5, Bool.and_false]))
                go_wp2
                go_quiet ((go_at_call 132; exact Calls.quiet_of_same ((HRB.out _).mono fun _ _ h => ⟨h.1, h.2.symm⟩)))
                go_wp2
                go_ret
                exact ⟨ret_bool HR.out.symm, below_drewN HK2.out _⟩
              · rw [hb5] at hRB
                have HRB := Lib.hid hRB; clear hRB
                go_wp2
                go_quiet ((go_at_call 132; exact Calls.quiet_of_same ((HRB.out _).mono fun _ _ h => ⟨h.1, h.2.symm⟩)))
                go_wp2
                go_roundg (rk.length - (t + 1))
                case measure => omega
                case rel => exact ⟨t + 1, by omega, by omega, by go_num, Lib.hid (by rw [HS2.out, HA2.out, hb5]; rfl), Lib.hid (below_drewN HK2.out _)⟩
            · have HE := Lib.hid (show t = rk.length by omega)
              go_wp2
              go_roundg (rss.length - (k + 1))
              case measure => omega
              case rel =>
                refine ⟨k + 1, by omega, by omega, by go_num, Lib.hid ?_, HK2⟩
                have h := HA2.out
                rw [HE.out] at h
                rw [HS.out, HA.out]
                unfold elR
                rw [decide_eq_true HLK.out, h]; rfl
        · have hne : ((rk.length : Int) != (zk.length : Int)) = true := by simp; omega
          have HR := Lib.hid (HF.out (by unfold elR; rw [decide_eq_false hlk]; rfl))
          go_wp2
          go_quiet (fail)
          go_wp2
          go_ret
          exact ⟨ret_bool HR.out.symm, below_drewN HK.out _⟩
      · have HE := Lib.hid (show k = rss.length by omega)
        go_wp2
        go_ret
        have h := HA.out
        rw [HE.out] at h
        exact ⟨ret_bool h.symm, HK.out⟩
  · have hle : ((rss.length : Int) != (zss.length : Int)) = true := by simp; omega
    rw [show elB g zss rss = false from by unfold elB; rw [decide_eq_false hl]; rfl]
    go_enter Try.func89, Try.ntmps89
    go_wp2
    go_ret
    exact ⟨rfl, Below.refl _ _⟩
def rndsB (g : Int) (zss rss : List (List Int)) : Bool :=
  elB g zss rss && (prB g (sumsL zss) (sumsL rss) && (prB g (downL (zss.getD 0 []).length zss) (downL (zss.getD 0 []).length rss) && rB g (sumsL rss).sum (sumsL zss).sum))
def isTB (g : Int) (zss rss : List (List Int)) : Bool := tabB g zss && rndsB g zss rss
set_option maxHeartbeats 3200000 in
set_option maxRecDepth 100000 in
theorem l05Rounds_any (B : Nat) (g : Int) (ad : Option Addr) (cap : Nat) (zss : List (List Int)) (rd : Option Addr) (rc : Nat) (rss : List (List Int)) (w : World) (hz : Intss w ad zss) (hr : Intss w rd rss) (hv : tabB g zss = true)
    (c0 : w.cell? ⟨B, 0, none⟩ = some (.int .i64 g)) (c1 : w.cell? ⟨B, 1, none⟩ = some (.slice ad zss.length cap)) :
    Calls Try.prog 85 #[.pointer (some ⟨B, 0, none⟩), .slice rd rss.length rc] w fun e w' => e = .returned (.bool (rndsB g zss rss)) ∧ Keep w w' := by
  have hBs : B < w.heap.size := World.block_lt_of_cell? _ _ c0
  have hsz := tab_size hv
  have hE := l05Elements_any B g ad cap zss rd rc rss w hz hr hv c0 c1
  cases h1 : elB g zss rss
  · rw [h1] at hE
    rw [show rndsB g zss rss = false from by unfold rndsB; rw [h1]; rfl]
    have HE := Lib.hid hE; clear hE
    go_enter Try.func85, Try.ntmps85
    go_wp2_with fail
    refine HE.out.mono ?_
    rintro e w1 ⟨rfl, k1⟩
    go_wp2
    go_ret
    exact ⟨rfl, k1⟩
  rw [h1] at hE
  have HE := Lib.hid hE; clear hE
  have hrl := elB_len h1
  have HRR := Lib.hid (elB_rows hv h1)
  have HZR := Lib.hid (tab_rows hv)
  have HEQ : Hid (rndsB g zss rss = (prB g (sumsL zss) (sumsL rss) && (prB g (downL (zss.getD 0 []).length zss) (downL (zss.getD 0 []).length rss) && rB g (sumsL rss).sum (sumsL zss).sum))) := Lib.hid (by unfold rndsB; rw [h1, Bool.true_and])
  rw [HEQ.out]
  clear HEQ
  obtain ⟨V, hV⟩ : ∃ V, V = (prB g (sumsL zss) (sumsL rss) && (prB g (downL (zss.getD 0 []).length zss) (downL (zss.getD 0 []).length rss) && rB g (sumsL rss).sum (sumsL zss).sum)) := ⟨_, rfl⟩
  rw [← hV]
  have HV := Lib.hid hV; clear hV
  generalize hm : (zss.getD 0 []).length = m at *
  have HRL := Lib.hid hrl; clear hrl hm
  have HZ5 : Hid (∀ k, k < zss.length → (zss.getD k []).length ≤ 5 ∧ ∀ x ∈ zss.getD k [], -1000000 ≤ x ∧ x ≤ 1000000) := Lib.hid (fun k hk => ⟨by have := (HZR.out k hk).1; omega, (HZR.out k hk).2⟩)
  have HR5 : Hid (∀ k, k < rss.length → (rss.getD k []).length ≤ 5 ∧ ∀ x ∈ rss.getD k [], -1000000 ≤ x ∧ x ≤ 1000000) := Lib.hid (fun k hk => ⟨by have := (HRR.out k hk).1; omega, (HRR.out k hk).2⟩)
  have HZ1 : Hid (∀ k, k < zss.length → (zss.getD k []).length ≤ 1000 ∧ ∀ x ∈ zss.getD k [], -1000000 ≤ x ∧ x ≤ 1000000) := Lib.hid (fun k hk => ⟨by have := (HZR.out k hk).1; omega, (HZR.out k hk).2⟩)
  have HR1 : Hid (∀ k, k < rss.length → (rss.getD k []).length ≤ 1000 ∧ ∀ x ∈ rss.getD k [], -1000000 ≤ x ∧ x ≤ 1000000) := Lib.hid (fun k hk => ⟨by have := (HRR.out k hk).1; omega, (HRR.out k hk).2⟩)
  have HBA := Lib.hid (sums_bd HZ5.out)
  have HBB := Lib.hid (sums_bd HR5.out)
  have HBC := Lib.hid (down_bd (m := m) (by omega) HZR.out)
  have HBD := Lib.hid (down_bd (m := m) (by have := HRL.out; omega) HRR.out)
  have HLA : Hid ((sumsL zss).length = zss.length) := Lib.hid (sumsL_len zss)
  have HLB : Hid ((sumsL rss).length = zss.length) := Lib.hid (by rw [sumsL_len, HRL.out])
  have HLC : Hid ((downL m zss).length = m) := Lib.hid (by unfold downL; rw [downT_len])
  have HLD : Hid ((downL m rss).length = m) := Lib.hid (by unfold downL; rw [downT_len])
  have h5 : zss.length ≤ 5 := hsz.2.1.2
  have h51 : 1 ≤ zss.length := hsz.2.1.1
  have hm5 : m ≤ 5 := hsz.2.2.2
  have hg := hsz.1
  clear hsz
  go_enter Try.func85, Try.ntmps85
  go_wp2_with fail
  refine HE.out.mono ?_
  rintro e w1 ⟨rfl, k1⟩
  have K1 := Lib.hid k1; clear k1
  have q1 := (K1.out.cell (p := ⟨B, 1, none⟩) (by exact hBs)).trans c1
  go_wp2_with fail
  refine (l05Across_any ad cap zss w1 (hz.keep K1.out (Nat.le_refl _)) (by omega) HZ1.out).mono ?_
  rintro e w2 ⟨ad2, ac2, rfl, o2, k2⟩
  have K2 := Lib.hid (Keep.next K1.out k2)
  have A2 := Lib.hid o2.ints
  clear o2 k2 K1 q1
  go_wp2_with fail
  refine (l05Across_any rd rc rss w2 (hr.keep K2.out (Nat.le_refl _)) (by have := HRL.out; omega) HR1.out).mono ?_
  rintro e w3 ⟨bd2, bc2, rfl, o3, k3⟩
  have K3 := Lib.hid (Keep.next K2.out k3)
  have A3 := Lib.hid (A2.out.keep k3 (Nat.le_refl _))
  have B3 := Lib.hid o3.ints
  clear o3 k3 K2 A2
  generalize hSA : sumsL zss = SA at *
  generalize hSB : sumsL rss = SB at *
  have hla : SA.length ≤ 5 := by rw [HLA.out]; exact h5
  have hPX : Hid (∀ W : World, Keep w W → Ints W ad2 SA → True) := Lib.hid (fun _ _ _ => trivial)
  clear hSA hSB hPX
  go_wp2
  go_loopg [7] SA.length (fun kk i wr => ∃ k : Nat, k ≤ SA.length ∧ kk = SA.length - k ∧ i = .int .i64 k ∧ Hid ((List.range k).all (fun i => rB g (SB.getD i 0) (SA.getD i 0)) = true) ∧ Hid (Keep w3 wr))
  case atStart => exact ⟨0, Nat.zero_le _, rfl, rfl, Lib.hid (by simp), Lib.hid (Below.refl _ _)⟩
  case round =>
    obtain ⟨k, hk, rfl, rfl, HA, HK⟩ := hrel
    obtain ⟨wo, rfl⟩ : ∃ x, x = wr := ⟨wr, rfl⟩
    have KW := Lib.hid (Keep.next K3.out HK.out)
    by_cases hlt : k < SA.length
    · have hltB : k < SB.length := by have := HLA.out; have := HLB.out; omega
      have e0 := (KW.out.cell (p := ⟨B, 0, none⟩) (by exact hBs)).trans c0
      rcases (A3.out.keep HK.out (Nat.le_refl _)).at_ with h | ⟨b, off, rfl, hb, hc⟩
      · subst h; simp at hlt
      rcases (B3.out.keep HK.out (Nat.le_refl _)).at_ with h | ⟨b2, off2, rfl, hb2, hc2⟩
      · subst h; simp at hltB
      have hsa := A3.out.small
      have hsb := B3.out.small
      have e1 := hc k hlt
      have e2 := hc2 k hltB
      have hx := HBA.out _ (getD_mem SA k hlt)
      have HS2 := Lib.hid (upto_succ (fun i => rB g (SB.getD i 0) (SA.getD i 0)) k)
      have HF2 := Lib.hid (fun h => upto_no (p := fun i => rB g (SB.getD i 0) (SA.getD i 0)) (n := SA.length) hlt h)
      clear hc hc2
      generalize SA.getD k 0 = x at *
      generalize SB.getD k 0 = y at *
      have hRB := fun W => l05Round_any y x g W (by omega) (by omega) (by omega) (by omega)
      cases hb5 : rB g y x
      · rw [hb5] at hRB
        have HRB := Lib.hid hRB; clear hRB
        have HR : Hid (prB g SA SB = false) := Lib.hid (HF2.out hb5)
        go_wp2
        go_quiet ((go_at_call 132; exact Calls.quiet_of_same ((HRB.out _).mono fun _ _ h => ⟨h.1, h.2.symm⟩)))
        go_wp2
        go_ret
        exact ⟨ret_bool (by rw [HV.out, HR.out]; rfl), below_drewN KW.out _⟩
      · rw [hb5] at hRB
        have HRB := Lib.hid hRB; clear hRB
        go_wp2
        go_quiet ((go_at_call 132; exact Calls.quiet_of_same ((HRB.out _).mono fun _ _ h => ⟨h.1, h.2.symm⟩)))
        go_wp2
        go_roundg (SA.length - (k + 1))
        case measure => omega
        case rel => exact ⟨k + 1, by omega, by omega, by go_num, Lib.hid (by rw [HS2.out, HA.out, hb5]; rfl), Lib.hid (below_drewN HK.out _)⟩
    · have HPA : Hid (prB g SA SB = true) := Lib.hid (by
        have h := HA.out
        rw [show k = SA.length by omega] at h
        exact h)
      have q1 := (KW.out.cell (p := ⟨B, 1, none⟩) (by exact hBs)).trans c1
      clear HA
      go_wp2_with fail
      refine (l05Down_any ad cap zss m wo (hz.keep KW.out (Nat.le_refl _)) h51 (by omega) (by omega) HZR.out).mono ?_
      rintro e w4 ⟨cd, cc, rfl, o4, k4⟩
      have K4 := Lib.hid (Keep.next KW.out k4)
      have C4 := Lib.hid o4.ints
      have A4 := Lib.hid ((A3.out.keep HK.out (Nat.le_refl _)).keep k4 (Nat.le_refl _))
      have B4 := Lib.hid ((B3.out.keep HK.out (Nat.le_refl _)).keep k4 (Nat.le_refl _))
      clear o4 k4 q1 KW HK A3 B3
      go_wp2_with fail
      refine (l05Down_any rd rc rss m w4 (hr.keep K4.out (Nat.le_refl _)) (by have := HRL.out; omega) (by have := HRL.out; omega) (by omega) HRR.out).mono ?_
      rintro e w5 ⟨dd, dc, rfl, o5, k5⟩
      have K5 := Lib.hid (Keep.next K4.out k5)
      have C5 := Lib.hid (C4.out.keep k5 (Nat.le_refl _))
      have A5 := Lib.hid (A4.out.keep k5 (Nat.le_refl _))
      have B5 := Lib.hid (B4.out.keep k5 (Nat.le_refl _))
      have D5 := Lib.hid o5.ints
      clear o5 k5 K4 C4 A4 B4
      generalize downL m zss = SC at *
      generalize downL m rss = SD at *
      have hlc : SC.length ≤ 5 := by rw [HLC.out]; exact hm5
      go_wp2
      go_loopg [10] SC.length (fun kk i wr => ∃ k : Nat, k ≤ SC.length ∧ kk = SC.length - k ∧ i = .int .i64 k ∧ Hid ((List.range k).all (fun i => rB g (SD.getD i 0) (SC.getD i 0)) = true) ∧ Hid (Keep w5 wr))
      case atStart => exact ⟨0, Nat.zero_le _, rfl, rfl, Lib.hid (by simp), Lib.hid (Below.refl _ _)⟩
      case round =>
        obtain ⟨t, ht, rfl, rfl, HA, HK⟩ := hrel
        obtain ⟨wq, rfl⟩ : ∃ x, x = wr := ⟨wr, rfl⟩
        have KW := Lib.hid (Keep.next K5.out HK.out)
        have e0 := (KW.out.cell (p := ⟨B, 0, none⟩) (by exact hBs)).trans c0
        by_cases hlt : t < SC.length
        · have hltB : t < SD.length := by have := HLC.out; have := HLD.out; omega
          rcases (C5.out.keep HK.out (Nat.le_refl _)).at_ with h | ⟨b, off, rfl, hb, hc⟩
          · subst h; simp at hlt
          rcases (D5.out.keep HK.out (Nat.le_refl _)).at_ with h | ⟨b2, off2, rfl, hb2, hc2⟩
          · subst h; simp at hltB
          have hsa := C5.out.small
          have hsb := D5.out.small
          have e1 := hc t hlt
          have e2 := hc2 t hltB
          have hx := HBC.out _ (getD_mem SC t hlt)
          have HS2 := Lib.hid (upto_succ (fun i => rB g (SD.getD i 0) (SC.getD i 0)) t)
          have HF2 := Lib.hid (fun h => upto_no (p := fun i => rB g (SD.getD i 0) (SC.getD i 0)) (n := SC.length) hlt h)
          clear hc hc2
          generalize SC.getD t 0 = x at *
          generalize SD.getD t 0 = y at *
          have hRB := fun W => l05Round_any y x g W (by omega) (by omega) (by omega) (by omega)
          cases hb5 : rB g y x
          · rw [hb5] at hRB
            have HRB := Lib.hid hRB; clear hRB
            have HR : Hid (prB g SC SD = false) := Lib.hid (HF2.out hb5)
            go_wp2
            go_quiet ((go_at_call 132; exact Calls.quiet_of_same ((HRB.out _).mono fun _ _ h => ⟨h.1, h.2.symm⟩)))
            go_wp2
            go_ret
            exact ⟨ret_bool (by rw [HV.out, HPA.out, HR.out]; rfl), below_drewN KW.out _⟩
          · rw [hb5] at hRB
            have HRB := Lib.hid hRB; clear hRB
            go_wp2
            go_quiet ((go_at_call 132; exact Calls.quiet_of_same ((HRB.out _).mono fun _ _ h => ⟨h.1, h.2.symm⟩)))
            go_wp2
            go_roundg (SC.length - (t + 1))
            case measure => omega
            case rel => exact ⟨t + 1, by omega, by omega, by go_num, Lib.hid (by rw [HS2.out, HA.out, hb5]; rfl), Lib.hid (below_drewN HK.out _)⟩
        · have HPC : Hid (prB g SC SD = true) := Lib.hid (by
            have h := HA.out
            rw [show t = SC.length by omega] at h
            exact h)
          have hsA := sum_bd6 SA 5000000 HBA.out
          have hsB := sum_bd6 SB 5000000 HBB.out
          have HIA := Lib.hid (fun W (k : Keep wq W) => (A5.out.keep HK.out (Nat.le_refl _)).keep k (Nat.le_refl _))
          have HIB := Lib.hid (fun W (k : Keep wq W) => (B5.out.keep HK.out (Nat.le_refl _)).keep k (Nat.le_refl _))
          have hSumA := fun W (k : Keep wq W) => l01Sum_any ad2 ac2 SA W (HIA.out W k) (fun z hz => by have := HBA.out z hz; omega) (by omega)
          have hSumB := fun W (k : Keep wq W) => l01Sum_any bd2 bc2 SB W (HIB.out W k) (fun z hz => by have := HBB.out z hz; omega) (by have := HLA.out; have := HLB.out; omega)
          generalize SA.sum = sa at *
          generalize SB.sum = sb at *
          have hab : (-25000000 ≤ sa ∧ sa ≤ 25000000) := by omega
          have HRB := Lib.hid (fun W => l05Round_any sb sa g W (by omega) (by omega) (by omega) (by omega))
          have HSA := Lib.hid (fun n => hSumA (wq.drewN n) (below_drewN (Below.refl _ _) n)); have HSB := Lib.hid (fun n => hSumB (wq.drewN n) (below_drewN (Below.refl _ _) n))
          clear hSumA hSumB
          have HFIN : Hid (V = rB g sb sa) := Lib.hid (by rw [HV.out, HPA.out, HPC.out]; rfl)
          go_wp2
          go_quiet (first | (go_at_call 94; with_reducible exact Calls.quiet_of_same ((HSB.out _).mono fun _ _ h => ⟨h.1, h.2.symm⟩)) | (go_at_call 94; with_reducible exact Calls.quiet_of_same ((HSA.out _).mono fun _ _ h => ⟨h.1, h.2.symm⟩)) | (go_at_call 132; exact Calls.quiet_of_same ((HRB.out _).mono fun _ _ h => ⟨h.1, h.2.symm⟩)))
          go_wp2
          go_ret
          exact ⟨ret_bool HFIN.out.symm, below_drewN KW.out _⟩
set_option maxHeartbeats 800000 in
theorem specIsTableRounding_any (g : Int) (ad : Option Addr) (cap : Nat) (zss : List (List Int)) (rd : Option Addr) (rc : Nat) (rss : List (List Int)) (w : World) (hz : Intss w ad zss) (hr : Intss w rd rss) :
    Calls Try.prog 44 #[valV g ad zss.length cap, .slice rd rss.length rc] w fun e w' => e = .returned (.bool (isTB g zss rss)) ∧ Keep w w' := by
  have B0 : Box (w.alloc (.cells #[.int .i64 g, .slice ad zss.length cap] 49)) w.heap.size g ad zss.length cap := ⟨by simp, by simp, by simp⟩
  cases h1 : tabB g zss
  · rw [show isTB g zss rss = false from by simp [isTB, h1]]
    go_enter Try.func44, Try.ntmps44
    go_wp2_with fail
    refine (l05Is_any w.heap.size g ad cap zss _ (hz.keep (B := _) (by go_grown) (Nat.le_refl _)) B0.c0 B0.c1).mono ?_
    rw [h1]
    rintro e w1 ⟨rfl, k1⟩
    have g1 : Keep w w1 := Keep.next (by go_grown) k1
    go_wp2
    go_ret
    exact ⟨rfl, g1⟩
  · rw [show isTB g zss rss = rndsB g zss rss from by simp [isTB, h1]]
    go_enter Try.func44, Try.ntmps44
    go_wp2_with fail
    refine (l05Is_any w.heap.size g ad cap zss _ (hz.keep (B := _) (by go_grown) (Nat.le_refl _)) B0.c0 B0.c1).mono ?_
    rw [h1]
    rintro e w1 ⟨rfl, k1⟩
    have g1 : Keep w w1 := Keep.next (by go_grown) k1
    obtain ⟨q0, q1, q2⟩ := B0.keep k1
    go_wp2_with fail
    refine (l05Rounds_any w.heap.size g ad cap zss rd rc rss w1 (hz.keep (B := _) g1 (Nat.le_refl _)) (hr.keep (B := _) g1 (Nat.le_refl _)) h1 q0 q1).mono ?_
    rintro e w2 ⟨rfl, k2⟩
    have g2 : Keep w w2 := Keep.next g1 k2
    go_wp2
    go_ret
    exact ⟨rfl, g2⟩
end Go.Proofs.Ytjoanfgchapbaab
