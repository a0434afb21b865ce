/- All best roundings with a sum: the program's choice. -/
import Derived.Test.YtmckbjhmkcbjgabSort4
import Derived.Test.YtmckbjhmkcbjgabMap4
import Derived.Test.YtmckbjhmkcbjgabTot
import Derived.Test.YtmckbjhmkcbjgabFlo4
import Derived.Test.YtmckbjhmkcbjgabReg
namespace Go.Proofs.Ytmckbjhmkcbjgab
open Go.ChangeShapes Go.WideShapes Go.ChangeAt Go.RowKit Go.Deep
set_option linter.unusedVariables false
theorem tdiv_bdX {a b M : Int} (hb : 1 ≤ b) (h1 : -M ≤ a) (h2 : a ≤ M) (hM : 0 ≤ M) : -M ≤ a.tdiv b ∧ a.tdiv b ≤ M := tdiv_bd hb h1 h2 hM
theorem floorOfX_any (a b : Int) (w : World) (ha : -1000000000000000 ≤ a) (ha' : a ≤ 1000000000000000) (hb : 1 ≤ b) (hb' : b ≤ 1000000000000000) :
    Calls Try.prog 43 #[.int .i64 a, .int .i64 b] w fun e w' => e = .returned (.int .i64 (fl a b)) ∧ w = w' := by
  have hq := tdiv_bd hb ha ha' (by omega)
  go_enter Try.func43, Try.ntmps43
  go_wp2
  all_goals go_ret
  · refine ⟨ret_i64 ?_, rfl⟩
    exact fl_lo hb (by assumption)
  · refine ⟨ret_i64 ?_, rfl⟩
    exact fl_hi hb (by assumption)
theorem ch1_any (x g : Int) (vb : Nat) (w : World) (c0 : w.cell? ⟨vb, 0, none⟩ = some (.int .i64 g)) (ha : -1000000000000 ≤ x) (ha' : x ≤ 1000000000000) (hb : 1 ≤ g) (hb' : g ≤ 1000000000000) :
    Calls Try.prog 56 #[.int .i64 x, .pointer (some ⟨vb, 0, none⟩)] w fun e w' => e = .returned (.int .i64 (fl x g)) ∧ w = w' := by
  go_enter Try.func56, Try.ntmps56
  go_wp2_with (go_at_call 43; refine (floorOfX_any _ _ _ (by omega) (by omega) (by omega) (by omega)).mono ?_; rintro e w' ⟨rfl, rfl⟩)
  go_ret
  exact ⟨rfl, rfl⟩
set_option maxHeartbeats 800000 in
theorem ch2_any (x g : Int) (vb : Nat) (w : World) (c0 : w.cell? ⟨vb, 0, none⟩ = some (.int .i64 g)) (ha : -1000000000000 ≤ x) (ha' : x ≤ 1000000000000) (hb : 1 ≤ g) (hb' : g ≤ 1000000000000) :
    Calls Try.prog 57 #[.int .i64 x, .pointer (some ⟨vb, 0, none⟩)] w fun e w' => e = .returned (.int .i64 (x - g * fl x g)) ∧ ∃ n, w' = w.drewN n := by
  have h1 := re_bd (g := g) (z := x) hb
  have h2 : -2000000000000 ≤ g * fl x g ∧ g * fl x g ≤ 2000000000000 := by omega
  go_enter Try.func57, Try.ntmps57
  have hw1 : IntKind.i64.wrap (g * fl x g) = g * fl x g := IntWalk.i64_in _ (by omega)
  have hw2 : IntKind.i64.wrap (x - g * fl x g) = x - g * fl x g := IntWalk.i64_in _ (by omega)
  go_wp2_with fail
  go_quiet ((go_at_call 43; exact Calls.quiet_of_same ((floorOfX_any _ _ _ (by omega) (by omega) (by omega) (by omega)).mono fun _ _ h => ⟨h.1, h.2.symm⟩)))
  go_wp2
  go_ret
  exact ⟨rfl, _, rfl⟩
/-- What freeRests tells. -/
def Free (w : World) (norm den : Int) (R : List Int) (u : Nat) (e : Ending) (w' : World) : Prop :=
  ∃ T S, Ranks den R u T S ∧ e = .returned (.tuple #[.int .i64 (loOf norm den T S), .int .i64 (hiOf norm den T S)]) ∧ Keep w w'
set_option maxHeartbeats 1600000 in
theorem freeRests_any (norm den : Int) (u : Nat) (rd : Option Addr) (rc : Nat) (R : List Int) (w : World) (hz : Ints w rd R) (hR : ∀ r ∈ R, 0 ≤ r ∧ r < den) (hd : 1 ≤ den) (hd2 : den ≤ 1000000000000) (hu : u ≤ gtC 0 R) (hl : R.length ≤ 40) :
    Calls Try.prog 58 #[.slice rd R.length rc, .int .i64 den, .int .i64 u, .int .i64 norm] w (Free w norm den R u) := by
  have HR := Lib.hid hR
  have HU := Lib.hid hu
  have hul : u ≤ R.length := Nat.le_trans hu (List.countP_le_length ..)
  clear hR hu
  have hlen := hz.small
  have o1 : Own (w.alloc (.cells #[.int .i64 den, .int .i64 0] 2)) w.heap.size (some ⟨w.heap.size, 0, none⟩) 2 [den, 0] := by
    have := World.ownsRow_lit (base := w.heap.size) (e := 2) (size := 1) w #[.int .i64 den, .int .i64 0] 2 (by simp) (by unfold maxLen; omega) rfl
    exact ⟨by simpa [vals] using this, by simp, by intro z hz; simp at hz; rcases hz with rfl | rfl <;> exact ⟨by omega, by omega⟩⟩
  have HO1 := Lib.hid o1; clear o1
  have k1 : Keep w (w.alloc (.cells #[.int .i64 den, .int .i64 0] 2)) := by go_grown
  have HK1 := Lib.hid k1; clear k1
  have HZ := Lib.hid hz
  have hsz1 : (w.alloc (.cells #[.int .i64 den, .int .i64 0] 2)).heap.size = w.heap.size + 1 := by simp
  have HSZ := Lib.hid hsz1; clear hsz1
  go_enter Try.func58, Try.ntmps58
  go_wp2_with (refine list_appI (by rfl) _ _ (by rfl) w.heap.size w.heap.size 2 2 [den, 0] (by rfl) HO1.out rfl ⟨Nat.le_refl _, by rw [HSZ.out]; omega, Nat.le_refl _⟩ R rd R.length rc (by rfl) rfl w HZ.out HK1.out (by omega) (by simp) (by rw [HSZ.out]; omega) ?_; intro gb cap2 w2 hown2 hgr2 hBg hlt2; generalize hL : [den, 0] ++ R = L at *)
  have HL := Lib.hid hL; clear hL
  have hLl : L.length ≤ 42 := by rw [← HL.out]; simp; omega
  have HLL : Hid (L.length = R.length + 2) := Lib.hid (by rw [← HL.out]; simp)
  have HK2 : Hid (Keep w w2) := Lib.hid (HK1.out.grown hgr2 (by rw [HSZ.out]; omega) (fun k h => by cases h; exact Nat.le_refl _))
  have hcells : ∀ i, i < L.length → w2.cell? ⟨gb, i, none⟩ = some (.int .i64 (L.getD i 0)) ∧ w2.frozen? ⟨gb, i, none⟩ = false := fun i hi => by
    refine ⟨?_, hown2.1.frozenAt i⟩
    have := hown2.1.cellAt i (by omega)
    rw [this]; simp [hi]
  have HC := Lib.hid hcells
  clear hcells hown2 hgr2
  refine (sortDesc_any gb cap2 L w2 hlt2 HC.out (by omega)).mono ?_
  rintro e w3 ⟨rfl, O, hperm, hdesc, hO, hk3⟩
  have hp2 : O.Perm (den :: 0 :: R) := by rw [← HL.out] at hperm; exact hperm
  have hRk := ranks_of hd HR.out HU.out hp2 hdesc
  have HRK := Lib.hid hRk
  have HK3 : Hid (Keep w w3) := Lib.hid (HK2.out.trans (hk3.mono hBg))
  have hu1 : u < L.length := by rw [HLL.out]; omega
  have hu2 : u + 1 < L.length := by rw [HLL.out]; omega
  have hO1 := hO u hu1
  have hO2 := hO (u + 1) hu2
  clear hperm hdesc hO hp2 hRk hk3
  have hT0 := HRK.out.t0
  have hT1 := HRK.out.t1
  have hS0 := HRK.out.s0
  have hTb : 1 ≤ O.getD u 0 ∧ O.getD u 0 ≤ den := by
    by_cases e : u = 0
    · have := hT0 e; omega
    · have := hT1 (by omega); omega
  clear hT0 hT1
  generalize O.getD u 0 = T at *
  generalize O.getD (u + 1) 0 = S at *
  have hw1 : IntKind.i64.wrap ((u : Int) + 1) = (u : Int) + 1 := IntWalk.i64_in _ (by omega)
  have hw2 : 0 ≤ (u : Int) + 1 := by omega
  have hw3 : ((u : Int) + 1).toNat = u + 1 := by omega
  have hw4 : (u : Int) + 1 < (L.length : Int) := by omega
  go_wp2_with fail
  go_quiet (fail)
  clear hw1 hw2 hw3 hw4
  by_cases hn : norm = 2
  · have hnb : (norm == 2) = true := by simp [hn]
    have HN := Lib.hid hn; clear hn
    go_wp2
    refine bodyPost_ret (v := .tuple #[.int .i64 (den - max S (den - T)), .int .i64 (max S (den - T))]) (by simp [results, Try.results58, go_sem]) rfl ?_
    have hm : mostOf norm den T S = max S (den - T) := by unfold mostOf; rw [if_pos HN.out]; split <;> omega
    exact ⟨T, S, HRK.out, by unfold loOf hiOf; rw [if_pos HN.out, if_pos HN.out, hm], below_drewN HK3.out _⟩
  · have hnb : (norm == 2) = false := by simpa using hn
    have HN := Lib.hid hn; clear hn
    go_wp2
    refine bodyPost_ret (v := .tuple #[.int .i64 T, .int .i64 T]) (by simp [results, Try.results58, go_sem]) rfl ?_
    exact ⟨T, S, HRK.out, by unfold loOf hiOf; rw [if_neg HN.out, if_neg HN.out], below_drewN HK3.out _⟩
/-- Numbers of the call's own, from block B on. -/
def OwnN (w : World) (B : Nat) (ad : Option Addr) (cap : Nat) (ns : List Nat) : Prop :=
  w.ownsRow B 3 1 (.slice ad ns.length cap) ns.length (ns.map fun (n : Nat) => Value.int .i64 n) ∧ ns.length ≤ 1099511627776
theorem Try.infoIN : (Try.prog.info? 3).map (fun i => (i.zero, i.size, i.bytes)) = some (some (.int .i64 0), 1, 8) := by kernel_rfl
theorem OwnN.keptBy {w w' : World} {B : Nat} {ad : Option Addr} {cap : Nat} {ns : List Nat} {row : Option Nat} (h : OwnN w B ad cap ns) (k : w.grownBy w' row) (hr : ∀ r, row = some r → r < B) : OwnN w' B ad cap ns := by
  refine ⟨h.1.kept k ?_, h.2⟩
  rcases own_block h.1 with ⟨rfl, _⟩ | ⟨g, rfl, h1, _⟩
  · exact .inl rfl
  · right
    cases row with
    | none => simp [Value.ownBlock]
    | some r => have := hr r rfl; simp [Value.ownBlock]; omega
theorem OwnN.mono {w : World} {B B' : Nat} {ad : Option Addr} {cap : Nat} {ns : List Nat} (h : OwnN w B ad cap ns) (k : B' ≤ B) : OwnN w B' ad cap ns := by
  refine ⟨⟨h.1.1, ?_⟩, h.2⟩
  rcases h.1.2 with h1 | ⟨g, c, cur, h1, h2, h3⟩
  · exact .inl h1
  · exact .inr ⟨g, c, cur, h1, by omega, h3⟩
theorem OwnN.nil (w : World) (B : Nat) : OwnN w B none 0 [] := ⟨World.ownsRow_nil _ _ _ _, by simp⟩
theorem OwnN.at_ {w : World} {B : Nat} {ad : Option Addr} {cap : Nat} {ns : List Nat} (h : OwnN w B ad cap ns) : ns = [] ∨ ∃ b, ad = some ⟨b, 0, none⟩ ∧ b < w.heap.size ∧ B ≤ b ∧ ∀ i, i < ns.length → w.cell? ⟨b, i, none⟩ = some (.int .i64 (ns.getD i 0 : Nat)) := by
  rcases own_block h.1 with ⟨_, h2, _⟩ | ⟨g, rfl, h1, h2, _⟩
  · exact .inl (List.eq_nil_of_length_eq_zero h2)
  · refine .inr ⟨g, rfl, h2, h1, fun i hi => ?_⟩
    have := h.1.cellAt i (by omega)
    rw [this]
    simp [hi]
theorem below_ownN {w0 w w' : World} {B lo n cap : Nat} {ad : Option Addr} {ns : List Nat} (h : Below B w0 w) (o : OwnN w lo ad cap ns) (m : w.grownBy w' (Value.slice ad n cap).ownBlock) (hB : B ≤ w.heap.size) (hlo : B ≤ lo) : Below B w0 w' := by
  refine h.grown m hB fun k hk => ?_
  rcases own_block o.1 with ⟨rfl, _⟩ | ⟨k2, rfl, h4, _⟩
  · simp [Value.ownBlock] at hk
  · simp [Value.ownBlock] at hk; omega
theorem list_appN {ops : Array Oper} {rest : List Oper} {o : Oper} {a : Act} {w : World} {Q : Exit → Act → World → Prop} (hgd : o.guard = none) (s x : Operand)
    (ho : o.op = .call { callee := .builtin .append, args := #[s, x], argTypes := #[54, 54] })
    (B : Nat) (ad : Option Addr) (cap n : Nat) (ns : List Nat) (y : Nat) (hs : a.eval s = .slice ad n cap) (hown : OwnN w B ad cap ns) (hn : n = ns.length) (nb : Nat) (hx : a.eval x = .slice (some ⟨nb, 0, none⟩) 1 1)
    (hc : w.cell? ⟨nb, 0, none⟩ = some (.int .i64 (y : Nat))) (hl : ns.length < 1099511627776) (hB : B ≤ w.heap.size)
    (h : ∀ ad' cap' w', OwnN w' B ad' cap' (ns ++ [y]) → w.grownBy w' (Value.slice ad n cap).ownBlock → wpList Try.prog ops Q rest (a.put o.dst (.slice ad' (n + 1) cap')) w') : wpList Try.prog ops Q (o :: rest) a w := by
  obtain ⟨i0, hi, hz0, hz1, hz2⟩ := info_parts Try.infoIN
  subst hn
  refine wpList_append_lies w hgd s x 54 ho B 3 i0 (.int .i64 0) 1 8 Try.underlying54 hi hz0 hz1 hz2 rfl (by omega) (.slice ad ns.length cap) ns.length (ns.map fun (n : Nat) => Value.int .i64 n) hs hown.1 ⟨nb, 0, none⟩ 1 1 [.int .i64 (y : Nat)] hx rfl ?_ ?_ (by omega) (by unfold maxLen; omega) (by omega) hB _ rfl ?_
  · intro j u hj
    match j, hj with
    | 0, hj => simp at hj; subst hj; simpa [Addr.add] using hc
  · intro u hu; simp at hu; subst hu; rfl
  · intro g cap' w' h1 h2 _ _
    refine h (some ⟨g, 0, none⟩) cap' w' ⟨?_, ?_⟩ h2
    · simpa using h1
    · simp; omega
/-- Three cells that can be read and written. -/
structure Trio (W : World) (b : Nat) (u0 u1 u2 : Value) : Prop where
  c0 : W.cell? ⟨b, 0, none⟩ = some u0
  c1 : W.cell? ⟨b, 1, none⟩ = some u1
  c2 : W.cell? ⟨b, 2, none⟩ = some u2
  f0 : W.frozen? ⟨b, 0, none⟩ = false
  f1 : W.frozen? ⟨b, 1, none⟩ = false
  f2 : W.frozen? ⟨b, 2, none⟩ = false
theorem Trio.lt {W : World} {b : Nat} {u0 u1 u2 : Value} (h : Trio W b u0 u1 u2) : b < W.heap.size := World.block_lt_of_cell? _ _ h.c0
theorem Trio.keptBy {W W' : World} {b : Nat} {u0 u1 u2 : Value} {row : Option Nat} (h : Trio W b u0 u1 u2) (g : W.grownBy W' row) (hb : some b ≠ row) : Trio W' b u0 u1 u2 := by
  have e := g.block b h.lt hb
  exact ⟨(World.cell?_of_block (a := ⟨b, 0, none⟩) e).trans h.c0, (World.cell?_of_block (a := ⟨b, 1, none⟩) e).trans h.c1, (World.cell?_of_block (a := ⟨b, 2, none⟩) e).trans h.c2, (World.frozen?_of_block (a := ⟨b, 0, none⟩) e).trans h.f0, (World.frozen?_of_block (a := ⟨b, 1, none⟩) e).trans h.f1, (World.frozen?_of_block (a := ⟨b, 2, none⟩) e).trans h.f2⟩
theorem Trio.new (W : World) (u0 u1 u2 : Value) (T : Nat) : Trio (W.alloc (.cells #[u0, u1, u2] T)) W.heap.size u0 u1 u2 := ⟨by simp, by simp, by simp, by simp, by simp, by simp⟩
theorem set_other (W : World) (b i j : Nat) (v u : Value) (hij : i ≠ j) (h : W.cell? ⟨b, i, none⟩ = some u) : (W.setCell ⟨b, j, none⟩ v).cell? ⟨b, i, none⟩ = some u := by
  rw [World.cell?_setCell_other _ _ _ _ (by first | (simp; done) | (simp; exact hij))]; exact h
theorem Trio.set1 {W : World} {b : Nat} {u0 u1 u2 : Value} (h : Trio W b u0 u1 u2) (v : Value) : Trio (W.setCell ⟨b, 1, none⟩ v) b u0 v u2 :=
  ⟨set_other _ _ _ _ _ _ (by decide) h.c0, World.cell?_setCell_same _ _ _ h.c1, set_other _ _ _ _ _ _ (by decide) h.c2, by simpa using h.f0, by simpa using h.f1, by simpa using h.f2⟩
theorem Trio.set2 {W : World} {b : Nat} {u0 u1 u2 : Value} (h : Trio W b u0 u1 u2) (v : Value) : Trio (W.setCell ⟨b, 2, none⟩ v) b u0 u1 v :=
  ⟨set_other _ _ _ _ _ _ (by decide) h.c0, set_other _ _ _ _ _ _ (by decide) h.c1, World.cell?_setCell_same _ _ _ h.c2, by simpa using h.f0, by simpa using h.f1, by simpa using h.f2⟩
theorem Trio.set3 {W : World} {b : Nat} {u0 u1 u2 : Value} (h : Trio W b u0 u1 u2) (v0 v1 v2 : Value) : Trio (((W.setCell ⟨b, 0, none⟩ v0).setCell ⟨b, 1, none⟩ v1).setCell ⟨b, 2, none⟩ v2) b v0 v1 v2 := by
  refine ⟨?_, ?_, ?_, by simpa using h.f0, by simpa using h.f1, by simpa using h.f2⟩
  · exact set_other _ _ _ _ _ _ (by decide) (set_other _ _ _ _ _ _ (by decide) (World.cell?_setCell_same _ _ _ h.c0))
  · exact set_other _ _ _ _ _ _ (by decide) (World.cell?_setCell_same _ _ _ (set_other _ _ _ _ _ _ (by decide) h.c1))
  · exact World.cell?_setCell_same _ _ _ (set_other _ _ _ _ _ _ (by decide) (set_other _ _ _ _ _ _ (by decide) h.c2))
end Go.Proofs.Ytmckbjhmkcbjgab
