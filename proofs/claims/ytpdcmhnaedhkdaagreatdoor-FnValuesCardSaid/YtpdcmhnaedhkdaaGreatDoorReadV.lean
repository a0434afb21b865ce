/- Values read from their text: the program's side. -/
import Derived.Test.YtpdcmhnaedhkdaaGreatDoorReadL2
import Derived.Lib.IndexMore
namespace Go.Proofs.YtpdcmhnaedhkdaaGreatDoor
open Go.ChangeShapes Go.WideShapes Go.ChangeAt Go.RowKit
set_option linter.unusedVariables false
/-- No colon among the first k bytes. -/
def NoC (l : List UInt8) (k : Nat) : Prop := ∀ j, j < k → l[j]? ≠ some 58
theorem occ58 (l : List UInt8) (j : Nat) : Lib.occAt l [58] j = decide (l[j]? = some 58) := by
  unfold Lib.occAt
  by_cases h : j < l.length
  · rw [List.drop_eq_getElem_cons h, List.getElem?_eq_getElem h]
    by_cases e : l[j] = 58
    · simp [e, List.isPrefixOf]
    · simp [e, List.isPrefixOf]; exact fun h2 => e h2.symm
  · rw [List.drop_eq_nil_of_le (by omega), List.getElem?_eq_none (by omega)]; simp [List.isPrefixOf]
theorem cut_hit {l : List UInt8} {k : Nat} (hk : l[k]? = some 58) (hn : NoC l k) : Lib.cut l [58] = (l.take k, l.drop (k + 1), true) := by
  have hlt : k < l.length := by
    rcases Nat.lt_or_ge k l.length with h | h
    · exact h
    · rw [List.getElem?_eq_none h] at hk; cases hk
  have hi := Lib.index_first (s := l) (sub := [58]) (i := k) (by omega) (by rw [occ58, hk]; simp) (fun j hj => by rw [occ58]; simpa using hn j hj)
  unfold Lib.cut
  rw [hi]; simp
theorem cut_miss {l : List UInt8} (hn : NoC l l.length) : Lib.cut l [58] = (l, [], false) := by
  have hi := Lib.index_none (s := l) (sub := [58]) (fun j hj => by
    rw [occ58, decide_eq_false_iff_not]
    rcases Nat.lt_or_eq_of_le hj with h | h
    · exact hn j h
    · subst h; simp)
  unfold Lib.cut
  rw [hi]; simp
theorem cut_len (l : List UInt8) : (Lib.cut l [58]).1.length ≤ l.length ∧ (Lib.cut l [58]).2.1.length ≤ l.length := by
  unfold Lib.cut; split
  · simp; omega
  · simp
def rvOk (l : List UInt8) : Bool := (Lib.cut l [58]).2.2 && rdOk (Lib.cut l [58]).1 && rdsOk (Lib.cut l [58]).2.1 && okV (rdV (Lib.cut l [58]).1) (rdsV (Lib.cut l [58]).2.1)
def rvDen (l : List UInt8) : Int := if rvOk l then rdV (Lib.cut l [58]).1 else 0
def rvNums (l : List UInt8) : List Int := if rvOk l then rdsV (Lib.cut l [58]).2.1 else []
theorem rv_no {l : List UInt8} (h : rvOk l = false) : rvDen l = 0 ∧ rvNums l = [] := by unfold rvDen rvNums; rw [h]; exact ⟨rfl, rfl⟩
abbrev zeroV : Value := .agg #[.int .i64 0, .slice none 0 0]
set_option maxHeartbeats 1600000 in
theorem outcomeV_yes (g : Int) (ad : Option Addr) (n cap : Nat) (w : World) :
    Calls Tryz.prog 39 #[valV g ad n cap, .nilIface] w fun e w' => e = .returned (.tuple #[valV g ad n cap, .bool true]) ∧ Keep0 w w' := by
  go_enter Tryz.func39, Tryz.ntmps39
  go_wp2_with (go_at_call 58; refine (as_none _ _).mono ?_; rintro e w' ⟨rfl, rfl⟩)
  refine bodyPost_ret (v := .tuple #[valV g ad n cap, .bool true]) (by simp [results, Tryz.results39, go_sem]) rfl ?_
  exact ⟨rfl, by go_grown⟩
set_option maxHeartbeats 1600000 in
theorem outcomeV_no0 (g : Int) (ad : Option Addr) (n cap : Nat) (N : Nat) (w : World) (hv : LibVars w) :
    Calls Tryz.prog 39 #[valV g ad n cap, .iface 80 (.pointer (some ⟨N, 0, none⟩))] w fun e w' => e = .returned (.tuple #[zeroV, .bool false]) ∧ Keep0 w w' := by
  go_enter Tryz.func39, Tryz.ntmps39
  go_wp2_with fail
  refine (as_fault ⟨N, 0, none⟩ ⟨w.heap.size + 1 + 1, 0, none⟩ (.pointer none) _ (hv.keep (by go_grown)).et (by simp [go_sem]) (by simp [go_sem])).mono ?_
  rintro e w1 ⟨rfl, k1⟩
  have g1 : Keep0 w w1 := Below.trans (B := w.heap.size) (by go_grown) (k1.mono (by simp; omega))
  have s1 := k1.size
  simp at s1
  have c0 : w1.cell? ⟨w.heap.size + 1, 0, none⟩ = some (.int .i64 0) := by rw [k1.cell (by simp)]; simp [go_sem]
  have c1 : w1.cell? ⟨w.heap.size + 1, 1, none⟩ = some (.slice none 0 0) := by rw [k1.cell (by simp)]; simp [go_sem]
  have f0 : w1.frozen? ⟨w.heap.size + 1, 0, none⟩ = false := by rw [k1.frozen (by simp)]; simp [go_sem]
  have f1 : w1.frozen? ⟨w.heap.size + 1, 1, none⟩ = false := by rw [k1.frozen (by simp)]; simp [go_sem]
  clear k1
  have ka : Below w1.heap.size w1 (w1.alloc (.cells #[.int .i64 0, .slice none 0 0] 26)) := by go_grown
  have hb : w.heap.size + 1 < w1.heap.size := by omega
  have d0 : (w1.alloc (.cells #[.int .i64 0, .slice none 0 0] 26)).cell? ⟨w.heap.size + 1, 0, none⟩ = some (.int .i64 0) := by rw [ka.cell (by exact hb)]; exact c0
  have d1 : (w1.alloc (.cells #[.int .i64 0, .slice none 0 0] 26)).cell? ⟨w.heap.size + 1, 1, none⟩ = some (.slice none 0 0) := by rw [ka.cell (by exact hb)]; exact c1
  have e0 : (w1.alloc (.cells #[.int .i64 0, .slice none 0 0] 26)).frozen? ⟨w.heap.size + 1, 0, none⟩ = false := by rw [ka.frozen (by exact hb)]; exact f0
  have e1 : (w1.alloc (.cells #[.int .i64 0, .slice none 0 0] 26)).frozen? ⟨w.heap.size + 1, 1, none⟩ = false := by rw [ka.frozen (by exact hb)]; exact f1
  have q0 : ((w1.setCell ⟨w.heap.size + 1, 0, none⟩ (.int .i64 0)).setCell ⟨w.heap.size + 1, 1, none⟩ (.slice none 0 0)).cell? ⟨w.heap.size + 1, 0, none⟩ = some (.int .i64 0) := by
    rw [World.cell?_setCell_other _ _ _ _ (by simp), World.cell?_setCell_same _ _ _ c0]
  have q1 : ((w1.setCell ⟨w.heap.size + 1, 0, none⟩ (.int .i64 0)).setCell ⟨w.heap.size + 1, 1, none⟩ (.slice none 0 0)).cell? ⟨w.heap.size + 1, 1, none⟩ = some (.slice none 0 0) :=
    World.cell?_setCell_same _ _ _ (by rw [World.cell?_setCell_other _ _ _ _ (by simp)]; exact c1)
  have g2 : Keep0 w ((w1.setCell ⟨w.heap.size + 1, 0, none⟩ (.int .i64 0)).setCell ⟨w.heap.size + 1, 1, none⟩ (.slice none 0 0)) := (g1.setCell (by simp) _).setCell (by simp) _
  have hs2 : ((w1.setCell ⟨w.heap.size + 1, 0, none⟩ (.int .i64 0)).setCell ⟨w.heap.size + 1, 1, none⟩ (.slice none 0 0)).heap.size = w1.heap.size := by simp
  clear ka
  go_wp2
  generalize (w1.setCell ⟨w.heap.size + 1, 0, none⟩ (.int .i64 0)).setCell ⟨w.heap.size + 1, 1, none⟩ (.slice none 0 0) = w2 at *
  have kb : Below w2.heap.size w2 (w2.alloc (.cells #[.int .i64 0, .slice none 0 0] 26)) := by go_grown
  have r0 := (kb.cell (p := ⟨w.heap.size + 1, 0, none⟩) (by show w.heap.size + 1 < w2.heap.size; omega)).trans q0
  have r1 := (kb.cell (p := ⟨w.heap.size + 1, 1, none⟩) (by show w.heap.size + 1 < w2.heap.size; omega)).trans q1
  refine bodyPost_ret (v := .tuple #[zeroV, .bool false]) (by simp [results, Tryz.results39, go_sem, r0, r1]) rfl ?_
  exact ⟨rfl, Below.trans g2 (kb.mono g2.size)⟩
set_option maxHeartbeats 1600000 in
theorem outcomeV_no1 (g : Int) (ad : Option Addr) (n cap : Nat) (q N : Nat) (w : World) (hv : LibVars w) (hq : w.cell? ⟨q, 1, none⟩ = some (.iface 80 (.pointer (some ⟨N, 0, none⟩)))) :
    Calls Tryz.prog 39 #[valV g ad n cap, .iface 85 (.pointer (some ⟨q, 0, none⟩))] w fun e w' => e = .returned (.tuple #[zeroV, .bool false]) ∧ Keep0 w w' := by
  have KQ : Keep0 w (((w.alloc (.cells #[.int .i64 g, .slice ad n cap] 26)).alloc (.cells #[.int .i64 0, .slice none 0 0] 26)).alloc (.cells #[.pointer none] 80)) := by go_grown
  have p0 := (KQ.cell (p := ⟨q, 1, none⟩) (World.block_lt_of_cell? _ _ hq)).trans hq
  go_enter Tryz.func39, Tryz.ntmps39
  go_wp2_with fail
  refine (as_part1 q ⟨N, 0, none⟩ ⟨w.heap.size + 1 + 1, 0, none⟩ (.pointer none) _ (hv.keep (by go_grown)).et (by simp [go_sem]) (by simp [go_sem]) p0).mono ?_
  rintro e w1 ⟨rfl, k1⟩
  have g1 : Keep0 w w1 := Below.trans (B := w.heap.size) (by go_grown) (k1.mono (by simp; omega))
  have s1 := k1.size
  simp at s1
  have c0 : w1.cell? ⟨w.heap.size + 1, 0, none⟩ = some (.int .i64 0) := by rw [k1.cell (by simp)]; simp [go_sem]
  have c1 : w1.cell? ⟨w.heap.size + 1, 1, none⟩ = some (.slice none 0 0) := by rw [k1.cell (by simp)]; simp [go_sem]
  have f0 : w1.frozen? ⟨w.heap.size + 1, 0, none⟩ = false := by rw [k1.frozen (by simp)]; simp [go_sem]
  have f1 : w1.frozen? ⟨w.heap.size + 1, 1, none⟩ = false := by rw [k1.frozen (by simp)]; simp [go_sem]
  clear k1
  have ka : Below w1.heap.size w1 (w1.alloc (.cells #[.int .i64 0, .slice none 0 0] 26)) := by go_grown
  have hb : w.heap.size + 1 < w1.heap.size := by omega
  have d0 : (w1.alloc (.cells #[.int .i64 0, .slice none 0 0] 26)).cell? ⟨w.heap.size + 1, 0, none⟩ = some (.int .i64 0) := by rw [ka.cell (by exact hb)]; exact c0
  have d1 : (w1.alloc (.cells #[.int .i64 0, .slice none 0 0] 26)).cell? ⟨w.heap.size + 1, 1, none⟩ = some (.slice none 0 0) := by rw [ka.cell (by exact hb)]; exact c1
  have e0 : (w1.alloc (.cells #[.int .i64 0, .slice none 0 0] 26)).frozen? ⟨w.heap.size + 1, 0, none⟩ = false := by rw [ka.frozen (by exact hb)]; exact f0
  have e1 : (w1.alloc (.cells #[.int .i64 0, .slice none 0 0] 26)).frozen? ⟨w.heap.size + 1, 1, none⟩ = false := by rw [ka.frozen (by exact hb)]; exact f1
  have q0 : ((w1.setCell ⟨w.heap.size + 1, 0, none⟩ (.int .i64 0)).setCell ⟨w.heap.size + 1, 1, none⟩ (.slice none 0 0)).cell? ⟨w.heap.size + 1, 0, none⟩ = some (.int .i64 0) := by
    rw [World.cell?_setCell_other _ _ _ _ (by simp), World.cell?_setCell_same _ _ _ c0]
  have q1 : ((w1.setCell ⟨w.heap.size + 1, 0, none⟩ (.int .i64 0)).setCell ⟨w.heap.size + 1, 1, none⟩ (.slice none 0 0)).cell? ⟨w.heap.size + 1, 1, none⟩ = some (.slice none 0 0) :=
    World.cell?_setCell_same _ _ _ (by rw [World.cell?_setCell_other _ _ _ _ (by simp)]; exact c1)
  have g2 : Keep0 w ((w1.setCell ⟨w.heap.size + 1, 0, none⟩ (.int .i64 0)).setCell ⟨w.heap.size + 1, 1, none⟩ (.slice none 0 0)) := (g1.setCell (by simp) _).setCell (by simp) _
  have hs2 : ((w1.setCell ⟨w.heap.size + 1, 0, none⟩ (.int .i64 0)).setCell ⟨w.heap.size + 1, 1, none⟩ (.slice none 0 0)).heap.size = w1.heap.size := by simp
  clear ka
  go_wp2
  generalize (w1.setCell ⟨w.heap.size + 1, 0, none⟩ (.int .i64 0)).setCell ⟨w.heap.size + 1, 1, none⟩ (.slice none 0 0) = w2 at *
  have kb : Below w2.heap.size w2 (w2.alloc (.cells #[.int .i64 0, .slice none 0 0] 26)) := by go_grown
  have r0 := (kb.cell (p := ⟨w.heap.size + 1, 0, none⟩) (by show w.heap.size + 1 < w2.heap.size; omega)).trans q0
  have r1 := (kb.cell (p := ⟨w.heap.size + 1, 1, none⟩) (by show w.heap.size + 1 < w2.heap.size; omega)).trans q1
  refine bodyPost_ret (v := .tuple #[zeroV, .bool false]) (by simp [results, Tryz.results39, go_sem, r0, r1]) rfl ?_
  exact ⟨rfl, Below.trans g2 (kb.mono g2.size)⟩
set_option maxHeartbeats 1600000 in
theorem outcomeV_no2 (g : Int) (ad : Option Addr) (n cap : Nat) (q q2 N : Nat) (w : World) (hv : LibVars w) (hq : w.cell? ⟨q, 1, none⟩ = some (.iface 85 (.pointer (some ⟨q2, 0, none⟩)))) (hq2 : w.cell? ⟨q2, 1, none⟩ = some (.iface 80 (.pointer (some ⟨N, 0, none⟩)))) :
    Calls Tryz.prog 39 #[valV g ad n cap, .iface 85 (.pointer (some ⟨q, 0, none⟩))] w fun e w' => e = .returned (.tuple #[zeroV, .bool false]) ∧ Keep0 w w' := by
  have KQ : Keep0 w (((w.alloc (.cells #[.int .i64 g, .slice ad n cap] 26)).alloc (.cells #[.int .i64 0, .slice none 0 0] 26)).alloc (.cells #[.pointer none] 80)) := by go_grown
  have p0 := (KQ.cell (p := ⟨q, 1, none⟩) (World.block_lt_of_cell? _ _ hq)).trans hq
  have p1 := (KQ.cell (p := ⟨q2, 1, none⟩) (World.block_lt_of_cell? _ _ hq2)).trans hq2
  go_enter Tryz.func39, Tryz.ntmps39
  go_wp2_with fail
  refine (as_part2 q q2 ⟨N, 0, none⟩ ⟨w.heap.size + 1 + 1, 0, none⟩ (.pointer none) _ (hv.keep (by go_grown)).et (by simp [go_sem]) (by simp [go_sem]) p0 p1).mono ?_
  rintro e w1 ⟨rfl, k1⟩
  have g1 : Keep0 w w1 := Below.trans (B := w.heap.size) (by go_grown) (k1.mono (by simp; omega))
  have s1 := k1.size
  simp at s1
  have c0 : w1.cell? ⟨w.heap.size + 1, 0, none⟩ = some (.int .i64 0) := by rw [k1.cell (by simp)]; simp [go_sem]
  have c1 : w1.cell? ⟨w.heap.size + 1, 1, none⟩ = some (.slice none 0 0) := by rw [k1.cell (by simp)]; simp [go_sem]
  have f0 : w1.frozen? ⟨w.heap.size + 1, 0, none⟩ = false := by rw [k1.frozen (by simp)]; simp [go_sem]
  have f1 : w1.frozen? ⟨w.heap.size + 1, 1, none⟩ = false := by rw [k1.frozen (by simp)]; simp [go_sem]
  clear k1
  have ka : Below w1.heap.size w1 (w1.alloc (.cells #[.int .i64 0, .slice none 0 0] 26)) := by go_grown
  have hb : w.heap.size + 1 < w1.heap.size := by omega
  have d0 : (w1.alloc (.cells #[.int .i64 0, .slice none 0 0] 26)).cell? ⟨w.heap.size + 1, 0, none⟩ = some (.int .i64 0) := by rw [ka.cell (by exact hb)]; exact c0
  have d1 : (w1.alloc (.cells #[.int .i64 0, .slice none 0 0] 26)).cell? ⟨w.heap.size + 1, 1, none⟩ = some (.slice none 0 0) := by rw [ka.cell (by exact hb)]; exact c1
  have e0 : (w1.alloc (.cells #[.int .i64 0, .slice none 0 0] 26)).frozen? ⟨w.heap.size + 1, 0, none⟩ = false := by rw [ka.frozen (by exact hb)]; exact f0
  have e1 : (w1.alloc (.cells #[.int .i64 0, .slice none 0 0] 26)).frozen? ⟨w.heap.size + 1, 1, none⟩ = false := by rw [ka.frozen (by exact hb)]; exact f1
  have q0 : ((w1.setCell ⟨w.heap.size + 1, 0, none⟩ (.int .i64 0)).setCell ⟨w.heap.size + 1, 1, none⟩ (.slice none 0 0)).cell? ⟨w.heap.size + 1, 0, none⟩ = some (.int .i64 0) := by
    rw [World.cell?_setCell_other _ _ _ _ (by simp), World.cell?_setCell_same _ _ _ c0]
  have q1 : ((w1.setCell ⟨w.heap.size + 1, 0, none⟩ (.int .i64 0)).setCell ⟨w.heap.size + 1, 1, none⟩ (.slice none 0 0)).cell? ⟨w.heap.size + 1, 1, none⟩ = some (.slice none 0 0) :=
    World.cell?_setCell_same _ _ _ (by rw [World.cell?_setCell_other _ _ _ _ (by simp)]; exact c1)
  have g2 : Keep0 w ((w1.setCell ⟨w.heap.size + 1, 0, none⟩ (.int .i64 0)).setCell ⟨w.heap.size + 1, 1, none⟩ (.slice none 0 0)) := (g1.setCell (by simp) _).setCell (by simp) _
  have hs2 : ((w1.setCell ⟨w.heap.size + 1, 0, none⟩ (.int .i64 0)).setCell ⟨w.heap.size + 1, 1, none⟩ (.slice none 0 0)).heap.size = w1.heap.size := by simp
  clear ka
  go_wp2
  generalize (w1.setCell ⟨w.heap.size + 1, 0, none⟩ (.int .i64 0)).setCell ⟨w.heap.size + 1, 1, none⟩ (.slice none 0 0) = w2 at *
  have kb : Below w2.heap.size w2 (w2.alloc (.cells #[.int .i64 0, .slice none 0 0] 26)) := by go_grown
  have r0 := (kb.cell (p := ⟨w.heap.size + 1, 0, none⟩) (by show w.heap.size + 1 < w2.heap.size; omega)).trans q0
  have r1 := (kb.cell (p := ⟨w.heap.size + 1, 1, none⟩) (by show w.heap.size + 1 < w2.heap.size; omega)).trans q1
  refine bodyPost_ret (v := .tuple #[zeroV, .bool false]) (by simp [results, Tryz.results39, go_sem, r0, r1]) rfl ?_
  exact ⟨rfl, Below.trans g2 (kb.mono g2.size)⟩
/-- A block of two cells that can be read and written. -/
structure Two (W : World) (b : Nat) (u0 u1 : Value) : Prop where
  c0 : W.cell? ⟨b, 0, none⟩ = some u0
  c1 : W.cell? ⟨b, 1, none⟩ = some u1
  f0 : W.frozen? ⟨b, 0, none⟩ = false
  f1 : W.frozen? ⟨b, 1, none⟩ = false
theorem Two.keep {W W' : World} {b B : Nat} {u0 u1 : Value} (h : Two W b u0 u1) (k : Below B W W') (hb : b < B) : Two W' b u0 u1 :=
  ⟨(k.cell (p := ⟨b, 0, none⟩) hb).trans h.c0, (k.cell (p := ⟨b, 1, none⟩) hb).trans h.c1, (k.frozen (p := ⟨b, 0, none⟩) hb).trans h.f0, (k.frozen (p := ⟨b, 1, none⟩) hb).trans h.f1⟩
theorem Two.lt {W : World} {b : Nat} {u0 u1 : Value} (h : Two W b u0 u1) : b < W.heap.size := World.block_lt_of_cell? _ _ h.c0
theorem Two.set {W : World} {b : Nat} {u0 u1 : Value} (h : Two W b u0 u1) (v0 v1 : Value) :
    ((W.setCell ⟨b, 0, none⟩ v0).setCell ⟨b, 1, none⟩ v1).cell? ⟨b, 0, none⟩ = some v0 ∧ ((W.setCell ⟨b, 0, none⟩ v0).setCell ⟨b, 1, none⟩ v1).cell? ⟨b, 1, none⟩ = some v1 :=
  ⟨by rw [World.cell?_setCell_other _ _ _ _ (by simp), World.cell?_setCell_same _ _ _ h.c0], World.cell?_setCell_same _ _ _ (by rw [World.cell?_setCell_other _ _ _ _ (by simp)]; exact h.c1)⟩
theorem Two.alloc {W : World} {b : Nat} {u0 u1 : Value} (h : Two W b u0 u1) (X : Obj) : Two (W.alloc X) b u0 u1 :=
  h.keep (B := W.heap.size) (by go_grown) h.lt
theorem cell_alloc {W : World} {a : Addr} {v : Value} (h : W.cell? a = some v) (X : Obj) : (W.alloc X).cell? a = some v := by rw [World.cell?_alloc_lt _ _ _ (World.block_lt_of_cell? _ _ h)]; exact h
/-- What the reader of values returns. -/
def ValRead (l : List UInt8) (w : World) (e : Ending) (w' : World) : Prop :=
  Keep0 w w' ∧ ((rvOk l = true ∧ ∃ rd rc, e = .returned (.tuple #[valV (rvDen l) rd (rvNums l).length rc, .nilIface]) ∧ Own w' w.heap.size rd rc (rvNums l)) ∨
    (rvOk l = false ∧ ((∃ N, e = .returned (.tuple #[zeroV, .iface 80 (.pointer (some ⟨N, 0, none⟩))])) ∨
      (∃ q N, e = .returned (.tuple #[zeroV, .iface 85 (.pointer (some ⟨q, 0, none⟩))]) ∧ w'.cell? ⟨q, 1, none⟩ = some (.iface 80 (.pointer (some ⟨N, 0, none⟩)))) ∨
      ∃ q q2 N, e = .returned (.tuple #[zeroV, .iface 85 (.pointer (some ⟨q, 0, none⟩))]) ∧ w'.cell? ⟨q, 1, none⟩ = some (.iface 85 (.pointer (some ⟨q2, 0, none⟩))) ∧ w'.cell? ⟨q2, 1, none⟩ = some (.iface 80 (.pointer (some ⟨N, 0, none⟩))))))
/-- What the reader of a denominator returns: the number ahead of the colon and what lies behind it. -/
def DenRead (l : List UInt8) (w : World) (e : Ending) (w' : World) : Prop :=
  Keep0 w w' ∧ (((Lib.cut l [58]).2.2 && rdOk (Lib.cut l [58]).1) = true ∧ e = .returned (.tuple #[.int .i64 (rdV (Lib.cut l [58]).1), .string ⟨(Lib.cut l [58]).2.1.toArray⟩, .nilIface]) ∨
    ((Lib.cut l [58]).2.2 && rdOk (Lib.cut l [58]).1) = false ∧ ((∃ N, e = .returned (.tuple #[.int .i64 0, .string ⟨#[]⟩, .iface 80 (.pointer (some ⟨N, 0, none⟩))])) ∨
      ∃ q N, e = .returned (.tuple #[.int .i64 0, .string ⟨#[]⟩, .iface 85 (.pointer (some ⟨q, 0, none⟩))]) ∧ w'.cell? ⟨q, 1, none⟩ = some (.iface 80 (.pointer (some ⟨N, 0, none⟩)))))
set_option maxHeartbeats 3200000 in
theorem readDen_any (s : ByteArray) (w : World) (m : Int) (hs : s.size ≤ 1048576) (hv : LibVars w) (hm : w.cell? ⟨1, 0, none⟩ = some (.int .i64 m)) :
    Calls Tryz.prog 59 #[.string s] w (DenRead s.data.toList w) := by
  have hcl := cut_len s.data.toList
  have hsl : s.data.toList.length = s.size := by simp
  have HC := Lib.hid (Tryz.strings_Cut s ⟨#[58]⟩ m w (by omega) hm)
  have HM := Lib.hid hm; clear hm
  have HV := Lib.hid hv; clear hv
  unfold DenRead
  change Hid (Calls Tryz.prog 77 #[.string s, .string ⟨#[58]⟩] _ fun e w' => e = .returned (.tuple #[.string ⟨(Lib.cut s.data.toList [58]).1.toArray⟩, .string ⟨(Lib.cut s.data.toList [58]).2.1.toArray⟩, .bool (Lib.cut s.data.toList [58]).2.2]) ∧ ∃ n, w' = World.drewN _ n) at HC
  generalize Lib.cut s.data.toList [58] = c at hcl HC
  obtain ⟨p, r, fd⟩ := c
  simp only at hcl HC ⊢
  go_enter Tryz.func59, Tryz.ntmps59
  go_wp2_with fail
  refine HC.out.mono ?_
  rintro e w1 ⟨rfl, n, rfl⟩
  have g1 : Keep0 w (w.drewN n) := below_drewN (Below.refl _ _) n
  clear HC
  generalize w.drewN n = w1 at *
  cases fd
  · go_wp2
    refine bodyPost_ret (v := .tuple #[.int .i64 0, .string ⟨#[]⟩, .iface 80 (.pointer (some ⟨w1.heap.size, 0, none⟩))]) (by simp [results, Tryz.results59, go_sem]) rfl ?_
    exact ⟨Keep.next g1 (by go_grown), .inr ⟨rfl, .inl ⟨_, rfl⟩⟩⟩
  have e1 : (⟨p.toArray⟩ : ByteArray).data.toList = p := by simp
  have z1 : (⟨p.toArray⟩ : ByteArray).size ≤ 1048576 := by show p.toArray.size ≤ _; simp; omega
  have HR1 := Lib.hid (readNumber_any ⟨p.toArray⟩ w1 z1 (HV.out.keep g1))
  rw [e1] at HR1
  clear e1 z1
  go_wp2_with fail
  refine HR1.out.mono ?_
  rintro e w2 ⟨k2, ⟨h1, rfl⟩ | ⟨h1, h2, N, rfl⟩⟩
  · have H1 := Lib.hid h1; clear h1
    have g2 : Keep0 w w2 := Keep.next g1 k2
    go_wp2
    refine bodyPost_ret (v := .tuple #[.int .i64 (rdV p), .string ⟨r.toArray⟩, .nilIface]) (by simp [results, Tryz.results59, go_sem]) rfl ?_
    exact ⟨g2, .inl ⟨by rw [H1.out]; rfl, rfl⟩⟩
  · have H1 := Lib.hid h1; clear h1 h2
    have g2 : Keep0 w w2 := Keep.next g1 k2
    have g3 : Keep0 w (w2.alloc (.cells #[.string ⟨p.toArray⟩, .iface 80 (.pointer (some ⟨N, 0, none⟩))] 87)) := Keep.next g2 (by go_grown)
    have HN2 : Hid ((w2.alloc (.cells #[.string ⟨p.toArray⟩, .iface 80 (.pointer (some ⟨N, 0, none⟩))] 87)).cell? ⟨w2.heap.size, 1, none⟩ = some (.iface 80 (.pointer (some ⟨N, 0, none⟩)))) := Lib.hid (by simp [go_sem])
    go_wp2
    refine bodyPost_ret (v := .tuple #[.int .i64 0, .string ⟨#[]⟩, .iface 85 (.pointer (some ⟨w2.heap.size, 0, none⟩))]) (by simp [results, Tryz.results59, go_sem]) rfl ?_
    exact ⟨g3, .inr ⟨by rw [H1.out]; rfl, .inr ⟨w2.heap.size, N, rfl, HN2.out⟩⟩⟩
set_option maxHeartbeats 3200000 in
theorem readFractions_any (s : ByteArray) (w : World) (m : Int) (hs : s.size ≤ 1048576) (hv : LibVars w) (hm : w.cell? ⟨1, 0, none⟩ = some (.int .i64 m)) :
    Calls Tryz.prog 40 #[.string s] w (ValRead s.data.toList w) := by
  have hcl := cut_len s.data.toList
  have hsl : s.data.toList.length = s.size := by simp
  have HOK : Hid (rvOk s.data.toList = ((Lib.cut s.data.toList [58]).2.2 && rdOk (Lib.cut s.data.toList [58]).1 && rdsOk (Lib.cut s.data.toList [58]).2.1 && okV (rdV (Lib.cut s.data.toList [58]).1) (rdsV (Lib.cut s.data.toList [58]).2.1))) := Lib.hid rfl
  have HDN : Hid (rvOk s.data.toList = true → rvDen s.data.toList = rdV (Lib.cut s.data.toList [58]).1 ∧ rvNums s.data.toList = rdsV (Lib.cut s.data.toList [58]).2.1) := Lib.hid (fun h => by unfold rvDen rvNums; rw [h]; exact ⟨rfl, rfl⟩)
  have hbl : Keep0 w (w.alloc (.cells #[.int .i64 0, .slice none 0 0] 26)) := by go_grown
  have HD0 := Lib.hid (readDen_any s (w.alloc (.cells #[.int .i64 0, .slice none 0 0] 26)) m hs (hv.keep hbl) (cell_alloc hm _))
  have T0 : Two (w.alloc (.cells #[.int .i64 0, .slice none 0 0] 26)) w.heap.size (.int .i64 0) (.slice none 0 0) := ⟨by simp, by simp, by simp, by simp⟩
  have HM := Lib.hid hm; clear hm
  have HV := Lib.hid hv; clear hv
  unfold ValRead
  unfold DenRead at HD0
  generalize Lib.cut s.data.toList [58] = c at hcl HOK HDN HD0
  obtain ⟨p, r, fd⟩ := c
  simp only at hcl HOK HDN HD0
  go_enter Tryz.func40, Tryz.ntmps40
  go_wp2_with fail
  refine HD0.out.mono ?_
  rintro e w2 ⟨k1, ⟨h1, rfl⟩ | ⟨h1, ⟨N, rfl⟩ | ⟨q, N, rfl, hq⟩⟩⟩
  case inr.inl =>
    have HNO : Hid (rvOk s.data.toList = false) := Lib.hid (by rw [HOK.out, h1]; rfl)
    have g2 : Keep0 w w2 := Keep.next hbl k1
    obtain ⟨c0, c1, f0, f1⟩ := T0.keep k1 (by simp)
    have qq := Two.set (Two.mk c0 c1 f0 f1) (.int .i64 0) (.slice none 0 0)
    have HQ0 := Lib.hid qq.1; have HQ1 := Lib.hid qq.2; clear qq
    have gs : Keep0 w ((w2.setCell ⟨w.heap.size, 0, none⟩ (.int .i64 0)).setCell ⟨w.heap.size, 1, none⟩ (.slice none 0 0)) := (g2.setCell (Nat.le_refl _) _).setCell (Nat.le_refl _) _
    clear h1
    go_wp2
    refine bodyPost_ret (v := .tuple #[zeroV, .iface 80 (.pointer (some ⟨N, 0, none⟩))]) (by simp [results, Tryz.results40, go_sem, HQ0.out, HQ1.out]) rfl ?_
    exact ⟨gs, .inr ⟨HNO.out, .inl ⟨N, rfl⟩⟩⟩
  case inr.inr =>
    have HNO : Hid (rvOk s.data.toList = false) := Lib.hid (by rw [HOK.out, h1]; rfl)
    have g2 : Keep0 w w2 := Keep.next hbl k1
    obtain ⟨c0, c1, f0, f1⟩ := T0.keep k1 (by simp)
    have qq := Two.set (Two.mk c0 c1 f0 f1) (.int .i64 0) (.slice none 0 0)
    have HQ0 := Lib.hid qq.1; have HQ1 := Lib.hid qq.2; clear qq
    have gs : Keep0 w ((w2.setCell ⟨w.heap.size, 0, none⟩ (.int .i64 0)).setCell ⟨w.heap.size, 1, none⟩ (.slice none 0 0)) := (g2.setCell (Nat.le_refl _) _).setCell (Nat.le_refl _) _
    have HQN : Hid (((w2.setCell ⟨w.heap.size, 0, none⟩ (.int .i64 0)).setCell ⟨w.heap.size, 1, none⟩ (.slice none 0 0)).cell? ⟨q, 1, none⟩ = some (.iface 80 (.pointer (some ⟨N, 0, none⟩)))) := Lib.hid (by
      by_cases hqw : q = w.heap.size
      · subst hqw; rw [c1] at hq; cases hq
      · rw [World.cell?_setCell_other _ _ _ _ (by simp), World.cell?_setCell_other _ _ _ _ (by simp)]; exact hq)
    clear h1 hq
    go_wp2
    refine bodyPost_ret (v := .tuple #[zeroV, .iface 85 (.pointer (some ⟨q, 0, none⟩))]) (by simp [results, Tryz.results40, go_sem, HQ0.out, HQ1.out]) rfl ?_
    exact ⟨gs, .inr ⟨HNO.out, .inr (.inl ⟨q, N, rfl, HQN.out⟩)⟩⟩
  have e2 : (⟨r.toArray⟩ : ByteArray).data.toList = r := by simp
  have z2 : (⟨r.toArray⟩ : ByteArray).size ≤ 1048576 := by show r.toArray.size ≤ _; simp; omega
  have HR2 := Lib.hid (fun W k => readNumbers_any ⟨r.toArray⟩ W m z2 (HV.out.keep k) ((k.cell (World.block_lt_of_cell? _ _ HM.out)).trans HM.out))
  rw [e2] at HR2
  clear e2 z2
  have hn1 := rdV_in64 p
  have hfd : fd = true ∧ rdOk p = true := by rw [Bool.and_eq_true] at h1; exact h1
  obtain ⟨rfl, h1⟩ := hfd
  have H1 := Lib.hid h1; clear h1
  have g2 : Keep0 w w2 := Keep.next hbl k1
  have T2 := T0.keep k1 (by simp)
  have l2 := T2.lt
  have hnum : In64 (rdV p) := hn1
  generalize rdV p = den at hn1 HOK HDN hnum
  go_wp2_with fail
  refine (HR2.out w2 g2).mono ?_
  rintro e w3 ⟨k3, ⟨h3, rd, rc, rfl, o3⟩ | ⟨h3, ⟨N, rfl⟩ | ⟨q, N, rfl, hq⟩⟩⟩
  case inr.inl =>
    have HNO : Hid (rvOk s.data.toList = false) := Lib.hid (by rw [HOK.out, h3]; simp)
    have g3 : Keep0 w w3 := Keep.next g2 k3
    obtain ⟨c0, c1, f0, f1⟩ := T2.keep k3 l2
    obtain ⟨d0, d1, e0, e1⟩ := (Two.mk c0 c1 f0 f1).alloc (.cells #[.string ⟨r.toArray⟩, .iface 80 (.pointer (some ⟨N, 0, none⟩))] 87)
    have qq := Two.set (Two.mk c0 c1 f0 f1) (.int .i64 0) (.slice none 0 0)
    have HQ0 := Lib.hid (fun X => cell_alloc qq.1 X); have HQ1 := Lib.hid (fun X => cell_alloc qq.2 X); clear qq
    have gs : Keep0 w ((w3.setCell ⟨w.heap.size, 0, none⟩ (.int .i64 0)).setCell ⟨w.heap.size, 1, none⟩ (.slice none 0 0)) := (g3.setCell (Nat.le_refl _) _).setCell (Nat.le_refl _) _
    have gw : Keep0 w (((w3.setCell ⟨w.heap.size, 0, none⟩ (.int .i64 0)).setCell ⟨w.heap.size, 1, none⟩ (.slice none 0 0)).alloc (.cells #[.string ⟨r.toArray⟩, .iface 80 (.pointer (some ⟨N, 0, none⟩))] 87)) := Below.trans gs (Below.mono (B := ((w3.setCell ⟨w.heap.size, 0, none⟩ (.int .i64 0)).setCell ⟨w.heap.size, 1, none⟩ (.slice none 0 0)).heap.size) (by go_grown) gs.size)
    have lw := World.block_lt_of_cell? _ _ c0
    have HN2 : Hid ((((w3.setCell ⟨w.heap.size, 0, none⟩ (.int .i64 0)).setCell ⟨w.heap.size, 1, none⟩ (.slice none 0 0)).alloc (.cells #[.string ⟨r.toArray⟩, .iface 80 (.pointer (some ⟨N, 0, none⟩))] 87)).cell? ⟨w3.heap.size, 1, none⟩ = some (.iface 80 (.pointer (some ⟨N, 0, none⟩)))) := Lib.hid (by
      simp [go_sem])
    clear h3
    go_wp2
    refine bodyPost_ret (v := .tuple #[zeroV, .iface 85 (.pointer (some ⟨w3.heap.size, 0, none⟩))]) (by simp [results, Tryz.results40, go_sem, HQ0.out, HQ1.out]) rfl ?_
    exact ⟨gw, .inr ⟨HNO.out, .inr (.inl ⟨w3.heap.size, N, rfl, HN2.out⟩)⟩⟩
  case inr.inr =>
    have HNO : Hid (rvOk s.data.toList = false) := Lib.hid (by rw [HOK.out, h3]; simp)
    have g3 : Keep0 w w3 := Keep.next g2 k3
    obtain ⟨c0, c1, f0, f1⟩ := T2.keep k3 l2
    obtain ⟨d0, d1, e0, e1⟩ := (Two.mk c0 c1 f0 f1).alloc (.cells #[.string ⟨r.toArray⟩, .iface 85 (.pointer (some ⟨q, 0, none⟩))] 87)
    have qq := Two.set (Two.mk c0 c1 f0 f1) (.int .i64 0) (.slice none 0 0)
    have HQ0 := Lib.hid (fun X => cell_alloc qq.1 X); have HQ1 := Lib.hid (fun X => cell_alloc qq.2 X); clear qq
    have gs : Keep0 w ((w3.setCell ⟨w.heap.size, 0, none⟩ (.int .i64 0)).setCell ⟨w.heap.size, 1, none⟩ (.slice none 0 0)) := (g3.setCell (Nat.le_refl _) _).setCell (Nat.le_refl _) _
    have gw : Keep0 w (((w3.setCell ⟨w.heap.size, 0, none⟩ (.int .i64 0)).setCell ⟨w.heap.size, 1, none⟩ (.slice none 0 0)).alloc (.cells #[.string ⟨r.toArray⟩, .iface 85 (.pointer (some ⟨q, 0, none⟩))] 87)) := Below.trans gs (Below.mono (B := ((w3.setCell ⟨w.heap.size, 0, none⟩ (.int .i64 0)).setCell ⟨w.heap.size, 1, none⟩ (.slice none 0 0)).heap.size) (by go_grown) gs.size)
    have lw := World.block_lt_of_cell? _ _ c0
    have HN2 : Hid ((((w3.setCell ⟨w.heap.size, 0, none⟩ (.int .i64 0)).setCell ⟨w.heap.size, 1, none⟩ (.slice none 0 0)).alloc (.cells #[.string ⟨r.toArray⟩, .iface 85 (.pointer (some ⟨q, 0, none⟩))] 87)).cell? ⟨w3.heap.size, 1, none⟩ = some (.iface 85 (.pointer (some ⟨q, 0, none⟩)))) := Lib.hid (by
      simp [go_sem])
    have HQN : Hid ((((w3.setCell ⟨w.heap.size, 0, none⟩ (.int .i64 0)).setCell ⟨w.heap.size, 1, none⟩ (.slice none 0 0)).alloc (.cells #[.string ⟨r.toArray⟩, .iface 85 (.pointer (some ⟨q, 0, none⟩))] 87)).cell? ⟨q, 1, none⟩ = some (.iface 80 (.pointer (some ⟨N, 0, none⟩)))) := Lib.hid (by
      by_cases hqw : q = w.heap.size
      · subst hqw; rw [c1] at hq; cases hq
      · exact cell_alloc (by rw [World.cell?_setCell_other _ _ _ _ (by simp), World.cell?_setCell_other _ _ _ _ (by simp)]; exact hq) _)
    clear h3 hq
    go_wp2
    refine bodyPost_ret (v := .tuple #[zeroV, .iface 85 (.pointer (some ⟨w3.heap.size, 0, none⟩))]) (by simp [results, Tryz.results40, go_sem, HQ0.out, HQ1.out]) rfl ?_
    exact ⟨gw, .inr ⟨HNO.out, .inr (.inr ⟨w3.heap.size, q, N, rfl, HN2.out, HQN.out⟩)⟩⟩
  have H3 := Lib.hid h3; clear h3
  have g3 : Keep0 w w3 := Keep.next g2 k3
  obtain ⟨c0, c1, f0, f1⟩ := T2.keep k3 l2
  have i3 := o3.ints
  have HO3 := Lib.hid o3; clear o3
  go_wp2_with fail
  have k4a : Below w3.heap.size w3 (w3.alloc (.cells #[.int .i64 den, .slice rd (rdsV r).length rc] 26)) := by go_grown
  have B4 : Two (w3.alloc (.cells #[.int .i64 den, .slice rd (rdsV r).length rc] 26)) w3.heap.size (.int .i64 den) (.slice rd (rdsV r).length rc) := ⟨by simp, by simp, by simp, by simp⟩
  have T4 := (Two.mk c0 c1 f0 f1).alloc (.cells #[.int .i64 den, .slice rd (rdsV r).length rc] 26)
  have g4a : Keep0 w (w3.alloc (.cells #[.int .i64 den, .slice rd (rdsV r).length rc] 26)) := Below.trans g3 (k4a.mono g3.size)
  have l4 := T4.lt; have m4 := B4.lt
  have lw := World.block_lt_of_cell? _ _ c0
  have i4 := i3.keep k4a (Nat.le_refl _)
  have HO4 : Hid (Own (w3.alloc (.cells #[.int .i64 den, .slice rd (rdsV r).length rc] 26)) w2.heap.size rd rc (rdsV r)) := Lib.hid (HO3.out.keep k4a)
  have s23 := k3.size
  have s2 := g2.size
  clear HO3 c0 c1 f0 f1 k4a i3 k3
  generalize w3.alloc (.cells #[.int .i64 den, .slice rd (rdsV r).length rc] 26) = w4 at *
  refine (ValidValues_any den rd rc (rdsV r) w4 i4).mono ?_
  rintro e w5 ⟨rfl, k5⟩
  have g5 : Keep0 w w5 := Keep.next g4a k5
  obtain ⟨c0, c1, f0, f1⟩ := T4.keep k5 l4
  obtain ⟨b0, b1, _, _⟩ := B4.keep k5 m4
  have HO5 : Hid (Own w5 w2.heap.size rd rc (rdsV r)) := Lib.hid (HO4.out.keep k5)
  clear k5 HO4 i4 T4 B4
  cases hok : okV den (rdsV r)
  · have HNO : Hid (rvOk s.data.toList = false) := Lib.hid (by rw [HOK.out, hok]; simp)
    have q := Two.set (Two.mk c0 c1 f0 f1) (.int .i64 0) (.slice none 0 0)
    have HQ0 := Lib.hid (fun X => cell_alloc q.1 X); have HQ1 := Lib.hid (fun X => cell_alloc q.2 X)
    have g6 : Keep0 w ((w5.setCell ⟨w.heap.size, 0, none⟩ (.int .i64 0)).setCell ⟨w.heap.size, 1, none⟩ (.slice none 0 0)) := (g5.setCell (Nat.le_refl _) _).setCell (Nat.le_refl _) _
    have lw5 := World.block_lt_of_cell? _ _ c0
    obtain ⟨d0, d1, e0, e1⟩ := (Two.mk c0 c1 f0 f1).alloc (.cells #[.string ⟨#[118, 97, 108, 117, 101, 115, 32, 116, 104, 97, 116, 32, 97, 114, 101, 32, 110, 111, 116, 32, 118, 97, 108, 105, 100]⟩] 89)
    clear q hok
    go_wp2
    refine bodyPost_ret (v := .tuple #[zeroV, .iface 80 (.pointer (some ⟨w5.heap.size, 0, none⟩))]) (by simp [results, Tryz.results40, go_sem, HQ0.out, HQ1.out]) rfl ?_
    exact ⟨Below.trans g6 (by go_grown), .inr ⟨HNO.out, .inl ⟨_, rfl⟩⟩⟩
  · have HYES : Hid (rvOk s.data.toList = true) := Lib.hid (by rw [HOK.out, hok, H1.out, H3.out]; rfl)
    obtain ⟨y1, y2⟩ := HDN.out HYES.out
    have q := Two.set (Two.mk c0 c1 f0 f1) (.int .i64 den) (.slice rd (rdsV r).length rc)
    have HQ0 := Lib.hid q.1; have HQ1 := Lib.hid q.2
    have g6 : Keep0 w ((w5.setCell ⟨w.heap.size, 0, none⟩ (.int .i64 den)).setCell ⟨w.heap.size, 1, none⟩ (.slice rd (rdsV r).length rc)) := (g5.setCell (Nat.le_refl _) _).setCell (Nat.le_refl _) _
    have HO6 : Hid (Own ((w5.setCell ⟨w.heap.size, 0, none⟩ (.int .i64 den)).setCell ⟨w.heap.size, 1, none⟩ (.slice rd (rdsV r).length rc)) w.heap.size rd rc (rdsV r)) := Lib.hid (by
      have h := HO5.out
      rcases own_block h.1 with ⟨rfl, e0, rfl⟩ | ⟨k, rfl, hk, _⟩
      · have e := List.eq_nil_of_length_eq_zero e0
        rw [e]; exact Own.nil _ _
      · exact ((h.set (by show w.heap.size ≠ k; omega) _).set (by show w.heap.size ≠ k; omega) _).mono (by omega))
    have Y := Lib.hid (And.intro y1 y2); clear y1 y2
    clear q hok
    go_wp2
    refine bodyPost_ret (v := .tuple #[valV den rd (rdsV r).length rc, .nilIface]) (by simp [results, Tryz.results40, go_sem, HQ0.out, HQ1.out]) rfl ?_
    refine ⟨g6, .inl ⟨HYES.out, rd, rc, ?_, ?_⟩⟩
    · rw [Y.out.1, Y.out.2]
    · rw [Y.out.2]; exact HO6.out
set_option maxHeartbeats 1600000 in
theorem ReadValues_any (s : ByteArray) (w : World) (m : Int) (hs : s.size ≤ 1048576) (hv : LibVars w) (hm : w.cell? ⟨1, 0, none⟩ = some (.int .i64 m)) :
    Calls Tryz.prog 12 #[.string s] w fun e w' => ∃ rd rc, e = .returned (.tuple #[valV (rvDen s.data.toList) rd (rvNums s.data.toList).length rc, .bool (rvOk s.data.toList)]) ∧ Own w' w.heap.size rd rc (rvNums s.data.toList) ∧ Keep w w' := by
  have k0 : Below w.heap.size w (w.alloc (.cells #[.int .i64 0, .slice none 0 0] 26)) := by go_grown
  have T0 : Two (w.alloc (.cells #[.int .i64 0, .slice none 0 0] 26)) w.heap.size (.int .i64 0) (.slice none 0 0) := ⟨by simp, by simp, by simp, by simp⟩
  have hz0 : (w.alloc (.cells #[.int .i64 0, .slice none 0 0] 26)).heap.size = w.heap.size + 1 := by simp
  have HR := Lib.hid (readFractions_any s _ m hs (hv.keep k0) (cell_alloc hm (.cells #[.int .i64 0, .slice none 0 0] 26)))
  have HV := Lib.hid (hv.keep k0)
  clear hv hm
  go_enter Tryz.func12, Tryz.ntmps12
  go_wp2_with fail
  generalize w.alloc (.cells #[.int .i64 0, .slice none 0 0] 26) = w0 at *
  have l0 := T0.lt
  refine HR.out.mono ?_
  rintro e w1 ⟨k1, hh⟩
  have g1 : Keep w w1 := Below.trans k0 (k1.mono k0.size)
  have T1 := T0.keep k1 l0
  have l1 := T1.lt
  rcases hh with ⟨h1, rd, rc, rfl, o1⟩ | ⟨h1, hh⟩
  · have HO := Lib.hid o1; clear o1
    have H1 := Lib.hid h1; clear h1
    go_wp2_with fail
    refine (outcomeV_yes _ _ _ _ _).mono ?_
    rintro e w2 ⟨rfl, k2⟩
    have g2 : Keep w w2 := Keep.next g1 k2
    obtain ⟨c0, c1, f0, f1⟩ := T1.keep k2 l1
    have q := Two.set (Two.mk c0 c1 f0 f1) (.int .i64 (rvDen s.data.toList)) (.slice rd (rvNums s.data.toList).length rc)
    have HQ0 := Lib.hid q.1; have HQ1 := Lib.hid q.2
    have g3 : Keep w ((w2.setCell ⟨w.heap.size, 0, none⟩ (.int .i64 (rvDen s.data.toList))).setCell ⟨w.heap.size, 1, none⟩ (.slice rd (rvNums s.data.toList).length rc)) := (g2.setCell (Nat.le_refl _) _).setCell (Nat.le_refl _) _
    have HO2 : Hid (Own ((w2.setCell ⟨w.heap.size, 0, none⟩ (.int .i64 (rvDen s.data.toList))).setCell ⟨w.heap.size, 1, none⟩ (.slice rd (rvNums s.data.toList).length rc)) w.heap.size rd rc (rvNums s.data.toList)) := Lib.hid (by
      have h := HO.out.keep k2
      rcases own_block h.1 with ⟨rfl, e0, rfl⟩ | ⟨k, rfl, hk, _⟩
      · have e := List.eq_nil_of_length_eq_zero e0
        rw [e]; exact Own.nil _ _
      · exact ((h.set (by show w.heap.size ≠ k; omega) _).set (by show w.heap.size ≠ k; omega) _).mono (by omega))
    clear q k2
    go_wp2
    refine bodyPost_ret (v := .tuple #[valV (rvDen s.data.toList) rd (rvNums s.data.toList).length rc, .bool true]) (by simp [results, Tryz.results12, go_sem, HQ0.out, HQ1.out]) rfl ?_
    exact ⟨rd, rc, by rw [H1.out], HO2.out, g3⟩
  · have H1 := Lib.hid h1; clear h1
    have H2 := Lib.hid (rv_no H1.out)
    have HF : Hid (∃ v, e = .returned (.tuple #[zeroV, v]) ∧ Calls Tryz.prog 39 #[zeroV, v] w1 fun e w' => e = .returned (.tuple #[zeroV, .bool false]) ∧ Keep0 w1 w') := Lib.hid (by
      rcases hh with ⟨N, rfl⟩ | ⟨q, N, rfl, hq⟩ | ⟨q, q2, N, rfl, hq, hq2⟩
      · exact ⟨_, rfl, outcomeV_no0 _ _ _ _ _ _ (HV.out.keep k1)⟩
      · exact ⟨_, rfl, outcomeV_no1 _ _ _ _ _ _ _ (HV.out.keep k1) hq⟩
      · exact ⟨_, rfl, outcomeV_no2 _ _ _ _ _ _ _ _ (HV.out.keep k1) hq hq2⟩)
    clear hh
    obtain ⟨v, rfl, hcall⟩ := HF.out
    have HCALL := Lib.hid hcall; clear hcall HF
    go_wp2_with fail
    refine HCALL.out.mono ?_
    rintro e w2 ⟨rfl, k2⟩
    have g2 : Keep w w2 := Keep.next g1 k2
    obtain ⟨c0, c1, f0, f1⟩ := T1.keep k2 l1
    have q := Two.set (Two.mk c0 c1 f0 f1) (.int .i64 0) (.slice none 0 0)
    have HQ0 := Lib.hid q.1; have HQ1 := Lib.hid q.2
    have g3 : Keep w ((w2.setCell ⟨w.heap.size, 0, none⟩ (.int .i64 0)).setCell ⟨w.heap.size, 1, none⟩ (.slice none 0 0)) := (g2.setCell (Nat.le_refl _) _).setCell (Nat.le_refl _) _
    clear q k2 HCALL
    go_wp2
    refine bodyPost_ret (v := .tuple #[zeroV, .bool false]) (by simp [results, Tryz.results12, go_sem, HQ0.out, HQ1.out]) rfl ?_
    exact ⟨none, 0, by rw [H1.out, H2.out.1, H2.out.2]; rfl, by rw [H2.out.2]; exact Own.nil _ _, g3⟩
end Go.Proofs.YtpdcmhnaedhkdaaGreatDoor
