/- errors.As with a target of type **fault: at a *fault in a *partFault, and in one more. -/
import Derived.Test.YtpdcmhnaedhkdaaGreatDoorAs
namespace Go.Proofs.YtpdcmhnaedhkdaaGreatDoor
open Go.RowKit Go.Extern.Stop Go.Stop Go.Extern
set_option linter.unusedVariables false
theorem q_typeOfP (v : Value) (w : World) : (ReflectliteType.typeOf #[.iface 85 v]).run Tryz.prog w = .ok (.iface 132 (.agg #[th 85])) w := by kernel_rfl
theorem q_asgnP (w : World) : (ReflectliteType.relation "AssignableTo" ReflectliteType.assignableTo #[.agg #[th 85], .iface 132 (.agg #[th 80])]).run Tryz.prog w = .ok (.bool false) w := by kernel_rfl
theorem q_noAs (v : Value) (xT : TypeId) (w : World) : (Instr.typeAssert (.iface 85 v) xT 137 true).run Tryz.prog w = .ok (.tuple #[.nilIface, .bool false]) w := run_typeAssert_lacksB Tryz.underlying137 (by kernel_rfl) (by kernel_rfl) v xT w
theorem q_hasUn (v : Value) (xT : TypeId) (w : World) : (Instr.typeAssert (.iface 85 v) xT 140 true).run Tryz.prog w = .ok (.tuple #[.iface 85 v, .bool true]) w := run_typeAssert_hasB Tryz.underlying140 (by kernel_rfl) v xT w
theorem q_mUnwrap (p : Addr) (w : World) : (Go.method 308 85 (.pointer (some p)) "Unwrap").run Tryz.prog w = .ok (146, .pointer (some p)) w := by kernel_rfl
set_option maxHeartbeats 4000000 in
set_option maxRecDepth 100000 in
/-- The error is itself what the target wants: true; new blocks; the target is set. -/
theorem as_part1 (q0 : Nat) (e t : Addr) (old : Value) (w : World) (hg : w.cell? ⟨0, 0, none⟩ = some (.iface 132 (.agg #[th 61]))) (ht0 : w.cell? t = some old) (hf0 : w.frozen? t = false) (hp0 : w.cell? ⟨q0, 1, none⟩ = some (.iface 80 (.pointer (some e)))) :
    Calls Tryz.prog 58 #[.iface 85 (.pointer (some ⟨q0, 0, none⟩)), .iface 82 (.pointer (some t))] w fun ev w' => ev = .returned (.bool true) ∧ Below t.block w w' := by
  have x1 := @run_callFunc_extern Tryz.prog 73 _ (fun args => ReflectliteValue.unpack (args.getD 0 (.tuple #[]))) Tryz.func73 (by kernel_rfl) (by kernel_rfl) (by kernel_rfl) (by kernel_rfl)
  have x2 := @run_callFunc_extern Tryz.prog 74 _ (ReflectliteValue.methodAny (ReflectliteValue.valueError "reflectlite.Value.Type" 0) (fun t _ _ _ => ReflectliteType.toType t)) Tryz.func74 (by kernel_rfl) (by kernel_rfl) (by kernel_rfl) (by kernel_rfl)
  have x3 := @run_callFunc_extern Tryz.prog 75 _ (ReflectliteValue.method (ReflectliteValue.valueError "reflectlite.Value.IsNil" 0) ReflectliteValue.isNil) Tryz.func75 (by kernel_rfl) (by kernel_rfl) (by kernel_rfl) (by kernel_rfl)
  have x4 := @run_callFunc_extern Tryz.prog 141 _ (ReflectliteType.abiMethod fun t => do pure (.int .u8 (← Rtype.kind t))) Tryz.func141 (by kernel_rfl) (by kernel_rfl) (by kernel_rfl) (by kernel_rfl)
  have x5 := @run_callFunc_extern Tryz.prog 154 _ (ReflectliteType.method ReflectliteType.elem) Tryz.func154 (by kernel_rfl) (by kernel_rfl) (by kernel_rfl) (by kernel_rfl)
  have x6 := @run_callFunc_extern Tryz.prog 155 _ (ReflectliteType.relation "Implements" ReflectliteType.implements_) Tryz.func155 (by kernel_rfl) (by kernel_rfl) (by kernel_rfl) (by kernel_rfl)
  have x7 := @run_callFunc_extern Tryz.prog 92 _ ReflectliteType.typeOf Tryz.func92 (by kernel_rfl) (by kernel_rfl) (by kernel_rfl) (by kernel_rfl)
  have x8 := @run_callFunc_extern Tryz.prog 152 _ (ReflectliteType.relation "AssignableTo" ReflectliteType.assignableTo) Tryz.func152 (by kernel_rfl) (by kernel_rfl) (by kernel_rfl) (by kernel_rfl)
  have x9 := @run_callFunc_extern Tryz.prog 93 _ (ReflectliteValue.method (ReflectliteValue.valueError "reflectlite.Value.Elem" 0) ReflectliteValue.elem) Tryz.func93 (by kernel_rfl) (by kernel_rfl) (by kernel_rfl) (by kernel_rfl)
  have x10 := @run_callFunc_extern Tryz.prog 94 _ ReflectliteValue.set Tryz.func94 (by kernel_rfl) (by kernel_rfl) (by kernel_rfl) (by kernel_rfl)
  have y1 := q_valueOf2; have y2 := q_valueOf1; have y3 := q_type2; have y4 := q_mKind; have y5 := q_mElem; have y6 := q_mImpl; have y7 := q_mAsgn
  have y8 := q_kind2; have y9 := q_kind1; have y10 := q_elem2; have y11 := q_impl1; have y12 := q_typeOf1; have y13 := q_asgn1
  have v1 := q_typeOfP; have v2 := q_asgnP; have v3 := q_noAs; have v4 := q_hasUn; have v5 := q_mUnwrap
  have hpl0 := World.block_lt_of_cell? _ _ hp0
  have hgl := World.block_lt_of_cell? _ _ hg
  have htl := World.block_lt_of_cell? _ _ ht0
  let o1 : Obj := .cells #[.pointer (some t)] 82
  let o2 : Obj := .cells #[th 82, .pointer (some ⟨w.heap.size, 0, none⟩), .int .u64 150] 107
  let o4 : Obj := .cells #[.pointer (some e)] 80
  have z3 := q_isNil2 ⟨w.heap.size, 0, none⟩ t ((w.alloc o1).alloc o2) (by simp [o1, o2])
  have hg2 : ((w.alloc o1).alloc o2).cell? ⟨0, 0, none⟩ = some (.iface 132 (.agg #[th 61])) := by
    rw [World.cell?_alloc_lt _ _ _ (by show _ < _; simp <;> omega), World.cell?_alloc_lt _ _ _ hgl]; exact hg
  have z9 := q_elemV2 ⟨w.heap.size, 0, none⟩ t (((w.alloc o1).alloc o2).alloc o2) (by rw [World.cell?_alloc_lt _ _ ⟨w.heap.size, 0, none⟩ (by simp <;> omega)]; simp [o1, o2])
  have z10 := q_set1 t ⟨w.heap.size + 1 + 1 + 1, 0, none⟩ e old ((((w.alloc o1).alloc o2).alloc o2).alloc o4)
    (by rw [World.cell?_alloc_at _ _ _ _ (by simp)]; rfl)
    (by rw [World.cell?_alloc_lt _ _ t (by simp; omega), World.cell?_alloc_lt _ _ t (by simp; omega), World.cell?_alloc_lt _ _ t (by simp; omega), World.cell?_alloc_lt _ _ t htl]; exact ht0)
    (by rw [World.frozen?_alloc_old _ _ t (by simp; omega), World.frozen?_alloc_old _ _ t (by simp; omega), World.frozen?_alloc_old _ _ t (by simp; omega), World.frozen?_alloc_old _ _ t (Nat.ne_of_lt htl)]; exact hf0)
  have hq0 : (((w.alloc o1).alloc o2).alloc o2).cell? ⟨q0, 1, none⟩ = w.cell? ⟨q0, 1, none⟩ := by
    rw [World.cell?_alloc_lt _ _ _ (by simp at hpl0 ⊢ <;> omega), World.cell?_alloc_lt _ _ _ (by simp at hpl0 ⊢ <;> omega), World.cell?_alloc_lt _ _ _ hpl0]
  rw [hp0] at hq0
  simp only [o1, o2, o4] at z3 hg2 z9 z10 hq0
  go_enter Tryz.func58, Tryz.ntmps58
  go_wp2
  refine wp_loop_rounds 2 ?_
  rw [rounds_succ]
  go_wp2
  rw [rounds_succ]
  go_wp2
  go_ret
  exact ⟨rfl, by go_grown⟩
set_option maxHeartbeats 4000000 in
set_option maxRecDepth 100000 in
/-- The error is itself what the target wants: true; new blocks; the target is set. -/
theorem as_part2 (q0 q1 : Nat) (e t : Addr) (old : Value) (w : World) (hg : w.cell? ⟨0, 0, none⟩ = some (.iface 132 (.agg #[th 61]))) (ht0 : w.cell? t = some old) (hf0 : w.frozen? t = false) (hp0 : w.cell? ⟨q0, 1, none⟩ = some (.iface 85 (.pointer (some ⟨q1, 0, none⟩)))) (hp1 : w.cell? ⟨q1, 1, none⟩ = some (.iface 80 (.pointer (some e)))) :
    Calls Tryz.prog 58 #[.iface 85 (.pointer (some ⟨q0, 0, none⟩)), .iface 82 (.pointer (some t))] w fun ev w' => ev = .returned (.bool true) ∧ Below t.block w w' := by
  have x1 := @run_callFunc_extern Tryz.prog 73 _ (fun args => ReflectliteValue.unpack (args.getD 0 (.tuple #[]))) Tryz.func73 (by kernel_rfl) (by kernel_rfl) (by kernel_rfl) (by kernel_rfl)
  have x2 := @run_callFunc_extern Tryz.prog 74 _ (ReflectliteValue.methodAny (ReflectliteValue.valueError "reflectlite.Value.Type" 0) (fun t _ _ _ => ReflectliteType.toType t)) Tryz.func74 (by kernel_rfl) (by kernel_rfl) (by kernel_rfl) (by kernel_rfl)
  have x3 := @run_callFunc_extern Tryz.prog 75 _ (ReflectliteValue.method (ReflectliteValue.valueError "reflectlite.Value.IsNil" 0) ReflectliteValue.isNil) Tryz.func75 (by kernel_rfl) (by kernel_rfl) (by kernel_rfl) (by kernel_rfl)
  have x4 := @run_callFunc_extern Tryz.prog 141 _ (ReflectliteType.abiMethod fun t => do pure (.int .u8 (← Rtype.kind t))) Tryz.func141 (by kernel_rfl) (by kernel_rfl) (by kernel_rfl) (by kernel_rfl)
  have x5 := @run_callFunc_extern Tryz.prog 154 _ (ReflectliteType.method ReflectliteType.elem) Tryz.func154 (by kernel_rfl) (by kernel_rfl) (by kernel_rfl) (by kernel_rfl)
  have x6 := @run_callFunc_extern Tryz.prog 155 _ (ReflectliteType.relation "Implements" ReflectliteType.implements_) Tryz.func155 (by kernel_rfl) (by kernel_rfl) (by kernel_rfl) (by kernel_rfl)
  have x7 := @run_callFunc_extern Tryz.prog 92 _ ReflectliteType.typeOf Tryz.func92 (by kernel_rfl) (by kernel_rfl) (by kernel_rfl) (by kernel_rfl)
  have x8 := @run_callFunc_extern Tryz.prog 152 _ (ReflectliteType.relation "AssignableTo" ReflectliteType.assignableTo) Tryz.func152 (by kernel_rfl) (by kernel_rfl) (by kernel_rfl) (by kernel_rfl)
  have x9 := @run_callFunc_extern Tryz.prog 93 _ (ReflectliteValue.method (ReflectliteValue.valueError "reflectlite.Value.Elem" 0) ReflectliteValue.elem) Tryz.func93 (by kernel_rfl) (by kernel_rfl) (by kernel_rfl) (by kernel_rfl)
  have x10 := @run_callFunc_extern Tryz.prog 94 _ ReflectliteValue.set Tryz.func94 (by kernel_rfl) (by kernel_rfl) (by kernel_rfl) (by kernel_rfl)
  have y1 := q_valueOf2; have y2 := q_valueOf1; have y3 := q_type2; have y4 := q_mKind; have y5 := q_mElem; have y6 := q_mImpl; have y7 := q_mAsgn
  have y8 := q_kind2; have y9 := q_kind1; have y10 := q_elem2; have y11 := q_impl1; have y12 := q_typeOf1; have y13 := q_asgn1
  have v1 := q_typeOfP; have v2 := q_asgnP; have v3 := q_noAs; have v4 := q_hasUn; have v5 := q_mUnwrap
  have hpl0 := World.block_lt_of_cell? _ _ hp0
  have hpl1 := World.block_lt_of_cell? _ _ hp1
  have hgl := World.block_lt_of_cell? _ _ hg
  have htl := World.block_lt_of_cell? _ _ ht0
  let o1 : Obj := .cells #[.pointer (some t)] 82
  let o2 : Obj := .cells #[th 82, .pointer (some ⟨w.heap.size, 0, none⟩), .int .u64 150] 107
  let o4 : Obj := .cells #[.pointer (some e)] 80
  have z3 := q_isNil2 ⟨w.heap.size, 0, none⟩ t ((w.alloc o1).alloc o2) (by simp [o1, o2])
  have hg2 : ((w.alloc o1).alloc o2).cell? ⟨0, 0, none⟩ = some (.iface 132 (.agg #[th 61])) := by
    rw [World.cell?_alloc_lt _ _ _ (by show _ < _; simp <;> omega), World.cell?_alloc_lt _ _ _ hgl]; exact hg
  have z9 := q_elemV2 ⟨w.heap.size, 0, none⟩ t (((w.alloc o1).alloc o2).alloc o2) (by rw [World.cell?_alloc_lt _ _ ⟨w.heap.size, 0, none⟩ (by simp <;> omega)]; simp [o1, o2])
  have z10 := q_set1 t ⟨w.heap.size + 1 + 1 + 1, 0, none⟩ e old ((((w.alloc o1).alloc o2).alloc o2).alloc o4)
    (by rw [World.cell?_alloc_at _ _ _ _ (by simp)]; rfl)
    (by rw [World.cell?_alloc_lt _ _ t (by simp; omega), World.cell?_alloc_lt _ _ t (by simp; omega), World.cell?_alloc_lt _ _ t (by simp; omega), World.cell?_alloc_lt _ _ t htl]; exact ht0)
    (by rw [World.frozen?_alloc_old _ _ t (by simp; omega), World.frozen?_alloc_old _ _ t (by simp; omega), World.frozen?_alloc_old _ _ t (by simp; omega), World.frozen?_alloc_old _ _ t (Nat.ne_of_lt htl)]; exact hf0)
  have hq0 : (((w.alloc o1).alloc o2).alloc o2).cell? ⟨q0, 1, none⟩ = w.cell? ⟨q0, 1, none⟩ := by
    rw [World.cell?_alloc_lt _ _ _ (by simp at hpl0 ⊢ <;> omega), World.cell?_alloc_lt _ _ _ (by simp at hpl0 ⊢ <;> omega), World.cell?_alloc_lt _ _ _ hpl0]
  rw [hp0] at hq0
  have hq1 : (((w.alloc o1).alloc o2).alloc o2).cell? ⟨q1, 1, none⟩ = w.cell? ⟨q1, 1, none⟩ := by
    rw [World.cell?_alloc_lt _ _ _ (by simp at hpl1 ⊢ <;> omega), World.cell?_alloc_lt _ _ _ (by simp at hpl1 ⊢ <;> omega), World.cell?_alloc_lt _ _ _ hpl1]
  rw [hp1] at hq1
  simp only [o1, o2, o4] at z3 hg2 z9 z10 hq0 hq1
  go_enter Tryz.func58, Tryz.ntmps58
  go_wp2
  refine wp_loop_rounds 3 ?_
  rw [rounds_succ]
  go_wp2
  rw [rounds_succ]
  go_wp2
  rw [rounds_succ]
  go_wp2
  go_ret
  exact ⟨rfl, by go_grown⟩
end Go.Proofs.YtpdcmhnaedhkdaaGreatDoor
