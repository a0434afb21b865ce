/- errors.As with a target of type **fault: at a nil error, and at an error that is a *fault itself. -/
import Derived.Test.YtpdcmhnaedhkdaaGreatDoorPlain
import Derived.LaidEql
import Derived.Stop.Asserts
import Derived.RowKitTokens
import Derived.Laws.NewBlocks
namespace Go.Proofs.YtpdcmhnaedhkdaaGreatDoor
open Go.RowKit Go.Extern.Stop Go.Stop Go.Extern
set_option linter.unusedVariables false

theorem as_none (t : Value) (w : World) : Calls Tryz.prog 58 #[.nilIface, t] w fun e w' => e = .returned (.bool false) ∧ w = w' := by
  go_enter Tryz.func58, Tryz.ntmps58
  go_wp2
  go_ret
  exact ⟨rfl, rfl⟩
/-- The handle of a type. -/
abbrev th (t : Nat) : Value := .pointer (some ⟨9, t, none⟩)
/-- A reflectlite.Value of type t, whose variable lies at a. -/
abbrev rv (t : Nat) (a : Addr) (fl : Int) : Value := .agg #[th t, .pointer (some a), .int .u64 fl]
theorem q_valueOf2 (t : Addr) (w : World) : (ReflectliteValue.unpack (.iface 82 (.pointer (some t)))).run Tryz.prog w = .ok (rv 82 ⟨w.heap.size, 0, none⟩ 150) (w.alloc (.cells #[.pointer (some t)] 82)) := by kernel_rfl
theorem q_valueOf1 (e : Addr) (w : World) : (ReflectliteValue.unpack (.iface 80 (.pointer (some e)))).run Tryz.prog w = .ok (rv 80 ⟨w.heap.size, 0, none⟩ 150) (w.alloc (.cells #[.pointer (some e)] 80)) := by kernel_rfl
theorem q_type2 (a : Addr) (w : World) : (ReflectliteValue.methodAny (ReflectliteValue.valueError "reflectlite.Value.Type" 0) (fun t _ _ _ => ReflectliteType.toType t) #[rv 82 a 150]).run Tryz.prog w = .ok (.iface 132 (.agg #[th 82])) w := by kernel_rfl
theorem q_mKind (h : Value) (w : World) : (Go.method 308 132 (.agg #[h]) "Kind").run Tryz.prog w = .ok (141, h) w := by kernel_rfl
theorem q_mElem (h : Value) (w : World) : (Go.method 308 132 (.agg #[h]) "Elem").run Tryz.prog w = .ok (154, .agg #[h]) w := by kernel_rfl
theorem q_mImpl (h : Value) (w : World) : (Go.method 308 132 (.agg #[h]) "Implements").run Tryz.prog w = .ok (155, .agg #[h]) w := by kernel_rfl
theorem q_mAsgn (h : Value) (w : World) : (Go.method 308 132 (.agg #[h]) "AssignableTo").run Tryz.prog w = .ok (152, .agg #[h]) w := by kernel_rfl
theorem q_kind2 (w : World) : ((ReflectliteType.abiMethod fun t => (fun a : Nat => Value.int IntKind.u8 (a : Int)) <$> Rtype.kind t) #[th 82]).run Tryz.prog w = .ok (.int .u8 22) w := by kernel_rfl
theorem q_kind1 (w : World) : ((ReflectliteType.abiMethod fun t => (fun a : Nat => Value.int IntKind.u8 (a : Int)) <$> Rtype.kind t) #[th 80]).run Tryz.prog w = .ok (.int .u8 22) w := by kernel_rfl
theorem q_elem2 (w : World) : (ReflectliteType.method ReflectliteType.elem #[.agg #[th 82]]).run Tryz.prog w = .ok (.iface 132 (.agg #[th 80])) w := by kernel_rfl
theorem q_impl1 (w : World) : (ReflectliteType.relation "Implements" ReflectliteType.implements_ #[.agg #[th 80], .iface 132 (.agg #[th 61])]).run Tryz.prog w = .ok (.bool true) w := by kernel_rfl
theorem q_typeOf1 (v : Value) (w : World) : (ReflectliteType.typeOf #[.iface 80 v]).run Tryz.prog w = .ok (.iface 132 (.agg #[th 80])) w := by kernel_rfl
theorem q_asgn1 (w : World) : (ReflectliteType.relation "AssignableTo" ReflectliteType.assignableTo #[.agg #[th 80], .iface 132 (.agg #[th 80])]).run Tryz.prog w = .ok (.bool true) w := by kernel_rfl
theorem q_parts2 (a : Addr) (w : World) : (ReflectliteValue.parts (rv 82 a 150)).run Tryz.prog w = .ok (some (82, a, 150)) w := by kernel_rfl
theorem q_parts1 (a : Addr) (w : World) : (ReflectliteValue.parts (rv 80 a 150)).run Tryz.prog w = .ok (some (80, a, 150)) w := by kernel_rfl
theorem q_parts1a (a : Addr) (w : World) : (ReflectliteValue.parts (rv 80 a 406)).run Tryz.prog w = .ok (some (80, a, 406)) w := by kernel_rfl
theorem q_elemOf2 (w : World) : (Rtype.elem? 82).run Tryz.prog w = .ok (some 80) w := by kernel_rfl
theorem q_mk1 (p : Addr) (w : World) : (ReflectliteValue.mk 80 p ReflectliteValue.flagAddr).run Tryz.prog w = .ok (rv 80 p 406) w := by kernel_rfl
theorem q_direct1 (w : World) : (Rtype.directlyAssignable 80 80).run Tryz.prog w = .ok true w := by kernel_rfl
theorem q_method (z : Sem Value) (f : TypeId → Addr → Nat → Nat → Sem Value) (v : Value) :
    ReflectliteValue.method z f #[v] = (do match ← ReflectliteValue.parts v with | none => z | some (t, a, fl) => f t a fl (fl % 32)) := rfl
theorem q_isNil2 (a p : Addr) (W : World) (ha : W.cell? a = some (.pointer (some p))) :
    (ReflectliteValue.method (ReflectliteValue.valueError "reflectlite.Value.IsNil" 0) ReflectliteValue.isNil #[rv 82 a 150]).run Tryz.prog W = .ok (.bool false) W := by
  rw [q_method]
  simp only [Sem.run_bind, q_parts2, Result.andThen]
  simp [ReflectliteValue.isNil, loadVar, isAgg, underlying, Tryz.underlying82, ha, Result.andThen]
theorem q_elemV2 (a p : Addr) (W : World) (ha : W.cell? a = some (.pointer (some p))) :
    (ReflectliteValue.method (ReflectliteValue.valueError "reflectlite.Value.Elem" 0) ReflectliteValue.elem #[rv 82 a 150]).run Tryz.prog W = .ok (rv 80 p 406) W := by
  rw [q_method]
  simp only [Sem.run_bind, q_parts2, Result.andThen]
  simp [ReflectliteValue.elem, loadVar, isAgg, underlying, Tryz.underlying82, ha, Result.andThen, q_elemOf2, q_mk1]
theorem q_set1 (ta b e : Addr) (old : Value) (W : World) (hb : W.cell? b = some (.pointer (some e))) (ht : W.cell? ta = some old) (hf : W.frozen? ta = false) :
    (ReflectliteValue.set #[rv 80 ta 406, rv 80 b 150]).run Tryz.prog W = .ok (.tuple #[]) (W.setCell ta (.pointer (some e))) := by
  refine (congrArg (fun s => Sem.run Tryz.prog s W) (show ReflectliteValue.set #[rv 80 ta 406, rv 80 b 150] = (ReflectliteValue.parts (rv 80 ta 406) >>= fun p => ReflectliteValue.parts (rv 80 b 150) >>= fun q => _) from rfl)).trans ?_
  simp only [Sem.run_bind, q_parts1a, q_parts1, Result.andThen]
  simp [ReflectliteValue.flagAddr, loadVar, isAgg, underlying, Tryz.underlying80, hb, Result.andThen, q_direct1, storeVar, Value.cells, storeCells, Addr.add]
  rw [run_store Tryz.prog W ta _ _ (by rfl)]
  simp [ht, hf]

set_option maxHeartbeats 4000000 in
set_option maxRecDepth 100000 in
/-- The error is itself what the target wants: true; new blocks; the target is set. -/
theorem as_fault (e t : Addr) (old : Value) (w : World) (hg : w.cell? ⟨0, 0, none⟩ = some (.iface 132 (.agg #[th 61]))) (ht0 : w.cell? t = some old) (hf0 : w.frozen? t = false) :
    Calls Tryz.prog 58 #[.iface 80 (.pointer (some e)), .iface 82 (.pointer (some t))] w fun ev w' => ev = .returned (.bool true) ∧ Below t.block w w' := by
  have x1 := @run_callFunc_extern Tryz.prog 73 _ (fun args => ReflectliteValue.unpack (args.getD 0 (.tuple #[]))) Tryz.func73 (by kernel_rfl) (by kernel_rfl) (by kernel_rfl) (by kernel_rfl)
  have x2 := @run_callFunc_extern Tryz.prog 74 _ (ReflectliteValue.methodAny (ReflectliteValue.valueError "reflectlite.Value.Type" 0) (fun t _ _ _ => ReflectliteType.toType t)) Tryz.func74 (by kernel_rfl) (by kernel_rfl) (by kernel_rfl) (by kernel_rfl)
  have x3 := @run_callFunc_extern Tryz.prog 75 _ (ReflectliteValue.method (ReflectliteValue.valueError "reflectlite.Value.IsNil" 0) ReflectliteValue.isNil) Tryz.func75 (by kernel_rfl) (by kernel_rfl) (by kernel_rfl) (by kernel_rfl)
  have x4 := @run_callFunc_extern Tryz.prog 141 _ (ReflectliteType.abiMethod fun t => do pure (.int .u8 (← Rtype.kind t))) Tryz.func141 (by kernel_rfl) (by kernel_rfl) (by kernel_rfl) (by kernel_rfl)
  have x5 := @run_callFunc_extern Tryz.prog 154 _ (ReflectliteType.method ReflectliteType.elem) Tryz.func154 (by kernel_rfl) (by kernel_rfl) (by kernel_rfl) (by kernel_rfl)
  have x6 := @run_callFunc_extern Tryz.prog 155 _ (ReflectliteType.relation "Implements" ReflectliteType.implements_) Tryz.func155 (by kernel_rfl) (by kernel_rfl) (by kernel_rfl) (by kernel_rfl)
  have x7 := @run_callFunc_extern Tryz.prog 92 _ ReflectliteType.typeOf Tryz.func92 (by kernel_rfl) (by kernel_rfl) (by kernel_rfl) (by kernel_rfl)
  have x8 := @run_callFunc_extern Tryz.prog 152 _ (ReflectliteType.relation "AssignableTo" ReflectliteType.assignableTo) Tryz.func152 (by kernel_rfl) (by kernel_rfl) (by kernel_rfl) (by kernel_rfl)
  have x9 := @run_callFunc_extern Tryz.prog 93 _ (ReflectliteValue.method (ReflectliteValue.valueError "reflectlite.Value.Elem" 0) ReflectliteValue.elem) Tryz.func93 (by kernel_rfl) (by kernel_rfl) (by kernel_rfl) (by kernel_rfl)
  have x10 := @run_callFunc_extern Tryz.prog 94 _ ReflectliteValue.set Tryz.func94 (by kernel_rfl) (by kernel_rfl) (by kernel_rfl) (by kernel_rfl)
  have y1 := q_valueOf2; have y2 := q_valueOf1; have y3 := q_type2; have y4 := q_mKind; have y5 := q_mElem; have y6 := q_mImpl; have y7 := q_mAsgn
  have y8 := q_kind2; have y9 := q_kind1; have y10 := q_elem2; have y11 := q_impl1; have y12 := q_typeOf1; have y13 := q_asgn1
  have hgl := World.block_lt_of_cell? _ _ hg
  have htl := World.block_lt_of_cell? _ _ ht0
  let o1 : Obj := .cells #[.pointer (some t)] 82
  let o2 : Obj := .cells #[th 82, .pointer (some ⟨w.heap.size, 0, none⟩), .int .u64 150] 107
  let o4 : Obj := .cells #[.pointer (some e)] 80
  have z3 := q_isNil2 ⟨w.heap.size, 0, none⟩ t ((w.alloc o1).alloc o2) (by simp [o1, o2])
  have hg2 : ((w.alloc o1).alloc o2).cell? ⟨0, 0, none⟩ = some (.iface 132 (.agg #[th 61])) := by
    rw [World.cell?_alloc_lt _ _ _ (by show _ < _; simp <;> omega), World.cell?_alloc_lt _ _ _ hgl]; exact hg
  have z9 := q_elemV2 ⟨w.heap.size, 0, none⟩ t (((w.alloc o1).alloc o2).alloc o2) (by rw [World.cell?_alloc_lt _ _ ⟨w.heap.size, 0, none⟩ (by simp <;> omega)]; simp [o1, o2])
  have z10 := q_set1 t ⟨w.heap.size + 1 + 1 + 1, 0, none⟩ e old ((((w.alloc o1).alloc o2).alloc o2).alloc o4)
    (by rw [World.cell?_alloc_at _ _ _ _ (by simp)]; rfl)
    (by rw [World.cell?_alloc_lt _ _ t (by simp; omega), World.cell?_alloc_lt _ _ t (by simp; omega), World.cell?_alloc_lt _ _ t (by simp; omega), World.cell?_alloc_lt _ _ t htl]; exact ht0)
    (by rw [World.frozen?_alloc_old _ _ t (by simp; omega), World.frozen?_alloc_old _ _ t (by simp; omega), World.frozen?_alloc_old _ _ t (by simp; omega), World.frozen?_alloc_old _ _ t (Nat.ne_of_lt htl)]; exact hf0)
  simp only [o1, o2, o4] at z3 hg2 z9 z10
  go_enter Tryz.func58, Tryz.ntmps58
  go_wp2
  refine wp_loop_rounds 1 ?_
  rw [rounds_succ]
  go_wp2
  go_ret
  exact ⟨rfl, by go_grown⟩
end Go.Proofs.YtpdcmhnaedhkdaaGreatDoor
