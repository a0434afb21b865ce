/- errors.As with a target of type **fault: at a nil error, and at an error that is a *fault itself. -/
import Derived.Test.YtjfepogmphjliabDoorPlain
import Derived.LaidEql
import Derived.Stop.Asserts
import Derived.RowKitTokens
import Derived.Laws.NewBlocks
namespace Go.Proofs.YtjfepogmphjliabDoor
open Go.RowKit Go.Extern.Stop Go.Stop Go.Extern
set_option linter.unusedVariables false

theorem as_none (t : Value) (w : World) : Calls Tryd.prog 45 #[.nilIface, t] w fun e w' => e = .returned (.bool false) ∧ w = w' := by
  go_enter Tryd.func45, Tryd.ntmps45
  go_wp2
  go_ret
  exact ⟨rfl, rfl⟩
/-- The handle of a type. -/
abbrev th (t : Nat) : Value := .pointer (some ⟨9, t, none⟩)
/-- A reflectlite.Value of type t, whose variable lies at a. -/
abbrev rv (t : Nat) (a : Addr) (fl : Int) : Value := .agg #[th t, .pointer (some a), .int .u64 fl]
theorem q_valueOf2 (t : Addr) (w : World) : (ReflectliteValue.unpack (.iface 75 (.pointer (some t)))).run Tryd.prog w = .ok (rv 75 ⟨w.heap.size, 0, none⟩ 150) (w.alloc (.cells #[.pointer (some t)] 75)) := by kernel_rfl
theorem q_valueOf1 (e : Addr) (w : World) : (ReflectliteValue.unpack (.iface 73 (.pointer (some e)))).run Tryd.prog w = .ok (rv 73 ⟨w.heap.size, 0, none⟩ 150) (w.alloc (.cells #[.pointer (some e)] 73)) := by kernel_rfl
theorem q_type2 (a : Addr) (w : World) : (ReflectliteValue.methodAny (ReflectliteValue.valueError "reflectlite.Value.Type" 0) (fun t _ _ _ => ReflectliteType.toType t) #[rv 75 a 150]).run Tryd.prog w = .ok (.iface 117 (.agg #[th 75])) w := by kernel_rfl
theorem q_mKind (h : Value) (w : World) : (Go.method 292 117 (.agg #[h]) "Kind").run Tryd.prog w = .ok (119, h) w := by kernel_rfl
theorem q_mElem (h : Value) (w : World) : (Go.method 292 117 (.agg #[h]) "Elem").run Tryd.prog w = .ok (132, .agg #[h]) w := by kernel_rfl
theorem q_mImpl (h : Value) (w : World) : (Go.method 292 117 (.agg #[h]) "Implements").run Tryd.prog w = .ok (133, .agg #[h]) w := by kernel_rfl
theorem q_mAsgn (h : Value) (w : World) : (Go.method 292 117 (.agg #[h]) "AssignableTo").run Tryd.prog w = .ok (130, .agg #[h]) w := by kernel_rfl
theorem q_kind2 (w : World) : ((ReflectliteType.abiMethod fun t => (fun a : Nat => Value.int IntKind.u8 (a : Int)) <$> Rtype.kind t) #[th 75]).run Tryd.prog w = .ok (.int .u8 22) w := by kernel_rfl
theorem q_kind1 (w : World) : ((ReflectliteType.abiMethod fun t => (fun a : Nat => Value.int IntKind.u8 (a : Int)) <$> Rtype.kind t) #[th 73]).run Tryd.prog w = .ok (.int .u8 22) w := by kernel_rfl
theorem q_elem2 (w : World) : (ReflectliteType.method ReflectliteType.elem #[.agg #[th 75]]).run Tryd.prog w = .ok (.iface 117 (.agg #[th 73])) w := by kernel_rfl
theorem q_impl1 (w : World) : (ReflectliteType.relation "Implements" ReflectliteType.implements_ #[.agg #[th 73], .iface 117 (.agg #[th 52])]).run Tryd.prog w = .ok (.bool true) w := by kernel_rfl
theorem q_typeOf1 (v : Value) (w : World) : (ReflectliteType.typeOf #[.iface 73 v]).run Tryd.prog w = .ok (.iface 117 (.agg #[th 73])) w := by kernel_rfl
theorem q_asgn1 (w : World) : (ReflectliteType.relation "AssignableTo" ReflectliteType.assignableTo #[.agg #[th 73], .iface 117 (.agg #[th 73])]).run Tryd.prog w = .ok (.bool true) w := by kernel_rfl
theorem q_parts2 (a : Addr) (w : World) : (ReflectliteValue.parts (rv 75 a 150)).run Tryd.prog w = .ok (some (75, a, 150)) w := by kernel_rfl
theorem q_parts1 (a : Addr) (w : World) : (ReflectliteValue.parts (rv 73 a 150)).run Tryd.prog w = .ok (some (73, a, 150)) w := by kernel_rfl
theorem q_parts1a (a : Addr) (w : World) : (ReflectliteValue.parts (rv 73 a 406)).run Tryd.prog w = .ok (some (73, a, 406)) w := by kernel_rfl
theorem q_elemOf2 (w : World) : (Rtype.elem? 75).run Tryd.prog w = .ok (some 73) w := by kernel_rfl
theorem q_mk1 (p : Addr) (w : World) : (ReflectliteValue.mk 73 p ReflectliteValue.flagAddr).run Tryd.prog w = .ok (rv 73 p 406) w := by kernel_rfl
theorem q_direct1 (w : World) : (Rtype.directlyAssignable 73 73).run Tryd.prog w = .ok true w := by kernel_rfl
theorem q_method (z : Sem Value) (f : TypeId → Addr → Nat → Nat → Sem Value) (v : Value) :
    ReflectliteValue.method z f #[v] = (do match ← ReflectliteValue.parts v with | none => z | some (t, a, fl) => f t a fl (fl % 32)) := rfl
theorem q_isNil2 (a p : Addr) (W : World) (ha : W.cell? a = some (.pointer (some p))) :
    (ReflectliteValue.method (ReflectliteValue.valueError "reflectlite.Value.IsNil" 0) ReflectliteValue.isNil #[rv 75 a 150]).run Tryd.prog W = .ok (.bool false) W := by
  rw [q_method]
  simp only [Sem.run_bind, q_parts2, Result.andThen]
  simp [ReflectliteValue.isNil, loadVar, isAgg, underlying, Tryd.underlying75, ha, Result.andThen]
theorem q_elemV2 (a p : Addr) (W : World) (ha : W.cell? a = some (.pointer (some p))) :
    (ReflectliteValue.method (ReflectliteValue.valueError "reflectlite.Value.Elem" 0) ReflectliteValue.elem #[rv 75 a 150]).run Tryd.prog W = .ok (rv 73 p 406) W := by
  rw [q_method]
  simp only [Sem.run_bind, q_parts2, Result.andThen]
  simp [ReflectliteValue.elem, loadVar, isAgg, underlying, Tryd.underlying75, ha, Result.andThen, q_elemOf2, q_mk1]
theorem q_set1 (ta b e : Addr) (old : Value) (W : World) (hb : W.cell? b = some (.pointer (some e))) (ht : W.cell? ta = some old) (hf : W.frozen? ta = false) :
    (ReflectliteValue.set #[rv 73 ta 406, rv 73 b 150]).run Tryd.prog W = .ok (.tuple #[]) (W.setCell ta (.pointer (some e))) := by
  refine (congrArg (fun s => Sem.run Tryd.prog s W) (show ReflectliteValue.set #[rv 73 ta 406, rv 73 b 150] = (ReflectliteValue.parts (rv 73 ta 406) >>= fun p => ReflectliteValue.parts (rv 73 b 150) >>= fun q => _) from rfl)).trans ?_
  simp only [Sem.run_bind, q_parts1a, q_parts1, Result.andThen]
  simp [ReflectliteValue.flagAddr, loadVar, isAgg, underlying, Tryd.underlying73, hb, Result.andThen, q_direct1, storeVar, Value.cells, storeCells, Addr.add]
  rw [run_store Tryd.prog W ta _ _ (by rfl)]
  simp [ht, hf]

set_option maxHeartbeats 4000000 in
set_option maxRecDepth 100000 in
/-- The error is itself what the target wants: true; new blocks; the target is set. -/
theorem as_fault (e t : Addr) (old : Value) (w : World) (hg : w.cell? ⟨0, 0, none⟩ = some (.iface 117 (.agg #[th 52]))) (ht0 : w.cell? t = some old) (hf0 : w.frozen? t = false) :
    Calls Tryd.prog 45 #[.iface 73 (.pointer (some e)), .iface 75 (.pointer (some t))] w fun ev w' => ev = .returned (.bool true) ∧ Below t.block w w' := by
  have x1 := @run_callFunc_extern Tryd.prog 55 _ (fun args => ReflectliteValue.unpack (args.getD 0 (.tuple #[]))) Tryd.func55 (by kernel_rfl) (by kernel_rfl) (by kernel_rfl) (by kernel_rfl)
  have x2 := @run_callFunc_extern Tryd.prog 56 _ (ReflectliteValue.methodAny (ReflectliteValue.valueError "reflectlite.Value.Type" 0) (fun t _ _ _ => ReflectliteType.toType t)) Tryd.func56 (by kernel_rfl) (by kernel_rfl) (by kernel_rfl) (by kernel_rfl)
  have x3 := @run_callFunc_extern Tryd.prog 57 _ (ReflectliteValue.method (ReflectliteValue.valueError "reflectlite.Value.IsNil" 0) ReflectliteValue.isNil) Tryd.func57 (by kernel_rfl) (by kernel_rfl) (by kernel_rfl) (by kernel_rfl)
  have x4 := @run_callFunc_extern Tryd.prog 119 _ (ReflectliteType.abiMethod fun t => do pure (.int .u8 (← Rtype.kind t))) Tryd.func119 (by kernel_rfl) (by kernel_rfl) (by kernel_rfl) (by kernel_rfl)
  have x5 := @run_callFunc_extern Tryd.prog 132 _ (ReflectliteType.method ReflectliteType.elem) Tryd.func132 (by kernel_rfl) (by kernel_rfl) (by kernel_rfl) (by kernel_rfl)
  have x6 := @run_callFunc_extern Tryd.prog 133 _ (ReflectliteType.relation "Implements" ReflectliteType.implements_) Tryd.func133 (by kernel_rfl) (by kernel_rfl) (by kernel_rfl) (by kernel_rfl)
  have x7 := @run_callFunc_extern Tryd.prog 71 _ ReflectliteType.typeOf Tryd.func71 (by kernel_rfl) (by kernel_rfl) (by kernel_rfl) (by kernel_rfl)
  have x8 := @run_callFunc_extern Tryd.prog 130 _ (ReflectliteType.relation "AssignableTo" ReflectliteType.assignableTo) Tryd.func130 (by kernel_rfl) (by kernel_rfl) (by kernel_rfl) (by kernel_rfl)
  have x9 := @run_callFunc_extern Tryd.prog 72 _ (ReflectliteValue.method (ReflectliteValue.valueError "reflectlite.Value.Elem" 0) ReflectliteValue.elem) Tryd.func72 (by kernel_rfl) (by kernel_rfl) (by kernel_rfl) (by kernel_rfl)
  have x10 := @run_callFunc_extern Tryd.prog 73 _ ReflectliteValue.set Tryd.func73 (by kernel_rfl) (by kernel_rfl) (by kernel_rfl) (by kernel_rfl)
  have y1 := q_valueOf2; have y2 := q_valueOf1; have y3 := q_type2; have y4 := q_mKind; have y5 := q_mElem; have y6 := q_mImpl; have y7 := q_mAsgn
  have y8 := q_kind2; have y9 := q_kind1; have y10 := q_elem2; have y11 := q_impl1; have y12 := q_typeOf1; have y13 := q_asgn1
  have hgl := World.block_lt_of_cell? _ _ hg
  have htl := World.block_lt_of_cell? _ _ ht0
  let o1 : Obj := .cells #[.pointer (some t)] 75
  let o2 : Obj := .cells #[th 75, .pointer (some ⟨w.heap.size, 0, none⟩), .int .u64 150] 88
  let o4 : Obj := .cells #[.pointer (some e)] 73
  have z3 := q_isNil2 ⟨w.heap.size, 0, none⟩ t ((w.alloc o1).alloc o2) (by simp [o1, o2])
  have hg2 : ((w.alloc o1).alloc o2).cell? ⟨0, 0, none⟩ = some (.iface 117 (.agg #[th 52])) := by
    rw [World.cell?_alloc_lt _ _ _ (by show _ < _; simp <;> omega), World.cell?_alloc_lt _ _ _ hgl]; exact hg
  have z9 := q_elemV2 ⟨w.heap.size, 0, none⟩ t (((w.alloc o1).alloc o2).alloc o2) (by rw [World.cell?_alloc_lt _ _ ⟨w.heap.size, 0, none⟩ (by simp <;> omega)]; simp [o1, o2])
  have z10 := q_set1 t ⟨w.heap.size + 1 + 1 + 1, 0, none⟩ e old ((((w.alloc o1).alloc o2).alloc o2).alloc o4)
    (by rw [World.cell?_alloc_at _ _ _ _ (by simp)]; rfl)
    (by rw [World.cell?_alloc_lt _ _ t (by simp; omega), World.cell?_alloc_lt _ _ t (by simp; omega), World.cell?_alloc_lt _ _ t (by simp; omega), World.cell?_alloc_lt _ _ t htl]; exact ht0)
    (by rw [World.frozen?_alloc_old _ _ t (by simp; omega), World.frozen?_alloc_old _ _ t (by simp; omega), World.frozen?_alloc_old _ _ t (by simp; omega), World.frozen?_alloc_old _ _ t (Nat.ne_of_lt htl)]; exact hf0)
  simp only [o1, o2, o4] at z3 hg2 z9 z10
  go_enter Tryd.func45, Tryd.ntmps45
  go_wp2
  refine wp_loop_rounds 1 ?_
  rw [rounds_succ]
  go_wp2
  go_ret
  exact ⟨rfl, by go_grown⟩
end Go.Proofs.YtjfepogmphjliabDoor
