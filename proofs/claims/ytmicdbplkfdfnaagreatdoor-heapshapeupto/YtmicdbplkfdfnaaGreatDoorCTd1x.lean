/- errors.As and errors.Is at the program's own errors; Told, number. -/
import Derived.Test.YtmicdbplkfdfnaaGreatDoorProg
import Derived.WalkKit
import Derived.LaidEql
import Derived.Stop.Asserts
import Derived.RowKitTokens
import Derived.Below
import Derived.Laws.Rows
import Derived.Test.YtmicdbplkfdfnaaGreatDoorCHq2x
import Derived.Test.YtmicdbplkfdfnaaGreatDoorCTc2
set_option linter.unusedVariables false
namespace Go.Proofs.YtmicdbplkfdfnaaGreatDoor
open Go.RowKit Go.Extern.Stop Go.Stop Go.Extern

theorem Tryz.rvalueOf137 (t : Addr) (w : World) : (ReflectliteValue.unpack (.iface 137 (.pointer (some t)))).run Tryz.prog w
    = .ok (.agg #[.pointer (some ⟨7, 137, none⟩), .pointer (some ⟨w.heap.size, 0, none⟩), .int .u64 150]) (w.alloc (.cells #[.pointer (some t)] 137)) := by kernel_rfl
theorem Tryz.rvalueOf141 (t : Addr) (w : World) : (ReflectliteValue.unpack (.iface 141 (.pointer (some t)))).run Tryz.prog w
    = .ok (.agg #[.pointer (some ⟨7, 141, none⟩), .pointer (some ⟨w.heap.size, 0, none⟩), .int .u64 150]) (w.alloc (.cells #[.pointer (some t)] 141)) := by kernel_rfl
theorem Tryz.rtype137 (a : Addr) (w : World) : (ReflectliteValue.methodAny (ReflectliteValue.valueError "reflectlite.Value.Type" 0) (fun t _ _ _ => ReflectliteType.toType t) #[.agg #[.pointer (some ⟨7, 137, none⟩), .pointer (some a), .int .u64 150]]).run Tryz.prog w
    = .ok (.iface 214 (.agg #[.pointer (some ⟨7, 137, none⟩)])) w := by kernel_rfl
theorem Tryz.rtype141 (a : Addr) (w : World) : (ReflectliteValue.methodAny (ReflectliteValue.valueError "reflectlite.Value.Type" 0) (fun t _ _ _ => ReflectliteType.toType t) #[.agg #[.pointer (some ⟨7, 141, none⟩), .pointer (some a), .int .u64 150]]).run Tryz.prog w
    = .ok (.iface 214 (.agg #[.pointer (some ⟨7, 141, none⟩)])) w := by kernel_rfl
theorem Tryz.rmethodKind (h : Value) (w : World) : (Go.method 396 214 (.agg #[h]) "Kind").run Tryz.prog w = .ok (184, h) w := by kernel_rfl
theorem Tryz.rmethodElem (h : Value) (w : World) : (Go.method 396 214 (.agg #[h]) "Elem").run Tryz.prog w = .ok (200, .agg #[h]) w := by kernel_rfl
theorem Tryz.rmethodImplements (h : Value) (w : World) : (Go.method 396 214 (.agg #[h]) "Implements").run Tryz.prog w = .ok (201, .agg #[h]) w := by kernel_rfl
theorem Tryz.rmethodAssignableTo (h : Value) (w : World) : (Go.method 396 214 (.agg #[h]) "AssignableTo").run Tryz.prog w = .ok (198, .agg #[h]) w := by kernel_rfl
theorem Tryz.rmethodComparable (h : Value) (w : World) : (Go.method 396 214 (.agg #[h]) "Comparable").run Tryz.prog w = .ok (199, .agg #[h]) w := by kernel_rfl
theorem Tryz.rkind137 (w : World) : ((ReflectliteType.abiMethod fun t => (fun a : Nat => Value.int IntKind.u8 (a : Int)) <$> Rtype.kind t) #[.pointer (some ⟨7, 137, none⟩)]).run Tryz.prog w = .ok (.int .u8 22) w := by kernel_rfl
theorem Tryz.rkind141 (w : World) : ((ReflectliteType.abiMethod fun t => (fun a : Nat => Value.int IntKind.u8 (a : Int)) <$> Rtype.kind t) #[.pointer (some ⟨7, 141, none⟩)]).run Tryz.prog w = .ok (.int .u8 22) w := by kernel_rfl
theorem Tryz.rkind135 (w : World) : ((ReflectliteType.abiMethod fun t => (fun a : Nat => Value.int IntKind.u8 (a : Int)) <$> Rtype.kind t) #[.pointer (some ⟨7, 135, none⟩)]).run Tryz.prog w = .ok (.int .u8 22) w := by kernel_rfl
theorem Tryz.rkind26 (w : World) : ((ReflectliteType.abiMethod fun t => (fun a : Nat => Value.int IntKind.u8 (a : Int)) <$> Rtype.kind t) #[.pointer (some ⟨7, 26, none⟩)]).run Tryz.prog w = .ok (.int .u8 2) w := by kernel_rfl
theorem Tryz.rparts137 (a : Addr) (w : World) : (ReflectliteValue.parts (.agg #[.pointer (some ⟨7, 137, none⟩), .pointer (some a), .int .u64 150])).run Tryz.prog w = .ok (some (137, a, 150)) w := by kernel_rfl
theorem Tryz.rparts141 (a : Addr) (w : World) : (ReflectliteValue.parts (.agg #[.pointer (some ⟨7, 141, none⟩), .pointer (some a), .int .u64 150])).run Tryz.prog w = .ok (some (141, a, 150)) w := by kernel_rfl
theorem Tryz.risNil137 (a p : Addr) (W : World) (ha : W.cell? a = some (.pointer (some p))) :
    (ReflectliteValue.method (ReflectliteValue.valueError "reflectlite.Value.IsNil" 0) ReflectliteValue.isNil #[.agg #[.pointer (some ⟨7, 137, none⟩), .pointer (some a), .int .u64 150]]).run Tryz.prog W = .ok (.bool false) W := by
  have e : (ReflectliteValue.method (ReflectliteValue.valueError "reflectlite.Value.IsNil" 0) ReflectliteValue.isNil #[.agg #[.pointer (some ⟨7, 137, none⟩), .pointer (some a), .int .u64 150]]) = (ReflectliteValue.parts (.agg #[.pointer (some ⟨7, 137, none⟩), .pointer (some a), .int .u64 150]) >>= _) := rfl
  rw [e]
  simp only [Sem.run_bind, Tryz.rparts137, Result.andThen]
  simp [ReflectliteValue.isNil, loadVar, isAgg, underlying, Tryz.underlying137, ha, Result.andThen]
theorem Tryz.risNil141 (a p : Addr) (W : World) (ha : W.cell? a = some (.pointer (some p))) :
    (ReflectliteValue.method (ReflectliteValue.valueError "reflectlite.Value.IsNil" 0) ReflectliteValue.isNil #[.agg #[.pointer (some ⟨7, 141, none⟩), .pointer (some a), .int .u64 150]]).run Tryz.prog W = .ok (.bool false) W := by
  have e : (ReflectliteValue.method (ReflectliteValue.valueError "reflectlite.Value.IsNil" 0) ReflectliteValue.isNil #[.agg #[.pointer (some ⟨7, 141, none⟩), .pointer (some a), .int .u64 150]]) = (ReflectliteValue.parts (.agg #[.pointer (some ⟨7, 141, none⟩), .pointer (some a), .int .u64 150]) >>= _) := rfl
  rw [e]
  simp only [Sem.run_bind, Tryz.rparts141, Result.andThen]
  simp [ReflectliteValue.isNil, loadVar, isAgg, underlying, Tryz.underlying141, ha, Result.andThen]
theorem Tryz.relem137 (w : World) : (ReflectliteType.method ReflectliteType.elem #[.agg #[.pointer (some ⟨7, 137, none⟩)]]).run Tryz.prog w = .ok (.iface 214 (.agg #[.pointer (some ⟨7, 135, none⟩)])) w := by kernel_rfl
theorem Tryz.relem141 (w : World) : (ReflectliteType.method ReflectliteType.elem #[.agg #[.pointer (some ⟨7, 141, none⟩)]]).run Tryz.prog w = .ok (.iface 214 (.agg #[.pointer (some ⟨7, 26, none⟩)])) w := by kernel_rfl
theorem Tryz.rimplements135 (w : World) : (ReflectliteType.relation "Implements" ReflectliteType.implements_ #[.agg #[.pointer (some ⟨7, 135, none⟩)], .iface 214 (.agg #[.pointer (some ⟨7, 56, none⟩)])]).run Tryz.prog w = .ok (.bool true) w := by kernel_rfl
theorem Tryz.rimplements26 (w : World) : (ReflectliteType.relation "Implements" ReflectliteType.implements_ #[.agg #[.pointer (some ⟨7, 26, none⟩)], .iface 214 (.agg #[.pointer (some ⟨7, 56, none⟩)])]).run Tryz.prog w = .ok (.bool true) w := by kernel_rfl
theorem Tryz.rtypeOf26 (v : Value) (w : World) : (ReflectliteType.typeOf #[.iface 26 v]).run Tryz.prog w = .ok (.iface 214 (.agg #[.pointer (some ⟨7, 26, none⟩)])) w := by kernel_rfl
theorem Tryz.rassignable26 (w : World) : (ReflectliteType.relation "AssignableTo" ReflectliteType.assignableTo #[.agg #[.pointer (some ⟨7, 26, none⟩)], .iface 214 (.agg #[.pointer (some ⟨7, 26, none⟩)])]).run Tryz.prog w = .ok (.bool true) w := by kernel_rfl
theorem Tryz.rassignable135 (w : World) : (ReflectliteType.relation "AssignableTo" ReflectliteType.assignableTo #[.agg #[.pointer (some ⟨7, 26, none⟩)], .iface 214 (.agg #[.pointer (some ⟨7, 135, none⟩)])]).run Tryz.prog w = .ok (.bool false) w := by kernel_rfl
theorem Tryz.rvalueOf26 (k : Int) (w : World) : (ReflectliteValue.unpack (.iface 26 (.int .i64 k))).run Tryz.prog w
    = .ok (.agg #[.pointer (some ⟨7, 26, none⟩), .pointer (some ⟨w.heap.size, 0, none⟩), .int .u64 130]) (w.alloc (.cells #[.int .i64 k] 26)) := by kernel_rfl
theorem Tryz.relemOf141 (w : World) : (Rtype.elem? 141).run Tryz.prog w = .ok (some 26) w := by kernel_rfl
theorem Tryz.rmk26 (p : Addr) (w : World) : (ReflectliteValue.mk 26 p ReflectliteValue.flagAddr).run Tryz.prog w = .ok (.agg #[.pointer (some ⟨7, 26, none⟩), .pointer (some p), .int .u64 386]) w := by kernel_rfl
theorem Tryz.relemV141 (a p : Addr) (W : World) (ha : W.cell? a = some (.pointer (some p))) :
    (ReflectliteValue.method (ReflectliteValue.valueError "reflectlite.Value.Elem" 0) ReflectliteValue.elem #[.agg #[.pointer (some ⟨7, 141, none⟩), .pointer (some a), .int .u64 150]]).run Tryz.prog W
      = .ok (.agg #[.pointer (some ⟨7, 26, none⟩), .pointer (some p), .int .u64 386]) W := by
  have e : (ReflectliteValue.method (ReflectliteValue.valueError "reflectlite.Value.Elem" 0) ReflectliteValue.elem #[.agg #[.pointer (some ⟨7, 141, none⟩), .pointer (some a), .int .u64 150]]) = (ReflectliteValue.parts (.agg #[.pointer (some ⟨7, 141, none⟩), .pointer (some a), .int .u64 150]) >>= _) := rfl
  rw [e]
  simp only [Sem.run_bind, Tryz.rparts141, Result.andThen]
  simp [ReflectliteValue.elem, loadVar, isAgg, underlying, Tryz.underlying141, ha, Result.andThen, Tryz.relemOf141, Tryz.rmk26]
theorem Tryz.rparts26a (a : Addr) (w : World) : (ReflectliteValue.parts (.agg #[.pointer (some ⟨7, 26, none⟩), .pointer (some a), .int .u64 386])).run Tryz.prog w = .ok (some (26, a, 386)) w := by kernel_rfl
theorem Tryz.rparts26 (a : Addr) (w : World) : (ReflectliteValue.parts (.agg #[.pointer (some ⟨7, 26, none⟩), .pointer (some a), .int .u64 130])).run Tryz.prog w = .ok (some (26, a, 130)) w := by kernel_rfl
theorem Tryz.rdirect26 (w : World) : (Rtype.directlyAssignable 26 26).run Tryz.prog w = .ok true w := by kernel_rfl
theorem Tryz.rset26 (ta b : Addr) (k : Int) (old : Value) (W : World) (hb : W.cell? b = some (.int .i64 k)) (ht : W.cell? ta = some old) (hf : W.frozen? ta = false) :
    (ReflectliteValue.set #[.agg #[.pointer (some ⟨7, 26, none⟩), .pointer (some ta), .int .u64 386], .agg #[.pointer (some ⟨7, 26, none⟩), .pointer (some b), .int .u64 130]]).run Tryz.prog W
      = .ok (.tuple #[]) (W.setCell ta (.int .i64 k)) := by
  have e : ReflectliteValue.set #[.agg #[.pointer (some ⟨7, 26, none⟩), .pointer (some ta), .int .u64 386], .agg #[.pointer (some ⟨7, 26, none⟩), .pointer (some b), .int .u64 130]] = (ReflectliteValue.parts (.agg #[.pointer (some ⟨7, 26, none⟩), .pointer (some ta), .int .u64 386]) >>= fun x => ReflectliteValue.parts (.agg #[.pointer (some ⟨7, 26, none⟩), .pointer (some b), .int .u64 130]) >>= _) := rfl
  rw [e]
  simp only [Sem.run_bind, Tryz.rparts26a, Tryz.rparts26, Result.andThen]
  simp [ReflectliteValue.flagAddr, loadVar, isAgg, underlying, Tryz.underlying26, hb, Result.andThen, Tryz.rdirect26, storeVar, Value.cells, storeCells, Addr.add]
  rw [run_store Tryz.prog W ta _ _ (by rfl)]
  simp [ht, hf]
theorem Tryz.rnoAs (v : Value) (xT : TypeId) (w : World) : (Instr.typeAssert (.iface 26 v) xT 218 true).run Tryz.prog w = .ok (.tuple #[.nilIface, .bool false]) w := run_typeAssert_lacksB Tryz.underlying218 (by kernel_rfl) (by kernel_rfl) v xT w
theorem Tryz.rnoUnwrap (v : Value) (xT : TypeId) (w : World) : (Instr.typeAssert (.iface 26 v) xT 221 true).run Tryz.prog w = .ok (.tuple #[.nilIface, .bool false]) w := run_typeAssert_lacksB Tryz.underlying221 (by kernel_rfl) (by kernel_rfl) v xT w
theorem Tryz.rnoUnwraps (v : Value) (xT : TypeId) (w : World) : (Instr.typeAssert (.iface 26 v) xT 223 true).run Tryz.prog w = .ok (.tuple #[.nilIface, .bool false]) w := run_typeAssert_lacksB Tryz.underlying223 (by kernel_rfl) (by kernel_rfl) v xT w
theorem Tryz.rcomparable26 (w : World) : ((Extern.ReflectliteType.method fun t => (fun a => Value.bool a.comparable) <$> typeInfo t) #[.agg #[.pointer (some ⟨7, 26, none⟩)]]).run Tryz.prog w = .ok (.bool true) w := by kernel_rfl
theorem Tryz.req26 (k : Int) (hk : k = 5 ∨ k = 6) (w : World) : (binOp .eql 56 (.iface 26 (.int .i64 k)) (.iface 26 (.int .i64 k))).run Tryz.prog w = .ok (.bool true) w := by rcases hk with rfl | rfl <;> kernel_rfl
/-- What errors.As reads. -/
def ErrT (w : World) : Prop := w.cell? ⟨1, 0, none⟩ = some (.iface 214 (.agg #[.pointer (some ⟨7, 56, none⟩)]))
end Go.Proofs.YtmicdbplkfdfnaaGreatDoor
set_option linter.unusedVariables false
namespace Go.Proofs.YtmicdbplkfdfnaaGreatDoor
open Go.RowKit Go.Extern.Stop Go.Stop Go.Extern

set_option maxRecDepth 100000 in
set_option maxHeartbeats 4000000 in
/-- errors.As at the variable for *api.Fault: an Errno is none. -/
theorem as_fault (v : Value) (t : Addr) (w : World) (hE : ErrT w) :
    Calls Tryz.prog 61 #[.iface 26 v, .iface 137 (.pointer (some t))] w fun e w' => e = .returned (.bool false) ∧ Below w.heap.size w w' := by
  have h87 := @run_callFunc_extern Tryz.prog 87 _ (fun args => ReflectliteValue.unpack (args.getD 0 (.tuple #[]))) Tryz.func87 (by kernel_rfl) (by kernel_rfl) (by kernel_rfl) (by kernel_rfl)
  have h88 := @run_callFunc_extern Tryz.prog 88 _ (ReflectliteValue.methodAny (ReflectliteValue.valueError "reflectlite.Value.Type" 0) (fun t _ _ _ => ReflectliteType.toType t)) Tryz.func88 (by kernel_rfl) (by kernel_rfl) (by kernel_rfl) (by kernel_rfl)
  have h89 := @run_callFunc_extern Tryz.prog 89 _ (ReflectliteValue.method (ReflectliteValue.valueError "reflectlite.Value.IsNil" 0) ReflectliteValue.isNil) Tryz.func89 (by kernel_rfl) (by kernel_rfl) (by kernel_rfl) (by kernel_rfl)
  have h184 := @run_callFunc_extern Tryz.prog 184 _ (ReflectliteType.abiMethod fun t => do pure (.int .u8 (← Rtype.kind t))) Tryz.func184 (by kernel_rfl) (by kernel_rfl) (by kernel_rfl) (by kernel_rfl)
  have h200 := @run_callFunc_extern Tryz.prog 200 _ (ReflectliteType.method ReflectliteType.elem) Tryz.func200 (by kernel_rfl) (by kernel_rfl) (by kernel_rfl) (by kernel_rfl)
  have h201 := @run_callFunc_extern Tryz.prog 201 _ (ReflectliteType.relation "Implements" ReflectliteType.implements_) Tryz.func201 (by kernel_rfl) (by kernel_rfl) (by kernel_rfl) (by kernel_rfl)
  have h91 := @run_callFunc_extern Tryz.prog 91 _ ReflectliteType.typeOf Tryz.func91 (by kernel_rfl) (by kernel_rfl) (by kernel_rfl) (by kernel_rfl)
  have h198 := @run_callFunc_extern Tryz.prog 198 _ (ReflectliteType.relation "AssignableTo" ReflectliteType.assignableTo) Tryz.func198 (by kernel_rfl) (by kernel_rfl) (by kernel_rfl) (by kernel_rfl)
  have f1 := Tryz.rvalueOf137
  have f2 := Tryz.rtype137
  have m1 := Tryz.rmethodKind
  have m2 := Tryz.rmethodElem
  have m3 := Tryz.rmethodImplements
  have m4 := Tryz.rmethodAssignableTo
  have k1 := Tryz.rkind137
  have k2 := Tryz.rkind135
  have e1 := Tryz.relem137
  have i1 := Tryz.rimplements135
  have t1 := Tryz.rtypeOf26
  have a1 := Tryz.rassignable135
  have u1 := Tryz.rnoAs
  have u2 := Tryz.rnoUnwrap
  have u3 := Tryz.rnoUnwraps
  have hlt : 1 < w.heap.size := by
    rcases Nat.lt_or_ge 1 w.heap.size with h | h
    · exact h
    · unfold ErrT at hE
      simp [World.cell?, Array.getElem?_eq_none h] at hE
  have n8 := Tryz.risNil137 ⟨w.heap.size, 0, none⟩ t ((w.alloc (.cells #[.pointer (some t)] 137)).alloc (.cells #[.pointer (some ⟨7, 137, none⟩), .pointer (some ⟨w.heap.size, 0, none⟩), .int .u64 150] 174)) (by simp)
  have hg2 : ((w.alloc (.cells #[.pointer (some t)] 137)).alloc (.cells #[.pointer (some ⟨7, 137, none⟩), .pointer (some ⟨w.heap.size, 0, none⟩), .int .u64 150] 174)).cell? ⟨1, 0, none⟩ = some (.iface 214 (.agg #[.pointer (some ⟨7, 56, none⟩)])) := by
    rw [World.cell?_alloc_lt _ _ ⟨1, 0, none⟩ (by simp; omega), World.cell?_alloc_lt _ _ ⟨1, 0, none⟩ hlt]; exact hE
  go_enter Tryz.func61, Tryz.ntmps61
  go_wp2
  refine wp_loop_rounds 1 ?_
  rw [rounds_succ]
  go_wp2
  go_ret
  refine ⟨rfl, ?_⟩
  first
    | exact (((Below.refl _ _).alloc (Nat.le_refl _) _).alloc (by simp) _).alloc (by simp; omega) _
    | exact ((((Below.refl _ _).alloc (Nat.le_refl _) _).alloc (by simp) _).alloc (by simp; omega) _).drew
set_option maxRecDepth 100000 in
set_option maxHeartbeats 4000000 in
/-- errors.As at the variable for an Errno: it is set. -/
theorem as_errno (k : Int) (t : Addr) (old : Value) (w : World) (hE : ErrT w) (ht0 : w.cell? t = some old) (hf0 : w.frozen? t = false) :
    Calls Tryz.prog 61 #[.iface 26 (.int .i64 k), .iface 141 (.pointer (some t))] w fun e w' => e = .returned (.bool true) ∧ ∃ W, Below w.heap.size w W ∧ w' = W.setCell t (.int .i64 k) := by
  have h87 := @run_callFunc_extern Tryz.prog 87 _ (fun args => ReflectliteValue.unpack (args.getD 0 (.tuple #[]))) Tryz.func87 (by kernel_rfl) (by kernel_rfl) (by kernel_rfl) (by kernel_rfl)
  have h88 := @run_callFunc_extern Tryz.prog 88 _ (ReflectliteValue.methodAny (ReflectliteValue.valueError "reflectlite.Value.Type" 0) (fun t _ _ _ => ReflectliteType.toType t)) Tryz.func88 (by kernel_rfl) (by kernel_rfl) (by kernel_rfl) (by kernel_rfl)
  have h89 := @run_callFunc_extern Tryz.prog 89 _ (ReflectliteValue.method (ReflectliteValue.valueError "reflectlite.Value.IsNil" 0) ReflectliteValue.isNil) Tryz.func89 (by kernel_rfl) (by kernel_rfl) (by kernel_rfl) (by kernel_rfl)
  have h184 := @run_callFunc_extern Tryz.prog 184 _ (ReflectliteType.abiMethod fun t => do pure (.int .u8 (← Rtype.kind t))) Tryz.func184 (by kernel_rfl) (by kernel_rfl) (by kernel_rfl) (by kernel_rfl)
  have h200 := @run_callFunc_extern Tryz.prog 200 _ (ReflectliteType.method ReflectliteType.elem) Tryz.func200 (by kernel_rfl) (by kernel_rfl) (by kernel_rfl) (by kernel_rfl)
  have h201 := @run_callFunc_extern Tryz.prog 201 _ (ReflectliteType.relation "Implements" ReflectliteType.implements_) Tryz.func201 (by kernel_rfl) (by kernel_rfl) (by kernel_rfl) (by kernel_rfl)
  have h91 := @run_callFunc_extern Tryz.prog 91 _ ReflectliteType.typeOf Tryz.func91 (by kernel_rfl) (by kernel_rfl) (by kernel_rfl) (by kernel_rfl)
  have h198 := @run_callFunc_extern Tryz.prog 198 _ (ReflectliteType.relation "AssignableTo" ReflectliteType.assignableTo) Tryz.func198 (by kernel_rfl) (by kernel_rfl) (by kernel_rfl) (by kernel_rfl)
  have h120 := @run_callFunc_extern Tryz.prog 120 _ (ReflectliteValue.method (ReflectliteValue.valueError "reflectlite.Value.Elem" 0) ReflectliteValue.elem) Tryz.func120 (by kernel_rfl) (by kernel_rfl) (by kernel_rfl) (by kernel_rfl)
  have h121 := @run_callFunc_extern Tryz.prog 121 _ ReflectliteValue.set Tryz.func121 (by kernel_rfl) (by kernel_rfl) (by kernel_rfl) (by kernel_rfl)
  have f1 := Tryz.rvalueOf141
  have f2 := Tryz.rtype141
  have f3 := Tryz.rvalueOf26
  have m1 := Tryz.rmethodKind
  have m2 := Tryz.rmethodElem
  have m3 := Tryz.rmethodImplements
  have m4 := Tryz.rmethodAssignableTo
  have k1 := Tryz.rkind141
  have k2 := Tryz.rkind26
  have e1 := Tryz.relem141
  have i1 := Tryz.rimplements26
  have t1 := Tryz.rtypeOf26
  have a1 := Tryz.rassignable26
  have hlt : 1 < w.heap.size := by
    rcases Nat.lt_or_ge 1 w.heap.size with h | h
    · exact h
    · unfold ErrT at hE
      simp [World.cell?, Array.getElem?_eq_none h] at hE
  have htl : t.block < w.heap.size := by
    rcases Nat.lt_or_ge t.block w.heap.size with h | h
    · exact h
    · simp [World.cell?, Array.getElem?_eq_none h] at ht0
  have n8 := Tryz.risNil141 ⟨w.heap.size, 0, none⟩ t ((w.alloc (.cells #[.pointer (some t)] 141)).alloc (.cells #[.pointer (some ⟨7, 141, none⟩), .pointer (some ⟨w.heap.size, 0, none⟩), .int .u64 150] 174)) (by simp)
  have hg2 : ((w.alloc (.cells #[.pointer (some t)] 141)).alloc (.cells #[.pointer (some ⟨7, 141, none⟩), .pointer (some ⟨w.heap.size, 0, none⟩), .int .u64 150] 174)).cell? ⟨1, 0, none⟩ = some (.iface 214 (.agg #[.pointer (some ⟨7, 56, none⟩)])) := by
    rw [World.cell?_alloc_lt _ _ ⟨1, 0, none⟩ (by simp; omega), World.cell?_alloc_lt _ _ ⟨1, 0, none⟩ hlt]; exact hE
  have el := Tryz.relemV141 ⟨w.heap.size, 0, none⟩ t (((w.alloc (.cells #[.pointer (some t)] 141)).alloc (.cells #[.pointer (some ⟨7, 141, none⟩), .pointer (some ⟨w.heap.size, 0, none⟩), .int .u64 150] 174)).alloc (.cells #[.pointer (some ⟨7, 141, none⟩), .pointer (some ⟨w.heap.size, 0, none⟩), .int .u64 150] 174)) (by rw [World.cell?_alloc_lt _ _ ⟨w.heap.size, 0, none⟩ (by simp; omega)]; simp)
  have st := Tryz.rset26 t ⟨w.heap.size + 1 + 1 + 1, 0, none⟩ k old ((((w.alloc (.cells #[.pointer (some t)] 141)).alloc (.cells #[.pointer (some ⟨7, 141, none⟩), .pointer (some ⟨w.heap.size, 0, none⟩), .int .u64 150] 174)).alloc (.cells #[.pointer (some ⟨7, 141, none⟩), .pointer (some ⟨w.heap.size, 0, none⟩), .int .u64 150] 174)).alloc (.cells #[.int .i64 k] 26))
    (by rw [World.cell?_alloc_at _ _ _ _ (by simp)]; rfl)
    (by rw [World.cell?_alloc_lt _ _ t (by simp; omega), World.cell?_alloc_lt _ _ t (by simp; omega), World.cell?_alloc_lt _ _ t (by simp; omega), World.cell?_alloc_lt _ _ t htl]; exact ht0)
    (by rw [World.frozen?_alloc_old _ _ t (by simp; omega), World.frozen?_alloc_old _ _ t (by simp; omega), World.frozen?_alloc_old _ _ t (by simp; omega), World.frozen?_alloc_old _ _ t (Nat.ne_of_lt htl)]; exact hf0)
  go_enter Tryz.func61, Tryz.ntmps61
  go_wp2
  refine wp_loop_rounds 1 ?_
  rw [rounds_succ]
  go_wp2
  go_ret
  exact ⟨rfl, _, ((((Below.refl _ _).alloc (Nat.le_refl _) _).alloc (by simp) _).alloc (by simp; omega) _).alloc (by simp; omega) _, rfl⟩
set_option maxRecDepth 100000 in
set_option maxHeartbeats 4000000 in
theorem is_errno (k : Int) (hk : k = 5 ∨ k = 6) (w : World) :
    Calls Tryz.prog 62 #[.iface 26 (.int .i64 k), .iface 26 (.int .i64 k)] w fun e w' => e = .returned (.bool true) ∧ w' = w := by
  have h91 := @run_callFunc_extern Tryz.prog 91 _ ReflectliteType.typeOf Tryz.func91 (by kernel_rfl) (by kernel_rfl) (by kernel_rfl) (by kernel_rfl)
  have h199 := @run_callFunc_extern Tryz.prog 199 _ (ReflectliteType.method fun t => do Rtype.noPackHeld "Comparable" t; pure (.bool (← typeInfo t).comparable)) Tryz.func199 (by kernel_rfl) (by kernel_rfl) (by kernel_rfl) (by kernel_rfl)
  have c1 : ∀ w, (callFunc 199 #[.agg #[.pointer (some ⟨7, 26, none⟩)]]).run Tryz.prog w = .ok (.value (.bool true)) w := fun w => by
    rw [h199]
    exact (show ((ReflectliteType.method fun t => do Rtype.noPackHeld "Comparable" t; pure (.bool (← typeInfo t).comparable)) #[.agg #[.pointer (some ⟨7, 26, none⟩)]] |>.run Tryz.prog w).andThen (fun v w' => Result.ok (Next.value v) w') = .ok (.value (.bool true)) w by kernel_rfl)
  clear h199
  have t1 := Tryz.rtypeOf26
  have m1 := Tryz.rmethodComparable
  have heq := Tryz.req26 k hk
  clear hk
  go_enter Tryz.func62, Tryz.ntmps62
  go_wp2
  refine wp_loop_rounds 1 ?_
  rw [rounds_succ]
  go_wp2
  go_ret
  exact ⟨rfl, rfl⟩
theorem ErrT.lt {w : World} (h : ErrT w) : 1 < w.heap.size := by
  rcases Nat.lt_or_ge 1 w.heap.size with k | k
  · exact k
  · unfold ErrT at h
    simp [World.cell?, Array.getElem?_eq_none k] at h
theorem ErrT.below {w w' : World} (h : ErrT w) (hb : Below w.heap.size w w') : ErrT w' := by
  have hlt := h.lt
  unfold ErrT at *
  rw [← h]
  simp only [World.cell?, hb.block 1 hlt]
theorem cell_set {W : World} {b : Nat} {t : TypeId} {x y : Value} (h : W.heap[b]? = some (Obj.cells #[x] t (0, 0))) : (W.setCell ⟨b, 0, none⟩ y).cell? ⟨b, 0, none⟩ = some y := by
  have hlt : b < W.heap.size := by
    rcases Nat.lt_or_ge b W.heap.size with k | k
    · exact k
    · rw [Array.getElem?_eq_none k] at h; cases h
  rw [Array.getElem?_eq_getElem hlt] at h
  have h2 := Option.some.inj h
  simp [World.cell?, World.setCell, hlt, Array.getElem_modify, h2]
set_option maxRecDepth 100000 in
set_option maxHeartbeats 4000000 in
theorem told_err (k : Int) (hk : k = 5 ∨ k = 6) (w : World) (hE : ErrT w) : Calls Tryz.prog 39 #[.iface 26 (.int .i64 k)] w fun e w' => e = .returned (.tuple #[.int .i64 k, .int .i64 (-1)]) ∧ Below w.heap.size w w' := by
  obtain ⟨W2, hW2⟩ : ∃ W2, W2 = (w.alloc (Obj.cells #[.pointer none] 135)).alloc (Obj.cells #[.int .i64 0] 26) := ⟨_, rfl⟩
  have hb2 : Below w.heap.size w W2 := by rw [hW2]; exact ((Below.refl _ _).alloc (Nat.le_refl _) _).alloc (by simp) _
  have hz2 : W2.heap[w.heap.size + 1]? = some (Obj.cells #[.int .i64 0] 26 (0, 0)) := by
    rw [hW2]
    have e : (w.alloc (Obj.cells #[.pointer none] 135)).heap.size = w.heap.size + 1 := by simp
    rw [← e]
    exact heap_alloc_new _ _
  have hs2 : W2.heap.size = w.heap.size + 2 := by rw [hW2]; simp
  have hE2 := hE.below hb2
  have HE2 : Hid (ErrT W2) := hE2
  have HB2 : Hid (Below w.heap.size w W2) := hb2
  have HZ2 : Hid (W2.heap[w.heap.size + 1]? = some (Obj.cells #[.int .i64 0] 26 (0, 0))) := hz2
  have HS2 : Hid (W2.heap.size = w.heap.size + 2) := hs2
  have HE : Hid (ErrT w) := hE
  clear hE hE2 hb2 hz2 hs2
  go_enter Tryz.func39, Tryz.ntmps39
  go_wp2_with (first | (go_at_call 61; fail))
  rw [← hW2]
  clear hW2
  refine (as_fault _ ⟨w.heap.size, 0, none⟩ W2 HE2.out).mono ?_
  rintro e W3 ⟨rfl, hb3⟩
  have hE3 : ErrT W3 := HE2.out.below hb3
  have hz3 : W3.heap[w.heap.size + 1]? = some (Obj.cells #[.int .i64 0] 26 (0, 0)) := (hb3.block _ (by have := HS2.out; omega)).trans HZ2.out
  have hb13 : Below w.heap.size w W3 := HB2.out.trans (hb3.mono HB2.out.size)
  have c3 : W3.cell? ⟨w.heap.size + 1, 0, none⟩ = some (.int .i64 0) := by simp [World.cell?, hz3]
  have f3 : W3.frozen? ⟨w.heap.size + 1, 0, none⟩ = false := by simp [World.frozen?, hz3]
  have HE3 : Hid (ErrT W3) := hE3
  have HZ3 : Hid (W3.heap[w.heap.size + 1]? = some (Obj.cells #[.int .i64 0] 26 (0, 0))) := hz3
  have HB3 : Hid (Below w.heap.size w W3) := hb13
  clear hb3 hz3 hb13 hE3 HE2 HZ2 HS2 HB2
  go_wp2_with (first | (go_at_call 61; fail))
  refine (as_errno k ⟨w.heap.size + 1, 0, none⟩ (.int .i64 0) W3 HE3.out c3 f3).mono ?_
  rintro e W4 ⟨rfl, W, hbW, rfl⟩
  have hzW : W.heap[w.heap.size + 1]? = some (Obj.cells #[.int .i64 0] 26 (0, 0)) := (hbW.block _ (by
    rcases Nat.lt_or_ge (w.heap.size + 1) W3.heap.size with h | h
    · exact h
    · have := HZ3.out; rw [Array.getElem?_eq_none h] at this; cases this)).trans HZ3.out
  have hbe : Below w.heap.size w (W.setCell ⟨w.heap.size + 1, 0, none⟩ (.int .i64 k)) := (HB3.out.trans (hbW.mono HB3.out.size)).setCell (by simp) _
  have c4 : (W.setCell ⟨w.heap.size + 1, 0, none⟩ (.int .i64 k)).cell? ⟨w.heap.size + 1, 0, none⟩ = some (.int .i64 k) := cell_set hzW
  obtain ⟨W5, hW5⟩ : ∃ W5, W5 = W.setCell ⟨w.heap.size + 1, 0, none⟩ (.int .i64 k) := ⟨_, rfl⟩
  rw [← hW5] at c4 hbe ⊢
  have HBE : Hid (Below w.heap.size w W5) := hbe
  clear hbe hzW hW5 hbW HZ3 HE3 HB3 c3 f3
  have ci := is_errno k hk W5
  go_wp2_with (first | (go_at_call 62; refine ci.mono ?_; rintro e w6 ⟨rfl, rfl⟩))
  go_ret2
  exact ⟨rfl, HBE.out⟩
set_option maxRecDepth 100000 in
theorem number_err (k : Int) (hk : k = 5 ∨ k = 6) (w : World) (hE : ErrT w) : Calls Tryz.prog 19 #[.iface 26 (.int .i64 k)] w fun e w' => e = .returned (.int .i64 k) ∧ Below w.heap.size w w' := by
  have c := told_err k hk w hE
  clear hk hE
  go_enter Tryz.func19, Tryz.ntmps19
  go_wp2_with (first | (go_at_call 39; refine c.mono ?_; rintro e w1 ⟨rfl, hb⟩))
  go_ret
  exact ⟨rfl, hb⟩
end Go.Proofs.YtmicdbplkfdfnaaGreatDoor
set_option linter.unusedVariables false
namespace Go.Proofs.YtmicdbplkfdfnaaGreatDoor
open Go.RowKit Go.Shelf Go.Maps
attribute [local go_sem] run_store_flt

/-- number of an error, or of none. -/
theorem number_all (er : Value) (he : ErrV er) (w : World) (hE : ErrT w) : Calls Tryz.prog 19 #[er] w fun e w' => (∃ z : Int, e = .returned (.int .i64 z)) ∧ Kx [] w w' := by
  rcases he with rfl | rfl | rfl
  · exact (number_nil w).mono fun e w' h => ⟨⟨_, h.1⟩, h.2⟩
  · exact (number_err 5 (.inl rfl) w hE).mono fun e w' h => ⟨⟨_, h.1⟩, Kx.ofBelow h.2 []⟩
  · exact (number_err 6 (.inr rfl) w hE).mono fun e w' h => ⟨⟨_, h.1⟩, Kx.ofBelow h.2 []⟩
set_option maxRecDepth 100000 in
set_option maxHeartbeats 2000000 in
theorem define_plainE (O : Nat) (r : Int) (s : ByteArray) (d0 d1 d2 d3 d4 d5 d12 d13 d14 : Bool) (k rf g st : Int) (x : Nat) (tx : ByteArray) (R : World → Prop) (w : World) (hE : ∀ W, R W → ErrT W)
    (cD : ∀ W, Kx [] w W → Calls Tryz.prog 20 #[.pointer (some ⟨O, 0, none⟩), .int .i64 r, .string s, .agg #[.bool d0, .bool d1, .bool d2, .bool d3, .bool d4, .bool d5, .int .i64 k, .float .f64 x, .string tx, .int .i64 rf, .int .i64 g, .int .i64 st, .bool d12, .bool d13, .bool d14]] W fun e w' => ∃ er, e = .returned er ∧ ErrV er ∧ R w') :
    Calls Tryz.prog 7 #[.pointer (some ⟨O, 0, none⟩), .int .i64 r, .string s, .agg #[.bool d0, .bool d1, .bool d2, .bool d3, .bool d4, .bool d5, .int .i64 k, .float .f64 x, .string tx, .int .i64 rf, .int .i64 g, .int .i64 st, .bool d12, .bool d13, .bool d14]] w fun e w' => (∃ z : Int, e = .returned (.int .i64 z)) ∧ ∃ W, R W ∧ Kx [] W w' := by
  have CD := (show Hid _ from cD)
  have HE := (show Hid (∀ W, R W → ErrT W) from hE)
  clear cD hE
  go_enter Tryz.func7, Tryz.ntmps7
  go_wp2_with (first | (go_at_call 20; fail))
  refine (CD.out _ (Kx.alloc _ _ _)).mono ?_
  rintro e w1 ⟨er, rfl, hV, hR⟩
  have HR := (show Hid (R w1) from hR)
  have CN := (show Hid (Unit → Calls Tryz.prog 19 #[er] w1 fun e w' => (∃ z : Int, e = .returned (.int .i64 z)) ∧ Kx [] w1 w') from fun _ => number_all er hV w1 (HE.out w1 hR))
  clear hR hV HE CD
  go_wp2_with (first | (go_at_call 19; refine (CN.out ()).mono ?_; rintro e w2 ⟨⟨z, rfl⟩, hk⟩))
  go_ret
  exact ⟨⟨z, rfl⟩, w1, HR.out, hk⟩
set_option maxRecDepth 100000 in
set_option maxHeartbeats 2000000 in
theorem delete_faceE (O H b : Nat) (l : List Nat) (r : Int) (s nm : ByteArray) (pl : Int) (isP : Bool) (E : Value → Prop) (R : World → Prop) (w : World)
    (hO : w.cell? ⟨O, 0, none⟩ = some (.pointer (some ⟨H, 0, none⟩))) (hH : Objs w H l) (hr1 : 1 ≤ r) (hr : l[(r - 1).toNat]? = some b)
    (cK : ∀ W, Kx [] w W → Calls Tryz.prog 26 #[.string s] W fun e w' => e = .returned (.agg #[.string nm, .int .u32 pl, .bool isP]) ∧ Kx [] W w')
    (cD : ∀ W, Kx [] w W → Calls Tryz.prog 56 #[.pointer (some ⟨b, 0, none⟩), .agg #[.string nm, .int .u32 pl, .bool isP]] W fun e w' => ∃ er, e = .returned er ∧ E er ∧ R w') :
    Calls Tryz.prog 28 #[.pointer (some ⟨O, 0, none⟩), .int .i64 r, .string s] w fun e w' => ∃ er, e = .returned er ∧ E er ∧ R w' := by
  have c1 := numbered_any H l r w hH
  rw [objP_hit hr1 hr] at c1
  have CK := (show Hid _ from cK)
  have CD := (show Hid _ from cD)
  clear cK cD hH hr1 hr
  go_enter Tryz.func28, Tryz.ntmps28
  go_wp2_with (first | (go_at_call 21; refine c1.mono ?_; rintro e w1 ⟨rfl, h1⟩; obtain rfl := h1.symm) | (go_at_call 26; fail))
  refine (CK.out w (Kx.refl _ _)).mono ?_
  rintro e w2 ⟨rfl, hk2⟩
  have HK2 := (show Hid (Kx [] w w2) from hk2)
  clear hk2 CK c1 hO
  go_wp2_with (first | (go_at_call 56; fail))
  refine (CD.out w2 HK2.out).mono ?_
  rintro e w3 ⟨er, rfl, hV, hR⟩
  have HV := (show Hid (E er ∧ R w3) from ⟨hV, hR⟩)
  clear hV hR CD HK2
  go_wp2
  go_ret
  exact ⟨er, rfl, HV.out.1, HV.out.2⟩
set_option maxRecDepth 100000 in
set_option maxHeartbeats 2000000 in
theorem delete_plainE (O : Nat) (r : Int) (s : ByteArray) (R : World → Prop) (w : World) (hE : ∀ W, R W → ErrT W)
    (cD : Calls Tryz.prog 28 #[.pointer (some ⟨O, 0, none⟩), .int .i64 r, .string s] w fun e w' => ∃ er, e = .returned er ∧ ErrV er ∧ R w') :
    Calls Tryz.prog 12 #[.pointer (some ⟨O, 0, none⟩), .int .i64 r, .string s] w fun e w' => (∃ z : Int, e = .returned (.int .i64 z)) ∧ ∃ W, R W ∧ Kx [] W w' := by
  have CD := (show Hid (Unit → Calls Tryz.prog 28 #[.pointer (some ⟨O, 0, none⟩), .int .i64 r, .string s] w fun e w' => ∃ er, e = .returned er ∧ ErrV er ∧ R w') from fun _ => cD)
  have HE := (show Hid (∀ W, R W → ErrT W) from hE)
  clear cD hE
  go_enter Tryz.func12, Tryz.ntmps12
  go_wp2_with (first | (go_at_call 28; fail))
  refine (CD.out ()).mono ?_
  rintro e w1 ⟨er, rfl, hV, hR⟩
  have HR := (show Hid (R w1) from hR)
  have CN := (show Hid (Unit → Calls Tryz.prog 19 #[er] w1 fun e w' => (∃ z : Int, e = .returned (.int .i64 z)) ∧ Kx [] w1 w') from fun _ => number_all er hV w1 (HE.out w1 hR))
  clear hR hV HE CD
  go_wp2_with (first | (go_at_call 19; refine (CN.out ()).mono ?_; rintro e w2 ⟨⟨z, rfl⟩, hk⟩))
  go_ret
  exact ⟨⟨z, rfl⟩, w1, HR.out, hk⟩
end Go.Proofs.YtmicdbplkfdfnaaGreatDoor
