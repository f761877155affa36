/- errors.As and errors.Is at the program's own errors; Told, number. -/
import Derived.Test.YtellndmbllmjgaaGreatDoorProg
import Derived.WalkKit
import Derived.LaidEql
import Derived.Stop.Asserts
import Derived.RowKitTokens
import Derived.Below
import Derived.Laws.Rows
import Derived.Test.YtellndmbllmjgaaGreatDoorCApx
set_option linter.unusedVariables false
namespace Go.Proofs.YtellndmbllmjgaaGreatDoor
open Go.RowKit Go.Extern.Stop Go.Stop Go.Extern

theorem Tryz.rvalueOf174 (t : Addr) (w : World) : (ReflectliteValue.unpack (.iface 174 (.pointer (some t)))).run Tryz.prog w
    = .ok (.agg #[.pointer (some ⟨20, 174, none⟩), .pointer (some ⟨w.heap.size, 0, none⟩), .int .u64 150]) (w.alloc (.cells #[.pointer (some t)] 174)) := by kernel_rfl
theorem Tryz.rvalueOf178 (t : Addr) (w : World) : (ReflectliteValue.unpack (.iface 178 (.pointer (some t)))).run Tryz.prog w
    = .ok (.agg #[.pointer (some ⟨20, 178, none⟩), .pointer (some ⟨w.heap.size, 0, none⟩), .int .u64 150]) (w.alloc (.cells #[.pointer (some t)] 178)) := by kernel_rfl
theorem Tryz.rtype174 (a : Addr) (w : World) : (ReflectliteValue.methodAny (ReflectliteValue.valueError "reflectlite.Value.Type" 0) (fun t _ _ _ => ReflectliteType.toType t) #[.agg #[.pointer (some ⟨20, 174, none⟩), .pointer (some a), .int .u64 150]]).run Tryz.prog w
    = .ok (.iface 262 (.agg #[.pointer (some ⟨20, 174, none⟩)])) w := by kernel_rfl
theorem Tryz.rtype178 (a : Addr) (w : World) : (ReflectliteValue.methodAny (ReflectliteValue.valueError "reflectlite.Value.Type" 0) (fun t _ _ _ => ReflectliteType.toType t) #[.agg #[.pointer (some ⟨20, 178, none⟩), .pointer (some a), .int .u64 150]]).run Tryz.prog w
    = .ok (.iface 262 (.agg #[.pointer (some ⟨20, 178, none⟩)])) w := by kernel_rfl
theorem Tryz.rmethodKind (h : Value) (w : World) : (Go.method 465 262 (.agg #[h]) "Kind").run Tryz.prog w = .ok (318, h) w := by kernel_rfl
theorem Tryz.rmethodElem (h : Value) (w : World) : (Go.method 465 262 (.agg #[h]) "Elem").run Tryz.prog w = .ok (335, .agg #[h]) w := by kernel_rfl
theorem Tryz.rmethodImplements (h : Value) (w : World) : (Go.method 465 262 (.agg #[h]) "Implements").run Tryz.prog w = .ok (336, .agg #[h]) w := by kernel_rfl
theorem Tryz.rmethodAssignableTo (h : Value) (w : World) : (Go.method 465 262 (.agg #[h]) "AssignableTo").run Tryz.prog w = .ok (333, .agg #[h]) w := by kernel_rfl
theorem Tryz.rmethodComparable (h : Value) (w : World) : (Go.method 465 262 (.agg #[h]) "Comparable").run Tryz.prog w = .ok (334, .agg #[h]) w := by kernel_rfl
theorem Tryz.rkind174 (w : World) : ((ReflectliteType.abiMethod fun t => (fun a : Nat => Value.int IntKind.u8 (a : Int)) <$> Rtype.kind t) #[.pointer (some ⟨20, 174, none⟩)]).run Tryz.prog w = .ok (.int .u8 22) w := by kernel_rfl
theorem Tryz.rkind178 (w : World) : ((ReflectliteType.abiMethod fun t => (fun a : Nat => Value.int IntKind.u8 (a : Int)) <$> Rtype.kind t) #[.pointer (some ⟨20, 178, none⟩)]).run Tryz.prog w = .ok (.int .u8 22) w := by kernel_rfl
theorem Tryz.rkind172 (w : World) : ((ReflectliteType.abiMethod fun t => (fun a : Nat => Value.int IntKind.u8 (a : Int)) <$> Rtype.kind t) #[.pointer (some ⟨20, 172, none⟩)]).run Tryz.prog w = .ok (.int .u8 22) w := by kernel_rfl
theorem Tryz.rkind35 (w : World) : ((ReflectliteType.abiMethod fun t => (fun a : Nat => Value.int IntKind.u8 (a : Int)) <$> Rtype.kind t) #[.pointer (some ⟨20, 35, none⟩)]).run Tryz.prog w = .ok (.int .u8 2) w := by kernel_rfl
theorem Tryz.rparts174 (a : Addr) (w : World) : (ReflectliteValue.parts (.agg #[.pointer (some ⟨20, 174, none⟩), .pointer (some a), .int .u64 150])).run Tryz.prog w = .ok (some (174, a, 150)) w := by kernel_rfl
theorem Tryz.rparts178 (a : Addr) (w : World) : (ReflectliteValue.parts (.agg #[.pointer (some ⟨20, 178, none⟩), .pointer (some a), .int .u64 150])).run Tryz.prog w = .ok (some (178, a, 150)) w := by kernel_rfl
theorem Tryz.risNil174 (a p : Addr) (W : World) (ha : W.cell? a = some (.pointer (some p))) :
    (ReflectliteValue.method (ReflectliteValue.valueError "reflectlite.Value.IsNil" 0) ReflectliteValue.isNil #[.agg #[.pointer (some ⟨20, 174, none⟩), .pointer (some a), .int .u64 150]]).run Tryz.prog W = .ok (.bool false) W := by
  have e : (ReflectliteValue.method (ReflectliteValue.valueError "reflectlite.Value.IsNil" 0) ReflectliteValue.isNil #[.agg #[.pointer (some ⟨20, 174, none⟩), .pointer (some a), .int .u64 150]]) = (ReflectliteValue.parts (.agg #[.pointer (some ⟨20, 174, none⟩), .pointer (some a), .int .u64 150]) >>= _) := rfl
  rw [e]
  simp only [Sem.run_bind, Tryz.rparts174, Result.andThen]
  simp [ReflectliteValue.isNil, loadVar, isAgg, underlying, Tryz.underlying174, ha, Result.andThen]
theorem Tryz.risNil178 (a p : Addr) (W : World) (ha : W.cell? a = some (.pointer (some p))) :
    (ReflectliteValue.method (ReflectliteValue.valueError "reflectlite.Value.IsNil" 0) ReflectliteValue.isNil #[.agg #[.pointer (some ⟨20, 178, none⟩), .pointer (some a), .int .u64 150]]).run Tryz.prog W = .ok (.bool false) W := by
  have e : (ReflectliteValue.method (ReflectliteValue.valueError "reflectlite.Value.IsNil" 0) ReflectliteValue.isNil #[.agg #[.pointer (some ⟨20, 178, none⟩), .pointer (some a), .int .u64 150]]) = (ReflectliteValue.parts (.agg #[.pointer (some ⟨20, 178, none⟩), .pointer (some a), .int .u64 150]) >>= _) := rfl
  rw [e]
  simp only [Sem.run_bind, Tryz.rparts178, Result.andThen]
  simp [ReflectliteValue.isNil, loadVar, isAgg, underlying, Tryz.underlying178, ha, Result.andThen]
theorem Tryz.relem174 (w : World) : (ReflectliteType.method ReflectliteType.elem #[.agg #[.pointer (some ⟨20, 174, none⟩)]]).run Tryz.prog w = .ok (.iface 262 (.agg #[.pointer (some ⟨20, 172, none⟩)])) w := by kernel_rfl
theorem Tryz.relem178 (w : World) : (ReflectliteType.method ReflectliteType.elem #[.agg #[.pointer (some ⟨20, 178, none⟩)]]).run Tryz.prog w = .ok (.iface 262 (.agg #[.pointer (some ⟨20, 35, none⟩)])) w := by kernel_rfl
theorem Tryz.rimplements172 (w : World) : (ReflectliteType.relation "Implements" ReflectliteType.implements_ #[.agg #[.pointer (some ⟨20, 172, none⟩)], .iface 262 (.agg #[.pointer (some ⟨20, 79, none⟩)])]).run Tryz.prog w = .ok (.bool true) w := by kernel_rfl
theorem Tryz.rimplements35 (w : World) : (ReflectliteType.relation "Implements" ReflectliteType.implements_ #[.agg #[.pointer (some ⟨20, 35, none⟩)], .iface 262 (.agg #[.pointer (some ⟨20, 79, none⟩)])]).run Tryz.prog w = .ok (.bool true) w := by kernel_rfl
theorem Tryz.rtypeOf35 (v : Value) (w : World) : (ReflectliteType.typeOf #[.iface 35 v]).run Tryz.prog w = .ok (.iface 262 (.agg #[.pointer (some ⟨20, 35, none⟩)])) w := by kernel_rfl
theorem Tryz.rassignable35 (w : World) : (ReflectliteType.relation "AssignableTo" ReflectliteType.assignableTo #[.agg #[.pointer (some ⟨20, 35, none⟩)], .iface 262 (.agg #[.pointer (some ⟨20, 35, none⟩)])]).run Tryz.prog w = .ok (.bool true) w := by kernel_rfl
theorem Tryz.rassignable172 (w : World) : (ReflectliteType.relation "AssignableTo" ReflectliteType.assignableTo #[.agg #[.pointer (some ⟨20, 35, none⟩)], .iface 262 (.agg #[.pointer (some ⟨20, 172, none⟩)])]).run Tryz.prog w = .ok (.bool false) w := by kernel_rfl
theorem Tryz.rvalueOf35 (k : Int) (w : World) : (ReflectliteValue.unpack (.iface 35 (.int .i64 k))).run Tryz.prog w
    = .ok (.agg #[.pointer (some ⟨20, 35, none⟩), .pointer (some ⟨w.heap.size, 0, none⟩), .int .u64 130]) (w.alloc (.cells #[.int .i64 k] 35)) := by kernel_rfl
theorem Tryz.relemOf178 (w : World) : (Rtype.elem? 178).run Tryz.prog w = .ok (some 35) w := by kernel_rfl
theorem Tryz.rmk35 (p : Addr) (w : World) : (ReflectliteValue.mk 35 p ReflectliteValue.flagAddr).run Tryz.prog w = .ok (.agg #[.pointer (some ⟨20, 35, none⟩), .pointer (some p), .int .u64 386]) w := by kernel_rfl
theorem Tryz.relemV178 (a p : Addr) (W : World) (ha : W.cell? a = some (.pointer (some p))) :
    (ReflectliteValue.method (ReflectliteValue.valueError "reflectlite.Value.Elem" 0) ReflectliteValue.elem #[.agg #[.pointer (some ⟨20, 178, none⟩), .pointer (some a), .int .u64 150]]).run Tryz.prog W
      = .ok (.agg #[.pointer (some ⟨20, 35, none⟩), .pointer (some p), .int .u64 386]) W := by
  have e : (ReflectliteValue.method (ReflectliteValue.valueError "reflectlite.Value.Elem" 0) ReflectliteValue.elem #[.agg #[.pointer (some ⟨20, 178, none⟩), .pointer (some a), .int .u64 150]]) = (ReflectliteValue.parts (.agg #[.pointer (some ⟨20, 178, none⟩), .pointer (some a), .int .u64 150]) >>= _) := rfl
  rw [e]
  simp only [Sem.run_bind, Tryz.rparts178, Result.andThen]
  simp [ReflectliteValue.elem, loadVar, isAgg, underlying, Tryz.underlying178, ha, Result.andThen, Tryz.relemOf178, Tryz.rmk35]
theorem Tryz.rparts35a (a : Addr) (w : World) : (ReflectliteValue.parts (.agg #[.pointer (some ⟨20, 35, none⟩), .pointer (some a), .int .u64 386])).run Tryz.prog w = .ok (some (35, a, 386)) w := by kernel_rfl
theorem Tryz.rparts35 (a : Addr) (w : World) : (ReflectliteValue.parts (.agg #[.pointer (some ⟨20, 35, none⟩), .pointer (some a), .int .u64 130])).run Tryz.prog w = .ok (some (35, a, 130)) w := by kernel_rfl
theorem Tryz.rdirect35 (w : World) : (Rtype.directlyAssignable 35 35).run Tryz.prog w = .ok true w := by kernel_rfl
theorem Tryz.rset35 (ta b : Addr) (k : Int) (old : Value) (W : World) (hb : W.cell? b = some (.int .i64 k)) (ht : W.cell? ta = some old) (hf : W.frozen? ta = false) :
    (ReflectliteValue.set #[.agg #[.pointer (some ⟨20, 35, none⟩), .pointer (some ta), .int .u64 386], .agg #[.pointer (some ⟨20, 35, none⟩), .pointer (some b), .int .u64 130]]).run Tryz.prog W
      = .ok (.tuple #[]) (W.setCell ta (.int .i64 k)) := by
  have e : ReflectliteValue.set #[.agg #[.pointer (some ⟨20, 35, none⟩), .pointer (some ta), .int .u64 386], .agg #[.pointer (some ⟨20, 35, none⟩), .pointer (some b), .int .u64 130]] = (ReflectliteValue.parts (.agg #[.pointer (some ⟨20, 35, none⟩), .pointer (some ta), .int .u64 386]) >>= fun x => ReflectliteValue.parts (.agg #[.pointer (some ⟨20, 35, none⟩), .pointer (some b), .int .u64 130]) >>= _) := rfl
  rw [e]
  simp only [Sem.run_bind, Tryz.rparts35a, Tryz.rparts35, Result.andThen]
  simp [ReflectliteValue.flagAddr, loadVar, isAgg, underlying, Tryz.underlying35, hb, Result.andThen, Tryz.rdirect35, storeVar, Value.cells, storeCells, Addr.add]
  rw [run_store Tryz.prog W ta _ _ (by rfl)]
  simp [ht, hf]
theorem Tryz.rnoAs (v : Value) (xT : TypeId) (w : World) : (Instr.typeAssert (.iface 35 v) xT 266 true).run Tryz.prog w = .ok (.tuple #[.nilIface, .bool false]) w := run_typeAssert_lacksB Tryz.underlying266 (by kernel_rfl) (by kernel_rfl) v xT w
theorem Tryz.rnoUnwrap (v : Value) (xT : TypeId) (w : World) : (Instr.typeAssert (.iface 35 v) xT 269 true).run Tryz.prog w = .ok (.tuple #[.nilIface, .bool false]) w := run_typeAssert_lacksB Tryz.underlying269 (by kernel_rfl) (by kernel_rfl) v xT w
theorem Tryz.rnoUnwraps (v : Value) (xT : TypeId) (w : World) : (Instr.typeAssert (.iface 35 v) xT 271 true).run Tryz.prog w = .ok (.tuple #[.nilIface, .bool false]) w := run_typeAssert_lacksB Tryz.underlying271 (by kernel_rfl) (by kernel_rfl) v xT w
theorem Tryz.rcomparable35 (w : World) : ((Extern.ReflectliteType.method fun t => (fun a => Value.bool a.comparable) <$> typeInfo t) #[.agg #[.pointer (some ⟨20, 35, none⟩)]]).run Tryz.prog w = .ok (.bool true) w := by kernel_rfl
theorem Tryz.req35 (w : World) : (binOp .eql 79 (.iface 35 (.int .i64 5)) (.iface 35 (.int .i64 5))).run Tryz.prog w = .ok (.bool true) w := by kernel_rfl
/-- What errors.As reads. -/
def ErrT (w : World) : Prop := w.cell? ⟨5, 0, none⟩ = some (.iface 262 (.agg #[.pointer (some ⟨20, 79, none⟩)]))
end Go.Proofs.YtellndmbllmjgaaGreatDoor
/- errors.As and errors.Is at the program's own errors; Told. -/
set_option linter.unusedVariables false
namespace Go.Proofs.YtellndmbllmjgaaGreatDoor
open Go.RowKit Go.Extern.Stop Go.Stop Go.Extern

set_option maxHeartbeats 4000000 in
/-- errors.As at the variable for *api.Fault: an Errno is none. -/
theorem as_fault (v : Value) (t : Addr) (w : World) (hE : ErrT w) :
    Calls Tryz.prog 161 #[.iface 35 v, .iface 174 (.pointer (some t))] w fun e w' => e = .returned (.bool false) ∧ Below w.heap.size w w' := by
  have h200 := @run_callFunc_extern Tryz.prog 201 _ (fun args => ReflectliteValue.unpack (args.getD 0 (.tuple #[]))) Tryz.func201 (by kernel_rfl) (by kernel_rfl) (by kernel_rfl) (by kernel_rfl)
  have h201 := @run_callFunc_extern Tryz.prog 202 _ (ReflectliteValue.methodAny (ReflectliteValue.valueError "reflectlite.Value.Type" 0) (fun t _ _ _ => ReflectliteType.toType t)) Tryz.func202 (by kernel_rfl) (by kernel_rfl) (by kernel_rfl) (by kernel_rfl)
  have h202 := @run_callFunc_extern Tryz.prog 203 _ (ReflectliteValue.method (ReflectliteValue.valueError "reflectlite.Value.IsNil" 0) ReflectliteValue.isNil) Tryz.func203 (by kernel_rfl) (by kernel_rfl) (by kernel_rfl) (by kernel_rfl)
  have h317 := @run_callFunc_extern Tryz.prog 318 _ (ReflectliteType.abiMethod fun t => do pure (.int .u8 (← Rtype.kind t))) Tryz.func318 (by kernel_rfl) (by kernel_rfl) (by kernel_rfl) (by kernel_rfl)
  have h334 := @run_callFunc_extern Tryz.prog 335 _ (ReflectliteType.method ReflectliteType.elem) Tryz.func335 (by kernel_rfl) (by kernel_rfl) (by kernel_rfl) (by kernel_rfl)
  have h335 := @run_callFunc_extern Tryz.prog 336 _ (ReflectliteType.relation "Implements" ReflectliteType.implements_) Tryz.func336 (by kernel_rfl) (by kernel_rfl) (by kernel_rfl) (by kernel_rfl)
  have h204 := @run_callFunc_extern Tryz.prog 205 _ ReflectliteType.typeOf Tryz.func205 (by kernel_rfl) (by kernel_rfl) (by kernel_rfl) (by kernel_rfl)
  have h332 := @run_callFunc_extern Tryz.prog 333 _ (ReflectliteType.relation "AssignableTo" ReflectliteType.assignableTo) Tryz.func333 (by kernel_rfl) (by kernel_rfl) (by kernel_rfl) (by kernel_rfl)
  have f1 := Tryz.rvalueOf174
  have f2 := Tryz.rtype174
  have m1 := Tryz.rmethodKind
  have m2 := Tryz.rmethodElem
  have m3 := Tryz.rmethodImplements
  have m4 := Tryz.rmethodAssignableTo
  have k1 := Tryz.rkind174
  have k2 := Tryz.rkind172
  have e1 := Tryz.relem174
  have i1 := Tryz.rimplements172
  have t1 := Tryz.rtypeOf35
  have a1 := Tryz.rassignable172
  have u1 := Tryz.rnoAs
  have u2 := Tryz.rnoUnwrap
  have u3 := Tryz.rnoUnwraps
  have hlt : 5 < w.heap.size := by
    rcases Nat.lt_or_ge 5 w.heap.size with h | h
    · exact h
    · unfold ErrT at hE
      simp [World.cell?, Array.getElem?_eq_none h] at hE
  have n8 := Tryz.risNil174 ⟨w.heap.size, 0, none⟩ t ((w.alloc (.cells #[.pointer (some t)] 174)).alloc (.cells #[.pointer (some ⟨20, 174, none⟩), .pointer (some ⟨w.heap.size, 0, none⟩), .int .u64 150] 218)) (by simp)
  have hg2 : ((w.alloc (.cells #[.pointer (some t)] 174)).alloc (.cells #[.pointer (some ⟨20, 174, none⟩), .pointer (some ⟨w.heap.size, 0, none⟩), .int .u64 150] 218)).cell? ⟨5, 0, none⟩ = some (.iface 262 (.agg #[.pointer (some ⟨20, 79, none⟩)])) := by
    rw [World.cell?_alloc_lt _ _ ⟨5, 0, none⟩ (by simp; omega), World.cell?_alloc_lt _ _ ⟨5, 0, none⟩ hlt]; exact hE
  go_enter Tryz.func161, Tryz.ntmps161
  go_wp2
  refine wp_loop_rounds 1 ?_
  rw [rounds_succ]
  go_wp2
  go_ret
  refine ⟨rfl, ?_⟩
  first
    | exact (((Below.refl _ _).alloc (Nat.le_refl _) _).alloc (by simp) _).alloc (by simp; omega) _
    | exact ((((Below.refl _ _).alloc (Nat.le_refl _) _).alloc (by simp) _).alloc (by simp; omega) _).drew
set_option maxHeartbeats 4000000 in
/-- errors.As at the variable for an Errno: it is set. -/
theorem as_errno (k : Int) (t : Addr) (old : Value) (w : World) (hE : ErrT w) (ht0 : w.cell? t = some old) (hf0 : w.frozen? t = false) :
    Calls Tryz.prog 161 #[.iface 35 (.int .i64 k), .iface 178 (.pointer (some t))] w fun e w' => e = .returned (.bool true) ∧ ∃ W, Below w.heap.size w W ∧ w' = W.setCell t (.int .i64 k) := by
  have h200 := @run_callFunc_extern Tryz.prog 201 _ (fun args => ReflectliteValue.unpack (args.getD 0 (.tuple #[]))) Tryz.func201 (by kernel_rfl) (by kernel_rfl) (by kernel_rfl) (by kernel_rfl)
  have h201 := @run_callFunc_extern Tryz.prog 202 _ (ReflectliteValue.methodAny (ReflectliteValue.valueError "reflectlite.Value.Type" 0) (fun t _ _ _ => ReflectliteType.toType t)) Tryz.func202 (by kernel_rfl) (by kernel_rfl) (by kernel_rfl) (by kernel_rfl)
  have h202 := @run_callFunc_extern Tryz.prog 203 _ (ReflectliteValue.method (ReflectliteValue.valueError "reflectlite.Value.IsNil" 0) ReflectliteValue.isNil) Tryz.func203 (by kernel_rfl) (by kernel_rfl) (by kernel_rfl) (by kernel_rfl)
  have h317 := @run_callFunc_extern Tryz.prog 318 _ (ReflectliteType.abiMethod fun t => do pure (.int .u8 (← Rtype.kind t))) Tryz.func318 (by kernel_rfl) (by kernel_rfl) (by kernel_rfl) (by kernel_rfl)
  have h334 := @run_callFunc_extern Tryz.prog 335 _ (ReflectliteType.method ReflectliteType.elem) Tryz.func335 (by kernel_rfl) (by kernel_rfl) (by kernel_rfl) (by kernel_rfl)
  have h335 := @run_callFunc_extern Tryz.prog 336 _ (ReflectliteType.relation "Implements" ReflectliteType.implements_) Tryz.func336 (by kernel_rfl) (by kernel_rfl) (by kernel_rfl) (by kernel_rfl)
  have h204 := @run_callFunc_extern Tryz.prog 205 _ ReflectliteType.typeOf Tryz.func205 (by kernel_rfl) (by kernel_rfl) (by kernel_rfl) (by kernel_rfl)
  have h332 := @run_callFunc_extern Tryz.prog 333 _ (ReflectliteType.relation "AssignableTo" ReflectliteType.assignableTo) Tryz.func333 (by kernel_rfl) (by kernel_rfl) (by kernel_rfl) (by kernel_rfl)
  have h243 := @run_callFunc_extern Tryz.prog 244 _ (ReflectliteValue.method (ReflectliteValue.valueError "reflectlite.Value.Elem" 0) ReflectliteValue.elem) Tryz.func244 (by kernel_rfl) (by kernel_rfl) (by kernel_rfl) (by kernel_rfl)
  have h244 := @run_callFunc_extern Tryz.prog 245 _ ReflectliteValue.set Tryz.func245 (by kernel_rfl) (by kernel_rfl) (by kernel_rfl) (by kernel_rfl)
  have f1 := Tryz.rvalueOf178
  have f2 := Tryz.rtype178
  have f3 := Tryz.rvalueOf35
  have m1 := Tryz.rmethodKind
  have m2 := Tryz.rmethodElem
  have m3 := Tryz.rmethodImplements
  have m4 := Tryz.rmethodAssignableTo
  have k1 := Tryz.rkind178
  have k2 := Tryz.rkind35
  have e1 := Tryz.relem178
  have i1 := Tryz.rimplements35
  have t1 := Tryz.rtypeOf35
  have a1 := Tryz.rassignable35
  have hlt : 5 < w.heap.size := by
    rcases Nat.lt_or_ge 5 w.heap.size with h | h
    · exact h
    · unfold ErrT at hE
      simp [World.cell?, Array.getElem?_eq_none h] at hE
  have htl : t.block < w.heap.size := by
    rcases Nat.lt_or_ge t.block w.heap.size with h | h
    · exact h
    · simp [World.cell?, Array.getElem?_eq_none h] at ht0
  have n8 := Tryz.risNil178 ⟨w.heap.size, 0, none⟩ t ((w.alloc (.cells #[.pointer (some t)] 178)).alloc (.cells #[.pointer (some ⟨20, 178, none⟩), .pointer (some ⟨w.heap.size, 0, none⟩), .int .u64 150] 218)) (by simp)
  have hg2 : ((w.alloc (.cells #[.pointer (some t)] 178)).alloc (.cells #[.pointer (some ⟨20, 178, none⟩), .pointer (some ⟨w.heap.size, 0, none⟩), .int .u64 150] 218)).cell? ⟨5, 0, none⟩ = some (.iface 262 (.agg #[.pointer (some ⟨20, 79, none⟩)])) := by
    rw [World.cell?_alloc_lt _ _ ⟨5, 0, none⟩ (by simp; omega), World.cell?_alloc_lt _ _ ⟨5, 0, none⟩ hlt]; exact hE
  have el := Tryz.relemV178 ⟨w.heap.size, 0, none⟩ t (((w.alloc (.cells #[.pointer (some t)] 178)).alloc (.cells #[.pointer (some ⟨20, 178, none⟩), .pointer (some ⟨w.heap.size, 0, none⟩), .int .u64 150] 218)).alloc (.cells #[.pointer (some ⟨20, 178, none⟩), .pointer (some ⟨w.heap.size, 0, none⟩), .int .u64 150] 218)) (by rw [World.cell?_alloc_lt _ _ ⟨w.heap.size, 0, none⟩ (by simp; omega)]; simp)
  have st := Tryz.rset35 t ⟨w.heap.size + 1 + 1 + 1, 0, none⟩ k old ((((w.alloc (.cells #[.pointer (some t)] 178)).alloc (.cells #[.pointer (some ⟨20, 178, none⟩), .pointer (some ⟨w.heap.size, 0, none⟩), .int .u64 150] 218)).alloc (.cells #[.pointer (some ⟨20, 178, none⟩), .pointer (some ⟨w.heap.size, 0, none⟩), .int .u64 150] 218)).alloc (.cells #[.int .i64 k] 35))
    (by rw [World.cell?_alloc_at _ _ _ _ (by simp)]; rfl)
    (by rw [World.cell?_alloc_lt _ _ t (by simp; omega), World.cell?_alloc_lt _ _ t (by simp; omega), World.cell?_alloc_lt _ _ t (by simp; omega), World.cell?_alloc_lt _ _ t htl]; exact ht0)
    (by rw [World.frozen?_alloc_old _ _ t (by simp; omega), World.frozen?_alloc_old _ _ t (by simp; omega), World.frozen?_alloc_old _ _ t (by simp; omega), World.frozen?_alloc_old _ _ t (Nat.ne_of_lt htl)]; exact hf0)
  go_enter Tryz.func161, Tryz.ntmps161
  go_wp2
  refine wp_loop_rounds 1 ?_
  rw [rounds_succ]
  go_wp2
  go_ret
  exact ⟨rfl, _, ((((Below.refl _ _).alloc (Nat.le_refl _) _).alloc (by simp) _).alloc (by simp; omega) _).alloc (by simp; omega) _, rfl⟩
/-- errors.Is of an Errno and itself. -/
theorem is_errno (w : World) :
    Calls Tryz.prog 162 #[.iface 35 (.int .i64 5), .iface 35 (.int .i64 5)] w fun e w' => e = .returned (.bool true) ∧ w' = w := by
  have h204 := @run_callFunc_extern Tryz.prog 205 _ ReflectliteType.typeOf Tryz.func205 (by kernel_rfl) (by kernel_rfl) (by kernel_rfl) (by kernel_rfl)
  have h333 := @run_callFunc_extern Tryz.prog 334 _ (ReflectliteType.method fun t => do Rtype.noPackHeld "Comparable" t; pure (.bool (← typeInfo t).comparable)) Tryz.func334 (by kernel_rfl) (by kernel_rfl) (by kernel_rfl) (by kernel_rfl)
  have c1 : ∀ w, (callFunc 334 #[.agg #[.pointer (some ⟨20, 35, none⟩)]]).run Tryz.prog w = .ok (.value (.bool true)) w := fun w => by
    rw [h333]
    exact (show ((ReflectliteType.method fun t => do Rtype.noPackHeld "Comparable" t; pure (.bool (← typeInfo t).comparable)) #[.agg #[.pointer (some ⟨20, 35, none⟩)]] |>.run Tryz.prog w).andThen (fun v w' => Result.ok (Next.value v) w') = .ok (.value (.bool true)) w by kernel_rfl)
  clear h333
  have t1 := Tryz.rtypeOf35
  have m1 := Tryz.rmethodComparable
  have heq := Tryz.req35
  go_enter Tryz.func162, Tryz.ntmps162
  go_wp2
  refine wp_loop_rounds 1 ?_
  rw [rounds_succ]
  go_wp2
  go_ret
  exact ⟨rfl, rfl⟩
theorem told_nil (w : World) : Calls Tryz.prog 116 #[.nilIface] w fun e w' => e = .returned (.tuple #[.int .i64 0, .int .i64 (-1)]) ∧ Below w.heap.size w w' := by
  go_enter Tryz.func116, Tryz.ntmps116
  go_wp2
  go_ret2
  exact ⟨rfl, ((Below.refl _ _).alloc (Nat.le_refl _) _).alloc (by simp) _⟩
theorem ErrT.lt {w : World} (h : ErrT w) : 5 < w.heap.size := by
  rcases Nat.lt_or_ge 5 w.heap.size with k | k
  · exact k
  · unfold ErrT at h
    simp [World.cell?, Array.getElem?_eq_none k] at h
theorem ErrT.below {w w' : World} (h : ErrT w) (hb : Below w.heap.size w w') : ErrT w' := by
  have hlt := h.lt
  unfold ErrT at *
  rw [← h]
  simp only [World.cell?, hb.block 5 hlt]
theorem cell_set {W : World} {b : Nat} {t : TypeId} {x y : Value} (h : W.heap[b]? = some (Obj.cells #[x] t (0, 0))) : (W.setCell ⟨b, 0, none⟩ y).cell? ⟨b, 0, none⟩ = some y := by
  have hlt : b < W.heap.size := by
    rcases Nat.lt_or_ge b W.heap.size with k | k
    · exact k
    · rw [Array.getElem?_eq_none k] at h; cases h
  rw [Array.getElem?_eq_getElem hlt] at h
  have h2 := Option.some.inj h
  simp [World.cell?, World.setCell, hlt, Array.getElem_modify, h2]
theorem told_err (w : World) (hE : ErrT w) : Calls Tryz.prog 116 #[.iface 35 (.int .i64 5)] w fun e w' => e = .returned (.tuple #[.int .i64 5, .int .i64 (-1)]) ∧ Below w.heap.size w w' := by
  obtain ⟨W2, hW2⟩ : ∃ W2, W2 = (w.alloc (Obj.cells #[.pointer none] 172)).alloc (Obj.cells #[.int .i64 0] 35) := ⟨_, rfl⟩
  have hb2 : Below w.heap.size w W2 := by rw [hW2]; exact ((Below.refl _ _).alloc (Nat.le_refl _) _).alloc (by simp) _
  have hz2 : W2.heap[w.heap.size + 1]? = some (Obj.cells #[.int .i64 0] 35 (0, 0)) := by
    rw [hW2]
    have e : (w.alloc (Obj.cells #[.pointer none] 172)).heap.size = w.heap.size + 1 := by simp
    rw [← e]
    exact heap_alloc_new _ _
  have hs2 : W2.heap.size = w.heap.size + 2 := by rw [hW2]; simp
  have hE2 := hE.below hb2
  have HE2 : Hid (ErrT W2) := hE2
  have HB2 : Hid (Below w.heap.size w W2) := hb2
  have HZ2 : Hid (W2.heap[w.heap.size + 1]? = some (Obj.cells #[.int .i64 0] 35 (0, 0))) := hz2
  have HS2 : Hid (W2.heap.size = w.heap.size + 2) := hs2
  have HE : Hid (ErrT w) := hE
  clear hE hE2 hb2 hz2 hs2
  go_enter Tryz.func116, Tryz.ntmps116
  go_wp2_with (first | (go_at_call 161; fail))
  rw [← hW2]
  clear hW2
  refine (as_fault _ ⟨w.heap.size, 0, none⟩ W2 HE2.out).mono ?_
  rintro e W3 ⟨rfl, hb3⟩
  have hE3 : ErrT W3 := HE2.out.below hb3
  have hz3 : W3.heap[w.heap.size + 1]? = some (Obj.cells #[.int .i64 0] 35 (0, 0)) := (hb3.block _ (by have := HS2.out; omega)).trans HZ2.out
  have hb13 : Below w.heap.size w W3 := HB2.out.trans (hb3.mono HB2.out.size)
  have c3 : W3.cell? ⟨w.heap.size + 1, 0, none⟩ = some (.int .i64 0) := by simp [World.cell?, hz3]
  have f3 : W3.frozen? ⟨w.heap.size + 1, 0, none⟩ = false := by simp [World.frozen?, hz3]
  have HE3 : Hid (ErrT W3) := hE3
  have HZ3 : Hid (W3.heap[w.heap.size + 1]? = some (Obj.cells #[.int .i64 0] 35 (0, 0))) := hz3
  have HB3 : Hid (Below w.heap.size w W3) := hb13
  clear hb3 hz3 hb13 hE3 HE2 HZ2 HS2 HB2
  go_wp2_with (first | (go_at_call 161; fail))
  refine (as_errno 5 ⟨w.heap.size + 1, 0, none⟩ (.int .i64 0) W3 HE3.out c3 f3).mono ?_
  rintro e W4 ⟨rfl, W, hbW, rfl⟩
  have hzW : W.heap[w.heap.size + 1]? = some (Obj.cells #[.int .i64 0] 35 (0, 0)) := (hbW.block _ (by
    rcases Nat.lt_or_ge (w.heap.size + 1) W3.heap.size with h | h
    · exact h
    · have := HZ3.out; rw [Array.getElem?_eq_none h] at this; cases this)).trans HZ3.out
  have hbe : Below w.heap.size w (W.setCell ⟨w.heap.size + 1, 0, none⟩ (.int .i64 5)) := (HB3.out.trans (hbW.mono HB3.out.size)).setCell (by simp) _
  have c4 : (W.setCell ⟨w.heap.size + 1, 0, none⟩ (.int .i64 5)).cell? ⟨w.heap.size + 1, 0, none⟩ = some (.int .i64 5) := cell_set hzW
  obtain ⟨W5, hW5⟩ : ∃ W5, W5 = W.setCell ⟨w.heap.size + 1, 0, none⟩ (.int .i64 5) := ⟨_, rfl⟩
  rw [← hW5] at c4 hbe ⊢
  have HBE : Hid (Below w.heap.size w W5) := hbe
  clear hbe hzW hW5 hbW HZ3 HE3 HB3 c3 f3
  have ci := is_errno W5
  go_wp2_with (first | (go_at_call 162; refine ci.mono ?_; rintro e w6 ⟨rfl, rfl⟩))
  go_ret2
  exact ⟨rfl, HBE.out⟩
end Go.Proofs.YtellndmbllmjgaaGreatDoor
/- number and Written. -/
set_option linter.unusedVariables false
namespace Go.Proofs.YtellndmbllmjgaaGreatDoor
open Go.RowKit Go.Shelf

/-- What the document's function answers, wherever. -/
def Ans (f x : Nat) (n : Int) (T : ByteArray) (ok : Bool) : Prop := ∀ w, Calls Tryz.prog f #[.float .f64 x, .int .i64 n] w fun e w' => e = .returned (.tuple #[.string T, .bool ok]) ∧ Below w.heap.size w w'
/-- The program's function says what the document's will. -/
def Both (p f x : Nat) (n : Int) (w : World) : Prop := Calls Tryz.prog p #[.float .f64 x, .int .i64 n] w fun e w' => ((∃ T, Ans f x n T true ∧ e = .returned (.tuple #[.string T, .nilIface])) ∨ (Ans f x n ⟨#[]⟩ false ∧ e = .returned (.tuple #[.string ⟨#[]⟩, .iface 35 (.int .i64 5)]))) ∧ Below w.heap.size w w'
theorem number_err (w : World) (hE : ErrT w) : Calls Tryz.prog 60 #[.iface 35 (.int .i64 5)] w fun e w' => e = .returned (.int .i64 5) ∧ Below w.heap.size w w' := by
  have c := told_err w hE
  clear hE
  go_enter Tryz.func60, Tryz.ntmps60
  go_wp2_with (first | (go_at_call 116; refine c.mono ?_; rintro e w1 ⟨rfl, hb⟩))
  go_ret
  exact ⟨rfl, hb⟩
theorem number_nil (w : World) : Calls Tryz.prog 60 #[.nilIface] w fun e w' => e = .returned (.int .i64 0) ∧ Below w.heap.size w w' := by
  have c := told_nil w
  go_enter Tryz.func60, Tryz.ntmps60
  go_wp2_with (first | (go_at_call 116; refine c.mono ?_; rintro e w1 ⟨rfl, hb⟩))
  go_ret
  exact ⟨rfl, hb⟩
/-- What Written says, and what the document will say. -/
def WrittenC (f x : Nat) (n k : Int) (w : World) : Prop := Calls Tryz.prog 18 #[.float .f64 x, .int .i64 n, .int .i64 k] w fun e w' => ((∃ T, Ans f x n T true ∧ e = .returned (.tuple #[.string T, .int .i64 0])) ∨ (Ans f x n ⟨#[]⟩ false ∧ e = .returned (.tuple #[.string ⟨#[]⟩, .int .i64 5]))) ∧ Below w.heap.size w w'
set_option maxRecDepth 100000 in
set_option maxHeartbeats 1000000 in
theorem written0 (x : Nat) (n : Int) (w : World) (hE : ErrT w) (c : Both 56 19 x n w) : WrittenC 19 x n 0 w := by
  have C : Hid (Both 56 19 x n w) := c
  have HE : Hid (ErrT w) := hE
  clear c hE
  unfold WrittenC
  go_enter Tryz.func18, Tryz.ntmps18
  go_wp2_with (first | (go_at_call 56; fail))
  refine (C.out).mono ?_
  rintro e w1 ⟨h, hb⟩
  clear C
  rcases h with ⟨T, hA, rfl⟩ | ⟨hA, rfl⟩
  · have HA : Hid (Ans 19 x n T true) := hA
    have cn := number_nil w1
    clear hA HE
    go_wp2_with (first | (go_at_call 60; refine cn.mono ?_; rintro e w2 ⟨rfl, hb2⟩))
    go_ret2
    exact ⟨Or.inl ⟨T, HA.out, rfl⟩, hb.trans (hb2.mono hb.size)⟩
  · have HA : Hid (Ans 19 x n ⟨#[]⟩ false) := hA
    have cn := number_err w1 (HE.out.below hb)
    clear hA HE
    go_wp2_with (first | (go_at_call 60; refine cn.mono ?_; rintro e w2 ⟨rfl, hb2⟩))
    go_ret2
    exact ⟨Or.inr ⟨HA.out, rfl⟩, hb.trans (hb2.mono hb.size)⟩
set_option maxRecDepth 100000 in
set_option maxHeartbeats 1000000 in
theorem written1 (x : Nat) (n : Int) (w : World) (hE : ErrT w) (c : Both 57 20 x n w) : WrittenC 20 x n 1 w := by
  have C : Hid (Both 57 20 x n w) := c
  have HE : Hid (ErrT w) := hE
  clear c hE
  unfold WrittenC
  go_enter Tryz.func18, Tryz.ntmps18
  go_wp2_with (first | (go_at_call 57; fail))
  refine (C.out).mono ?_
  rintro e w1 ⟨h, hb⟩
  clear C
  rcases h with ⟨T, hA, rfl⟩ | ⟨hA, rfl⟩
  · have HA : Hid (Ans 20 x n T true) := hA
    have cn := number_nil w1
    clear hA HE
    go_wp2_with (first | (go_at_call 60; refine cn.mono ?_; rintro e w2 ⟨rfl, hb2⟩))
    go_ret2
    exact ⟨Or.inl ⟨T, HA.out, rfl⟩, hb.trans (hb2.mono hb.size)⟩
  · have HA : Hid (Ans 20 x n ⟨#[]⟩ false) := hA
    have cn := number_err w1 (HE.out.below hb)
    clear hA HE
    go_wp2_with (first | (go_at_call 60; refine cn.mono ?_; rintro e w2 ⟨rfl, hb2⟩))
    go_ret2
    exact ⟨Or.inr ⟨HA.out, rfl⟩, hb.trans (hb2.mono hb.size)⟩
set_option maxRecDepth 100000 in
set_option maxHeartbeats 1000000 in
theorem written2 (x : Nat) (n : Int) (w : World) (hE : ErrT w) (c : Both 58 21 x n w) : WrittenC 21 x n 2 w := by
  have C : Hid (Both 58 21 x n w) := c
  have HE : Hid (ErrT w) := hE
  clear c hE
  unfold WrittenC
  go_enter Tryz.func18, Tryz.ntmps18
  go_wp2_with (first | (go_at_call 58; fail))
  refine (C.out).mono ?_
  rintro e w1 ⟨h, hb⟩
  clear C
  rcases h with ⟨T, hA, rfl⟩ | ⟨hA, rfl⟩
  · have HA : Hid (Ans 21 x n T true) := hA
    have cn := number_nil w1
    clear hA HE
    go_wp2_with (first | (go_at_call 60; refine cn.mono ?_; rintro e w2 ⟨rfl, hb2⟩))
    go_ret2
    exact ⟨Or.inl ⟨T, HA.out, rfl⟩, hb.trans (hb2.mono hb.size)⟩
  · have HA : Hid (Ans 21 x n ⟨#[]⟩ false) := hA
    have cn := number_err w1 (HE.out.below hb)
    clear hA HE
    go_wp2_with (first | (go_at_call 60; refine cn.mono ?_; rintro e w2 ⟨rfl, hb2⟩))
    go_ret2
    exact ⟨Or.inr ⟨HA.out, rfl⟩, hb.trans (hb2.mono hb.size)⟩
set_option maxRecDepth 100000 in
set_option maxHeartbeats 1000000 in
theorem written3 (x : Nat) (n : Int) (w : World) (hE : ErrT w) (c : Both 59 22 x n w) : WrittenC 22 x n 3 w := by
  have C : Hid (Both 59 22 x n w) := c
  have HE : Hid (ErrT w) := hE
  clear c hE
  unfold WrittenC
  go_enter Tryz.func18, Tryz.ntmps18
  go_wp2_with (first | (go_at_call 59; fail))
  refine (C.out).mono ?_
  rintro e w1 ⟨h, hb⟩
  clear C
  rcases h with ⟨T, hA, rfl⟩ | ⟨hA, rfl⟩
  · have HA : Hid (Ans 22 x n T true) := hA
    have cn := number_nil w1
    clear hA HE
    go_wp2_with (first | (go_at_call 60; refine cn.mono ?_; rintro e w2 ⟨rfl, hb2⟩))
    go_ret2
    exact ⟨Or.inl ⟨T, HA.out, rfl⟩, hb.trans (hb2.mono hb.size)⟩
  · have HA : Hid (Ans 22 x n ⟨#[]⟩ false) := hA
    have cn := number_err w1 (HE.out.below hb)
    clear hA HE
    go_wp2_with (first | (go_at_call 60; refine cn.mono ?_; rintro e w2 ⟨rfl, hb2⟩))
    go_ret2
    exact ⟨Or.inr ⟨HA.out, rfl⟩, hb.trans (hb2.mono hb.size)⟩
end Go.Proofs.YtellndmbllmjgaaGreatDoor
