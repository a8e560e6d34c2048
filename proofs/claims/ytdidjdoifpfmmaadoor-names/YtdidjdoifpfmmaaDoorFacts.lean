import Derived.Test.YtdidjdoifpfmmaaDoorChecked
import Derived.WalkKit
import Derived.LaidEql
import Derived.Stop.Asserts
import Derived.RowKitTokens
namespace Go.Proofs.YtdidjdoifpfmmaaDoor
open Go.RowKit Go.Extern.Stop Go.Stop Go.Extern

/-! The entries of the library at this program's types: 66 the pointer to an error's text, 28 the pointer to a Fault, 36 the pointer to that, 26 error, 52 a type's handle; 16 package-level variables. -/

theorem Tryd.ext8 (args : Array Value) (w : World) : (callFunc 8 args).run Tryd.prog w = ((Extern.ReflectliteType.typeOf args).run Tryd.prog w).andThen (fun v w' => .ok (.value v) w') := @run_callFunc_extern Tryd.prog 8 _ (Extern.ReflectliteType.typeOf) Tryd.func8 (by kernel_rfl) (by kernel_rfl) (by kernel_rfl) (by kernel_rfl) args w
theorem Tryd.ext10 (args : Array Value) (w : World) : (callFunc 10 args).run Tryd.prog w = (((fun args => ReflectliteValue.unpack (args.getD 0 (.tuple #[]))) args).run Tryd.prog w).andThen (fun v w' => .ok (.value v) w') := @run_callFunc_extern Tryd.prog 10 _ ((fun args => ReflectliteValue.unpack (args.getD 0 (.tuple #[])))) Tryd.func10 (by kernel_rfl) (by kernel_rfl) (by kernel_rfl) (by kernel_rfl) args w
theorem Tryd.ext11 (args : Array Value) (w : World) : (callFunc 11 args).run Tryd.prog w = (((ReflectliteValue.methodAny (ReflectliteValue.valueError "reflectlite.Value.Type" 0) (fun t _ _ _ => ReflectliteType.toType t)) args).run Tryd.prog w).andThen (fun v w' => .ok (.value v) w') := @run_callFunc_extern Tryd.prog 11 _ ((ReflectliteValue.methodAny (ReflectliteValue.valueError "reflectlite.Value.Type" 0) (fun t _ _ _ => ReflectliteType.toType t))) Tryd.func11 (by kernel_rfl) (by kernel_rfl) (by kernel_rfl) (by kernel_rfl) args w
theorem Tryd.ext12 (args : Array Value) (w : World) : (callFunc 12 args).run Tryd.prog w = (((ReflectliteValue.method (ReflectliteValue.valueError "reflectlite.Value.IsNil" 0) ReflectliteValue.isNil) args).run Tryd.prog w).andThen (fun v w' => .ok (.value v) w') := @run_callFunc_extern Tryd.prog 12 _ ((ReflectliteValue.method (ReflectliteValue.valueError "reflectlite.Value.IsNil" 0) ReflectliteValue.isNil)) Tryd.func12 (by kernel_rfl) (by kernel_rfl) (by kernel_rfl) (by kernel_rfl) args w
theorem Tryd.ext14 (args : Array Value) (w : World) : (callFunc 14 args).run Tryd.prog w = (((ReflectliteValue.method (ReflectliteValue.valueError "reflectlite.Value.Elem" 0) ReflectliteValue.elem) args).run Tryd.prog w).andThen (fun v w' => .ok (.value v) w') := @run_callFunc_extern Tryd.prog 14 _ ((ReflectliteValue.method (ReflectliteValue.valueError "reflectlite.Value.Elem" 0) ReflectliteValue.elem)) Tryd.func14 (by kernel_rfl) (by kernel_rfl) (by kernel_rfl) (by kernel_rfl) args w
theorem Tryd.ext15 (args : Array Value) (w : World) : (callFunc 15 args).run Tryd.prog w = ((ReflectliteValue.set args).run Tryd.prog w).andThen (fun v w' => .ok (.value v) w') := @run_callFunc_extern Tryd.prog 15 _ (ReflectliteValue.set) Tryd.func15 (by kernel_rfl) (by kernel_rfl) (by kernel_rfl) (by kernel_rfl) args w
theorem Tryd.ext30 (args : Array Value) (w : World) : (callFunc 30 args).run Tryd.prog w = (((ReflectliteType.abiMethod fun t => do pure (.int .u8 (← Rtype.kind t))) args).run Tryd.prog w).andThen (fun v w' => .ok (.value v) w') := @run_callFunc_extern Tryd.prog 30 _ ((ReflectliteType.abiMethod fun t => do pure (.int .u8 (← Rtype.kind t)))) Tryd.func30 (by kernel_rfl) (by kernel_rfl) (by kernel_rfl) (by kernel_rfl) args w
theorem Tryd.ext54 (args : Array Value) (w : World) : (callFunc 54 args).run Tryd.prog w = (((ReflectliteType.relation "AssignableTo" ReflectliteType.assignableTo) args).run Tryd.prog w).andThen (fun v w' => .ok (.value v) w') := @run_callFunc_extern Tryd.prog 54 _ ((ReflectliteType.relation "AssignableTo" ReflectliteType.assignableTo)) Tryd.func54 (by kernel_rfl) (by kernel_rfl) (by kernel_rfl) (by kernel_rfl) args w
theorem Tryd.ext55 (args : Array Value) (w : World) : (callFunc 55 args).run Tryd.prog w = (((ReflectliteType.method fun t => do Rtype.noPackHeld "Comparable" t; pure (.bool (← typeInfo t).comparable)) args).run Tryd.prog w).andThen (fun v w' => .ok (.value v) w') := @run_callFunc_extern Tryd.prog 55 _ ((ReflectliteType.method fun t => do Rtype.noPackHeld "Comparable" t; pure (.bool (← typeInfo t).comparable))) Tryd.func55 (by kernel_rfl) (by kernel_rfl) (by kernel_rfl) (by kernel_rfl) args w
theorem Tryd.ext56 (args : Array Value) (w : World) : (callFunc 56 args).run Tryd.prog w = (((ReflectliteType.method ReflectliteType.elem) args).run Tryd.prog w).andThen (fun v w' => .ok (.value v) w') := @run_callFunc_extern Tryd.prog 56 _ ((ReflectliteType.method ReflectliteType.elem)) Tryd.func56 (by kernel_rfl) (by kernel_rfl) (by kernel_rfl) (by kernel_rfl) args w
theorem Tryd.ext57 (args : Array Value) (w : World) : (callFunc 57 args).run Tryd.prog w = (((ReflectliteType.relation "Implements" ReflectliteType.implements_) args).run Tryd.prog w).andThen (fun v w' => .ok (.value v) w') := @run_callFunc_extern Tryd.prog 57 _ ((ReflectliteType.relation "Implements" ReflectliteType.implements_)) Tryd.func57 (by kernel_rfl) (by kernel_rfl) (by kernel_rfl) (by kernel_rfl) args w

theorem Tryd.typeOfE (v : Value) (w : World) : (callFunc 8 #[.iface 66 v]).run Tryd.prog w = .ok (.value (.iface 52 (.agg #[.pointer (some ⟨16, 66, none⟩)]))) w := by rw [Tryd.ext8]; kernel_rfl
theorem Tryd.typeOfF (v : Value) (w : World) : (callFunc 8 #[.iface 28 v]).run Tryd.prog w = .ok (.value (.iface 52 (.agg #[.pointer (some ⟨16, 28, none⟩)]))) w := by rw [Tryd.ext8]; kernel_rfl
theorem Tryd.comparableE (w : World) : (callFunc 55 #[.agg #[.pointer (some ⟨16, 66, none⟩)]]).run Tryd.prog w = .ok (.value (.bool true)) w := by rw [Tryd.ext55]; kernel_rfl
theorem Tryd.methodComparable (h : Value) (w : World) : (Go.method 219 52 h "Comparable").run Tryd.prog w = .ok (55, h) w := by kernel_rfl
theorem Tryd.methodUnwrap (v : Value) (w : World) : (Go.method 219 28 v "Unwrap").run Tryd.prog w = .ok (34, v) w := by kernel_rfl
theorem Tryd.methodErrorF (v : Value) (w : World) : (Go.method 219 28 v "Error").run Tryd.prog w = .ok (33, v) w := by kernel_rfl
theorem Tryd.methodErrorE (v : Value) (w : World) : (Go.method 219 66 v "Error").run Tryd.prog w = .ok (64, v) w := by kernel_rfl
theorem Tryd.methodKind (h : Value) (w : World) : (Go.method 219 52 (.agg #[h]) "Kind").run Tryd.prog w = .ok (30, h) w := by kernel_rfl
theorem Tryd.methodElem (h : Value) (w : World) : (Go.method 219 52 (.agg #[h]) "Elem").run Tryd.prog w = .ok (56, .agg #[h]) w := by kernel_rfl
theorem Tryd.methodImplements (h : Value) (w : World) : (Go.method 219 52 (.agg #[h]) "Implements").run Tryd.prog w = .ok (57, .agg #[h]) w := by kernel_rfl
theorem Tryd.methodAssignableTo (h : Value) (w : World) : (Go.method 219 52 (.agg #[h]) "AssignableTo").run Tryd.prog w = .ok (54, .agg #[h]) w := by kernel_rfl
theorem Tryd.isComp : (Tryd.prog.info? 66).map (·.comparable) = some true := by kernel_rfl
theorem Tryd.isSize : (Tryd.prog.info? 107).map (·.size) = some 1 := by kernel_rfl
theorem Tryd.noIsE (v : Value) (xT : TypeId) (w : World) : (Instr.typeAssert (.iface 66 v) xT 54 true).run Tryd.prog w = .ok (.tuple #[.nilIface, .bool false]) w := run_typeAssert_lacksB Tryd.underlying54 (by kernel_rfl) (by kernel_rfl) v xT w
theorem Tryd.noUnwrapE (v : Value) (xT : TypeId) (w : World) : (Instr.typeAssert (.iface 66 v) xT 57 true).run Tryd.prog w = .ok (.tuple #[.nilIface, .bool false]) w := run_typeAssert_lacksB Tryd.underlying57 (by kernel_rfl) (by kernel_rfl) v xT w
theorem Tryd.noUnwrapsE (v : Value) (xT : TypeId) (w : World) : (Instr.typeAssert (.iface 66 v) xT 59 true).run Tryd.prog w = .ok (.tuple #[.nilIface, .bool false]) w := run_typeAssert_lacksB Tryd.underlying59 (by kernel_rfl) (by kernel_rfl) v xT w
theorem Tryd.noAsE (v : Value) (xT : TypeId) (w : World) : (Instr.typeAssert (.iface 66 v) xT 63 true).run Tryd.prog w = .ok (.tuple #[.nilIface, .bool false]) w := run_typeAssert_lacksB Tryd.underlying63 (by kernel_rfl) (by kernel_rfl) v xT w
theorem Tryd.noIsF (v : Value) (xT : TypeId) (w : World) : (Instr.typeAssert (.iface 28 v) xT 54 true).run Tryd.prog w = .ok (.tuple #[.nilIface, .bool false]) w := run_typeAssert_lacksB Tryd.underlying54 (by kernel_rfl) (by kernel_rfl) v xT w
theorem Tryd.hasUnwrapF (v : Value) (xT : TypeId) (w : World) : (Instr.typeAssert (.iface 28 v) xT 57 true).run Tryd.prog w = .ok (.tuple #[.iface 28 v, .bool true]) w := run_typeAssert_hasB Tryd.underlying57 (by kernel_rfl) v xT w

theorem Tryd.valueOfT (t : Addr) (w : World) : (callFunc 10 #[.iface 36 (.pointer (some t))]).run Tryd.prog w
    = .ok (.value (.agg #[.pointer (some ⟨16, 36, none⟩), .pointer (some ⟨w.heap.size, 0, none⟩), .int .u64 150])) (w.alloc (.cells #[.pointer (some t)] 36)) := by rw [Tryd.ext10]; kernel_rfl
theorem Tryd.valueOfF (e : Addr) (w : World) : (callFunc 10 #[.iface 28 (.pointer (some e))]).run Tryd.prog w
    = .ok (.value (.agg #[.pointer (some ⟨16, 28, none⟩), .pointer (some ⟨w.heap.size, 0, none⟩), .int .u64 150])) (w.alloc (.cells #[.pointer (some e)] 28)) := by rw [Tryd.ext10]; kernel_rfl
theorem Tryd.typeT (a : Addr) (w : World) : (callFunc 11 #[.agg #[.pointer (some ⟨16, 36, none⟩), .pointer (some a), .int .u64 150]]).run Tryd.prog w
    = .ok (.value (.iface 52 (.agg #[.pointer (some ⟨16, 36, none⟩)]))) w := by rw [Tryd.ext11]; kernel_rfl
theorem Tryd.kindT (w : World) : (callFunc 30 #[.pointer (some ⟨16, 36, none⟩)]).run Tryd.prog w = .ok (.value (.int .u8 22)) w := by rw [Tryd.ext30]; kernel_rfl
theorem Tryd.kindF (w : World) : (callFunc 30 #[.pointer (some ⟨16, 28, none⟩)]).run Tryd.prog w = .ok (.value (.int .u8 22)) w := by rw [Tryd.ext30]; kernel_rfl
theorem Tryd.elemT (w : World) : (callFunc 56 #[.agg #[.pointer (some ⟨16, 36, none⟩)]]).run Tryd.prog w = .ok (.value (.iface 52 (.agg #[.pointer (some ⟨16, 28, none⟩)]))) w := by rw [Tryd.ext56]; kernel_rfl
theorem Tryd.implementsF (w : World) : (callFunc 57 #[.agg #[.pointer (some ⟨16, 28, none⟩)], .iface 52 (.agg #[.pointer (some ⟨16, 26, none⟩)])]).run Tryd.prog w = .ok (.value (.bool true)) w := by rw [Tryd.ext57]; kernel_rfl
theorem Tryd.assignF (w : World) : (callFunc 54 #[.agg #[.pointer (some ⟨16, 28, none⟩)], .iface 52 (.agg #[.pointer (some ⟨16, 28, none⟩)])]).run Tryd.prog w = .ok (.value (.bool true)) w := by rw [Tryd.ext54]; kernel_rfl
theorem Tryd.assignE (w : World) : (callFunc 54 #[.agg #[.pointer (some ⟨16, 66, none⟩)], .iface 52 (.agg #[.pointer (some ⟨16, 28, none⟩)])]).run Tryd.prog w = .ok (.value (.bool false)) w := by rw [Tryd.ext54]; kernel_rfl
end Go.Proofs.YtdidjdoifpfmmaaDoor
