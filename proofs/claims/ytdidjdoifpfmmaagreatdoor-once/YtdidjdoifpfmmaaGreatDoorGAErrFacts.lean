import Derived.Test.YtdidjdoifpfmmaaGreatDoorGATk
import Derived.LaidEql
import Derived.Stop.Asserts
import Derived.RowKitTokens
set_option maxRecDepth 100000
set_option maxHeartbeats 16000000
namespace Go.Proofs.YtdidjdoifpfmmaaGreatDoor
open Go.Proofs.Tryz
section
open Go.RowKit Go.Extern.Stop Go.Stop Go.Extern
theorem Tryz.ext135(args:Array Value)(w:World):(callFunc 135 args).run Tryz.prog w=((Extern.ReflectliteType.typeOf args).run Tryz.prog w).andThen (fun v w'=>.ok (.value v) w'):=@run_callFunc_extern Tryz.prog 135 _ (Extern.ReflectliteType.typeOf) Tryz.func135 (by kernel_rfl) (by kernel_rfl) (by kernel_rfl) (by kernel_rfl) args w
theorem Tryz.ext137(args:Array Value)(w:World):(callFunc 137 args).run Tryz.prog w=(((fun args=>ReflectliteValue.unpack (args.getD 0 (.tuple #[]))) args).run Tryz.prog w).andThen (fun v w'=>.ok (.value v) w'):=@run_callFunc_extern Tryz.prog 137 _ ((fun args=>ReflectliteValue.unpack (args.getD 0 (.tuple #[])))) Tryz.func137 (by kernel_rfl) (by kernel_rfl) (by kernel_rfl) (by kernel_rfl) args w
theorem Tryz.ext138(args:Array Value)(w:World):(callFunc 138 args).run Tryz.prog w=(((ReflectliteValue.methodAny (ReflectliteValue.valueError "reflectlite.Value.Type" 0) (fun t _ _ _=>ReflectliteType.toType t)) args).run prog w).andThen (fun v w'=>.ok (.value v) w'):=@run_callFunc_extern prog 138 _ ((ReflectliteValue.methodAny (ReflectliteValue.valueError "reflectlite.Value.Type" 0) (fun t _ _ _=>ReflectliteType.toType t))) func138 (by kernel_rfl) (by kernel_rfl) (by kernel_rfl) (by kernel_rfl) args w
theorem Tryz.ext139(args:Array Value)(w:World):(callFunc 139 args).run Tryz.prog w=(((ReflectliteValue.method (ReflectliteValue.valueError "reflectlite.Value.IsNil" 0) ReflectliteValue.isNil) args).run prog w).andThen (fun v w'=>.ok (.value v) w'):=@run_callFunc_extern prog 139 _ ((ReflectliteValue.method (ReflectliteValue.valueError "reflectlite.Value.IsNil" 0) ReflectliteValue.isNil)) func139 (by kernel_rfl) (by kernel_rfl) (by kernel_rfl) (by kernel_rfl) args w
theorem Tryz.ext208(args:Array Value)(w:World):(callFunc 208 args).run Tryz.prog w=(((ReflectliteValue.method (ReflectliteValue.valueError "reflectlite.Value.Elem" 0) ReflectliteValue.elem) args).run prog w).andThen (fun v w'=>.ok (.value v) w'):=@run_callFunc_extern prog 208 _ ((ReflectliteValue.method (ReflectliteValue.valueError "reflectlite.Value.Elem" 0) ReflectliteValue.elem)) func208 (by kernel_rfl) (by kernel_rfl) (by kernel_rfl) (by kernel_rfl) args w
theorem Tryz.ext209(args:Array Value)(w:World):(callFunc 209 args).run Tryz.prog w=((ReflectliteValue.set args).run Tryz.prog w).andThen (fun v w'=>.ok (.value v) w'):=@run_callFunc_extern Tryz.prog 209 _ (ReflectliteValue.set) Tryz.func209 (by kernel_rfl) (by kernel_rfl) (by kernel_rfl) (by kernel_rfl) args w
theorem Tryz.ext339(args:Array Value)(w:World):(callFunc 339 args).run Tryz.prog w=(((ReflectliteType.abiMethod fun t=>do pure (.int .u8 (<-Rtype.kind t))) args).run Tryz.prog w).andThen (fun v w'=>.ok (.value v) w'):=@run_callFunc_extern Tryz.prog 339 _ ((ReflectliteType.abiMethod fun t=>do pure (.int .u8 (<-Rtype.kind t)))) Tryz.func339 (by kernel_rfl) (by kernel_rfl) (by kernel_rfl) (by kernel_rfl) args w
theorem Tryz.ext349(args:Array Value)(w:World):(callFunc 349 args).run Tryz.prog w=(((ReflectliteType.relation "AssignableTo" ReflectliteType.assignableTo) args).run prog w).andThen (fun v w'=>.ok (.value v) w'):=@run_callFunc_extern prog 349 _ ((ReflectliteType.relation "AssignableTo" ReflectliteType.assignableTo)) func349 (by kernel_rfl) (by kernel_rfl) (by kernel_rfl) (by kernel_rfl) args w
theorem Tryz.ext350(args:Array Value)(w:World):(callFunc 350 args).run Tryz.prog w=(((ReflectliteType.method fun t=>do Rtype.noPackHeld "Comparable" t;pure (.bool (<-typeInfo t).comparable)) args).run prog w).andThen (fun v w'=>.ok (.value v) w'):=@run_callFunc_extern prog 350 _ ((ReflectliteType.method fun t=>do Rtype.noPackHeld "Comparable" t;pure (.bool (<-typeInfo t).comparable))) func350 (by kernel_rfl) (by kernel_rfl) (by kernel_rfl) (by kernel_rfl) args w
theorem Tryz.ext351(args:Array Value)(w:World):(callFunc 351 args).run Tryz.prog w=(((ReflectliteType.method ReflectliteType.elem) args).run Tryz.prog w).andThen (fun v w'=>.ok (.value v) w'):=@run_callFunc_extern Tryz.prog 351 _ ((ReflectliteType.method ReflectliteType.elem)) Tryz.func351 (by kernel_rfl) (by kernel_rfl) (by kernel_rfl) (by kernel_rfl) args w
theorem Tryz.ext352(args:Array Value)(w:World):(callFunc 352 args).run Tryz.prog w=(((ReflectliteType.relation "Implements" ReflectliteType.implements_) args).run prog w).andThen (fun v w'=>.ok (.value v) w'):=@run_callFunc_extern prog 352 _ ((ReflectliteType.relation "Implements" ReflectliteType.implements_)) func352 (by kernel_rfl) (by kernel_rfl) (by kernel_rfl) (by kernel_rfl) args w
theorem Tryz.typeOfE(v:Value)(w:World):(callFunc 135 #[.iface 452 v]).run Tryz.prog w=.ok (.value (.iface 325 (.agg #[.pointer (some (Za 18 452))]))) w:=by rw[Tryz.ext135];kernel_rfl
theorem Tryz.typeOfF(v:Value)(w:World):(callFunc 135 #[.iface 152 v]).run Tryz.prog w=.ok (.value (.iface 325 (.agg #[.pointer (some (Za 18 152))]))) w:=by rw[Tryz.ext135];kernel_rfl
theorem Tryz.comparableE(w:World):(callFunc 350 #[.agg #[.pointer (some (Za 18 452))]]).run Tryz.prog w=.ok (.value (.bool true)) w:=by rw[Tryz.ext350];kernel_rfl
theorem Tryz.methodComparable(h:Value)(w:World):(Go.method 580 325 h "Comparable").run prog w=.ok (350,h) w:=by kernel_rfl
theorem Tryz.methodKind(h:Value)(w:World):(Go.method 580 325 (.agg #[h]) "Kind").run prog w=.ok (339,h) w:=by kernel_rfl
theorem Tryz.methodElem(h:Value)(w:World):(Go.method 580 325 (.agg #[h]) "Elem").run prog w=.ok (351,.agg #[h]) w:=by kernel_rfl
theorem Tryz.methodImplements(h:Value)(w:World):(Go.method 580 325 (.agg #[h]) "Implements").run prog w=.ok (352,.agg #[h]) w:=by kernel_rfl
theorem Tryz.methodAssignableTo(h:Value)(w:World):(Go.method 580 325 (.agg #[h]) "AssignableTo").run prog w=.ok (349,.agg #[h]) w:=by kernel_rfl
theorem Tryz.isComp:(Tryz.prog.info? 452).map (·.comparable)=some true:=by kernel_rfl
theorem Tryz.isSize:(Tryz.prog.info? 470).map (·.size)=some 1:=by kernel_rfl
theorem Tryz.noIsE(v:Value)(xT:TypeId)(w:World):(Instr.typeAssert (.iface 452 v) xT 327 true).run Tryz.prog w=.ok (.tuple #[.nilIface,.bool false]) w:=run_typeAssert_lacksB Tryz.underlying327 (by kernel_rfl) (by kernel_rfl) v xT w
theorem Tryz.noUnwrapE(v:Value)(xT:TypeId)(w:World):(Instr.typeAssert (.iface 452 v) xT 330 true).run Tryz.prog w=.ok (.tuple #[.nilIface,.bool false]) w:=run_typeAssert_lacksB Tryz.underlying330 (by kernel_rfl) (by kernel_rfl) v xT w
theorem Tryz.noUnwrapsE(v:Value)(xT:TypeId)(w:World):(Instr.typeAssert (.iface 452 v) xT 331 true).run Tryz.prog w=.ok (.tuple #[.nilIface,.bool false]) w:=run_typeAssert_lacksB Tryz.underlying331 (by kernel_rfl) (by kernel_rfl) v xT w
theorem Tryz.noAsE(v:Value)(xT:TypeId)(w:World):(Instr.typeAssert (.iface 452 v) xT 335 true).run Tryz.prog w=.ok (.tuple #[.nilIface,.bool false]) w:=run_typeAssert_lacksB Tryz.underlying335 (by kernel_rfl) (by kernel_rfl) v xT w
theorem Tryz.valueOfT(t:Addr)(w:World):(callFunc 137 #[.iface 154 (.pointer (some t))]).run Tryz.prog w
  =.ok (.value (.agg #[.pointer (some (Za 18 154)),Zp w.heap.size,.int .u64 150])) (w.alloc (.cells #[.pointer (some t)] 154)):=by rw[Tryz.ext137];kernel_rfl
theorem Tryz.valueOfF(e:Addr)(w:World):(callFunc 137 #[.iface 152 (.pointer (some e))]).run Tryz.prog w
  =.ok (.value (.agg #[.pointer (some (Za 18 152)),Zp w.heap.size,.int .u64 150])) (w.alloc (.cells #[.pointer (some e)] 152)):=by rw[Tryz.ext137];kernel_rfl
theorem Tryz.typeT(a:Addr)(w:World):(callFunc 138 #[.agg #[.pointer (some (Za 18 154)),.pointer (some a),.int .u64 150]]).run Tryz.prog w
  =.ok (.value (.iface 325 (.agg #[.pointer (some (Za 18 154))]))) w:=by rw[Tryz.ext138];kernel_rfl
theorem Tryz.kindT(w:World):(callFunc 339 #[.pointer (some (Za 18 154))]).run Tryz.prog w=.ok (.value (.int .u8 22)) w:=by rw[Tryz.ext339];kernel_rfl
theorem Tryz.kindF(w:World):(callFunc 339 #[.pointer (some (Za 18 152))]).run Tryz.prog w=.ok (.value (.int .u8 22)) w:=by rw[Tryz.ext339];kernel_rfl
theorem Tryz.elemT(w:World):(callFunc 351 #[.agg #[.pointer (some (Za 18 154))]]).run Tryz.prog w=.ok (.value (.iface 325 (.agg #[.pointer (some (Za 18 152))]))) w:=by rw[Tryz.ext351];kernel_rfl
theorem Tryz.implementsF(w:World):(callFunc 352 #[.agg #[.pointer (some (Za 18 152))],.iface 325 (.agg #[.pointer (some (Za 18 92))])]).run Tryz.prog w=.ok (.value (.bool true)) w:=by rw[Tryz.ext352];kernel_rfl
theorem Tryz.assignF(w:World):(callFunc 349 #[.agg #[.pointer (some (Za 18 152))],.iface 325 (.agg #[.pointer (some (Za 18 152))])]).run Tryz.prog w=.ok (.value (.bool true)) w:=by rw[Tryz.ext349];kernel_rfl
theorem Tryz.assignE(w:World):(callFunc 349 #[.agg #[.pointer (some (Za 18 452))],.iface 325 (.agg #[.pointer (some (Za 18 152))])]).run Tryz.prog w=.ok (.value (.bool false)) w:=by rw[Tryz.ext349];kernel_rfl
end
end Go.Proofs.YtdidjdoifpfmmaaGreatDoor
