import Derived.Test.YtdidjdoifpfmmaaGreatDoorGAErrFacts
set_option maxRecDepth 100000
set_option maxHeartbeats 16000000
namespace Go.Proofs.YtdidjdoifpfmmaaGreatDoor
open Go.Proofs.Tryz
section
open Go.RowKit Go.Extern.Stop Go.Stop Go.Extern
theorem Tryz.parts36(a:Addr)(w:World):(ReflectliteValue.parts (.agg #[.pointer (some (Za 18 154)),.pointer (some a),.int .u64 150])).run Tryz.prog w=.ok (some (154,a,150)) w:=by kernel_rfl
theorem Tryz.isNilT(a p:Addr)(W:World)(ha:W.cell? a=some (.pointer (some p))):
  (callFunc 139 #[.agg #[.pointer (some (Za 18 154)),.pointer (some a),.int .u64 150]]).run prog W=.ok (.value (.bool false)) W:=by
 rw[Tryz.ext139];show(Sem.run prog (Bind.bind (ReflectliteValue.parts (.agg #[.pointer (some (Za 18 154)),.pointer (some a),.int .u64 150])) _) W).andThen _=_;rw[Sem.run_bind,Tryz.parts36];simp[ReflectliteValue.isNil,loadVar,isAgg,underlying,underlying154,ha,Result.andThen]
theorem Tryz.elemOf36(w:World):(Rtype.elem? 154).run Tryz.prog w=.ok (some 152) w:=by kernel_rfl
theorem Tryz.mk28(p:Addr)(w:World):(ReflectliteValue.mk 152 p ReflectliteValue.flagAddr).run Tryz.prog w=.ok (.agg #[.pointer (some (Za 18 152)),.pointer (some p),.int .u64 406]) w:=by kernel_rfl
theorem Tryz.elemV36(a p:Addr)(W:World)(ha:W.cell? a=some (.pointer (some p))):
  (callFunc 208 #[.agg #[.pointer (some (Za 18 154)),.pointer (some a),.int .u64 150]]).run prog W
   =.ok (.value (.agg #[.pointer (some (Za 18 152)),.pointer (some p),.int .u64 406])) W:=by
 rw[Tryz.ext208];show(Sem.run prog (Bind.bind (ReflectliteValue.parts (.agg #[.pointer (some (Za 18 154)),.pointer (some a),.int .u64 150])) _) W).andThen _=_;rw[Sem.run_bind,Tryz.parts36];simp[ReflectliteValue.elem,loadVar,isAgg,underlying,underlying154,ha,Result.andThen,Tryz.elemOf36,Tryz.mk28]
theorem Tryz.parts28a(a:Addr)(w:World):(ReflectliteValue.parts (.agg #[.pointer (some (Za 18 152)),.pointer (some a),.int .u64 406])).run Tryz.prog w=.ok (some (152,a,406)) w:=by kernel_rfl
theorem Tryz.parts28(a:Addr)(w:World):(ReflectliteValue.parts (.agg #[.pointer (some (Za 18 152)),.pointer (some a),.int .u64 150])).run Tryz.prog w=.ok (some (152,a,150)) w:=by kernel_rfl
theorem Tryz.direct28(w:World):(Rtype.directlyAssignable 152 152).run Tryz.prog w=.ok true w:=by kernel_rfl
theorem Tryz.set28(ta b e:Addr)(old:Value)(W:World)(hb:W.cell? b=some (.pointer (some e)))(ht:W.cell? ta=some old)(hf:W.frozen? ta=false):
  (callFunc 209 #[.agg #[.pointer (some (Za 18 152)),.pointer (some ta),.int .u64 406],.agg #[.pointer (some (Za 18 152)),.pointer (some b),.int .u64 150]]).run prog W
   =.ok (.value (.tuple #[])) (W.setCell ta (.pointer (some e))):=by
 rw[Tryz.ext209];show(Sem.run prog (Bind.bind (ReflectliteValue.parts (.agg #[.pointer (some (Za 18 152)),.pointer (some ta),.int .u64 406])) (fun _=>Bind.bind (ReflectliteValue.parts (.agg #[.pointer (some (Za 18 152)),.pointer (some b),.int .u64 150])) _)) W).andThen _=_;rw[Sem.run_bind,Tryz.parts28a];simp only[Sem.run_bind,Tryz.parts28,Result.andThen];simp[ReflectliteValue.flagAddr,loadVar,isAgg,underlying,underlying152,hb,Result.andThen,Tryz.direct28,storeVar,Value.cells,storeCells,Addr.add];rw[run_store prog W ta _ _ (by rfl)];simp[ht,hf]
theorem ab4(e t:Addr)(old:Value)(w:World)(hg:w.cell? (Za 12 0)=some (.iface 325 (.agg #[.pointer (some (Za 18 92))])))(ht0:w.cell? t=some old)(hf0:w.frozen? t=false):
  Zc 79 #[.iface 152 (.pointer (some e)),.iface 154 (.pointer (some t))] w fun ev w'=>ev=.returned (.bool true)/\w'=((((w.alloc (.cells #[.pointer (some t)] 154)).alloc (.cells #[.pointer (some (Za 18 154)),Zp w.heap.size,.int .u64 150] 242)).alloc (.cells #[.pointer (some (Za 18 154)),Zp w.heap.size,.int .u64 150] 242)).alloc (.cells #[.pointer (some e)] 152)).setCell t (.pointer (some e)):=by
 have tO:=Tryz.typeOfF;have mA:=Tryz.methodAssignableTo;have a25:=Tryz.assignF;have v25:=Tryz.valueOfF;have f6:=Tryz.valueOfT;have f7:=Tryz.typeT;have mK:=Tryz.methodKind;have mE:=Tryz.methodElem;have mI:=Tryz.methodImplements;have k27:=Tryz.kindT;have k25:=Tryz.kindF;have e27:=Tryz.elemT;have i25:=Tryz.implementsF;have n8:=Tryz.isNilT (Za w.heap.size 0) t ((w.alloc (.cells #[.pointer (some t)] 154)).alloc (.cells #[.pointer (some (Za 18 154)),Zp w.heap.size,.int .u64 150] 242)) (by simp);have hlt:12<w.heap.size:=by
  rcases Nat.lt_or_ge 12 w.heap.size with h|h
  ·exact h
  ·simp[World.cell?,Array.getElem?_eq_none h] at hg
 have hg2:((w.alloc (.cells #[.pointer (some t)] 154)).alloc (.cells #[.pointer (some (Za 18 154)),Zp w.heap.size,.int .u64 150] 242)).cell? (Za 12 0)=some (.iface 325 (.agg #[.pointer (some (Za 18 92))])):=by
  rw[World.cell?_alloc_lt _ _ (Za 12 0) (by simp;omega),World.cell?_alloc_lt _ _ (Za 12 0) hlt];exact hg
 have htl:t.block<w.heap.size:=by
  rcases Nat.lt_or_ge t.block w.heap.size with h|h
  ·exact h
  ·simp[World.cell?,Array.getElem?_eq_none h] at ht0
 have el:=Tryz.elemV36 (Za w.heap.size 0) t (((w.alloc (.cells #[.pointer (some t)] 154)).alloc (.cells #[.pointer (some (Za 18 154)),Zp w.heap.size,.int .u64 150] 242)).alloc (.cells #[.pointer (some (Za 18 154)),Zp w.heap.size,.int .u64 150] 242)) (by rw[World.cell?_alloc_lt _ _ (Za w.heap.size 0) (by simp;omega)];simp);have st:=Tryz.set28 t (Za (w.heap.size+1+1+1) 0) e old ((((w.alloc (.cells #[.pointer (some t)] 154)).alloc (.cells #[.pointer (some (Za 18 154)),Zp w.heap.size,.int .u64 150] 242)).alloc (.cells #[.pointer (some (Za 18 154)),Zp w.heap.size,.int .u64 150] 242)).alloc (.cells #[.pointer (some e)] 152))
  (by rw[World.cell?_alloc_at _ _ _ _ (by simp)];rfl)
  (by rw[World.cell?_alloc_lt _ _ t (by simp;omega),World.cell?_alloc_lt _ _ t (by simp;omega),World.cell?_alloc_lt _ _ t (by simp;omega),World.cell?_alloc_lt _ _ t htl];exact ht0)
  (by rw[World.frozen?_alloc_old _ _ t (by simp;omega),World.frozen?_alloc_old _ _ t (by simp;omega),World.frozen?_alloc_old _ _ t (by simp;omega),World.frozen?_alloc_old _ _ t (Nat.ne_of_lt htl)];exact hf0)
 go_enter func79,ntmps79;go_wp2;refine wp_loop_rounds 1 ?_;rw[rounds_succ];go_wp2;go_ret;exact⟨rfl,rfl⟩
theorem Wn(e t:Addr)(w:World)(hg:w.cell? (Za 12 0)=some (.iface 325 (.agg #[.pointer (some (Za 18 92))]))):
  Zc 79 #[.iface 452 (.pointer (some e)),.iface 154 (.pointer (some t))] w fun ev w'=>ev=.returned (.bool false)/\w'=((w.alloc (.cells #[.pointer (some t)] 154)).alloc (.cells #[.pointer (some (Za 18 154)),Zp w.heap.size,.int .u64 150] 242)).alloc (.cells #[.pointer (some (Za 18 154)),Zp w.heap.size,.int .u64 150] 242):=by
 have tO:=Tryz.typeOfE;have mA:=Tryz.methodAssignableTo;have a25:=Tryz.assignE;have f6:=Tryz.valueOfT;have f7:=Tryz.typeT;have mK:=Tryz.methodKind;have mE:=Tryz.methodElem;have mI:=Tryz.methodImplements;have k27:=Tryz.kindT;have k25:=Tryz.kindF;have e27:=Tryz.elemT;have i25:=Tryz.implementsF;have nA:=Tryz.noAsE;have uE:=Tryz.noUnwrapE;have vE:=Tryz.noUnwrapsE;have n8:=Tryz.isNilT (Za w.heap.size 0) t ((w.alloc (.cells #[.pointer (some t)] 154)).alloc (.cells #[.pointer (some (Za 18 154)),Zp w.heap.size,.int .u64 150] 242)) (by simp);have hlt:12<w.heap.size:=by
  rcases Nat.lt_or_ge 12 w.heap.size with h|h
  ·exact h
  ·simp[World.cell?,Array.getElem?_eq_none h] at hg
 have hg2:((w.alloc (.cells #[.pointer (some t)] 154)).alloc (.cells #[.pointer (some (Za 18 154)),Zp w.heap.size,.int .u64 150] 242)).cell? (Za 12 0)=some (.iface 325 (.agg #[.pointer (some (Za 18 92))])):=by
  rw[World.cell?_alloc_lt _ _ (Za 12 0) (by simp;omega),World.cell?_alloc_lt _ _ (Za 12 0) hlt];exact hg
 go_enter func79,ntmps79;go_wp2;refine wp_loop_rounds 1 ?_;rw[rounds_succ];go_wp2;go_ret;exact⟨rfl,rfl⟩
end
end Go.Proofs.YtdidjdoifpfmmaaGreatDoor
