import Derived.Test.YtdidjdoifpfmmaaGreatDoorCards
import Derived.Test.YtdidjdoifpfmmaaGreatDoorGO12
import Derived.Test.YtdidjdoifpfmmaaGreatDoorTie
import Derived.Stop.LaidErr
import Derived.LaidHandle
import Derived.LaidSub
set_option maxRecDepth 100000
set_option maxHeartbeats 16000000
namespace Go.Proofs.YtdidjdoifpfmmaaGreatDoor
open Go.Proofs.Tryz List
variable{W:World}
section
open Go.ChangeShapes Go.WideShapes Go.ChangeAt Go.RowKit
theorem RO:prog.cellsOf 470=1:=by kernel_rfl
theorem RP:prog.cellsOf 9=1:=by kernel_rfl
theorem star: "*" ++ "errors.errorString"= "*errors.errorString":=by decide
theorem XW(u:TypeId)(h:prog.typeName? 3 u=some "*errors.errorString"):u=452:=
 typeName_ptr_named (nm:= "errors.errorString") (by rw[star];kernel_rfl) (by kernel_rfl) (by decide) u (by rw[star];exact h)
def mk(x:String × List UInt8):String × DataW Unit:=(x.1,.iface "*errors.errorString" (.ptr (.agg [.lit (.string x.2)])))
theorem PS:∀(L:List (String × List UInt8)),laidMet prog (L.map mk) W->∀(k g:Nat) (x:String × List UInt8),L[k]? =some x->prog.globalNamed x.1=some g->(prog.globals[g]?).map (·.type)=some 92->
  ∃(a:Addr) (s:Zy) (c:Array Value) (t:TypeId),W.var? prog x.1=some #[.iface 452 (.pointer (some a))]/\W.cell? a=some (.string s)/\s.data.toList=x.2/\W.heap[a.block]? =some (.cells c t (0,0))
 |[],_,k,g,x,hx,_,_=>by simp at hx
 | y::L,h,k+1,g,x,hx,hg,ht=>PS L h.tail k g x (by simpa using hx) hg ht
 | y::L,h,0,g,x,hx,hg,ht=>by
  obtain rfl:y=x:=by simpa using hx
  obtain⟨ps,⟨g0,t0,cs0,f0,p0,q0,hg0,ht0,hv0,hd0,_,e0⟩,_,hrows⟩:=h;obtain rfl:=Option.some.inj (hg.symm.trans hg0);obtain rfl:=Option.some.inj (ht.symm.trans ht0);subst e0;obtain⟨l0⟩:=cs0;have ok0:∀u v,l0=[.iface u v]->Value.okWide prog W .any 0 u v:=fun u v e=>by
   subst e;exact(hrows g 0 (by simp[MemPlace.row])).2 u v (World.var?_cell hg0 hv0 0)
  obtain⟨a,s,rfl,hc,hs,_,rfl⟩:=errorString_of_trod underlying92 XW underlying452 underlying470 rfl rfl underlying9 RO RP hd0 ok0;obtain⟨c,t,hb⟩:=(hrows a.block a.off (by simp[MemPlace.row])).1;exact⟨a,s,c,t,hv0,hc,hs,hb⟩
def XY:DataW Unit->List UInt8
 | .iface _ (.ptr (.agg [.lit (.string t)]))=>t
 | _=> []
def Di(n:String):Bool:=["stow/archive.ErrArg","stow/archive.ErrDown","stow/archive.ErrFormat","stow/archive.ErrCorrupt","stow/archive.ErrPath","stow/archive.ErrNone","stow/archive.ErrKind","stow/archive.ErrAgain","stow/archive.ErrBusy","stow/archive.ErrMany","stow/archive.ErrBig","stow/archive.ErrFull"].contains n
noncomputable def sV:List (String × List UInt8):=(Rows.disksRow.laid.filter fun x=>Di x.1).map fun x=>(x.1,XY x.2)
theorem Ez:((List.range 12).all fun k=>(sV[k]?).bind (fun x=>prog.globalNamed x.1)==some k&&(prog.globals[k]?).map (·.type)==some 92)=true:=by kernel_rfl
theorem EA:(sV.all fun x=>x.2.length !=0&&decide (x.2.length<=100))=true:=by kernel_rfl
theorem EB:((List.range 12).all fun i=>(List.range 12).all fun j=>i==j||(sV[i]?).map (·.2) !=(sV[j]?).map (·.2))=true:=by kernel_rfl
theorem XZ:prog.globalNamed "errors.errorType"=some 12:=by kernel_rfl
theorem X3:(prog.cutTypes.find? (·.1 == "internal/reflectlite.rtype")).map (·.2)=some 325:=by kernel_rfl
theorem aao:((List.range prog.types.size).filter fun t=>prog.rowNamed t [101,114,114,111,114])=[92]:=by kernel_rfl
theorem RQ:typeHandle prog 92=.pointer (some (Za 18 92)):=by kernel_rfl
theorem Dj(h:handlesMet prog [("errors.errorType",Rows.laid_errors_errorType)] W):W.cell? (Za 12 0)=some (.iface 325 (.agg #[.pointer (some (Za 18 92))])):=by
 obtain⟨name,u,ty,e1,e2,e3,e4,e5⟩:=h _ (Zm.2 rfl);have en:name=[101,114,114,111,114]:=(Option.some.inj e1).symm;subst en;obtain rfl:=Option.some.inj (X3.symm.trans e2);have hm:ty∈(List.range prog.types.size).filter fun t=>prog.rowNamed t [101,114,114,111,114]:=mem_filter.2 ⟨mem_range.2 e3,e4⟩;rw[aao] at hm;obtain rfl:=Zm.1 hm;rw[RQ] at e5;simpa using World.var?_cell XZ e5 0
theorem EC(h:laidMetH prog Rows.disksRow.laid W):∃a,lT a W:=by
 obtain⟨h1,h2⟩:=laidMetH_iff.1 h;have hl:=h1.filter (fun x=>Di x.1);have el:((Rows.disksRow.laid.filter fun x=>x.2.handleName?.isNone).filter fun x=>Di x.1)=sV.map mk:=by kernel_rfl
 rw[el] at hl;have eh:(Rows.disksRow.laid.filter fun x=>x.2.handleName?.isSome)=[("errors.errorType",Rows.laid_errors_errorType)]:=by kernel_rfl
 rw[eh] at h2;have hx:∀k:Nat,∃a:Addr,k<12->∃(x:String × List UInt8) (s:Zy) (c:Array Value) (t:TypeId),sV[k]? =some x/\W.cell? (Za k 0)=some (.iface 452 (.pointer (some a)))/\W.cell? a=some (.string s)/\s.data.toList=x.2/\W.heap[a.block]? =some (.cells c t (0,0)):=by
  intro k;by_cases hk:k<12
  ·have hn:=all_eq_true.1 Ez k (mem_range.2 hk);simp only[Bool.and_eq_true,beq_iff_eq] at hn;obtain⟨hn1,hn2⟩:=hn;obtain⟨x,hx,hg⟩:=Option.bind_eq_some_iff.1 hn1;obtain⟨a,s,c,t,hv,hc,hs,hb⟩:=PS sV hl k k x hx hg hn2;exact⟨a,fun _=>⟨x,s,c,t,hx,by simpa using World.var?_cell hg hv 0,hc,hs,hb⟩⟩
  ·exact⟨(Za 0 0),fun h=>absurd h hk⟩
 obtain⟨a,ha⟩:=Classical.axiomOfChoice hx;refine⟨a,fun k hk=>?_,fun k hk=>?_,fun i j hi hj hij e=>?_,fun k hk=>?_,Dj h2⟩
 ·obtain⟨x,s,c,t,_,hv,_⟩:=ha k hk;exact hv
 ·obtain⟨x,s,c,t,_,_,_,_,hb⟩:=ha k hk;exact⟨c,t,hb⟩
 ·obtain⟨x,s,c,t,hx,_,hc,hs,_⟩:=ha i hi;obtain⟨y,s',c',t',hy,_,hc',hs',_⟩:=ha j hj;have hd:=all_eq_true.1 (all_eq_true.1 EB i (mem_range.2 hi)) j (mem_range.2 hj);rw[e,hc'] at hc;have es:s'=s:=by simpa using hc
  rw[hx,hy] at hd;simp only[Option.map_some,Bool.or_eq_true,beq_iff_eq,bne_iff_ne,ne_eq,Option.some.injEq] at hd;rcases hd with hd|hd
  ·exact hij hd
  ·exact hd (by rw[<-hs,<-hs',es])
 ·obtain⟨x,s,c,t,hx,_,hc,hs,_⟩:=ha k hk;have hd:=all_eq_true.1 EA x (mem_of_getElem? hx);simp only[Bool.and_eq_true,bne_iff_ne,ne_eq,decide_eq_true_eq] at hd;have e:s.size=x.2.length:=by rw[<-hs];exact Array.length_toList.symm
  exact⟨s,hc,by rw[e];exact hd.1,by rw[e];exact hd.2⟩
end
end Go.Proofs.YtdidjdoifpfmmaaGreatDoor
