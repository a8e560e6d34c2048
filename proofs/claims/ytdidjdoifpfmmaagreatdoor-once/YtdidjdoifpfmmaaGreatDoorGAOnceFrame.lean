import Derived.Test.YtdidjdoifpfmmaaGreatDoorCards
import Derived.Test.YtdidjdoifpfmmaaGreatDoorGAOnceFacts
import Derived.Test.YtdidjdoifpfmmaaGreatDoorGO01
import Derived.Test.YtdidjdoifpfmmaaGreatDoorTie
import Derived.Deep.DeepHandedRow
import Derived.Deep.DeepWitnessRowRef
import Derived.LaidMore
import Derived.LaidHandle
import Derived.SevenTiedAt
import Derived.Lay
set_option maxRecDepth 100000
set_option maxHeartbeats 16000000
namespace Go.Proofs.YtdidjdoifpfmmaaGreatDoor
open Go.Proofs.Tryz List
section
open Go.ChangeShapes Go.WideShapes Go.ChangeAt Go.RowKit
theorem own:ownKnob prog.godebug=none:=by kernel_rfl
theorem laidOut:laidOutB prog=true:=by kernel_rfl
def tV:Prop:=∀(W:World) (ops:List lG) (a0:Option Addr) (b off cap:Nat),(0<ops.length->a0=some (Za b off))->je W b off ops->(0<ops.length->b<W.heap.size)->ops.length<=maxLen->
 (∀o∈ops,o.s.size<=140737488351232/\o.t.size<=140737488351232)->(∀o∈ops,o.Fit)->laidMetH prog Rows.onceRow.laid W->W.ShapedOpen prog->
 Zc 11 #[.slice a0 ops.length cap] W fun e w'=>e=.returned (.bool true)/\Below W.heap.size W w'
theorem Dv(walk:tV)(H:Type)(enc:TypeId × Value->H)(W:World)(base:Nat)(args:Array Value)(ds gs:List (DataW H))(before:List MemPlace)
  (hval0:∀(j:Nat) t v,Tryz.f11.params[j]? =some t->args[j]? =some v->Value.okWide prog W .any base t v)
  (hW:DataW.Whole enc prog Tryz.f11.params.toList Rows.onceSpec.vars false W args.toList ds gs before)
  (hsz:(DataW.weightsEach prog (Tryz.f11.params.toList++(OpenSpec.ofChange Rows.onceSpec).bare.plain.varTypes prog) (ds++gs)).all (·<=reachBytes)=true) (hL:laidMetH prog Rows.onceRow.laid W) (hsh:W.ShapedOpen prog):
  Zc 11 args W fun e W'=>∃v,e=.returned v/\Rows.onceSpec.post enc prog Tryz.f11 false true false false W args v W':=by
 have hval:∀(j:Nat) t v,Tryz.f11.params[j]? =some t->args[j]? =some v->Value.okWide prog W .any base t v:=hval0;have hW':=hW;obtain⟨p,q,hA0,hV,rfl,hfz,hnd⟩:=hW;have hA:DataW.TrodAll enc prog W 0 (fun _=>true) true Tryz.f11.params.toList args.toList ds p:=hA0;rw[Tryz.params11] at hA hval hsz;obtain⟨v0,d0,rfl,rfl,h0⟩:=trodAll_one hA;obtain⟨rfl,rfl⟩:=trodVars_none hV;have h0k:=h0;simp only[append_nil] at hW';have hlt:∀x∈p,x.block<W.heap.size:=fun x hx=>by simpa using hW'.lt x hx
 obtain⟨x0,x1,x2,rfl⟩:=okWide_slice underlying27 (hval 0 27 v0 rfl rfl);obtain⟨fuel,hf⟩:=h0;obtain⟨ops,a0,b,off,cap,hv,h1,h2,h3,h4,h5,hfit⟩:=Ak (by simpa [Value.cells] using hf);have hz:∀o∈ops,o.s.size<=140737488351232/\o.t.size<=140737488351232:=by
  rcases h5 with h5|⟨sp,h5⟩
  ·subst h5;intro o ho;simp at ho
  ·exact Du hsz h5
 have hw:=walk W ops a0 b off cap h1 h2 h3 h4 hz hfit hL hsh;rw[<-hv] at hw;clear hA0 hval0;refine hw.mono fun e W' ⟨he,hg⟩=>?_;subst he;have e1:Rows.onceSpec.fn H ([d0]++[])={results:=[.lit (.bool true)],args:=[d0]}:=rfl;refine⟨_,rfl,_,_,_,[],p,[],hW',?_,?_,?_,hg.frame _,fun h=>by cases h⟩
 ·rw[e1];exact trodAll_mk1 (shut_bool underlying4 true)
 ·rw[e1];exact trodAll_mk1 (Below.trod laidOut (by kernel_rfl) (of_decide_eq_true (by kernel_rfl)) h0k hg hlt)
 ·rw[e1];rfl
noncomputable def Ap(os:Os):World:=(World.holding prog os ⟨#[],#[],[]⟩).setCell (Za 12 0) (.iface 325 (.agg #[.pointer (some (Za 18 92))]))
noncomputable def iH:List (String × DataW Unit):=Rows.onceRow.laid.filter fun x=>x.2.handleName?.isNone
noncomputable def mZ(os:Os):World:=(Ap os).layVars prog iH
theorem IL(os:Os):(mZ os).os=os:=by
 unfold mZ;rw[World.layVars_os];rfl
theorem SE(os:Os):(Ap os).layFits prog iH []=true:=by kernel_rfl
theorem LP(os:Os):(Ap os).layIfaces prog iH (mZ os)=true:=by kernel_rfl
theorem VO(os:Os)(args:Array Value):laidMet prog iH ((mZ os).forCall (fun _ _=>0) ⟨#[],args,[]⟩).memory:=by
 have e1:(iH.filter fun x=>(iH.map (·.1)).contains x.1)=iH:=filter_eq_self.2 fun x hx=>contains_iff_mem.2 (mem_map.2 ⟨x,hx,rfl⟩);have e2:(iH.filter fun x=>!(iH.map (·.1)).contains x.1)=[]:=filter_eq_nil_iff.2 fun x hx=>by rw[contains_iff_mem.2 (mem_map.2 ⟨x,hx,rfl⟩)];simp
 have h:laidMet prog iH (mZ os):=laidMet_layVars (w0:=Ap os) (iH.map (·.1)) [] (by rw[e1];rfl) (by rw[e1];exact SE os) (by rw[e1];exact LP os) (by rw[e2];exact LaidIn.none);exact h.of_heap (by simp[World.memory,World.forCall,Input.heap])
theorem Dw(os:Os):laidMetH prog Rows.onceRow.laid ((mZ os).forCall (fun _ _=>0) ⟨#[],#[.slice none 0 0],[]⟩).memory:=
 laidMetH_of_parts3 (fuel:=8) (VO os _) (by kernel_rfl) (by kernel_rfl)
theorem LQ(os:Os){H:Type}(enc:TypeId × Value->H):∃places,DataW.whole enc prog ((mZ os).forCall (fun _ _=>0) ⟨#[],#[.slice none 0 0],[]⟩).memory Tryz.f11.params.toList Rows.onceSpec.vars false #[Value.slice none 0 0].toList 8=some ([.nil],[],places):=
 ⟨[],by kernel_rfl⟩
theorem IQ(walk:tV)(os:Os)(started:os.Started)(H:Type)(enc:TypeId × Value->H)(F:Stop.Interp):
  ReturnsInHanded {} Tryz.checked os 11 .any ((OpenSpec.ofChange Rows.onceSpec).preRow enc prog Tryz.f11 Rows.onceRow.domain false Rows.onceRow.laid) (((OpenSpec.ofChange Rows.onceSpec).at F).post enc prog Tryz.f11 false true false false):=by
 obtain⟨places,hx⟩:=LQ os enc;refine returnsInHanded_of_row (C:=Tryz.checked) (s:=OpenSpec.ofChange Rows.onceSpec) own started (by kernel_rfl) func11
  (witness_row_atRef (enc:=enc) (C:=Tryz.checked) false (mZ os) #[.slice none 0 0] (IL os) (by kernel_rfl) (by kernel_rfl) (by kernel_rfl)
   (OpenSpec.preRow_of_cond 8 hx (by kernel_rfl) (fun k hk=>by cases hk) (by kernel_rfl) (Dw os))) ?_
 intro W base args ds gs before hval hW _ _ hsz hL hsh _;exact Dv walk H enc W base args ds gs before hval hW hsz hL hsh
theorem PY(walk:tV):Rows.OnceSaid:=
 OpenClaim.holds_of_cond 11 Tryz.f11 rfl rfl rfl rfl rfl rfl rfl ⟨rfl,rfl,rfl,rfl,rfl⟩ rfl rfl rfl rfl rfl (by kernel_rfl) func11 IK
  (of_decide_eq_true (by kernel_rfl)) (by unfold Func.isWrapper;first|(rw[if_pos (by decide +kernel)];kernel_rfl)|(rw[if_neg (by decide +kernel)];exact⟨rfl,rfl⟩))
  (fun os started H enc _ F=>by rw[OpenClaim.pre_eq_preRow];exact IQ walk os started H enc F)
theorem LU(f:FuncId)(fn:Func)(hf:Tryz.pinned.checked.prog.funcNamed "stow/archivekeep.Once"=some f)(hfn:Tryz.pinned.checked.prog.funcs[f]? =some fn):
  true=Tryz.pinned.checked.prog.looks []/\∀(j:Nat) t,fn.params[j]? =some t->Tryz.pinned.checked.prog.wantsStandIn t=false:=by
 obtain rfl:f=11:=Option.some.inj ((show prog.funcNamed "stow/archivekeep.Once"=some 11 by kernel_rfl).symm.trans hf) |>.symm;obtain rfl:fn=Tryz.f11:=(Option.some.inj (func11.symm.trans hfn)).symm;refine⟨by kernel_rfl,fun j t ht=>?_⟩;rw[Tryz.params11] at ht;obtain rfl:t=27:=by simpa using Array.mem_of_getElem? ht
 exact(show prog.wantsStandIn 27=false by kernel_rfl)
theorem FV(walk:tV):Rows.OnceCardSaid:=
 Claim7.holds_tied_plain_at .later [] _ _ _ _ (PY walk) (fun _ h=>by cases h) (by kernel_rfl) (fun _ h=>by cases h) once_row_tie rfl ⟨rfl,rfl⟩ (by kernel_rfl) rfl LU (by kernel_rfl)
end
end Go.Proofs.YtdidjdoifpfmmaaGreatDoor
