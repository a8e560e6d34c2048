import Derived.Test.YtdidjdoifpfmmaaGreatDoorGAOnceFrame
import Derived.Test.YtdidjdoifpfmmaaGreatDoorGASentsLaid
import Derived.Test.YtdidjdoifpfmmaaGreatDoorGO28
import Derived.Shelf.Vars
import Derived.Lib.LaidTab
set_option maxRecDepth 100000
set_option maxHeartbeats 16000000
namespace Go.Proofs.YtdidjdoifpfmmaaGreatDoor
open Go.Proofs.Tryz List
variable{W w:World}
section
open Go.RowKit
theorem X7{α β:Type}{p:α × β}{x:α}{y:β}(h1:p.1=x)(h2:p.2=y):p=(x,y):=by
 rw[<-h1,<-h2]
theorem OH{S:Dk}(h1:S.wait=[])(h2:S.fuse=0)(h3:S.down=false):(⟨jG S.wait S.safe [],[],0,false⟩:Dk)=S:=by
 cases S with
 | mk a b c d=>
  simp only at h1 h2 h3;subst h1 h2 h3;rfl
theorem ab3:(dN xB.S 5).1=xB.S:=by
 have:=aaS;unfold xS at this;exact this
theorem xW:dN xB.S xR.1.1=(xB.S,0):=by
 rw[Y3];exact X7 ab3 XL
theorem aap:∃x:Ln,wO xc xB.S xR.2.H (dQ xc xA)=.ok [x]/\x.name=⟨#[102]⟩/\x.dir=false/\x.sum.size=32/\uy xc xB.S xR.2.H x.sum=.ok ⟨#[100,97,116,97]⟩:=by
 have h:=xDir;unfold xLn at h;exact⟨_,h,rfl,rfl,xc.size _,aaT⟩
theorem xF:XF xc xB.S xR (dQ xc xA) Ew:=by
 obtain⟨_,hu,hf,_,_,hl⟩:=Iq;exact⟨hf.ok,hf.fuse,hu.wait,OH hu.wait hu.fuse hu.up,hl,aaj,⟨by unfold xR;exact Eq.refl _,aaR⟩,by rw[Y3];decide,xW,xR_I,xc.size _,aai,aap,aaU,aaV,aak⟩
theorem Aj{name:String}{g:Nat}{l:List Nat}(hg:prog.globalNamed name=some g)(h:Lib.TabIs prog W name .u32 (l.map fun n:Nat=>(n:Int))):pR W g l:=by
 unfold Lib.TabIs World.var? at h;rw[hg,Option.bind_some] at h;split at h
 ·rename_i cs t fz e;simp only[Option.some.injEq] at h;refine⟨t,fz,?_⟩;rw[e,h];simp[aQ]
 ·cases h
theorem OI(h:laidMetH prog Rows.onceRow.laid W):dI xc W:=by
 have h1:=(laidMetH_iff.1 h).1;have a1:=h1.filter (fun x=>x.1 == "stow/sums.start");have a2:=h1.filter (fun x=>x.1 == "stow/sums.rounds");have e1:((Rows.onceRow.laid.filter fun x=>x.2.handleName?.isNone).filter fun x=>x.1 == "stow/sums.start")=[("stow/sums.start",Lib.tabData .u32 (Ox.map fun n:Nat=>(n:Int)))]:=by kernel_rfl
 have e2:((Rows.onceRow.laid.filter fun x=>x.2.handleName?.isNone).filter fun x=>x.1 == "stow/sums.rounds")=[("stow/sums.rounds",Lib.tabData .u32 (PI.map fun n:Nat=>(n:Int)))]:=by kernel_rfl
 rw[e1] at a1;rw[e2] at a2;have t1:=Lib.tabIs_of_head (P:=prog) (g:=13) (t:=293) (e:=81) (n:=8) (by kernel_rfl) (by kernel_rfl) underlying293 underlying81 (by kernel_rfl) (by kernel_rfl) a1;have t2:=Lib.tabIs_of_head (P:=prog) (g:=14) (t:=379) (e:=81) (n:=64) (by kernel_rfl) (by kernel_rfl) underlying379 underlying81 (by kernel_rfl) (by kernel_rfl) a2;exact⟨Aj (by kernel_rfl) t2,Aj (by kernel_rfl) t1⟩
theorem RS(h:W.ShapedOpen prog):∃m,W.cell? (Za 15 0)=some (.int .i64 m):=
 cell_of_shapedOpen_int h (g:=15) (t:=3) (zero:=#[.int .i64 0]) (k:=.i64) (of_decide_eq_true (by kernel_rfl)) (by kernel_rfl) rfl (by kernel_rfl) (by kernel_rfl) underlying3
theorem OJ(h:laidMetH prog Rows.onceRow.laid W):∃a,lT a W:=EC h
theorem OL(h:W.ShapedOpen prog):18<=W.heap.size:=by
 have hs:(((begin prog (fun _ _=>0) default).world.heap[18-1]?).bind Obj.row?).isSome=true:=by kernel_rfl
 obtain⟨⟨zero,t⟩,h0⟩:=Option.isSome_iff_exists.1 hs;obtain⟨cs,hh,_⟩:=h.1 (18-1) zero t (of_decide_eq_true (by kernel_rfl)) h0;have h1:=(Array.getElem?_eq_some_iff.1 hh).1;omega
theorem aaq{a:Nat->Addr}(bs:gU a w w)(hC:dI xc w):Zc 17 #[] w fun e w'=>e=.returned (.bool true)/\Below w.heap.size w w':=by
 obtain⟨hsn,_,_,hL,hI,_⟩:=Iq;have hu:=Y2;have hf:=U9;have hx:=xF;obtain⟨root,hr⟩:∃root,root=dQ xc xA:=⟨_,rfl⟩;rw[<-hr] at hI hx;unfold xA at hsn hu hf hr;unfold Ew at hsn hI hx;exact aan hx hsn hr.symm hI hL hu hf aaO aaP aaQ bs hC
theorem Iw(ops:List lG)(a0:Option Addr)(b off cap:Nat)(ha:0<ops.length->a0=some (Za b off))(hs:je W b off ops)(hb:0<ops.length->b<W.heap.size)(hlen:ops.length<=maxLen)(hz:∀o∈ops,o.s.size<=140737488351232/\o.t.size<=140737488351232)(hfit:∀o∈ops,o.Fit)(hL:laidMetH prog Rows.onceRow.laid W)(hsh:W.ShapedOpen prog):
  Zc 11 #[.slice a0 ops.length cap] W fun e w'=>e=.returned (.bool true)/\Below W.heap.size W w':=by
 obtain⟨a,hS⟩:=OJ hL;have hG:eO a W:=⟨fun k hk=>hS.var k hk,RS hsh⟩;have hg:=OL hsh;have hC:=OI hL;obtain⟨b,off,ha,hs,hb⟩:∃b off,(0<ops.length->a0=some (Za b off))/\je W b off ops/\b<W.heap.size:=by
  by_cases h0:0<ops.length
  ·exact⟨b,off,ha,hs,hb h0⟩
  ·refine⟨12,0,fun h=>absurd h h0,?_,hS.size⟩;intro i o hi;have:ops=[]:=eq_nil_of_length_eq_zero (by omega);rw[this] at hi;simp at hi
 refine Vh ops a0 b off cap ha W hs hb hlen hz hfit ⟨hS,hG,hg,Zr⟩ hC (fun w1 hb1=>?_);exact aaq (a:=a) ⟨hS.below hb1,hG.up hb1,Nat.le_trans hg hb1.size,Zr⟩ (hC.fr (Fr.of_below hb1 []) (by simp))
theorem RU:tV:=fun _W ops a0 b off cap ha hs hb hlen hz hfit hL hsh=>Iw ops a0 b off cap ha hs hb hlen hz hfit hL hsh
theorem once_card:Rows.OnceCardSaid:=FV RU
end
end Go.Proofs.YtdidjdoifpfmmaaGreatDoor
