import Derived.Test.YtdidjdoifpfmmaaGreatDoorGO25
set_option maxRecDepth 100000
set_option maxHeartbeats 16000000
namespace Go.Proofs.YtdidjdoifpfmmaaGreatDoor
open Go.Proofs.Tryz List
variable{w w' w1:World}{tv xv sv qZ rq:Value}
section
open Go.RowKit Go.Maps Go.Lib
theorem tC{P:Program}{a:Act}{o:Oper}(t:TypeId)(x y:Operand)(ho:o.op=.call {callee:=.builtin .append,args:=#[x,y],argTypes:=#[t,t]})(u v r:Value)(hx:a.eval x=u)(hy:a.eval y=v)(hr:∀ty,(Builtin.append_ #[t,t] ty #[u,v]).run P w=.ok r w'):(execOp a.eval o).run P w=.ok (.value r) w':=by
 unfold execOp;simp only[ho,resolve,invoke,builtin,Sem.run_bind,Sem.run_pure,Result.andThen_ok,map_toArray,map_cons,map_nil,hx,hy,hr]
theorem Ip(W:World){T:List It}(h:W.ownsRow 0 109 3 tv T.length (aK T))(h0:0<T.length)(hn:T.length<=1000000):
  ∃g ck w',(∀ty,(Builtin.append_ #[32,32] ty #[.slice none 0 0,tv]).run prog W=.ok (.slice (Zs g) T.length ck) w')/\w'.ownsRow 0 109 3 (.slice (Zs g) T.length ck) T.length (aK T)/\W.heap.size<=g/\Fr W w' []:=by
 obtain⟨i0,hi0,hz0,hz1,hz2⟩:=info_parts oN;rcases h.2 with⟨hv,h1⟩|⟨g,cap,cur,hv,_,hb,hc,hcm,_,ht⟩
 ·omega
 ·have hnews:∀j u,(aK T)[j]? =some u->W.cell? (((Za g 0):Addr).add j)=some u:=by
   intro j u hu;have hadd:((Za g 0):Addr).add j=(Za g j):=by unfold Addr.add;split<;>simp_all
   have hj:j<T.length*3:=by have:=(List.getElem?_eq_some_iff.1 hu).1;rw[fJ] at this;omega
   rw[hadd,cell_of_row W g j cur _ _ hb];have:(cur.toList.take (T.length*3))[j]? =(aK T)[j]? :=by rw[ht]
   rw[getElem?_take_of_lt (by omega)] at this;rw[<-Array.getElem?_toList,this,hu]
  have key:=fun ty=>run_append_own_at (P:=prog) W 0 32 ty 109 i0 _ 3 40 underlying32 hi0 hz0 hz1 hz2 rfl (by decide) (.slice none 0 0) 0 [] (World.ownsRow_nil _ _ _ _) (Za g 0) T.length cap (aK T) (by rw[fJ];try omega) hnews (by intro u hu;unfold aK at hu;obtain⟨x,_,hx⟩:=mem_flatMap.1 hu;simp[It.cells] at hx;rcases hx with rfl|rfl|rfl<;>rfl) (by simp[maxLen];omega) (by omega) (Nat.zero_le _);obtain⟨v',w',hr,ho,hg,_,hb'⟩:=key 0;rw[Nat.zero_add,nil_append] at ho;obtain⟨a0,ck,rfl⟩:∃a0 ck,v'=.slice a0 T.length ck:=aV ho;obtain⟨g',rfl,_⟩:=dH ho h0;refine⟨g',ck,w',fun ty=>by rw[hv];exact hr,ho,?_,(Fr.refl _ _).grown hg (by intro k hk;simp[Value.ownBlock] at hk)⟩;rcases hb' with hb'|hb'
  ·simp[Value.ownBlock] at hb'
  ·have:g'=W.heap.size:=by simpa [Value.ownBlock] using hb'
   omega
section
variable {a:Nat->Addr}{w0 w:World}{q:Nat}{r:List Value}{sv:Value}{x:fH}{P:Part}
def Ot(q:Nat)(r:List Value)(sv:Value)(x:fH)(P:Part):List Part:=[P,bU q 37 r,bn 54 3 sv 1 x.cells,x.part]
structure Cr(a:Nat->Addr)(w0:World)(q:Nat)(r:List Value)(sv:Value)(x:fH)(P:Part)(w:World):Prop where
 hold:dF w0.heap.size w (Ot q r sv x P)
 bs:gU a w0 w
theorem Cr.below(h:Cr a w0 q r sv x P w)(f:Below w.heap.size w w1):Cr a w0 q r sv x P w1:=⟨h.hold.below f,h.bs.below f⟩
theorem Cr.row(h:Cr a w0 q r sv x P w):ai w q 37 r:=h.hold.at_ (bU q 37 r) (by simp[Ot])
theorem Cr.set(h:Cr a w0 q r sv x P w)(k:Nat)(v:Value):Cr a w0 q (r.set k v) sv x P (w.setCell (Za q k) v):=by
 have s:=Step.at (ps:=[P]) (qs:=[bn 54 3 sv 1 x.cells,x.part]) (P:=bU q 37 r) (Q:=bU q 37 (r.set k v)) h.bs.size h.hold (h.row.set k v) ((Fr.refl _ _).setCell _ _ (.inl (by simp[bU]))) (fun b hb=>.inl hb);exact⟨s.hold,h.bs.fr s.fr (fun b hb=>h.hold.far b hb)⟩
theorem Cr.part{Q:Part}(h:Cr a w0 q r sv x P w)(hq:Q.At w1)(f:Fr w w1 P.blocks)(hs:∀b∈Q.blocks,b∈P.blocks\/w.heap.size<=b):Cr a w0 q r sv x Q w1:=by
 have s:=Step.at (ps:=[]) (qs:=[bU q 37 r,bn 54 3 sv 1 x.cells,x.part]) (P:=P) (Q:=Q) h.bs.size h.hold hq f hs;exact⟨s.hold,h.bs.fr s.fr (fun b hb=>h.hold.far b hb)⟩
theorem Cr.farP(h:Cr a w0 q r sv x P w):∀b∈P.blocks,w0.heap.size<=b:=fun b hb=>h.hold.far b (by rw[Ot,bL];exact mem_append_left _ hb)
end
section
variable {a:Nat->Addr}{w0 w:World}{q gs cs g1 c1:Nat}{r:List Value}{S:Dk}{A1:jc}{lab root:Zy}
def Mnt(a:Nat->Addr)(w0:World)(S:Dk)(A1:jc):Prop:=∀(w:World) (d:DP),gU a w0 w->aB w d S->(∀b∈d.blocks,w0.heap.size<=b)->Zc 26 #[Zp d.p] w fun e w'=>∃p:aS,e=.returned (.tuple #[Zp p.q,.int .i64 0])/\p.d.p=d.p/\eP w' p A1/\Fr w w' d.blocks/\(∀b∈(bf p A1).blocks,b∈d.blocks\/w.heap.size<=b)
def Ou(a:Nat->Addr)(w0:World)(p:aS)(A:jc)(tb:Nat)(w:World):Prop:=eP w p A/\gU a w0 w/\tb<w.heap.size
def FO(g1 c1:Nat)(lab root:Zy):fH:=⟨.slice (Zs g1) 1 c1,T1,lab,root⟩
def FP(z:Int)(dp:Nat)(av tv sv:Value)(xv hv:Value):List Value:=[.int .i64 z,Zp dp,av,tv,sv,.slice none 0 0,.slice none 0 0,.bool false,xv,hv,.bool false]
theorem Dh(h:w.ownsRow 0 109 3 (.slice (Zs g1) 1 c1) 1 (aK T1)):qC g1 w:=by
 obtain⟨g',e,_,_,hr⟩:=dH h (by decide);have e:g1=g':=by simpa using e
 subst e;exact⟨by have:=hr 0 _ rfl;simpa using this,by have:=hr 1 _ rfl;simpa using this,by have:=hr 2 _ rfl;simpa using this⟩
theorem XK(z:Int)(d:DP)(av tv xv hv:Value)(h:Cr a w0 q (FP z d.p av tv (.slice (Zs gs) 1 cs) xv hv) (.slice (Zs gs) 1 cs) (FO g1 c1 lab root) (oG d S) w)(ok:S.Ok)(hS:(⟨jG S.wait S.safe [],[],0,false⟩:Dk)=S)(hM:Mnt a w0 S A1)(hR:∀(p:aS) (tb:Nat),(∀b∈(bf p A1).blocks,w0.heap.size<=b)->tb∉(bf p A1).blocks->w0.heap.size<=tb->Rds (Ou a w0 p A1 tb) tb p.q lab root):
  Zc 19 #[Zp q] w fun e w'=>e=.returned (.bool true)/\Below w0.heap.size w0 w'/\w'.cell? (Za q 4)=some (.slice (Zs gs) 1 cs)/\w'.cell? (Za gs 0)=some (.slice (Zs g1) 1 c1):=by
 obtain⟨r,hr⟩:∃r,r=FP z d.p av tv (.slice (Zs gs) 1 cs) xv hv:=⟨_,rfl⟩;obtain⟨sv,hsv⟩:∃sv,sv=(Value.slice (Zs gs) 1 cs):=⟨_,rfl⟩;obtain⟨x,hx⟩:∃x,x=FO g1 c1 lab root:=⟨_,rfl⟩;rw[<-hr,<-hx] at h;have h:Cr a w0 q r sv x (oG d S) w:=by rw[hsv];exact h
 have Hr:Hid _:=hr;have Hx:Hid _:=hx;have Hsv:Hid _:=hsv;have y1:w.cell? (Za q 1)=some (Zp d.p):=by rw[h.row.cell 1,hr];rfl
 have y2:w.cell? (Za q 6)=some (.slice none 0 0):=by rw[h.row.cell 6,hr];rfl
 have HQ1:Hid (∀w1 P,Cr a w0 q r sv x P w1->w1.cell? (Za q 1)=some (Zp d.p)):=fun w1 P k=>by rw[k.row.cell 1,hr];rfl
 have HQ6:Hid (∀w1 P,Cr a w0 q r sv x P w1->w1.cell? (Za q 6)=some (.slice none 0 0)):=fun w1 P k=>by rw[k.row.cell 6,hr];rfl
 have HM:Hid _:=hM;have HR:Hid _:=hR;have FA:Hid (Fr w (w.drew.alloc (.cells #[] 3)) []):=((Fr.refl w _).drew).alloc _;have HS0:Hid (∀w',Fr w w' []->w'.cell? (Za q 1)=some (Zp d.p)/\w'.cell? (Za q 6)=some (.slice none 0 0)):=fun w' f=>by
  have e2:=f.block q (Zd y1) (by simp);exact⟨ay y1 e2,ay y2 e2⟩
 obtain⟨i0,hi0,hz0,hz1,hz2⟩:=info_parts (show(prog.info? 3).map (fun i=>(i.zero,i.size,i.bytes))=some (some (.int .i64 0),1,8) by kernel_rfl);have RJ:Hid (∀ty,(Builtin.append_ #[34,34] ty #[.slice (Zs w.drew.heap.size) 0 0,.slice none 0 0]).run prog (w.drew.alloc (.cells #[] 3))=.ok (.slice (Zs w.drew.heap.size) 0 0) (w.drew.alloc (.cells #[] 3))):=fun ty=>by
  simp[Builtin.append_,run_underlying underlying34,sizeOf,typeInfo,hi0,Builtin.lenOf,Builtin.firstCells,Addr.add,storeCells]
 have HCr:Hid (Zc 34 #[Zp d.p,.slice (Zs w.drew.heap.size) 0 0] (w.drew.alloc (.cells #[] 3)) fun e w'=>e=.returned (.tuple #[])/\∃d1,DP.p d1=d.p/\Cr a w0 q r sv x (oG d1 S) w'/\w.heap.size∉d1.blocks/\w.heap.size<w'.heap.size):=by
  have h1:Cr a w0 q r sv x (oG d S) (w.drew.alloc (.cells #[] 3)):=h.below (((Below.refl _ w).drew).alloc (Zn) _);have hd:aB (w.drew.alloc (.cells #[] 3)) d S:=h1.hold.at_ (oG d S) (by simp[Ot]);have hd0:aB w d S:=h.hold.at_ (oG d S) (by simp[Ot]);have hC:=JQ (N:=fun w'=>∃d1,aB w' d1 ⟨jG S.wait S.safe [],[],0,false⟩/\d1.p=d.p/\∀b∈d1.blocks,b∈d.blocks\/(w.drew.alloc (.cells #[] 3)).heap.size<=b) (GD hd ok (Zs w.drew.heap.size) w.drew.heap.size 0 0 [] (Nat.zero_le _) ⟨fun e=>absurd e (by decide),fun j hj=>absurd hj (by simp)⟩ (fun hm=>by have:=hd0.lt _ hm;simp at this));refine hC.mono ?_;rintro e w' ⟨e1,⟨d1,k1,k2,k3⟩,f⟩;rw[hS] at k1;refine⟨e1,d1,k2,h1.part (Q:=oG d1 S) k1 f k3,fun hm=>?_,Nat.lt_of_lt_of_le (by simp) f.size⟩;rcases k3 _ hm with k4|k4
  ·have:=hd0.lt _ k4;omega
  ·simp at k4;omega
 have HSz:Hid (w0.heap.size<=w.heap.size):=h.bs.size;have HNo:Hid (∀(r':List Value) (P:Part),w.heap.size∈gZ (Ot q r' sv x P)->w.heap.size∉P.blocks->False):=fun r' P hb hn=>by
  have h2:w.heap.size∈P.blocks++gZ [bU q 37 r',bn 54 3 sv 1 x.cells,x.part]:=hb;rcases mem_append.1 h2 with h3|h3
  ·exact hn h3
  ·have h4:w.heap.size∈gZ (Ot q r sv x (oG d S)):=by
    rw[Ot,bL];exact mem_append_right _ h3
   have:=h.hold.lt _ h4;omega
 have HNe:Hid (gs≠q/\g1≠q):=by
  have hc:=h.hold.right (ps:=[oG d S]) (qs:=[bU q 37 r,bn 54 3 sv 1 x.cells,x.part]);have hq:=hc.cons q (by simp[bU]);rw[hsv,hx] at hq;exact⟨fun e=>hq (by rw[bL];exact mem_append_left _ (by simp[bn,Value.ownBlock,e])),fun e=>hq (by rw[bL,bL];exact mem_append_right _ (mem_append_left _ (by simp[fH.part,FO,bn,Value.ownBlock,e])))⟩
 have HNw:Hid (q≠w.heap.size/\gs≠w.heap.size/\g1≠w.heap.size):=by
  have k1:=h.row.lt;have k2:=(bn 54 3 sv 1 x.cells).lt (h.hold.at_ (bn 54 3 sv 1 x.cells) (by simp[Ot])) gs (by rw[hsv];simp[bn,Value.ownBlock]);have k3:=x.part.lt (h.hold.at_ x.part (by simp[Ot])) g1 (by rw[hx];simp[fH.part,FO,bn,Value.ownBlock]);exact⟨by omega,by omega,by omega⟩
 clear h hM hR hS ok hr hx hsv;go_enter func19,ntmps19;go_upto_region 1 with fail
 refine bF ?_;refine wp_region_held_drew (S:=fun w'=>w'.cell? (Za q 1)=some (Zp d.p)/\w'.cell? (Za q 6)=some (.slice none 0 0)) (by kernel_rfl) ⟨y1,y2⟩ (fun ah=>?_);refine Zt 0 (Zp q) ?_;refine Zt 1 (Zp q) ?_;refine Zt 2 (.pointer (some (Za q 1))) ?_;refine Zt 3 (Zp d.p) ?_;refine Zt 5 (Zp q) ?_;refine Zt 6 (Zp q) ?_;refine Zt 7 (.pointer (some (Za q 6))) ?_;refine Zt 8 (.slice none 0 0) ?_;refine Zh 4 fun K hK=>?_;refine aD rfl (v:=.slice (Zs w.drew.heap.size) 0 0) (w':=w.drew.alloc (.cells #[] 3)) (by go_simp) ?_;refine hK.out _ _ (HS0.out _ (by exact FA.out)) (fun ah=>?_);clear hK K;(try simp only[Act.put,lA,lZ,lS]);refine Zh 9 fun K hK=>?_;refine aD rfl (v:=.slice (Zs w.drew.heap.size) 0 0) (w':=w.drew.alloc (.cells #[] 3)) (by exact tC 34 (.tmp 10) (.tmp 14) rfl _ _ _ rfl rfl (fun ty=>RJ.out ty)) ?_;refine hK.out _ _ (by exact ah) (fun ah=>?_);clear hK K;(try simp only[Act.put,lA,lZ,lS]);refine Zh 10 fun K hK=>?_;go_simp;go_at_call 34;refine HCr.out.mono ?_;rintro e w1 ⟨rfl,d1,ed,h1,htd,hsz1⟩;have HTd:Hid (w.heap.size∉d1.blocks):=htd;have H1:Hid (Cr a w0 q r sv x (oG d1 S) w1):=h1;have q1:=HQ1.out w1 _ h1;have q6:=HQ6.out w1 _ h1;clear h1 htd;refine hK.out _ _ (⟨q1,q6⟩) (fun ah=>?_);clear hK K;(try simp only[Act.put,lA,lZ,lS]);refine Zx ?_;simp only[At];clear y1 y2 HS0 FA RJ HCr ah;have hsz1:w.heap.size<w1.heap.size:=hsz1;have z6:w1.frozen? (Za q 6)=false:=H1.out.row.frozen 6;have H2:Hid (Cr a w0 q (r.set 6 (.slice none 0 0)) sv x (oG d1 S) (w1.setCell (Za q 6) (.slice none 0 0))):=H1.out.set 6 _;have x1:(w1.setCell (Za q 6) (.slice none 0 0)).cell? (Za q 1)=some (Zp d.p):=by rw[H2.out.row.cell 1,Hr.out];rfl
 have er:r.set 6 (.slice none 0 0)=r:=by rw[Hr.out];rfl
 rw[er] at H2;have cM:Zc 26 #[Zp d.p] (w1.setCell (Za q 6) (.slice none 0 0)) fun e w'=>∃p:aS,e=.returned (.tuple #[Zp p.q,.int .i64 0])/\Cr a w0 q r sv x (bf p A1) w'/\w.heap.size∉(bf p A1).blocks/\w.heap.size<w'.heap.size:=by
  have hd:aB (w1.setCell (Za q 6) (.slice none 0 0)) d1 S:=H2.out.hold.at_ (oG d1 S) (by simp[Ot]);rw[<-ed];refine(HM.out _ d1 H2.out.bs hd H2.out.farP).mono ?_;rintro e w' ⟨p,e1,_,k1,k2,k3⟩;refine⟨p,e1,H2.out.part (Q:=bf p A1) k1 k2 k3,fun hm=>?_,Nat.lt_of_lt_of_le (by simpa using hsz1) k2.size⟩;rcases k3 _ hm with k4|k4
  ·exact HTd.out k4
  ·simp at k4;omega
 clear er;go_upto_region 9 with(go_at_call 26;refine cM.mono ?_;rintro e w2 ⟨p,rfl,h2,ht2,hz2'⟩;have HTb:Hid (w.heap.size∉(bf p A1).blocks):=ht2;have H3:Hid (Cr a w0 q r sv x (bf p A1) w2):=h2;clear h2 ht2 cM)
 clear x1 q1 q6 z6 H1 H2 HM;have hsz0:w0.heap.size<=w.heap.size:=HSz.out;have a2:w2.cell? (Za q 2)=some av:=by rw[H3.out.row.cell 2,Hr.out];rfl
 have z2:w2.frozen? (Za q 2)=false:=H3.out.row.frozen 2;have H4:Hid (Cr a w0 q (r.set 2 (Zp p.q)) sv x (bf p A1) (w2.setCell (Za q 2) (Zp p.q))):=H3.out.set 2 _;have s4:w.heap.size<(w2.setCell (Za q 2) (Zp p.q)).heap.size:=by simpa using hz2'
 go_upto_region 10 with fail
 clear a2 z2 H3;generalize w2.setCell (Za q 2) (Zp p.q)=w3 at *;have a7:w3.cell? (Za q 7)=some (.bool false):=by rw[H4.out.row.cell 7,Hr.out];rfl
 have z7:w3.frozen? (Za q 7)=false:=H4.out.row.frozen 7;have H5:Hid (Cr a w0 q ((r.set 2 (Zp p.q)).set 7 (.bool false)) sv x (bf p A1) (w3.setCell (Za q 7) (.bool false))):=H4.out.set 7 _;have s5:w.heap.size<(w3.setCell (Za q 7) (.bool false)).heap.size:=by simpa using s4
 go_upto_region 11 with fail
 clear a7 z7 H4 s4 hz2';generalize w3.setCell (Za q 7) (.bool false)=w4 at *;have Nz:Hid (Rds (Ou a w0 p A1 w.heap.size) w.heap.size p.q lab root):=HR.out p w.heap.size H5.out.farP HTb.out hsz0;have Pk:Hid (∀(w1 w2:World) (r':List Value),Cr a w0 q r' sv x (bf p A1) w1->w.heap.size<w1.heap.size->Fr w1 w2 [w.heap.size]->Cr a w0 q r' sv x (bf p A1) w2):=fun w1 w2 r' k hs f=>by
  refine⟨k.hold.fr f (fun b hb hm=>?_),k.bs.fr f (fun b hb=>by rw[Zm.1 hb];exact hsz0)⟩;rw[Zm.1 hm] at hb;exact HNo.out r' _ hb HTb.out
 have cI:=Nz.out.infos w4 ⟨H5.out.hold.at_ (bf p A1) (by simp[Ot]),H5.out.bs,s5⟩;go_upto_region 12 with(go_at_call 35;refine cI.mono ?_;rintro e w5 ⟨gi,ci,rfl,_,_,_,_,hR5,f5⟩;have H6:Hid (Cr a w0 q ((r.set 2 (Zp p.q)).set 7 (.bool false)) sv x (bf p A1) w5):=Pk.out _ _ _ H5.out s5 f5;have s6:w.heap.size<w5.heap.size:=Nat.lt_of_lt_of_le s5 f5.size;clear cI hR5 f5)
 have b4:w5.cell? (Za q 4)=some (.slice (Zs gs) 1 cs):=by rw[H6.out.row.cell 4,Hr.out];rfl
 have a5:w5.cell? (Za q 5)=some (.slice none 0 0):=by rw[H6.out.row.cell 5,Hr.out];rfl
 have z5:w5.frozen? (Za q 5)=false:=H6.out.row.frozen 5;have H7:Hid _:=H6.out.set 5 (.slice none 0 0);have s7:w.heap.size<(w5.setCell (Za q 5) (.slice none 0 0)).heap.size:=by simpa using s6
 go_upto_region 16 with fail
 clear b4 a5 z5 H5 s5 H6 s6;generalize w5.setCell (Za q 5) (.slice none 0 0)=w6 at *;obtain⟨v3,a3⟩:∃v3,w6.cell? (Za q 3)=some v3:=⟨tv,by rw[H7.out.row.cell 3,Hr.out];rfl⟩;have z3:w6.frozen? (Za q 3)=false:=H7.out.row.frozen 3;have H8:Hid _:=H7.out.set 3 (.slice none 0 0);have s8:w.heap.size<(w6.setCell (Za q 3) (.slice none 0 0)).heap.size:=by simpa using s7
 go_upto_region 17 with fail
 clear a3 z3 H7 s7;generalize w6.setCell (Za q 3) (.slice none 0 0)=wC at *;obtain⟨r8,hr8⟩:∃r8,r8=(((r.set 2 (Zp p.q)).set 7 (.bool false)).set 5 (.slice none 0 0)).set 3 (.slice none 0 0):=⟨_,rfl⟩;rw[<-hr8] at H8;have y2:wC.cell? (Za q 2)=some (Zp p.q):=by rw[H8.out.row.cell 2,hr8,Hr.out];rfl
 have y3:wC.cell? (Za q 3)=some (.slice none 0 0):=by rw[H8.out.row.cell 3,hr8,Hr.out];rfl
 have y4:wC.cell? (Za q 4)=some (.slice (Zs gs) 1 cs):=by rw[H8.out.row.cell 4,hr8,Hr.out];rfl
 have hso:wC.ownsRow 0 54 3 (.slice (Zs gs) 1 cs) 1 (FO g1 c1 lab root).cells:=by
  have:=H8.out.hold.at_ (bn 54 3 sv 1 x.cells) (by simp[Ot]);have this:wC.ownsRow 0 54 3 sv 1 x.cells:=this;rw[Hsv.out,Hx.out] at this;exact this
 have hto:wC.ownsRow 0 109 3 (.slice (Zs g1) 1 c1) 1 (aK T1):=by
  have:=H8.out.hold.at_ x.part (by simp[Ot]);rw[Hx.out] at this;exact this
 obtain⟨gs',e0,_,hgsl,hrs⟩:=dH hso (by decide);have e0:gs=gs':=by simpa using e0
 subst e0;have y5:wC.cell? (Za gs 0)=some (.slice (Zs g1) 1 c1):=hrs 0 (.slice (Zs g1) 1 c1) rfl;have y6:wC.cell? (Za gs 1)=some (.string lab):=hrs 1 (.string lab) rfl;have y7:wC.cell? (Za gs 2)=some (.string root):=hrs 2 (.string root) rfl;obtain⟨g2,c2,w7,Y1,ho7,hg2,f7⟩:=Ip (T:=T1) wC.drew (fB hto (Zr).drew) (by decide) (by decide);have aaN:Hid _:=Y1;have f7':Fr wC w7 []:=(Fr.refl wC []).drew.trans f7 (fun x hx=>nomatch hx);have hqs:q<wC.heap.size:=H8.out.row.lt;have XA:Hid (w7.cell? (Za q 4)=some (.slice (Zs gs) 1 cs)/\w7.cell? (Za gs 0)=some (.slice (Zs g1) 1 c1)):=⟨ay y4 (f7'.block q hqs (by simp)),ay y5 (f7'.block gs hgsl (by simp))⟩;have hqg:gs≠q:=HNe.out.1;have fq:Fr w7 (w7.setCell (Za q 3) (.slice (Zs g2) 1 c2)) [q]:=(Fr.refl _ _).setCell _ _ (.inl (by simp));have HS8:Hid ((w7.setCell (Za q 3) (.slice (Zs g2) 1 c2)).cell? (Za q 4)=some (.slice (Zs gs) 1 cs)/\(w7.setCell (Za q 3) (.slice (Zs g2) 1 c2)).cell? (Za gs 0)=some (.slice (Zs g1) 1 c1)):=⟨by rw[World.cell?_setCell_other _ _ _ _ (by simp)];exact XA.out.1,ay XA.out.2 (fq.block gs (Zd XA.out.2) (by simp;exact hqg))⟩;have row7:=f7'.row H8.out.row (by simp);have x3:w7.cell? (Za q 3)=some (.slice none 0 0):=ay y3 (f7'.block q hqs (by simp));have z3:w7.frozen? (Za q 3)=false:=row7.frozen 3;have HT1:Hid (qC g1 wC):=Dh hto;have HT2:Hid (qC g2 w7):=Dh ho7;have HKW:Hid (Ac q p.q gs g1 g2 c1 c2 cs lab root (w7.setCell (Za q 3) (.slice (Zs g2) 1 c2))):=by
  have row8:=row7.set 3 (.slice (Zs g2) 1 c2);have kt:∀{g:Nat},g≠q->qC g w7->qC g (w7.setCell (Za q 3) (.slice (Zs g2) 1 c2)):=fun hg k=>k.fr fq hg;have h1l:g1<wC.heap.size:=Zd HT1.out.1;refine⟨?_,?_,HS8.out.1,HS8.out.2,?_,?_,kt HNe.out.2 ⟨ay HT1.out.1 (f7'.block g1 h1l (by simp)),ay HT1.out.2.1 (f7'.block g1 h1l (by simp)),ay HT1.out.2.2 (f7'.block g1 h1l (by simp))⟩,kt (by have:wC.heap.size<=g2:=hg2;omega) HT2.out⟩
  ·rw[row8.cell 2,getElem?_set_ne (by decide),hr8,Hr.out];rfl
  ·rw[row8.cell 3,getElem?_set_self (by rw[hr8,Hr.out];simp[FP])]
  ·exact jr (ay y6 (f7'.block gs hgsl (by simp))) fq hqg
  ·exact jr (ay y7 (f7'.block gs hgsl (by simp))) fq hqg
 have YH:Hid (Ou a w0 p A1 w.heap.size (w7.setCell (Za q 3) (.slice (Zs g2) 1 c2))):=by
  have k7:Cr a w0 q r8 sv x (bf p A1) w7:=H8.out.below ⟨f7'.os,f7'.tape,f7'.output,f7'.size,fun k hk=>f7'.block k hk (by simp)⟩;have k8:=k7.set 3 (.slice (Zs g2) 1 c2);exact⟨k8.hold.at_ (bf p A1) (by simp[Ot]),k8.bs,by have:=f7'.size;simp;omega⟩
 have HKN:Hid (UR w.heap.size q gs g1 g2):=⟨HNw.out.1,HNw.out.2.1,HNw.out.2.2,by have:wC.heap.size<=g2:=hg2;omega⟩;have cK:Zc 36 #[Zp q] (w7.setCell (Za q 3) (.slice (Zs g2) 1 c2)) fun e w'=>e=.returned (.bool true)/\Below w0.heap.size w0 w'/\w'.cell? (Za q 4)=some (.slice (Zs gs) 1 cs)/\w'.cell? (Za gs 0)=some (.slice (Zs g1) 1 c1):=by
  refine(aa9 Nz.out HKN.out _ YH.out HKW.out YH.out.2.2).mono ?_;rintro e w' ⟨e1,hR9,f9⟩;have k9:=HKW.out.fr HKN.out f9;exact⟨e1,hR9.2.1.low,k9.r4,k9.s0⟩
 clear Y1 ho7 f7 f7' hso hto hrs y6 y7 fq row7 HT1 HT2 HKW YH HKN Nz H8 hr8;go_upto_region 18 with fail
 refine bF ?_;refine wp_region_held_drew (S:=fun w'=>w'.cell? (Za q 4)=some (.slice (Zs gs) 1 cs)/\w'.cell? (Za gs 0)=some (.slice (Zs g1) 1 c1)) (by kernel_rfl) ⟨y4,y5⟩ (fun ah=>?_);refine Zt 0 (Zp q) ?_;refine Zt 1 (Zp q) ?_;refine Zt 2 (Zp q) ?_;refine Zt 3 (.pointer (some (Za q 3))) ?_;refine Zt 5 (Zp q) ?_;refine Zt 6 (Zp q) ?_;refine Zt 7 (.pointer (some (Za q 4))) ?_;refine Zt 8 (.slice (Zs gs) 1 cs) ?_;refine Zt 9 (Zp q) ?_;refine Zt 10 (Zp q) ?_;refine Zt 11 (.pointer (some (Za q 4))) ?_;refine Zt 12 (.slice (Zs gs) 1 cs) ?_;refine Zt 13 (.int .i64 1) ?_;refine Zt 14 (.int .i64 0) ?_ (hy:=Or.inl ⟨by rfl,by intro w hSw;go_simp;try decide⟩);refine Zt 15 (Zp gs) ?_;refine Zt 16 (Zp gs) ?_;refine Zt 17 (.slice (Zs g1) 1 c1) ?_;refine Zh 4 fun K hK=>?_;refine aD rfl (v:=.slice none 0 0) (w':=wC.drew) (by have kk:=y3;go_simp) ?_;refine hK.out _ _ (by exact ah) (fun ah=>?_);clear hK K;(try simp only[Act.put,lA,lZ,lS]);refine Zh 18 fun K hK=>?_;refine aD rfl (v:=.slice (Zs g2) 1 c2) (w':=w7) (by exact tC 32 (.tmp 119) (.tmp 132) rfl _ _ _ rfl rfl (fun ty=>aaN.out ty)) ?_;refine hK.out _ _ (XA.out) (fun ah=>?_);clear hK K;(try simp only[Act.put,lA,lZ,lS]);refine Zt 19 (Zp q) ?_;refine Zt 20 (.pointer (some (Za q 3))) ?_;refine Zh 21 fun K hK=>?_;refine step_skip rfl (w':=w7.setCell (Za q 3) (.slice (Zs g2) 1 c2)) (by go_simp) ?_;refine hK.out _ _ (HS8.out) (fun ah=>?_);clear hK K
 try simp only[Act.put]
 refine Zx ?_;simp only[At];clear x3 z3 ah XA HS8 y2 y3 y4 y5;generalize w7.setCell (Za q 3) (.slice (Zs g2) 1 c2)=w8 at *;go_wp2_with(go_at_call 36;refine cK.mono ?_;rintro e w9 ⟨rfl,h9⟩;have H9:Hid _:=h9;clear h9 cK);go_ret;exact⟨rfl,H9.out⟩
end
theorem Lh{c:dz}{q:Nat}{r:List Value}{xs ss:List Zy}{vd:Bool}(hC:dI c w)(h:bT w q r xs ss xv sv vd)(hsame:xs.length=ss.length)(t:Zy)(ht:t.size<=1000000)(hn:ss.length<=1000000000)(hne:c.of t∉ss):
  Zc 99 #[Zp q,.string t] w fun e w'=>e=.returned (.string (c.of t))/\∃yJ N7,bT w' q r (xs++[t]) (ss++[c.of t]) yJ N7 vd/\(∀b∈bT.blocks q yJ N7,b∈bT.blocks q xv sv\/w.heap.size<=b)/\Fr w w' (bT.blocks q xv sv):=by
 have cS:=kSum c t ht hC;have Hh:Hid _:=h;obtain⟨i0,hi0,hz0,hz1,hz2⟩:=info_parts K6;have HX:Hid (∀w',Below w.heap.size w w'->bT w' q r xs ss xv sv vd):=fun w' hb=>h.below hb;have tH:=h.row.lt;have HNe:Hid (∀j,(hj:j<ss.length)->ss[j]≠c.of t):=fun j hj e=>hne (e▸Zg hj);clear hne;generalize c.of t=s at *;obtain⟨sa,sc,rfl⟩:∃sa sc,sv=.slice sa ss.length sc:=aV h.so;obtain⟨xa,xc,rfl⟩:∃xa xc,xv=.slice xa xs.length xc:=aV h.xo;have HSo:Hid (∀w' j,Below w.heap.size w w'->(hj:j<ss.length)->∃g,sa=some (Za g 0)/\w'.cell? (Za g j)=some (.string ss[j])):=fun w' j hb hj=>by
  obtain⟨g,e,_,hg,hr⟩:=dH h.so (by omega);have h2:=hr j (.string ss[j]) (by rw[jy _ _ hj,getD_eq_getElem?_getD,getElem?_eq_getElem hj];rfl);rw[Nat.zero_add] at h2;exact⟨g,e,by rw[hb.cell hg];exact h2⟩
 have CJ:Hid (xs.length=ss.length):=hsame;clear h hsame;go_enter func99,ntmps99;go_wp2_with(go_at_call 65;refine cS.mono ?_;rintro e w1 ⟨rfl,hb1⟩);have HB:Hid _:=hb1;have h1:=HX.out w1 hb1;obtain⟨c8,c9,c10⟩:=uZ h1.row h1.len;have lq1:=h1.row.lt;have z10:=h1.row.frozen 10;have K5:Hid _:=h1;clear h1 hb1 cS;go_loopw [6] (fun iv wr=>w1=wr/\∃j:Nat,iv=(Zi j)/\j<=ss.length) (fun iv _=>ss.length-(RowKit.intOf iv).toNat)
 case atStart=>exact⟨rfl,0,rfl,Nat.zero_le _⟩
 case round=>
  obtain⟨rfl,j,rfl,hj⟩:=hrel;by_cases hlt:j<ss.length
  ·have j0:(0:Int)<=(j:Int):=by omega
   have j1:(j:Int)<(ss.length:Int):=by omega
   obtain⟨g,hg,k1⟩:=HSo.out w1 j HB.out hlt;subst hg;have he:=HNe.out j hlt;generalize ss[j]=sj at *;have hb:(sj.toList==s.toList)=false:=by rw[gP];simpa using he
   go_wp2;exact⟨⟨trivial,j+1,by push_cast;rfl,by omega⟩,by simp[RowKit.intOf];omega⟩
  ·have j1:¬(j:Int)<(ss.length:Int):=by omega
   have hso:=K5.out.so;go_upto_region 9 with(at_builtin;(refine wpList_append_lies _ rfl _ _ 35 rfl 0 9 i0 _ 1 16 underlying35 hi0 hz0 hz1 hz2 rfl (by decide) (.slice sa ss.length sc) ss.length (bN ss) rfl (World.ownsRow.alloc hso _) (Za w1.heap.size 0) 1 1 [.string s] rfl rfl (World.news_of_block (cs:=#[.string s]) (heap_alloc_new w1 _)) (by intro u hu;simp at hu;subst hu;rfl) (by decide) (by unfold maxLen;omega) (by omega) (Nat.zero_le _) _ rfl ?_;intro g4 c4 w4 xC mG Gf tJ;obtain⟨K7,q9,z9,zV,qR⟩:=bT.pushS K5.out xC mG Gf;have Xz:Hid _:=K7;have HS5:Hid _:=zV;have Lx:Hid _:=qR;clear K7 zV qR xC mG Gf))
   clear q9 z9 c8 c9 c10 z10 hso;generalize w4.setCell (Za q 9) (.slice (Zs g4) (ss.length+1) c4)=W5 at *;obtain⟨c8,c9,c10⟩:=uZ Xz.out.row Xz.out.len;have hxo:=Xz.out.xo;have hxl:xs.length<=1000000000:=by have:=CJ.out;omega
   go_wp2_with(at_builtin;(refine wpList_append_lies _ rfl _ _ 35 rfl 0 9 i0 _ 1 16 underlying35 hi0 hz0 hz1 hz2 rfl (by decide) (.slice xa xs.length xc) xs.length (bN xs) rfl (World.ownsRow.alloc hxo _) (Za W5.heap.size 0) 1 1 [.string t] rfl rfl (World.news_of_block (cs:=#[.string t]) (heap_alloc_new W5 _)) (by intro u hu;simp at hu;subst hu;rfl) (by decide) (by unfold maxLen;omega) (by omega) (Nat.zero_le _) _ rfl ?_;intro g6 c6 w6 hown6 CP UW hlt6;obtain⟨Xl,q8,z8,K8,Pp⟩:=bT.pushX Xz.out hown6 CP UW;have HA7:Hid _:=Xl;have XA:Hid _:=K8;have HF7:Hid _:=Pp;clear Xl K8 Pp hown6 CP UW));go_ret;refine⟨rfl,_,_,HA7.out,fun b hb=>?_,(Fr.of_below HB.out _).trans (Lx.out.trans HF7.out (fun x hx hl=>?_)) (fun x hx _=>hx)⟩
   ·rcases XA.out b hb with h1|h1
    ·rcases HS5.out b h1 with h2|h2
     ·exact .inl h2
     ·exact .inr (Nat.le_trans HB.out.size h2)
    ·exact .inr (Nat.le_trans HB.out.size (Nat.le_trans Lx.out.size h1))
   ·rcases HS5.out x hx with h2|h2
    ·exact h2
    ·omega
structure Iz(c:dz)(w:World)(q:Nat)(r:List Value)(g cap:Nat)(xs ss:List Zy)(xv sv:Value):Prop where
 hs:bT w q r xs ss xv sv false
 len:xs.length=ss.length
 sha:dI c w
 far:∀b∈bT.blocks q xv sv,18<=b
 gl:18<=w.heap.size
 r3:r[3]? =some (.slice (Zs g) 1 cap)
 tree:qC g w
 nt:g∉bT.blocks q xv sv
def zB(c:dz)(w w':World)(q:Nat)(r:List Value)(g cap:Nat)(xs ss:List Zy)(xv sv:Value):Prop:=∃yJ N7,Iz c w' q r g cap xs ss yJ N7/\(∀b∈bT.blocks q yJ N7,b∈bT.blocks q xv sv\/w.heap.size<=b)/\Fr w w' (bT.blocks q xv sv)
section
variable {c:dz}{w w1 w2:World}{q g cap:Nat}{r:List Value}{xs ss xs2 ss2:List Zy}{xv sv:Value}
theorem qC.keep{bs:List Nat}(h:qC g w)(f:Fr w w1 bs)(hb:g∉bs):qC g w1:=by
 have e:=f.block g (Zd h.1) hb;exact⟨ay h.1 e,ay h.2.1 e,ay h.2.2 e⟩
theorem Iz.below(h:Iz c w q r g cap xs ss xv sv)(f:Below w.heap.size w w1):Iz c w1 q r g cap xs ss xv sv:=
 ⟨h.hs.below f,h.len,h.sha.fr (Fr.of_below f []) (by simp),h.far,Nat.le_trans h.gl f.size,h.r3,h.tree.keep (Fr.of_below f []) (by simp),h.nt⟩
theorem Iz.c3(h:Iz c w q r g cap xs ss xv sv):w.cell? (Za q 3)=some (.slice (Zs g) 1 cap):=by
 rw[h.hs.row.cell 3,getElem?_append_left (by rw[h.hs.len];decide)];exact h.r3
theorem Iz.lt(h:Iz c w q r g cap xs ss xv sv):∀b∈bT.blocks q xv sv,b<w.heap.size:=fun b hb=>by
 simp only[bT.blocks,cons_append,mem_cons,mem_append] at hb;rcases hb with rfl|e|e
 ·exact h.hs.row.lt
 ·exact(World.ownsRow.lt h.hs.xo b (Zo.1 e)).2
 ·exact(World.ownsRow.lt h.hs.so b (Zo.1 e)).2
theorem zB.of_below(h:Iz c w q r g cap xs ss xv sv)(f:Below w.heap.size w w1):zB c w w1 q r g cap xs ss xv sv:=⟨xv,sv,h.below f,fun _ hb=>.inl hb,Fr.of_below f _⟩
theorem zB.then(hs:∀b∈bT.blocks q qZ rq,b∈bT.blocks q xv sv\/w.heap.size<=b)(f:Fr w w1 (bT.blocks q xv sv))(k:zB c w1 w2 q r g cap xs2 ss2 qZ rq):zB c w w2 q r g cap xs2 ss2 xv sv:=by
 obtain⟨UX,UY,h2,s2,f2⟩:=k;refine⟨UX,UY,h2,fun b hb=>?_,f.trans f2 (fun x hx hl=>?_)⟩
 ·rcases s2 b hb with h3|h3
  ·exact hs b h3
  ·exact .inr (Nat.le_trans f.size h3)
 ·rcases hs x hx with h3|h3
  ·exact h3
  ·omega
theorem Ov(h:Iz c w q r g cap xs ss xv sv)(hn:ss.length<=1000)(t:Zy)(ht:t.size<=1000000)(hne:c.of t∉ss):
  Zc 99 #[Zp q,.string t] w fun e w'=>e=.returned (.string (c.of t))/\zB c w w' q r g cap (xs++[t]) (ss++[c.of t]) xv sv:=by
 refine(Lh h.sha h.hs h.len t ht (by omega) hne).mono ?_;rintro e w' ⟨rfl,yJ,N7,k1,k4,k5⟩;refine⟨rfl,yJ,N7,⟨k1,by simp[h.len],h.sha.fr k5 (fun b hb=>h.far b hb),fun b hb=>?_,Nat.le_trans h.gl k5.size,h.r3,h.tree.keep k5 h.nt,fun hm=>?_⟩,k4,k5⟩
 ·rcases k4 b hb with e1|e1
  ·exact h.far b e1
  ·exact Nat.le_trans h.gl e1
 ·rcases k4 g hm with e1|e1
  ·exact h.nt e1
  ·have:=Zd h.tree.1;have:g<w.heap.size:=this;omega
def X1(c:dz):Zy:=text (bE 4)++c.of ⟨#[100,97,116,97]⟩
theorem Li(h:Iz c w q r g cap [] [] xv sv)(hne:c.of (X1 c)≠c.of ⟨#[100,97,116,97]⟩):
  Zc 52 #[Zp q,.string ⟨#[102]⟩] w fun e w'=>e=.returned (.string (c.of (X1 c)))/\zB c w w' q r g cap [⟨#[100,97,116,97]⟩,X1 c] [c.of ⟨#[100,97,116,97]⟩,c.of (X1 c)] xv sv:=by
 have cF:=NY (cap:=cap) h.tree;have c3:=h.c3;obtain⟨q0,q1,q2⟩:=h.tree;have HN:Hid _:=h;have c4:Hid (∀w,Zc 98 #[.int .i64 4] w fun e w'=>e=.returned (.string (text (bE 4)))/\Below w.heap.size w w'):=fun w=>YV 4 (by decide) w;have hs1:(c.of ⟨#[100,97,116,97]⟩).size=32:=c.size _;have hx0:(text (bE 4)).size=4:=aZ _;have HNe:Hid _:=hne;have HX:Hid (X1 c=text (bE 4)++c.of ⟨#[100,97,116,97]⟩):=rfl;have hx1:(X1 c).size=36:=by rw[HX.out,ByteArray.size_append];omega
 have HS1:Hid (∀wr qZ rq,Iz c wr q r g cap [] [] qZ rq->Zc 99 #[Zp q,.string ⟨#[100,97,116,97]⟩] wr fun e w'=>e=.returned (.string (c.of ⟨#[100,97,116,97]⟩))/\zB c wr w' q r g cap [⟨#[100,97,116,97]⟩] [c.of ⟨#[100,97,116,97]⟩] qZ rq):=fun wr qZ rq k=>Ov k (by decide) _ (by decide) (by simp);have HS2:Hid (∀wr qZ rq,Iz c wr q r g cap [⟨#[100,97,116,97]⟩] [c.of ⟨#[100,97,116,97]⟩] qZ rq->Zc 99 #[Zp q,.string (X1 c)] wr fun e w'=>e=.returned (.string (c.of (X1 c)))/\zB c wr w' q r g cap [⟨#[100,97,116,97]⟩,X1 c] [c.of ⟨#[100,97,116,97]⟩,c.of (X1 c)] qZ rq):=fun wr qZ rq k=>Ov k (by simp) _ (by omega) (by simp;exact hne);clear h hne;generalize X1 c=x1 at *;generalize c.of x1=s2 at *;generalize c.of ⟨#[100,97,116,97]⟩=s1 at *;go_enter func52,ntmps52;go_wp2_with(first
  | (go_at_call 54;refine cF.mono ?_;rintro e w1 ⟨rfl,rfl⟩)
  | (go_at_call 98;refine(c4.out _).mono ?_;rintro e w2 ⟨rfl,hb2⟩))
 have HN2:Hid (Iz c w2 q r g cap [] [] xv sv):=HN.out.below hb2;have HB2:Hid (Below w.heap.size w w2):=hb2;generalize text (bE 4)=X0 at *;clear HN cF c3 q0 q1 q2 hb2;go_loopw [6,7] (fun tx xx wr=>(tx=.string ⟨#[100,97,116,97]⟩/\xx=.string X0/\w2=wr)\/(tx=.string ByteArray.empty/\xx=.string x1/\Hid (zB c w2 wr q r g cap [⟨#[100,97,116,97]⟩] [s1] xv sv))) (fun tx _ _=>match tx with | .string t=>t.size|_=>0)
 case atStart=>exact .inl ⟨rfl,rfl,rfl⟩
 case round=>
  rcases hrel with⟨rfl,rfl,rfl⟩|⟨rfl,rfl,HD⟩
  ·have cH:=HS1.out w2 xv sv HN2.out;have ZJ:¬9223372036854775807<X0.size+s1.size:=by omega
   go_wp2_with(go_at_call 99;refine cH.mono ?_;rintro e w5 ⟨rfl,h5⟩;have H5:Hid (zB c w2 w5 q r g cap [⟨#[100,97,116,97]⟩] [s1] xv sv):=h5;clear h5 cH);exact⟨.inr ⟨rfl,by rw[HX.out],H5.out⟩,by decide⟩
  ·obtain⟨qZ,rq,hA,k1,f1⟩:=HD.out;have cH:=HS2.out wr qZ rq hA;have Hth:Hid (∀wz,zB c wr wz q r g cap [⟨#[100,97,116,97]⟩,x1] [s1,s2] qZ rq->zB c w wz q r g cap [⟨#[100,97,116,97]⟩,x1] [s1,s2] xv sv):=fun wz k=>zB.then (fun b hb=>.inl hb) (Fr.of_below HB2.out _) (zB.then k1 f1 k);clear hA k1 f1 HD;go_wp2_with(go_at_call 99;refine cH.mono ?_;rintro e w5 ⟨rfl,h5⟩;have H5:Hid _:=h5;clear h5 cH);go_ret;exact⟨rfl,Hth.out _ H5.out⟩
def X2(c:dz):Zy:=⟨#[]⟩++text [1,1]++⟨#[102]⟩++c.of (X1 c)
theorem aah(h:Iz c w q r g cap [] [] xv sv)(hne:c.of (X1 c)≠c.of ⟨#[100,97,116,97]⟩)(hne2:c.of (X2 c)≠c.of ⟨#[100,97,116,97]⟩)(Ow:c.of (X2 c)≠c.of (X1 c)):
  Zc 52 #[Zp q,.string ⟨#[]⟩] w fun e w'=>e=.returned (.string (c.of (X2 c)))/\∃xs ss,zB c w w' q r g cap xs ss xv sv:=by
 have c3:=h.c3;have hit:tY w (.slice (Zs g) 1 cap) T1:=h.tree.its;have cF:=qY T1 ⟨#[]⟩ _ w hit (by decide);rw[show bJ T1 ⟨#[]⟩= -1 by decide +kernel] at cF;have cK:=YU T1 ⟨#[]⟩ q _ w c3 hit (by decide) (by decide);rw[show aj ⟨#[]⟩ T1=[⟨#[102]⟩] by decide +kernel] at cK;have HNd:Hid (∀w2,Below w.heap.size w w2->Zc 52 #[Zp q,.string ⟨#[102]⟩] w2 fun e w'=>e=.returned (.string (c.of (X1 c)))/\zB c w2 w' q r g cap [⟨#[100,97,116,97]⟩,X1 c] [c.of ⟨#[100,97,116,97]⟩,c.of (X1 c)] xv sv):=fun w2 hb=>Li (h.below hb) hne;have hs2:(c.of (X1 c)).size=32:=c.size _;have Eh:Hid _:=h.lt;have Yj:Hid (X2 c=⟨#[]⟩++text [1,1]++⟨#[102]⟩++c.of (X1 c)):=rfl;have htt0:(text [1,1]).size=2:=aZ _;have hx2:(X2 c).size=35:=by rw[Yj.out,ByteArray.size_append,ByteArray.size_append,ByteArray.size_append];show 0+(text [1,1]).size+1+_=35;omega
 have HS3:Hid (∀wr qZ rq,Iz c wr q r g cap [⟨#[100,97,116,97]⟩,X1 c] [c.of ⟨#[100,97,116,97]⟩,c.of (X1 c)] qZ rq->Zc 99 #[Zp q,.string (X2 c)] wr fun e w'=>e=.returned (.string (c.of (X2 c)))/\∃xs ss,zB c wr w' q r g cap xs ss qZ rq):=fun wr qZ rq k=>(Ov k (by simp) _ (by omega) (by simp;exact⟨hne2,Ow⟩)).mono fun e w' ⟨e1,e2⟩=>⟨e1,_,_,e2⟩;have HN:Hid _:=h;clear h hit hne hne2 Ow;obtain⟨nm,hnm⟩:∃nm,nm=(⟨#[102]⟩:Zy):=⟨_,rfl⟩;obtain⟨x,hx⟩:∃x,x=(⟨#[]⟩:Zy):=⟨_,rfl⟩;have hn1:nm.size=1:=by rw[hnm];rfl
 have hx0:x.size=0:=by rw[hx];rfl
 have Uw:Hid (∀wz,qC g wz->Zc 54 #[.slice (Zs g) 1 cap,.string nm] wz fun e w'=>e=.returned (.int .i64 0)/\wz=w'):=fun wz k=>by rw[hnm];exact NY k
 have HX3:Hid (X2 c=x++text [1,nm.size]++nm++c.of (X1 c)):=by show _=_;rw[Yj.out,hn1,hnm,hx]
 have cK:Zc 100 #[Zp q,.string ⟨#[]⟩] w fun e w'=>∃kv,e=.returned kv/\w'.ownsRow w.heap.size 9 1 kv 1 [.string nm]/\Below w.heap.size w w':=by rw[hnm];exact cK
 have HNd:Hid (∀w2,Below w.heap.size w w2->Zc 52 #[Zp q,.string nm] w2 fun e w'=>e=.returned (.string (c.of (X1 c)))/\zB c w2 w' q r g cap [⟨#[100,97,116,97]⟩,X1 c] [c.of ⟨#[100,97,116,97]⟩,c.of (X1 c)] xv sv):=by rw[hnm];exact HNd
 have Hx:Hid _:=hx;have hn16:nm.size<=16:=by omega
 have hx16:x.size<=16:=by omega
 have he:(⟨#[]⟩:Zy).toList.isEmpty=true:=by decide +kernel
 clear Yj hx hnm hn1 hx0;generalize X2 c=x2 at *;generalize c.of x2=s3 at *;generalize X1 c=x1 at *;generalize c.of x1=sz at *;generalize c.of ⟨#[100,97,116,97]⟩=s1 at *;go_enter func52,ntmps52;go_wp2_with(first
  | (go_at_call 54;refine cF.mono ?_;rintro e w1 ⟨rfl,rfl⟩)
  | (go_at_call 100;refine cK.mono ?_;rintro e w2 ⟨kv,rfl,hO2,hb2⟩;obtain⟨ka,kc,rfl⟩:∃ka kc,kv=.slice ka 1 kc:=aV hO2))
 obtain⟨gk,Xb,hgb,hgl,Vy⟩:=dH hO2 (by decide);subst Xb;have hck:w2.cell? (Za gk 0)=some (.string nm):=by have:=Vy 0 _ rfl;simpa using this
 have HB2:Hid (Below w.heap.size w w2):=hb2;have HN2:Hid (Iz c w2 q r g cap [] [] xv sv):=HN.out.below hb2;have cN:=HNd.out w2 hb2;have hgn:gk∉bT.blocks q xv sv:=fun hm=>by have:=Eh.out gk hm;omega
 clear cF cK c3 hO2 hb2 Vy HNd;go_loopw [11,12] (fun xx iv wr=>(xx=.string x/\iv=.int .i64 0/\w2=wr)\/(xx=.string x2/\iv=.int .i64 1/\Hid (zB c w2 wr q r g cap [⟨#[100,97,116,97]⟩,x1] [s1,sz] xv sv))) (fun _ iv _=>1-(RowKit.intOf iv).toNat)
 case atStart=>exact .inl ⟨by rw[Hx.out],rfl,rfl⟩
 case round=>
  rcases hrel with⟨rfl,rfl,rfl⟩|⟨rfl,rfl,HD⟩
  ·go_upto_region 26 with(first
    | (go_at_call 52;refine cN.mono ?_;rintro e w5 ⟨rfl,h5⟩;obtain⟨UX,UY,K7,s5,f5⟩:=h5;have c35:=K7.c3;have cd5:=K7.tree.2.1;have cf5:=Uw.out w5 K7.tree;have H5:Hid (zB c w2 w5 q r g cap [⟨#[100,97,116,97]⟩,x1] [s1,sz] xv sv):=⟨UX,UY,K7,s5,f5⟩;have N9:w5.cell? (Za gk 0)=some (.string nm):=ay hck (f5.block gk hgl hgn);have hgl5:gk<w5.heap.size:=Nat.lt_of_lt_of_le hgl f5.size;clear K7 s5 f5)
    | (go_at_call 54;refine cf5.mono ?_;rintro e w6 ⟨rfl,rfl⟩))
   have HFin:Hid (∀wz,Below w5.heap.size w5 wz->zB c w2 wz q r g cap [⟨#[100,97,116,97]⟩,x1] [s1,sz] xv sv):=fun wz hb=>by
    obtain⟨UX,UY,K7,s5,f5⟩:=H5.out;exact zB.then s5 f5 (.of_below K7 hb)
   clear H5 cd5 cf5 c35;have cnm:w5.drew.cell? (Za gk 0)=some (.string nm):=N9;have bA:Below w5.heap.size w5 (w5.drew.alloc (.cells #[.int .u8 1,.int .u8 (nm.size:Nat)] 5)):=((Zr).drew).alloc (Zn) _;have Oa:(w5.drew.alloc (.cells #[.int .u8 1,.int .u8 (nm.size:Nat)] 5)).cell? (Za gk 0)=some (.string nm):=by rw[bA.cell hgl5];exact N9
   obtain⟨tt,Htt⟩:∃tt,Hid (text [1,nm.size]=tt):=⟨text [1,nm.size],Eq.refl _⟩;have htt:tt.size=2:=by rw[<-Htt.out];exact aZ _
   have cv:(convert 124 9 (.slice (Zs w5.drew.heap.size) 2 2)).run prog (w5.drew.alloc (.cells #[.int .u8 1,.int .u8 (nm.size:Nat)] 5))=.ok (.string tt) (w5.drew.alloc (.cells #[.int .u8 1,.int .u8 (nm.size:Nat)] 5)):=by
    rw[<-Htt.out];have h1:ai (w5.drew.alloc (.cells #[.int .u8 1,.int .u8 (nm.size:Nat)] 5)) w5.drew.heap.size 5 ([]++(bytes [1,nm.size]++[])):=ai.new w5.drew 5 [.int .u8 1,.int .u8 (nm.size:Nat)];exact lQ _ _ 2 _ _ _ _ h1 (fun x hx=>by simp at hx;omega) 0 2 rfl rfl
   have HX4:Hid (x2=x++tt++nm++sz):=by show _=_;rw[HX3.out,Htt.out]
   have z1:¬9223372036854775807<x.size+tt.size:=by omega
   have z2:¬9223372036854775807<(x++tt).size+nm.size:=by rw[ByteArray.size_append];omega
   have z3:¬9223372036854775807<(x++tt++nm).size+sz.size:=by rw[ByteArray.size_append,ByteArray.size_append];omega
   have hwn:IntKind.u8.wrap (nm.size:Int)=(nm.size:Int):=by rw[IntKind.wrap_u8];omega
   clear N9 cN;generalize w5=V at *;refine bF ?_;refine wp_region_held_drew (S:=fun w'=>w'.cell? (Za gk 0)=some (.string nm)) (by kernel_rfl) (by exact cnm) (fun ah=>?_);refine Zt 0 (.string x) ?_;refine Zt 1 (.int .u8 1) ?_;refine Zt 2 (.slice (Zs gk) 1 kc) ?_;refine Zt 3 (.int .i64 0) ?_;refine Zt 4 (Zp gk) ?_;refine Zt 5 (.string nm) ?_;refine Zt 6 (Zi nm.size) ?_;refine Zt 7 (.int .u8 (nm.size:Nat)) ?_;refine Zt 11 (.slice (Zs gk) 1 kc) ?_;refine Zt 12 (.int .i64 0) ?_;refine Zt 13 (Zp gk) ?_;refine Zt 14 (.string nm) ?_;refine Zt 16 (.string sz) ?_;refine Zh 8 fun K hK=>?_;refine aD rfl (v:=.slice (Zs V.drew.heap.size) 2 2) (w':=(V.drew.alloc (.cells #[.int .u8 1,.int .u8 (nm.size:Nat)] 5))) (by go_simp) ?_;refine hK.out _ _ (Oa) (fun ah=>?_);clear hK K;(try simp only[Act.put,lA,lZ,lS]);refine Zh 9 fun K hK=>?_;refine aD rfl (v:=.string tt) (w':=(V.drew.alloc (.cells #[.int .u8 1,.int .u8 (nm.size:Nat)] 5))) (by exact jg (by rfl) (by rfl) cv) ?_;refine hK.out _ _ (Oa) (fun ah=>?_);clear hK K;(try simp only[Act.put,lA,lZ,lS]);refine Zt 10 (.string (x++tt)) ?_ (hy:=Or.inl ⟨by rfl,by intro w hSw;go_simp<;>omega⟩);refine Zt 15 (.string (x++tt++nm)) ?_ (hy:=Or.inl ⟨by rfl,by intro w hSw;generalize x++tt=y1 at *;go_simp<;>omega⟩);refine Zt 17 (.string (x++tt++nm++sz)) ?_ (hy:=Or.inl ⟨by rfl,by intro w hSw;generalize x++tt++nm=y1 at *;go_simp<;>omega⟩);refine Zt 18 (.string (x++tt++nm++sz)) ?_;refine Zx ?_;simp only[At];have Yk:Hid _:=HFin.out _ bA;clear HFin cv cnm Oa;go_wp2;exact⟨.inr ⟨by rw[HX4.out],rfl,Yk.out⟩,by simp[RowKit.intOf]⟩
  ·obtain⟨qZ,rq,hA,k1,f1⟩:=HD.out;have cH:=HS3.out wr qZ rq hA;have Hth:Hid (∀wz xs ss,zB c wr wz q r g cap xs ss qZ rq->zB c w wz q r g cap xs ss xv sv):=fun wz xs ss k=>zB.then (fun b hb=>.inl hb) (Fr.of_below HB2.out _) (zB.then k1 f1 k);clear hA k1 f1 HD;go_wp2_with(go_at_call 99;refine cH.mono ?_;rintro e w5 ⟨rfl,xs5,ss5,h5⟩;have H5:Hid _:=h5;clear h5 cH);go_ret;exact⟨rfl,xs5,ss5,Hth.out _ _ _ H5.out⟩
end
end
end Go.Proofs.YtdidjdoifpfmmaaGreatDoor
