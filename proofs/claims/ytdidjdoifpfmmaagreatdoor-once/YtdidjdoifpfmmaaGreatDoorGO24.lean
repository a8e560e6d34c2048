import Derived.Test.YtdidjdoifpfmmaaGreatDoorGO23
set_option maxRecDepth 100000
set_option maxHeartbeats 16000000
namespace Go.Proofs.YtdidjdoifpfmmaaGreatDoor
open Go.Proofs.Tryz List
variable{w w' w4 w1 w2 w0:World}{q g cap n k f i k' num j b B:Nat}{r xs':List Value}{xs ss:List Zy}{xv sv y z tv v':Value}{vd:Bool}{bs l:List Nat}{t e:TypeId}{x:It}{s data last:Zy}{c:dz}{T L M L':List It}{p:aS}{d:DP}{S:Dk}{A A':jc}{a:Nat->Addr}
section
open Go.RowKit Go.Maps Go.Lib
theorem kSum(c:dz)(t:Zy)(ht:t.size<=1000000)(h:dI c w):
  Zc 65 #[.string t] w fun e w'=>e=.returned (.string (c.of t))/\Below w.heap.size w w':=by
 have e:I6 c.K c.s0 (af t)=c.of t:=by unfold I6 dz.of;rw[aM]
 rw[<-e];exact NZ c.K c.hK c.dK c.s0 c.ok0 t ht w h.rounds h.start
theorem K6:(prog.info? 9).map (fun i=>(i.zero,i.size,i.bytes))=some (some (.string ByteArray.empty),1,16):=by kernel_rfl
structure bT(w:World)(q:Nat)(r:List Value)(xs ss:List Zy)(xv sv:Value)(vd:Bool):Prop where
 row:ai w q 37 (r++[xv,sv,.bool vd])
 len:r.length=8
 xo:w.ownsRow 0 9 1 xv xs.length (bN xs)
 so:w.ownsRow 0 9 1 sv ss.length (bN ss)
 nx:∀b∈xv.ownBlock.toList,b≠q/\b∉sv.ownBlock.toList
 ns:∀b∈sv.ownBlock.toList,b≠q
def bT.blocks(q:Nat)(xv sv:Value):List Nat:=q::xv.ownBlock.toList++sv.ownBlock.toList
theorem bT.fr(h:bT w q r xs ss xv sv vd)(f:Fr w w' bs)(hb:∀b∈bT.blocks q xv sv,b∉bs):bT w' q r xs ss xv sv vd:=
 ⟨f.row h.row (hb _ (by simp[bT.blocks])),h.len,aT h.xo f (fun g hg=>hb g (by simp[bT.blocks,hg])),aT h.so f (fun g hg=>hb g (by simp[bT.blocks,hg])),h.nx,h.ns⟩
theorem bT.below(h:bT w q r xs ss xv sv vd)(f:Below w.heap.size w w'):bT w' q r xs ss xv sv vd:=h.fr (Fr.of_below f []) (by simp)
def UU(w w':World)(q:Nat)(r:List Value)(n:Nat)(xv sv:Value):Prop:=∃xs ss yJ N7 vd,bT w' q r xs ss yJ N7 vd/\xs.length=ss.length/\ss.length<=n/\(∀b∈bT.blocks q yJ N7,b∈bT.blocks q xv sv\/w.heap.size<=b)/\Fr w w' (bT.blocks q xv sv)
theorem uZ{x:Value}(h:ai w q t (r++[x,y,z]))(hl:r.length=8):w.cell? (Za q 8)=some x/\w.cell? (Za q 9)=some y/\w.cell? (Za q 10)=some z:=by
 refine⟨?_,?_,?_⟩<;>rw[h.cell,getElem?_append_right (by omega),hl]<;>rfl
theorem bT.pushS{o:Obj}(h:bT w q r xs ss xv sv vd)
  (aY:w4.ownsRow 0 9 1 (.slice (Zs g) (ss.length+1) cap) (ss.length+1) (bN ss++[.string s])) (aN:(w.alloc o).grownBy w4 sv.ownBlock) (hat:sv.ownBlock=some g\/g=(w.alloc o).heap.size):
  bT (w4.setCell (Za q 9) (.slice (Zs g) (ss.length+1) cap)) q r xs (ss++[s]) xv (.slice (Zs g) (ss.length+1) cap) vd/\w4.cell? (Za q 9)=some sv/\w4.frozen? (Za q 9)=false/\(∀b∈bT.blocks q xv (.slice (Zs g) (ss.length+1) cap),b∈bT.blocks q xv sv\/w.heap.size<=b)/\Fr w (w4.setCell (Za q 9) (.slice (Zs g) (ss.length+1) cap)) (bT.blocks q xv sv):=by
 have hgs:(w.alloc o).heap.size=w.heap.size+1:=by simp
 rw[hgs] at hat;have tH:=h.row.lt;have hxl:∀b∈xv.ownBlock.toList,b<w.heap.size:=fun b hb=>(World.ownsRow.lt h.xo b (Zo.1 hb)).2;have hsl:∀b∈sv.ownBlock.toList,b<w.heap.size:=fun b hb=>(World.ownsRow.lt h.so b (Zo.1 hb)).2;have hgm:g∈sv.ownBlock.toList\/w.heap.size<=g:=by
  rcases hat with e|e
  ·exact .inl (Zo.2 e)
  ·exact .inr (by omega)
 have fg:Fr w w4 sv.ownBlock.toList:=(((Fr.refl w _).alloc o)).grown aN (fun k e=>.inl (Zo.2 e));have fq:Fr w4 (w4.setCell (Za q 9) (.slice (Zs g) (ss.length+1) cap)) [q]:=(Fr.refl _ _).setCell _ _ (.inl (by simp));have hqn:q∉sv.ownBlock.toList:=fun hm=>h.ns q hm rfl;have Ls:g≠q:=fun e=>by
  rcases hgm with h1|h1
  ·exact hqn (e▸h1)
  ·omega
 have zl:=fg.row h.row hqn;have ow:(Value.slice (Zs g) (ss.length+1) cap).ownBlock.toList=[g]:=by simp[Value.ownBlock]
 have hgo:g∉xv.ownBlock.toList:=fun hm=>by
  rcases hgm with h1|h1
  ·exact(h.nx g hm).2 h1
  ·have:=hxl g hm;omega
 have fb:Fr w (w4.setCell (Za q 9) (.slice (Zs g) (ss.length+1) cap)) (bT.blocks q xv sv):=(fg.wider (fun x hx=>by simp only[bT.blocks,cons_append,mem_cons,mem_append];simp[hx])).trans fq (fun x hx _=>by rw[Zm.1 hx];simp[bT.blocks]);have hsn:bN (ss++[s])=bN ss++[.string s]:=by simp[bN]
 have hown2:(w4.setCell (Za q 9) (.slice (Zs g) (ss.length+1) cap)).ownsRow 0 9 1 (.slice (Zs g) (ss.length+1) cap) (ss++[s]).length (bN (ss++[s])):=by
  rw[hsn,length_append,length_singleton];exact aT aY fq (fun k hk hm=>by
   have e1:g=k:=by simpa [Value.ownBlock] using hk
   exact Ls (e1.trans (Zm.1 hm)))
 have hoth:(w4.setCell (Za q 9) (.slice (Zs g) (ss.length+1) cap)).ownsRow 0 9 1 xv xs.length (bN xs):=aT (aT h.xo fg (fun k hk hm=>(h.nx k (Zo.2 hk)).2 hm)) fq (fun k hk hm=>by
  rw[Zm.1 hm] at hk;exact(h.nx q (Zo.2 hk)).1 rfl)
 refine⟨⟨?_,h.len,hoth,hown2,?_,?_⟩,(zl.cell 9).trans ?_,zl.frozen 9,?_,fb⟩
 ·have:=zl.set 9 (.slice (Zs g) (ss.length+1) cap);rw[set_append_right _ _ (by rw[h.len];decide),h.len] at this;exact this
 ·intro b hb;rw[ow];exact⟨(h.nx b hb).1,by simp;exact fun e=>hgo (e▸hb)⟩
 ·intro b hb;rw[ow] at hb;rw[Zm.1 hb];exact Ls
 ·rw[getElem?_append_right (by rw[h.len];decide),h.len];rfl
 ·intro b hb;simp only[bT.blocks,ow,cons_append,mem_cons,mem_append,not_mem_nil,or_false] at hb⊢;rcases hb with e|e|e
  ·exact .inl (.inl e)
  ·exact .inl (.inr (.inl e))
  ·rcases hgm with h1|h1
   ·exact .inl (.inr (.inr (e▸h1)))
   ·exact .inr (by omega)
theorem bT.pushX{o:Obj}(h:bT w q r xs ss xv sv vd)
  (aY:w4.ownsRow 0 9 1 (.slice (Zs g) (xs.length+1) cap) (xs.length+1) (bN xs++[.string s])) (aN:(w.alloc o).grownBy w4 xv.ownBlock) (hat:xv.ownBlock=some g\/g=(w.alloc o).heap.size):
  bT (w4.setCell (Za q 8) (.slice (Zs g) (xs.length+1) cap)) q r (xs++[s]) ss (.slice (Zs g) (xs.length+1) cap) sv vd/\w4.cell? (Za q 8)=some xv/\w4.frozen? (Za q 8)=false/\(∀b∈bT.blocks q (.slice (Zs g) (xs.length+1) cap) sv,b∈bT.blocks q xv sv\/w.heap.size<=b)/\Fr w (w4.setCell (Za q 8) (.slice (Zs g) (xs.length+1) cap)) (bT.blocks q xv sv):=by
 have hgs:(w.alloc o).heap.size=w.heap.size+1:=by simp
 rw[hgs] at hat;have tH:=h.row.lt;have hxl:∀b∈xv.ownBlock.toList,b<w.heap.size:=fun b hb=>(World.ownsRow.lt h.xo b (Zo.1 hb)).2;have hsl:∀b∈sv.ownBlock.toList,b<w.heap.size:=fun b hb=>(World.ownsRow.lt h.so b (Zo.1 hb)).2;have hgm:g∈xv.ownBlock.toList\/w.heap.size<=g:=by
  rcases hat with e|e
  ·exact .inl (Zo.2 e)
  ·exact .inr (by omega)
 have fg:Fr w w4 xv.ownBlock.toList:=(((Fr.refl w _).alloc o)).grown aN (fun k e=>.inl (Zo.2 e));have fq:Fr w4 (w4.setCell (Za q 8) (.slice (Zs g) (xs.length+1) cap)) [q]:=(Fr.refl _ _).setCell _ _ (.inl (by simp));have hqn:q∉xv.ownBlock.toList:=fun hm=>(h.nx q hm).1 rfl;have Ls:g≠q:=fun e=>by
  rcases hgm with h1|h1
  ·exact hqn (e▸h1)
  ·omega
 have zl:=fg.row h.row hqn;have ow:(Value.slice (Zs g) (xs.length+1) cap).ownBlock.toList=[g]:=by simp[Value.ownBlock]
 have hgo:g∉sv.ownBlock.toList:=fun hm=>by
  rcases hgm with h1|h1
  ·exact(h.nx g h1).2 hm
  ·have:=hsl g hm;omega
 have fb:Fr w (w4.setCell (Za q 8) (.slice (Zs g) (xs.length+1) cap)) (bT.blocks q xv sv):=(fg.wider (fun x hx=>by simp only[bT.blocks,cons_append,mem_cons,mem_append];simp[hx])).trans fq (fun x hx _=>by rw[Zm.1 hx];simp[bT.blocks]);have hsn:bN (xs++[s])=bN xs++[.string s]:=by simp[bN]
 have hown2:(w4.setCell (Za q 8) (.slice (Zs g) (xs.length+1) cap)).ownsRow 0 9 1 (.slice (Zs g) (xs.length+1) cap) (xs++[s]).length (bN (xs++[s])):=by
  rw[hsn,length_append,length_singleton];exact aT aY fq (fun k hk hm=>by
   have e1:g=k:=by simpa [Value.ownBlock] using hk
   exact Ls (e1.trans (Zm.1 hm)))
 have hoth:(w4.setCell (Za q 8) (.slice (Zs g) (xs.length+1) cap)).ownsRow 0 9 1 sv ss.length (bN ss):=aT (aT h.so fg (fun k hk hm=>(h.nx k hm).2 (Zo.2 hk))) fq (fun k hk hm=>by
  rw[Zm.1 hm] at hk;exact h.ns q (Zo.2 hk) rfl)
 refine⟨⟨?_,h.len,hown2,hoth,?_,?_⟩,(zl.cell 8).trans ?_,zl.frozen 8,?_,fb⟩
 ·have:=zl.set 8 (.slice (Zs g) (xs.length+1) cap);rw[set_append_right _ _ (by rw[h.len];decide),h.len] at this;exact this
 ·intro b hb;rw[ow] at hb;rw[Zm.1 hb];exact⟨Ls,hgo⟩
 ·exact h.ns
 ·rw[getElem?_append_right (by rw[h.len];decide),h.len];rfl
 ·intro b hb;simp only[bT.blocks,ow,cons_append,mem_cons,mem_append,nil_append] at hb⊢;rcases hb with e|e|e
  ·exact .inl (.inl e)
  ·rcases hgm with h1|h1
   ·exact .inl (.inr (.inl (e▸h1)))
   ·exact .inr (by omega)
  ·exact .inl (.inr (.inr e))
theorem Xy(hC:dI c w)(h:bT w q r xs ss xv sv vd)(hsame:xs.length=ss.length)(t:Zy)(ht:t.size<=1000000)(hn:ss.length<=1000000000):
  Zc 99 #[Zp q,.string t] w fun e w'=>e=.returned (.string (c.of t))/\UU w w' q r (ss.length+1) xv sv:=by
 have cS:=kSum c t ht hC;have Hh:Hid _:=h;obtain⟨i0,hi0,hz0,hz1,hz2⟩:=info_parts K6;have HX:Hid (∀w',Below w.heap.size w w'->bT w' q r xs ss xv sv vd):=fun w' hb=>h.below hb;have tH:=h.row.lt;generalize c.of t=s at *;obtain⟨sa,sc,rfl⟩:∃sa sc,sv=.slice sa ss.length sc:=aV h.so;obtain⟨xa,xc,rfl⟩:∃xa xc,xv=.slice xa xs.length xc:=aV h.xo;have HSo:Hid (∀w' j,Below w.heap.size w w'->(hj:j<ss.length)->∃g,sa=some (Za g 0)/\w'.cell? (Za g j)=some (.string ss[j])):=fun w' j hb hj=>by
  obtain⟨g,e,_,hg,hr⟩:=dH h.so (by omega);have h2:=hr j (.string ss[j]) (by rw[jy _ _ hj,getD_eq_getElem?_getD,getElem?_eq_getElem hj];rfl);rw[Nat.zero_add] at h2;exact⟨g,e,by rw[hb.cell hg];exact h2⟩
 have Sj:Hid (∀w' j,Below w.heap.size w w'->(hj:j<xs.length)->∃g,xa=some (Za g 0)/\w'.cell? (Za g j)=some (.string xs[j])):=fun w' j hb hj=>by
  obtain⟨g,e,_,hg,hr⟩:=dH h.xo (by omega);have h2:=hr j (.string xs[j]) (by rw[jy _ _ hj,getD_eq_getElem?_getD,getElem?_eq_getElem hj];rfl);rw[Nat.zero_add] at h2;exact⟨g,e,by rw[hb.cell hg];exact h2⟩
 have CJ:Hid (xs.length=ss.length):=hsame;clear h hsame;go_enter func99,ntmps99;go_wp2_with(go_at_call 65;refine cS.mono ?_;rintro e w1 ⟨rfl,hb1⟩);have HB:Hid _:=hb1;have h1:=HX.out w1 hb1;obtain⟨c8,c9,c10⟩:=uZ h1.row h1.len;have lq1:=h1.row.lt;have z10:=h1.row.frozen 10;have K5:Hid _:=h1;clear h1 hb1 cS;go_loopw [6] (fun iv wr=>w1=wr/\∃j:Nat,iv=(Zi j)/\j<=ss.length) (fun iv _=>ss.length-(RowKit.intOf iv).toNat)
 case atStart=>exact⟨rfl,0,rfl,Nat.zero_le _⟩
 case round=>
  obtain⟨rfl,j,rfl,hj⟩:=hrel;by_cases hlt:j<ss.length
  ·have j0:(0:Int)<=(j:Int):=by omega
   have j1:(j:Int)<(ss.length:Int):=by omega
   have j2:(j:Int)<(xs.length:Int):=by have:=CJ.out;omega
   obtain⟨g,hg,k1⟩:=HSo.out w1 j HB.out hlt;obtain⟨g2,hg2,k2⟩:=Sj.out w1 j HB.out (by have:=CJ.out;omega);subst hg hg2;generalize ss[j]=sj at *;generalize xs[j]=xj at *;by_cases he:sj=s
   ·have hb:(sj.toList==s.toList)=true:=by rw[gP];simpa using he
    have hfin:Hid (∀b:Bool,UU w (w1.setCell (Za q 10) (.bool b)) q r (ss.length+1) (.slice (Zs g2) xs.length xc) (.slice (Zs g) ss.length sc)):=fun b=>by
     have fq:Fr w1 (w1.setCell (Za q 10) (.bool b)) [q]:=(Fr.refl _ _).setCell _ _ (.inl (by simp));have hnx:∀k,(Value.slice (Zs g2) xs.length xc).ownBlock=some k->k∉ [q]:=fun k hk=>by simp;exact(K5.out.nx k (Zo.2 hk)).1
     have hns:∀k,(Value.slice (Zs g) ss.length sc).ownBlock=some k->k∉ [q]:=fun k hk=>by simp;exact K5.out.ns k (Zo.2 hk)
     refine⟨xs,ss,_,_,b,⟨?_,K5.out.len,aT K5.out.xo fq hnx,aT K5.out.so fq hns,K5.out.nx,K5.out.ns⟩,CJ.out,by omega,fun x hx=>.inl hx,(Fr.of_below HB.out _).trans fq (fun x hx _=>by rw[Zm.1 hx];simp[bT.blocks])⟩;have:=K5.out.row.set 10 (.bool b);rw[set_append_right _ _ (by rw[K5.out.len];decide),K5.out.len] at this;exact this
    cases vd with
    | true=>
     go_wp2;go_ret;exact⟨rfl,hfin.out _⟩
    | false=>
     by_cases hx:xj=t
     ·have hb2:(xj.toList==t.toList)=true:=by rw[gP];simpa using hx
      go_wp2;go_ret;exact⟨rfl,hfin.out _⟩
     ·have hb2:(xj.toList==t.toList)=false:=by rw[gP];simpa using hx
      go_wp2;go_ret;exact⟨rfl,hfin.out _⟩
   ·have hb:(sj.toList==s.toList)=false:=by rw[gP];simpa using he
    go_wp2;exact⟨⟨trivial,j+1,by push_cast;rfl,by omega⟩,by simp[RowKit.intOf];omega⟩
  ·have j1:¬(j:Int)<(ss.length:Int):=by omega
   have hso:=K5.out.so;go_upto_region 9 with(at_builtin;(refine wpList_append_lies _ rfl _ _ 35 rfl 0 9 i0 _ 1 16 underlying35 hi0 hz0 hz1 hz2 rfl (by decide) (.slice sa ss.length sc) ss.length (bN ss) rfl (World.ownsRow.alloc hso _) (Za w1.heap.size 0) 1 1 [.string s] rfl rfl (World.news_of_block (cs:=#[.string s]) (heap_alloc_new w1 _)) (by intro u hu;simp at hu;subst hu;rfl) (by decide) (by unfold maxLen;omega) (by omega) (Nat.zero_le _) _ rfl ?_;intro g4 c4 w4 xC mG Gf tJ;obtain⟨K7,q9,z9,zV,qR⟩:=bT.pushS K5.out xC mG Gf;have Xz:Hid _:=K7;have HS5:Hid _:=zV;have Lx:Hid _:=qR;clear K7 zV qR xC mG Gf))
   clear q9 z9 c8 c9 c10 z10 hso;generalize w4.setCell (Za q 9) (.slice (Zs g4) (ss.length+1) c4)=W5 at *;obtain⟨c8,c9,c10⟩:=uZ Xz.out.row Xz.out.len;have hxo:=Xz.out.xo;have hxl:xs.length<=1000000000:=by have:=CJ.out;omega
   go_wp2_with(at_builtin;(refine wpList_append_lies _ rfl _ _ 35 rfl 0 9 i0 _ 1 16 underlying35 hi0 hz0 hz1 hz2 rfl (by decide) (.slice xa xs.length xc) xs.length (bN xs) rfl (World.ownsRow.alloc hxo _) (Za W5.heap.size 0) 1 1 [.string t] rfl rfl (World.news_of_block (cs:=#[.string t]) (heap_alloc_new W5 _)) (by intro u hu;simp at hu;subst hu;rfl) (by decide) (by unfold maxLen;omega) (by omega) (Nat.zero_le _) _ rfl ?_;intro g6 c6 w6 hown6 CP UW hlt6;obtain⟨Xl,q8,z8,K8,Pp⟩:=bT.pushX Xz.out hown6 CP UW;have HA7:Hid _:=Xl;have XA:Hid _:=K8;have HF7:Hid _:=Pp;clear Xl K8 Pp hown6 CP UW));go_ret;refine⟨rfl,_,_,_,_,_,HA7.out,by simp;exact CJ.out,by simp,fun b hb=>?_,(Fr.of_below HB.out _).trans (Lx.out.trans HF7.out (fun x hx hl=>?_)) (fun x hx _=>hx)⟩
   ·rcases XA.out b hb with h1|h1
    ·rcases HS5.out b h1 with h2|h2
     ·exact .inl h2
     ·exact .inr (Nat.le_trans HB.out.size h2)
    ·exact .inr (Nat.le_trans HB.out.size (Nat.le_trans Lx.out.size h1))
   ·rcases HS5.out x hx with h2|h2
    ·exact h2
    ·omega
theorem YU(L:List It)(path:Zy)(q:Nat)(v:Value)(w:World)(c3:w.cell? (Za q 3)=some v)(h:tY w v L)(hl:L.length<=40000)(hsz:∀x∈L,x.path.size<=1000000):
  Zc 100 #[Zp q,.string path] w fun e w'=>∃kv,e=.returned kv/\w'.ownsRow w.heap.size 9 1 kv (aj path L).length (bN (aj path L))/\Below w.heap.size w w':=by
 obtain⟨ag,gt,cap0,rfl,hag,hc⟩:=h;have hcl:0<L.length->gt<w.heap.size:=fun h0=>World.block_lt_of_cell? w (Za gt 0) (hc 0 (.string L[0].path) (by have:=kZ L 0 h0 0 (by decide);simpa [It.cells] using this));have tH:q<w.heap.size:=Zd c3;have HA:Hid _:=hag;have HC:Hid _:=hc;have HSz:Hid _:=hsz;have HC3:Hid _:=c3;obtain⟨i0,hi,hz0,hz1,hz2⟩:=info_parts I7;clear hag hc hsz;go_enter func100,ntmps100;go_wp2;go_loopw [5,6] (fun lv iv wr=>∃(k:Nat) (gI:List Zy) (al:Option Addr) (cl:Nat),lv=.slice al gI.length cl/\iv=(Zi k)/\k<=L.length/\Hid (gI=aj path (L.take k))/\gI.length<=k/\Hid (wr.ownsRow w.heap.size 9 1 (.slice al gI.length cl) gI.length (bN gI))/\Hid (Below w.heap.size w wr)) (fun _ iv _=>L.length-(RowKit.intOf iv).toNat)
 case atStart=>exact⟨0,[],none,0,rfl,rfl,Nat.zero_le _,rfl,Zn,World.ownsRow_nil _ _ _ _,Zr⟩
 case round=>
  obtain⟨k,gI,al,cl,rfl,rfl,hk,XB,hlk,HO,HB⟩:=hrel;have c3r:wr.cell? (Za q 3)=some (.slice ag L.length cap0):=by rw[HB.out.cell tH];exact HC3.out
  by_cases hlt:k<L.length
  ·have k0:(0:Int)<=(k:Int):=by omega
   have k1:(k:Int)<(L.length:Int):=by omega
   obtain rfl:=HA.out (by omega);have hcell:wr.cell? (Za gt (k*3))=some (.string L[k].path):=by
    rw[HB.out.cell (hcl (by omega))];exact HC.out _ _ (by rw[<-Nat.add_zero (k*3),kZ L k hlt 0 (by decide)];rfl)
   have hs:=HSz.out L[k] (Zg hlt);have HS:Hid (aj path (L.take (k+1))=if nZ L[k].path=path then rG gI (oV L[k].path) else gI):=by
    show _=_;rw[Md L k hlt,DF,XB.out]
   generalize L[k].path=s at *;have hws:w.heap.size<=wr.heap.size:=HB.out.size;clear XB;go_wp2
   try go_frame
   go_loopw [8,9] (fun c i wi=>wr=wi/\∃m:Nat,m<=s.size/\i=(Zi m)/\c=.int .i64 (lM s m)) (fun _ i _=>s.size-(RowKit.intOf i).toNat)
   case atStart=>exact⟨rfl,0,Nat.zero_le _,rfl,rfl⟩
   case round=>
    obtain⟨rfl,m,hm,rfl,rfl⟩:=hrel;by_cases hlm:m<s.size
    ·have i2:(m:Int)<(s.size:Int):=by omega
     have hst:Hid (lM s (m+1)=if(s[m]).toNat=47 then((m:Nat):Int) else lM s m):=by show lM s (m+1)=_;rw[lM,P9 s m hlm]
     by_cases hc:(s[m]).toNat=47
     ·rw[if_pos hc] at hst;have hb:((s[m].toNat:Int)==47)=true:=by simp;omega
      go_wp2;exact⟨⟨trivial,m+1,by omega,by go_num,by rw[hst.out]⟩,by simp[RowKit.intOf];omega⟩
     ·rw[if_neg hc] at hst;have hb:((s[m].toNat:Int)==47)=false:=by simp;omega
      go_wp2;exact⟨⟨trivial,m+1,by omega,by go_num,by rw[hst.out]⟩,by simp[RowKit.intOf];omega⟩
    ·have ek:m=s.size:=by omega
     have i2:¬(m:Int)<(s.size:Int):=by omega
     subst ek;obtain⟨cb1,cb2⟩:=SS s s.size;have hup:Hid (nZ s=if 0<=lM s s.size then s.extract 0 (lM s s.size).toNat else⟨#[]⟩):=rfl;have hla:Hid (oV s=s.extract (lM s s.size+1).toNat s.size):=rfl;generalize lM s s.size=c at *;go_upto_region 12 with fail
     try go_frame
     go_cut [56] from 12 to 99 (fun b wx=>b=.bool (decide (nZ s≠path))/\wx=wr)
     case first=>
      rcases(show c= -1\/0<=c by omega) with rfl|hc0
      ·rw[if_neg (by decide)] at hup;by_cases hpq:path=⟨#[]⟩
       ·have he:path.toList.isEmpty=true:=by rw[dP,decide_eq_true hpq]
        have Hd:Hid (decide (nZ s≠path)=false):=by show _=_;rw[hup.out,hpq];simp
        clear hup hla hpq;go_wp2_with fail;go_meet;exact⟨by rw[Hd.out],rfl⟩
       ·have he:path.toList.isEmpty=false:=by rw[dP,decide_eq_false hpq]
        have he2:path.toList≠ []:=fun e=>by rw[e] at he;simp at he
        have Hd:Hid (decide (nZ s≠path)=true):=by show _=_;rw[hup.out];simpa using fun e=>hpq e.symm
        clear hup hla;go_wp2_with fail;go_meet;exact⟨by rw[Hd.out],rfl⟩
      ·obtain⟨qn,rfl⟩:=Int.eq_ofNat_of_zero_le hc0;rw[if_pos hc0,Int.toNat_natCast] at hup;have q0:(0:Int)<=(qn:Int):=by omega
       have q1:(qn:Int)<=(s.size:Int):=by omega
       have q3:¬(qn:Int)<0:=by omega
       by_cases hpq:s.extract 0 qn=path
       ·have hb:((s.extract 0 qn).toList==path.toList)=true:=by rw[gP,decide_eq_true hpq]
        have Hd:Hid (decide (nZ s≠path)=false):=by show _=_;rw[hup.out];simpa using hpq
        clear hup hla;go_wp2_with fail;go_meet;exact⟨by rw[Hd.out],rfl⟩
       ·have hb:((s.extract 0 qn).toList==path.toList)=false:=by rw[gP,decide_eq_false hpq]
        have Hd:Hid (decide (nZ s≠path)=true):=by show _=_;rw[hup.out];simpa using hpq
        clear hup hla;go_wp2_with fail;go_meet;exact⟨by rw[Hd.out],rfl⟩
     obtain⟨rfl,rfl⟩:=hcut;by_cases hu:nZ s=path
     ·have hd:decide (nZ s≠path)=false:=by simpa using hu
      rw[if_pos hu] at HS;rw[hd];have q2:(0:Int)<=c+1:=by omega
      have q4:c+1<=(s.size:Int):=by omega
      have qw:IntKind.i64.wrap (c+1)=c+1:=wrap_small _ (by omega) (by omega);rw[hla.out] at HS;clear hup;have Hla:Hid _:=hla.out;clear hla;go_upto_region 14 with(at_builtin;(refine wpList_append_lies _ rfl _ _ 35 rfl w.heap.size 9 i0 (.string ByteArray.empty) 1 16 underlying35 hi hz0 hz1 hz2 rfl (by decide) (.slice al gI.length cl) gI.length (bN gI) rfl (World.ownsRow.alloc HO.out _) (Za wc.heap.size 0) 1 1 [.string (s.extract (c+1).toNat s.size)] rfl rfl (World.news_of_block (cs:=#[.string (s.extract (c+1).toNat s.size)]) (heap_alloc_new wc _)) (by intro u hu;simp at hu;subst hu;rfl) (by decide) (by unfold maxLen;omega) (by omega) (by simp;omega) _ rfl ?_;intro g cap w3 aY aN hat hlt3))
      have hge:w.heap.size<=g:=AZ aY g rfl;obtain⟨hh,hcap1,hcap2⟩:=jA (vT aY);rw[PZ] at hh;have hb3:Below w.heap.size w w3:=by
       have f1:Fr w w3 []:=((Fr.of_below HB.out []).alloc _).grown aN (fun k e=>.inr (World.ownsRow.lt HO.out k e).1);exact⟨f1.os,f1.tape,f1.output,f1.size,fun k hk=>f1.block k hk (by simp)⟩
      have HH:Hid _:=hh;have HB3:Hid _:=hb3;clear aY aN hat hh hb3 HO;generalize s.extract (c+1).toNat s.size=x at *;have n0:(1:Int)<=((gI.length+1:Nat):Int):=by omega
      obtain⟨n,hn⟩:∃n,n=gI.length+1:=⟨_,rfl⟩;rw[<-hn] at n0⊢;have HN:Hid (n=gI.length+1):=hn;have HFin:Hid (∀w',Has w' g 9 cap 1 (bN (rG gI x))->Fr w3 w' [g]->∃(k':Nat) (Rx:List Zy) (al':Option Addr) (cl':Nat),Value.slice (Zs g) n cap=.slice al' Rx.length cl'/\Value.int .i64 ((k:Int)+1)=(Zi k')/\k'<=L.length/\Hid (Rx=aj path (L.take k'))/\Rx.length<=k'/\Hid (w'.ownsRow w.heap.size 9 1 (.slice al' Rx.length cl') Rx.length (bN Rx))/\Hid (Below w.heap.size w w')):=fun w' h1 h2=>by
       have hin:=I9 gI x;refine⟨k+1,rG gI x,some (Za g 0),cap,by rw[hin,HN.out],by push_cast;rfl,by omega,HS.out.symm,by omega,?_,zF HB3.out h2 HB3.out.size (by intro b hb;simp at hb;omega)⟩;show World.ownsRow _ _ _ _ _ _ _;exact h1.ownsB (by rw[ni];omega) (by decide) hcap2 _ hge
      have hnl:n<=100000:=by omega
      clear hn HS hcap1 hcap2 hge Hla c3r hcell;go_wp2
      try go_frame
      go_loopw [10] (fun i wi=>∃m:Nat,m<=gI.length/\i=(Zi m)/\Hid (kQ gI x gI.length=kQ gI x m)/\Hid (Has wi g 9 cap 1 (bN (gI.take m++x::gI.drop m)))/\Hid (Fr w3 wi [g])) (fun i _=>(RowKit.intOf i).toNat)
      case atStart=>exact⟨gI.length,Zn,by have:=HN.out;go_num,rfl,by show Has _ _ _ _ _ _;simpa using HH.out,Fr.refl _ _⟩
      case round=>
       obtain⟨m,hk2,rfl,Hpl,Hh,Hf⟩:=hrel;have hn:=HN.out;have hh:=Hh.out;have hpl:=Hpl.out;rcases Nat.eq_zero_or_pos m with h0|hpos
       ·subst h0;have HE:Hid (Has wr.drew g 9 cap 1 (bN (rG gI x))):=by
         have:rG gI x=gI.take 0++x::gI.drop 0:=by unfold rG;rw[hpl];rfl
         rw[this];exact hh.keep rfl
        have HF:Hid _:=Hf.out.drew;clear hn hh hpl;go_wp2;go_region;go_wp2;exact⟨HFin.out _ HE.out HF.out,by simp[RowKit.intOf];omega⟩
       ·obtain⟨j,hj⟩:∃j,m=j+1:=⟨m-1,by omega⟩;have hlen:(bN (gI.take m++x::gI.drop m)).length=gI.length+1:=by rw[ni];simp;omega
        have ck:=hh.cell m (by omega);rw[jy _ _ (by simp;omega),DC gI x m hk2] at ck;have cj:=hh.cell j (by omega);rw[jy _ _ (by simp;omega),hj,A7 gI x j (by omega)] at cj;generalize hy:gI.getD j ByteArray.empty=y at cj;have b0:(0:Int)<(m:Int):=by omega
        have b1:(0:Int)<=(m:Int):=by omega
        have b2:(m:Int)<(n:Int):=by omega
        have b3:(m:Int)-1=(j:Int):=by omega
        have b4:(0:Int)<=(j:Int):=by omega
        have b7:IntKind.i64.wrap (j:Int)=(j:Int):=wrap_small _ (by omega) (by omega);have b6:IntKind.i64.wrap ((m:Int)-1)=(j:Int):=by rw[b3];exact b7
        have b5:(j:Int)<(n:Int):=by omega
        have fj:=hh.frozen j;have fm:=hh.frozen m;have h1:=(hh.set m (.string y)).set j (.string x);have H2:Hid (Has ((wr.setCell (Za g m) (.string y)).setCell (Za g j) (.string x)).drew g 9 cap 1 (bN (gI.take j++x::gI.drop j))):=by
         rw[IY,IY,hj,<-hy,A8 gI x j (by omega),<-hj,hy] at h1;exact h1.keep rfl
        have Yk:Hid (Fr w3 ((wr.setCell (Za g m) (.string y)).setCell (Za g j) (.string x)).drew [g]):=((Hf.out.setCell _ _ (.inl (by simp))).setCell _ _ (.inl (by simp))).drew;have HY:Hid (qG x y=true->kQ gI x gI.length=kQ gI x j):=fun e=>by rw[hpl,hj,kQ,hy,if_pos e]
        have HZ:Hid (qG x y=false->Has wr.drew g 9 cap 1 (bN (rG gI x))):=fun e=>by
         have:rG gI x=gI.take m++x::gI.drop m:=by unfold rG;rw[hpl];conv=>lhs;rw[hj,kQ,hy,if_neg (by simp[e])];rw[<-hj]
         rw[this];exact hh.keep rfl
        have Uw:Hid _:=Hf.out.drew;have hjl:j<=gI.length:=by omega
        have jm:j<m:=by omega
        clear hlen hh hj hn h1 hpl Hh Hf Hpl;go_wp2;go_region_held3 (fun w'=>w'.cell? (Za g m)=some (.string x)/\w'.cell? (Za g j)=some (.string y)) ((go_split_ands;refine⟨by go_keep,by go_keep⟩)) (fail);go_wp2
        ·have e:qG x y=true:=by assumption
         exact⟨⟨j,hjl,by go_num,HY.out e,H2.out,Yk.out⟩,by simp[RowKit.intOf];omega⟩
        ·have e:qG x y=false:=by assumption
         exact⟨HFin.out _ (HZ.out e) Uw.out,by simp[RowKit.intOf];omega⟩
     ·have hd:decide (nZ s≠path)=true:=by simpa using hu
      rw[if_neg hu] at HS;rw[hd];clear hup hla;go_wp2;exact⟨⟨k+1,gI,al,cl,rfl,by push_cast;rfl,by omega,HS.out.symm,by omega,HO.out,HB.out⟩,by simp[RowKit.intOf];omega⟩
  ·have ek:k=L.length:=by omega
   have k1:¬(k:Int)<(L.length:Int):=by omega
   have HL:Hid (gI=aj path L):=by
    have:=XB.out;rw[ek,take_length] at this;exact this
   clear XB;go_wp2;go_ret;exact⟨_,rfl,by rw[<-HL.out];exact HO.out,HB.out⟩
structure oD(c:dz)(w:World)(q:Nat)(r:List Value)(tv:Value)(T:List It)(n:Nat)(xv sv:Value):Prop where
 hs:∃xs ss vd,bT w q r xs ss xv sv vd/\xs.length=ss.length/\ss.length<=n
 sha:dI c w
 far:∀b∈bT.blocks q xv sv,18<=b
 g:18<=w.heap.size
 r3:r[3]? =some tv
 tree:w.ownsRow 0 109 3 tv T.length (aK T)
 nt:∀b∈tv.ownBlock.toList,b∉bT.blocks q xv sv
def dO(c:dz)(w w':World)(q:Nat)(r:List Value)(tv:Value)(T:List It)(n:Nat)(xv sv:Value):Prop:=∃yJ N7,oD c w' q r tv T n yJ N7/\(∀b∈bT.blocks q yJ N7,b∈bT.blocks q xv sv\/w.heap.size<=b)/\Fr w w' (bT.blocks q xv sv)
section
variable {c:dz}{w w1 w2:World}{q:Nat}{r:List Value}{tv:Value}{T:List It}{n n':Nat}{xv sv qZ rq:Value}
theorem oD.below(h:oD c w q r tv T n xv sv)(f:Below w.heap.size w w1):oD c w1 q r tv T n xv sv:=by
 obtain⟨xs,ss,vd,h1,h2,h3⟩:=h.hs;exact⟨⟨xs,ss,vd,h1.below f,h2,h3⟩,h.sha.fr (Fr.of_below f []) (by simp),h.far,Nat.le_trans h.g f.size,h.r3,aT h.tree (Fr.of_below f []) (by simp),h.nt⟩
theorem oD.more(h:oD c w q r tv T n xv sv)(hn:n<=n'):oD c w q r tv T n' xv sv:=by
 obtain⟨xs,ss,vd,h1,h2,h3⟩:=h.hs;exact⟨⟨xs,ss,vd,h1,h2,by omega⟩,h.sha,h.far,h.g,h.r3,h.tree,h.nt⟩
theorem dO.refl(h:oD c w q r tv T n xv sv):dO c w w q r tv T n xv sv:=⟨xv,sv,h,fun _ hb=>.inl hb,Fr.refl _ _⟩
theorem dO.of_below(h:oD c w q r tv T n xv sv)(f:Below w.heap.size w w1):dO c w w1 q r tv T n xv sv:=⟨xv,sv,h.below f,fun _ hb=>.inl hb,Fr.of_below f _⟩
theorem dO.then(hs:∀b∈bT.blocks q qZ rq,b∈bT.blocks q xv sv\/w.heap.size<=b)(f:Fr w w1 (bT.blocks q xv sv))(k:dO c w1 w2 q r tv T n' qZ rq):dO c w w2 q r tv T n' xv sv:=by
 obtain⟨UX,UY,h2,s2,f2⟩:=k;refine⟨UX,UY,h2,fun b hb=>?_,f.trans f2 (fun x hx hl=>?_)⟩
 ·rcases s2 b hb with h3|h3
  ·exact hs b h3
  ·exact .inr (Nat.le_trans f.size h3)
 ·rcases hs x hx with h3|h3
  ·exact h3
  ·omega
theorem dO.below(h:dO c w w1 q r tv T n xv sv)(f:Below w1.heap.size w1 w2):dO c w w2 q r tv T n xv sv:=by
 obtain⟨qZ,rq,h1,s1,f1⟩:=h;exact dO.then s1 f1 (.of_below h1 f)
theorem dO.more(h:dO c w w1 q r tv T n xv sv)(hn:n<=n'):dO c w w1 q r tv T n' xv sv:=by
 obtain⟨qZ,rq,h1,s1,f1⟩:=h;exact⟨qZ,rq,h1.more hn,s1,f1⟩
theorem CQ(h:oD c w q r tv T n xv sv)(hn:n<=900000000)(t:Zy)(ht:t.size<=1000000):
  Zc 99 #[Zp q,.string t] w fun e w'=>e=.returned (.string (c.of t))/\dO c w w' q r tv T (n+1) xv sv:=by
 obtain⟨xs,ss,vd,h1,h2,h3⟩:=h.hs;refine(Xy h.sha h1 h2 t ht (by omega)).mono ?_;rintro e w' ⟨rfl,xs',ss',yJ,N7,vd',k1,k2,k3,k4,k5⟩;refine⟨rfl,yJ,N7,⟨⟨xs',ss',vd',k1,k2,by omega⟩,h.sha.fr k5 (fun b hb=>h.far b hb),fun b hb=>?_,Nat.le_trans h.g k5.size,h.r3,aT h.tree k5 (fun g hg=>h.nt g (Zo.2 hg)),fun b hb hm=>?_⟩,k4,k5⟩
 ·rcases k4 b hb with e1|e1
  ·exact h.far b e1
  ·exact Nat.le_trans h.g e1
 ·rcases k4 b hm with e1|e1
  ·exact h.nt b hb e1
  ·have:=(World.ownsRow.lt h.tree b (Zo.1 hb)).2;omega
theorem oD.c3(h:oD c w q r tv T n xv sv):w.cell? (Za q 3)=some tv:=by
 obtain⟨xs,ss,vd,h1,_,_⟩:=h.hs;rw[h1.row.cell 3,getElem?_append_left (by rw[h1.len];decide)];exact h.r3
end
theorem dO.cut(h:dO c w w1 q r tv T n xv sv):∃qZ rq,oD c w1 q r tv T n qZ rq/\∀w2 n',dO c w1 w2 q r tv T n' qZ rq->dO c w w2 q r tv T n' xv sv:=by
 obtain⟨qZ,rq,h1,s1,f1⟩:=h;exact⟨qZ,rq,h1,fun w2 n' k=>dO.then s1 f1 k⟩
theorem YV(n:Nat)(h:n<65536)(w:World):
  Zc 98 #[Zi n] w fun e w'=>e=.returned (.string (text (bE n)))/\Below w.heap.size w w':=by
 have hcv:(convert 124 9 (.slice (Zs w.heap.size) 4 4)).run prog (w.alloc (.cells #[.int .u8 ((n:Int) / 16777216),.int .u8 ((n:Int) / 65536),.int .u8 ((n:Int) / 256),.int .u8 ((n:Int) % 256)] 5))=.ok (.string (text (bE n))) (w.alloc (.cells #[.int .u8 ((n:Int) / 16777216),.int .u8 ((n:Int) / 65536),.int .u8 ((n:Int) / 256),.int .u8 ((n:Int) % 256)] 5)):=by
  have e1:(n:Int) / 16777216=((n / 16777216 % 256:Nat):Int):=by omega
  have e2:(n:Int) / 65536=((n / 65536 % 256:Nat):Int):=by omega
  have e3:(n:Int) / 256=((n / 256 % 256:Nat):Int):=by omega
  have e4:(n:Int) % 256=((n % 256:Nat):Int):=by omega
  rw[e1,e2,e3,e4];have hr:ai (w.alloc (.cells (bytes (bE n)).toArray 5)) w.heap.size 5 (bytes (bE n)++[]):=by rw[append_nil];exact ai.new _ _ _
  exact qF 124 9 5 underlying124 underlying5 underlying9 _ _ 4 _ (bE n) [] hr (uN n)
 have hb:Below w.heap.size w (w.alloc (.cells #[.int .u8 ((n:Int) / 16777216),.int .u8 ((n:Int) / 65536),.int .u8 ((n:Int) / 256),.int .u8 ((n:Int) % 256)] 5)):=(Zr).alloc (Zn) _;obtain⟨T,hT⟩:∃T,Hid (text (bE n)=T):=⟨_,rfl⟩;rw[hT.out] at hcv;go_enter func98,ntmps98;go_wp2;go_ret;exact⟨by rw[hT.out];rfl,hb⟩
theorem oF(h:(L.map It.path).Nodup)(hk:k<L.length):bJ L L[k].path=(k:Nat):=by
 rcases iA L L[k].path with⟨_,h2⟩|⟨i,hi,h1,h2⟩
 ·exact absurd rfl (h2 _ (Zg hk))
 ·rw[h1];have e:(L.map It.path)[i]'(by simpa using hi)=(L.map It.path)[k]'(by simpa using hk):=by simpa using h2
  have hpw:=pairwise_iff_getElem.1 h;have:i=k:=by
   rcases Nat.lt_trichotomy i k with hlt|heq|hgt
   ·exact absurd e (hpw i k _ _ hlt)
   ·exact heq
   ·exact absurd e.symm (hpw k i _ _ hgt)
  rw[this]
theorem PD(ok:aC L)(hx:x∈L):x.path≠⟨#[]⟩:=by
 obtain⟨p,k,h1,h2,_⟩:=ok.up x hx;rw[h1];exact ja p k h2
def AJ(c:dz)(w:World)(q:Nat)(r:List Value)(tv:Value)(T:List It)(n:Nat)(xv sv:Value)(e:Ending)(w':World):Prop:=∃s:Zy,e=.returned (.string s)/\s.size=32/\dO c w w' q r tv T n xv sv
theorem N8(h:oD c w q r tv T n xv sv)(ok:aC T)(hn:n<=800000000)(k:Nat)(hk:k<T.length)(hd:T[k].dir=false):
  Zc 52 #[Zp q,.string T[k].path] w (AJ c w q r tv T (n+17) xv sv):=by
 have hit:=fG h.tree;have cF:=qY T T[k].path tv w hit (by have:=ok.few;omega);have hfa:bJ T T[k].path=(k:Nat):=oF ok.apart hk;have hpne:T[k].path≠⟨#[]⟩:=PD ok (Zg hk);have hds:=ok.data _ (Zg hk);have c3:=h.c3;obtain⟨ag,g,cap,rfl,hag,hcs⟩:=hit.cells;obtain rfl:=hag (by omega);obtain⟨q0,q1,q2⟩:=hcs k hk;rw[hd] at q1;rw[hfa] at cF;have he:T[k].path.toList.isEmpty=false:=by rw[dP,decide_eq_false hpne]
 have he2:T[k].path.toList≠ []:=fun e=>by rw[e] at he;simp at he
 have gV:=ok.few;have HN:Hid _:=h;have c4:Hid (∀m,m<65536->∀w,Zc 98 #[Zi m] w fun e w'=>e=.returned (.string (text (bE m)))/\Below w.heap.size w w'):=fun m hm w=>YV m hm w;have hsc:Hid (∀t,(c.of t).size=32):=fun t=>c.size t;generalize T[k].path=p at *;generalize T[k].data=D at *;clear h hit hcs hfa;have k0:(0:Int)<=(k:Int):=by omega
 have k1:(k:Int)<(T.length:Int):=by omega
 go_enter func52,ntmps52;go_wp2_with(first
  | (go_at_call 54;refine cF.mono ?_;rintro e w1 ⟨rfl,rfl⟩)
  | (go_at_call 98;refine(c4.out D.size (by omega) _).mono ?_;rintro e w2 ⟨rfl,hb2⟩))
 have hx4:(text (bE D.size)).size=4:=aZ _;have HN2:Hid (dO c w w2 q r (.slice (Zs g) T.length cap) T n xv sv):=.of_below HN.out hb2;generalize text (bE D.size)=X0 at *;clear HN cF c3 q0 q1 q2 hb2 he he2 hpne;go_loopw [6,7] (fun tx xx wr=>∃(t x:Zy) (m:Nat),tx=.string t/\xx=.string x/\(0<t.size->m*96+t.size<=1536)/\m<=16/\x.size<=4+32*m/\t.size<=1536/\Hid (dO c w wr q r (.slice (Zs g) T.length cap) T (n+m) xv sv)) (fun tx _ _=>match tx with | .string t=>t.size|_=>0)
 case atStart=>exact⟨D,X0,0,rfl,rfl,by omega,by omega,by omega,hds,HN2.out⟩
 case round=>
  obtain⟨t,x,m,rfl,rfl,hm,hm16,hxs,hts,HD⟩:=hrel;by_cases ht0:t=⟨#[]⟩
  ·have he:t.toList.isEmpty=true:=by rw[dP,decide_eq_true ht0]
   obtain⟨qZ,rq,hA,hcut⟩:=HD.out.cut;have cH:=CQ hA (by omega) x (by omega);have XC:Hid _:=hcut;have hsx:=hsc.out x;generalize c.of x=sx at *;clear hcut hA HD ht0;go_wp2_with(go_at_call 99;refine cH.mono ?_;rintro e w5 ⟨rfl,h5⟩);go_ret;exact⟨sx,rfl,hsx,(XC.out _ _ h5).more (by omega)⟩
  ·have he:t.toList.isEmpty=false:=by rw[dP,decide_eq_false ht0]
   have he2:t.toList≠ []:=fun e=>by rw[e] at he;simp at he
   have htp:0<t.size:=Nat.pos_of_ne_zero (fun e=>ht0 (ji (by have:t.data.toList=[]:=eq_nil_of_length_eq_zero (by simpa using e);rw[this])));have hmm:=hm htp;obtain⟨qZ,rq,hA,hcut⟩:=HD.out.cut;have XC:Hid _:=hcut;have YW:Hid (∀z:Zy,z.size<=1000000->Zc 99 #[Zp q,.string z] wr fun e w'=>(∃sz:Zy,sz.size=32/\e=.returned (.string sz))/\dO c wr w' q r (.slice (Zs g) T.length cap) T (n+m+1) qZ rq):=fun z hz=>(CQ hA (by omega) z hz).mono fun e w' he=>⟨⟨_,hsc.out z,he.1⟩,he.2⟩;clear hcut hA HD ht0 hm;by_cases h96:96<t.size
   ·have j1:(t.size:Int)>96:=by omega
    have j2:(96:Int)<=(t.size:Int):=by omega
    have cH:=YW.out (t.extract 0 96) (by rw[ByteArray.size_extract];omega);have hts2:(t.extract 96 t.size).size=t.size-96:=by rw[ByteArray.size_extract];omega
    have ZJ:¬9223372036854775807<x.size+32:=by omega
    go_wp2_with(go_at_call 99;refine cH.mono ?_;rintro e w5 ⟨⟨sz,hsz,rfl⟩,h5⟩;have H5:Hid _:=h5;clear h5);exact⟨⟨t.extract 96 t.size,x++sz,m+1,rfl,rfl,by omega,by omega,by rw[ByteArray.size_append];omega,by omega,XC.out _ _ H5.out⟩,by show(t.extract 96 t.size).size<t.size;omega⟩
   ·have j1:¬(t.size:Int)>96:=by omega
    have j2:(t.size:Int)<=(t.size:Int):=by omega
    have cH:=YW.out t (by omega);have ZJ:¬9223372036854775807<x.size+32:=by omega
    go_wp2_with(go_at_call 99;refine cH.mono ?_;rintro e w5 ⟨⟨sz,hsz,rfl⟩,h5⟩;have H5:Hid _:=h5;clear h5);exact⟨⟨ByteArray.empty,x++sz,m+1,rfl,rfl,fun h=>absurd h (by decide),by omega,by rw[ByteArray.size_append];omega,by decide,XC.out _ _ H5.out⟩,by show 0<t.size;exact htp⟩
noncomputable def jM(T:List It)(p:Zy)(K:List Zy)(j:Nat):Nat:=((K.take j).map fun k=>17*(1+oL T (aA p k))).sum
theorem K9(T:List It)(p:Zy)(K:List Zy)(j:Nat)(hj:j<K.length):jM T p K (j+1)=jM T p K j+17*(1+oL T (aA p K[j])):=by
 unfold jM;rw[take_succ_eq_append_getElem hj,map_append,sum_append];simp
theorem UZ(K:List Zy)(f:Zy->Nat)(m:Nat):(K.map fun k=>m*f k).sum=m*(K.map f).sum:=by
 induction K with
 | nil=>rfl
 | cons a K ih=>rw[map_cons,sum_cons,map_cons,sum_cons,ih,Nat.mul_add]
theorem CU(ok:aC T)(p:Zy):jM T p (aj p T) (aj p T).length=17*oL T p:=by
 unfold jM;rw[take_length,UZ,<-uj ok p]
theorem aac{x:Nat}(h:x∈l):x<=l.sum:=by
 induction l with
 | nil=>cases h
 | cons a l ih=>
  rw[sum_cons];rcases mem_cons.1 h with rfl|h1
  ·omega
  ·have:=ih h1;omega
theorem XD(ok:aC T){p k:Zy}(hk:k∈aj p T):oL T (aA p k)<oL T p:=by
 rw[uj ok p];have:=aac (mem_map_of_mem (f:=fun k=>1+oL T (aA p k)) hk);omega
theorem oD.lt(h:oD c w q r tv T n xv sv):∀b∈bT.blocks q xv sv,b<w.heap.size:=fun b hb=>by
 obtain⟨xs,ss,vd,h1,_,_⟩:=h.hs;simp only[bT.blocks,cons_append,mem_cons,mem_append] at hb;rcases hb with rfl|e|e
 ·exact h1.row.lt
 ·exact(World.ownsRow.lt h1.xo b (Zo.1 e)).2
 ·exact(World.ownsRow.lt h1.so b (Zo.1 e)).2
theorem oD.item{ag:Option Addr}(h:oD c w q r (.slice ag T.length cap) T n xv sv)(hag:0<T.length->ag=some (Za g 0))(i:Nat)(hi:i<T.length):w.cell? (Za g (i*3+1))=some (.bool T[i].dir):=by
 obtain⟨ag',g',cap',e,h1,h2⟩:=(fG h.tree).cells;have e1:=h1 (by omega);have e2:=hag (by omega);simp only[Value.slice.injEq] at e;have:g=g':=by
  have:=e.1;rw[e1,e2] at this;simpa using this
 rw[this];exact(h2 i hi).2.1
theorem Ry(ok:aC T)(p:Zy)(hp:p=⟨#[]⟩\/∃k,∃hk:k<T.length,T[k].path=p/\T[k].dir=true)
  (IH:∀k∈aj p T,∀(w:World) (n:Nat) (xv sv:Value),oD c w q r tv T n xv sv->n+17*oL T (aA p k)<=700000000->Zc 52 #[Zp q,.string (aA p k)] w (AJ c w q r tv T (n+17*oL T (aA p k)+17) xv sv))
  (w:World) (n:Nat) (xv sv:Value) (h:oD c w q r tv T n xv sv) (hn:n+17*oL T p<=700000000):
  Zc 52 #[Zp q,.string p] w (AJ c w q r tv T (n+17*oL T p+17) xv sv):=by
 have hit:=fG h.tree;have gV:=ok.few;have cF:=qY T p tv w hit (by omega);have hps:p.size<=262144:=by
  rcases hp with rfl|⟨k,hk,rfl,_⟩
  ·decide
  ·exact ok.size _ (Zg hk)
 have c3:=h.c3;have cK:=YU T p q tv w c3 hit (by omega) (fun x hx=>by have:=ok.size x hx;omega);have HN:Hid _:=h;have Hall:Hid (jM T p (aj p T) (aj p T).length=17*oL T p):=CU ok p;have hkl:(aj p T).length<=256:=by have:=lU ok p;omega
 have HIH:Hid _:=IH;have Hm:Hid (∀k∈aj p T,k.size<=16/\∃i,∃hi:i<T.length,T[i].path=aA p k):=fun k hk=>by
  obtain⟨h1,x,hx,h2⟩:=(bD ok p k).1 hk;obtain⟨i,hi,rfl⟩:=mem_iff_getElem.1 hx;exact⟨ic h1,i,hi,h2⟩
 have hsc:Hid (∀t,(c.of t).size=32):=fun t=>c.size t;clear IH;obtain⟨ag,g,cap,rfl,hag,hcs⟩:=hit.cells;have HCs:Hid _:=hcs;have HAg:Hid _:=hag;have Hsum:Hid (∀j,(hj:j<(aj p T).length)->jM T p (aj p T) (j+1)=jM T p (aj p T) j+17*(1+oL T (aA p (aj p T)[j]))/\jM T p (aj p T) (j+1)<=17*oL T p):=fun j hj=>⟨K9 T p _ j hj,by
  rw[<-CU ok p];unfold jM;rw[take_length]
  conv=>rhs;rw[<-take_append_drop (j+1) (aj p T),map_append,sum_append]
  omega⟩
 have hno:(p.toList.isEmpty=true/\p=⟨#[]⟩)\/(p.toList.isEmpty=false/\p≠⟨#[]⟩/\∃k:Nat,k<T.length/\bJ T p=(k:Nat)/\w.cell? (Za g (k*3+1))=some (.bool true)/\ag=some (Za g 0)):=by
  rcases hp with rfl|⟨k,hk,rfl,hd⟩
  ·exact .inl ⟨by rw[dP];simp,rfl⟩
  ·have hne:=PD ok (Zg hk);refine .inr ⟨by rw[dP,decide_eq_false hne],hne,k,hk,oF ok.apart hk,?_,hag (by omega)⟩;have:=(hcs k hk).2.1;rw[hd] at this;exact this
 generalize hKd:aj p T=K at *;clear h hit hcs hag hp;generalize hfa:bJ T p=fa at *;clear hfa hKd;go_enter func52,ntmps52;go_upto_region 2 with(go_at_call 54;refine cF.mono ?_;rintro e w1 ⟨rfl,rfl⟩)
 try go_frame
 go_cut [39] from 17 to 134 (fun s wx=>s=.bool false/\wx=w)
 case first=>
  rcases hno with⟨he,hpe⟩|⟨he,hne,k,hk,rfl,hcd,rfl⟩
  ·clear hpe;go_wp2_with fail;go_meet;exact⟨rfl,rfl⟩
  ·have k0:(0:Int)<=(k:Int):=by omega
   have k1:(k:Int)<(T.length:Int):=by omega
   have he2:p.toList≠ []:=fun e=>by rw[e] at he;simp at he
   go_wp2_with fail;go_meet;exact⟨rfl,rfl⟩
 obtain⟨rfl,rfl⟩:=hcut;clear hno;go_wp2_with(go_at_call 100;refine cK.mono ?_;rintro e w2 ⟨kv,rfl,hO2,hb2⟩;obtain⟨ka,kc,rfl⟩:∃ka kc,kv=.slice ka K.length kc:=aV hO2);have HN2:Hid (oD c w2 q r (.slice ag T.length cap) T n xv sv):=HN.out.below hb2;have Eh:Hid (∀b∈bT.blocks q xv sv,b<wc.heap.size):=HN.out.lt;have XE:Hid (w2.ownsRow wc.heap.size 9 1 (.slice ka K.length kc) K.length (bN K)):=hO2;have HB2:Hid _:=hb2;have Hz:Hid (jM T p K 0=0):=rfl;clear cF cK c3 hO2 hb2 HN;go_loopw [11,12] (fun xx iv wr=>∃(j:Nat) (x:Zy),xx=.string x/\iv=(Zi j)/\j<=K.length/\x.size<=100*j/\Hid (dO c w2 wr q r (.slice ag T.length cap) T (n+jM T p K j) xv sv)) (fun _ iv _=>K.length-(RowKit.intOf iv).toNat)
 case atStart=>exact⟨0,⟨#[]⟩,rfl,rfl,Nat.zero_le _,by decide,by show dO _ _ _ _ _ _ _ _ _ _;rw[Hz.out];exact .refl HN2.out⟩
 case round=>
  obtain⟨j,x,rfl,rfl,hj,hxs,HD⟩:=hrel;by_cases hlt:j<K.length
  ·have j0:(0:Int)<=(j:Int):=by omega
   have j1:(j:Int)<(K.length:Int):=by omega
   obtain⟨hsj,hsb⟩:=Hsum.out j hlt;obtain⟨hks,i,hi,hpi⟩:=Hm.out K[j] (Zg hlt);obtain⟨qZ,rq,hA,s1,f1⟩:=HD.out;obtain⟨gk,Xb,hgb,hgl,Vy⟩:=dH XE.out (by omega);subst Xb;have hgn:gk∉bT.blocks q xv sv:=fun hm=>by have:=Eh.out gk hm;omega
   have hgn1:gk∉bT.blocks q qZ rq:=fun hm=>by
    rcases s1 gk hm with e|e
    ·exact hgn e
    ·omega
   have hck:w2.cell? (Za gk j)=some (.string K[j]):=by
    have h2:=Vy j (.string K[j]) (by rw[jy _ _ hlt,getD_eq_getElem?_getD,getElem?_eq_getElem hlt];rfl);rw[Nat.zero_add] at h2;exact h2
   have hcw:wr.cell? (Za gk j)=some (.string K[j]):=by rw[World.cell?_of_block (f1.block gk hgl hgn)];exact hck
   have hglw:gk<wr.heap.size:=Nat.lt_of_lt_of_le hgl f1.size;have Qm:=HIH.out K[j] (Zg hlt) wr _ qZ rq hA (by omega);have cF2:Hid (∀(wz:World) (m:Nat) (UX UY:Value),oD c wz q r (.slice ag T.length cap) T m UX UY->wz.cell? (Za q 3)=some (.slice ag T.length cap)/\wz.cell? (Za g (i*3+1))=some (.bool T[i].dir)/\Zc 54 #[.slice ag T.length cap,.string (aA p K[j])] wz fun e w'=>e=.returned (Zi i)/\wz=w'):=fun wz m UX UY hz=>⟨hz.c3,hz.item HAg.out i hi,by
    have:=qY T (aA p K[j]) _ wz (fG hz.tree) (by omega);rw[<-hpi,oF ok.apart hi] at this;rw[<-hpi];exact this⟩
   have YX:Hid (∀wz m,dO c wr wz q r (.slice ag T.length cap) T m qZ rq->dO c w2 wz q r (.slice ag T.length cap) T m xv sv):=fun wz m k=>dO.then s1 f1 k;have hag1:=HAg.out (by omega);have Hjn:Hid (aA p K[j]=if p=⟨#[]⟩ then K[j] else p++⟨#[47]⟩++K[j]):=rfl;have hjs:(aA p K[j]).size<=1000000:=by rw[<-hpi];have:=ok.size _ (Zg hi);omega
   have hbnd:n+jM T p K (j+1)<=700000000:=by omega
   have Hsj:Hid (n+jM T p K j+17*oL T (aA p K[j])+17=n+jM T p K (j+1)):=by show _=_;omega
   have Hi:Hid _:=hpi;subst hag1;generalize T[i].dir=bd at *;generalize hPJ:aA p K[j]=pj at *;generalize hNM:K[j]=nm at *;have HCN:Hid _:=Qm;clear Qm hA s1 f1 HD hck hPJ hNM hpi;go_upto_if 85 with fail
   try go_frame
   go_cut [13] from 74 to 131 (fun s wx=>s=.string pj/\wx=wr)
   case first=>
    by_cases hpe:p=⟨#[]⟩
    ·have he:p.toList.isEmpty=true:=by rw[dP,decide_eq_true hpe]
     have Hj2:Hid (pj=nm):=Hjn.out.trans (if_pos hpe);clear hpe;simp only[he,Bool.not_true];go_wp2_with fail;go_meet;exact⟨by rw[Hj2.out],rfl⟩
    ·have he:p.toList.isEmpty=false:=by rw[dP,decide_eq_false hpe]
     have he2:p.toList≠ []:=fun e=>by rw[e] at he;simp at he
     have Hj2:Hid (pj=p++⟨#[47]⟩++nm):=Hjn.out.trans (if_neg hpe);have z1:¬9223372036854775807<p.size+1:=by omega
     have z2:¬9223372036854775807<p.size+1+nm.size:=by omega
     simp only[he,Bool.not_false];go_wp2_with fail;go_meet;exact⟨by rw[Hj2.out],rfl⟩
   obtain⟨rfl,rfl⟩:=hcut;clear Hjn;go_upto_if 113 with(first
    | (go_at_call 52;refine Calls.mono HCN.out ?_;rintro e w5 ⟨sz,rfl,hsz,h5⟩;obtain⟨UX,UY,K7,s5,f5⟩:=h5;obtain⟨c35,cd5,cf5⟩:=cF2.out _ _ _ _ K7;have H5:Hid (dO c wc w5 q r (.slice (Zs g) T.length cap) T (n+jM T p K j+17*oL T pj+17) qZ rq):=⟨UX,UY,K7,s5,f5⟩;have N9:w5.cell? (Za gk j)=some (.string nm):=(by rw[World.cell?_of_block (f5.block gk hglw hgn1)];exact hcw);have hgl5:gk<w5.heap.size:=Nat.lt_of_lt_of_le hglw f5.size;clear K7 s5 f5)
    | (go_at_call 54;refine cf5.mono ?_;rintro e w6 ⟨rfl,rfl⟩))
   try go_frame
   go_cut [15] from 74 to 131 (fun s wx=>(∃kd:Nat,(kd=1\/kd=2)/\s=.int .u8 (kd:Nat))/\wx=w5)
   case first=>
    cases bd with
    | true=>
     go_wp2_with fail;go_meet;exact⟨⟨2,.inr rfl,rfl⟩,rfl⟩
    | false=>
     go_wp2_with fail;go_meet;exact⟨⟨1,.inl rfl,rfl⟩,rfl⟩
   obtain⟨⟨kd,hkd,rfl⟩,rfl⟩:=hcut;have HFin:Hid (∀wz,Below wc.heap.size wc wz->dO c w2 wz q r (.slice (Zs g) T.length cap) T (n+jM T p K (j+1)) xv sv):=fun wz hb=>by
    rw[<-Hsj.out];exact(YX.out _ _ H5.out).below hb
   clear H5 cd5 cf5 c35 hcw;have cnm:wc.drew.cell? (Za gk j)=some (.string nm):=N9;have bA:Below wc.heap.size wc (wc.drew.alloc (.cells #[.int .u8 (kd:Nat),.int .u8 (nm.size:Nat)] 5)):=((Zr).drew).alloc (Zn) _;have Oa:(wc.drew.alloc (.cells #[.int .u8 (kd:Nat),.int .u8 (nm.size:Nat)] 5)).cell? (Za gk j)=some (.string nm):=by rw[bA.cell hgl5];exact N9
   obtain⟨tt,Htt⟩:∃tt,Hid (text [kd,nm.size]=tt):=⟨text [kd,nm.size],Eq.refl _⟩;have htt:tt.size=2:=by rw[<-Htt.out];exact aZ _
   have cv:(convert 124 9 (.slice (Zs wc.drew.heap.size) 2 2)).run prog (wc.drew.alloc (.cells #[.int .u8 (kd:Nat),.int .u8 (nm.size:Nat)] 5))=.ok (.string tt) (wc.drew.alloc (.cells #[.int .u8 (kd:Nat),.int .u8 (nm.size:Nat)] 5)):=by
    rw[<-Htt.out];have h1:ai (wc.drew.alloc (.cells #[.int .u8 (kd:Nat),.int .u8 (nm.size:Nat)] 5)) wc.drew.heap.size 5 ([]++(bytes [kd,nm.size]++[])):=ai.new wc.drew 5 [.int .u8 (kd:Nat),.int .u8 (nm.size:Nat)];exact lQ _ _ 2 _ _ _ _ h1 (fun x hx=>by simp at hx;omega) 0 2 rfl rfl
   have z1:¬9223372036854775807<x.size+tt.size:=by omega
   have z2:¬9223372036854775807<(x++tt).size+nm.size:=by rw[ByteArray.size_append];omega
   have z3:¬9223372036854775807<(x++tt++nm).size+sz.size:=by rw[ByteArray.size_append,ByteArray.size_append];omega
   have hwn:IntKind.u8.wrap (nm.size:Int)=(nm.size:Int):=by rw[IntKind.wrap_u8];omega
   have Z8:(x++tt++nm++sz).size<=100*(j+1):=by rw[ByteArray.size_append,ByteArray.size_append,ByteArray.size_append];omega
   clear N9;go_upto_region 26 with fail
   generalize wc=V at *;refine bF ?_;refine wp_region_held_drew (S:=fun w'=>w'.cell? (Za gk j)=some (.string nm)) (by kernel_rfl) (by exact cnm) (fun ah=>?_);refine Zt 0 (.string x) ?_;refine Zt 1 (.int .u8 (kd:Nat)) ?_;refine Zt 2 (.slice (Zs gk) K.length kc) ?_;refine Zt 3 (Zi j) ?_;refine Zt 4 (.pointer (some (Za gk j))) ?_;refine Zt 5 (.string nm) ?_;refine Zt 6 (Zi nm.size) ?_;refine Zt 7 (.int .u8 (nm.size:Nat)) ?_;refine Zt 11 (.slice (Zs gk) K.length kc) ?_;refine Zt 12 (Zi j) ?_;refine Zt 13 (.pointer (some (Za gk j))) ?_;refine Zt 14 (.string nm) ?_;refine Zt 16 (.string sz) ?_;refine Zh 8 fun K hK=>?_;refine aD rfl (v:=.slice (Zs V.drew.heap.size) 2 2) (w':=(V.drew.alloc (.cells #[.int .u8 (kd:Nat),.int .u8 (nm.size:Nat)] 5))) (by go_simp) ?_;refine hK.out _ _ (Oa) (fun ah=>?_);clear hK K;(try simp only[Act.put,lA,lZ,lS]);refine Zh 9 fun K hK=>?_;refine aD rfl (v:=.string tt) (w':=(V.drew.alloc (.cells #[.int .u8 (kd:Nat),.int .u8 (nm.size:Nat)] 5))) (by exact jg (by rfl) (by rfl) cv) ?_;refine hK.out _ _ (Oa) (fun ah=>?_);clear hK K;(try simp only[Act.put,lA,lZ,lS]);refine Zt 10 (.string (x++tt)) ?_ (hy:=Or.inl ⟨by rfl,by intro w hSw;go_simp<;>omega⟩);refine Zt 15 (.string (x++tt++nm)) ?_ (hy:=Or.inl ⟨by rfl,by intro w hSw;generalize x++tt=y1 at *;go_simp<;>omega⟩);refine Zt 17 (.string (x++tt++nm++sz)) ?_ (hy:=Or.inl ⟨by rfl,by intro w hSw;generalize x++tt++nm=y1 at *;go_simp<;>omega⟩);refine Zt 18 (.string (x++tt++nm++sz)) ?_;refine Zx ?_;simp only[At];have Yk:Hid _:=HFin.out _ bA;clear HFin YX HCN cF2 cv cnm Oa;go_wp2;exact⟨⟨j+1,x++tt++nm++sz,rfl,by push_cast;rfl,by omega,Z8,Yk.out⟩,by simp[RowKit.intOf];omega⟩
  ·have ej:j=K.length:=by omega
   have j1:¬(j:Int)<(K.length:Int):=by omega
   rw[ej,Hall.out] at HD;obtain⟨qZ,rq,hA,s1,f1⟩:=HD.out;have cH:=CQ hA (by omega) x (by omega);have Hth:Hid (∀wz m,dO c wr wz q r (.slice ag T.length cap) T m qZ rq->dO c w2 wz q r (.slice ag T.length cap) T m xv sv):=fun wz m k=>dO.then s1 f1 k;have hsx:=hsc.out x;generalize c.of x=sx at *;clear hA s1 f1 HD;go_wp2_with(go_at_call 99;refine cH.mono ?_;rintro e w5 ⟨rfl,h5⟩;have H5:Hid _:=h5;clear h5);go_ret;exact⟨sx,rfl,hsx,dO.more (dO.then (fun b hb=>.inl hb) (Fr.of_below HB2.out _) (Hth.out _ _ H5.out)) (by omega)⟩
theorem YZ(ok:aC T):∀(f:Nat) (p:Zy),(p=⟨#[]⟩\/∃x∈T,x.path=p)->oL T p<f->∀(w:World) (n:Nat) (xv sv:Value),oD c w q r tv T n xv sv->n+17*oL T p<=700000000->
  Zc 52 #[Zp q,.string p] w (AJ c w q r tv T (n+17*oL T p+17) xv sv)
 | 0,_,_,h0,_,_,_,_,_,_=>absurd h0 (by omega)
 | f+1,p,hp,hf,w,n,xv,sv,h,hn=>by
  have IH:=YZ ok f;by_cases um:∃k,∃hk:k<T.length,T[k].path=p/\T[k].dir=false
  ·obtain⟨k,hk,rfl,hd⟩:=um;refine(N8 h ok (by omega) k hk hd).mono ?_;rintro e w' ⟨s,h1,h2,h3⟩;exact⟨s,h1,h2,h3.more (by omega)⟩
  ·refine Ry ok p ?_ (fun k hk w n xv sv h1 h2=>IH (aA p k) ?_ (by have:=XD ok hk;omega) w n xv sv h1 h2) w n xv sv h hn
   ·rcases hp with rfl|⟨x,hx,rfl⟩
    ·exact .inl rfl
    ·obtain⟨k,hk,rfl⟩:=mem_iff_getElem.1 hx;refine .inr ⟨k,hk,rfl,?_⟩;cases hd:T[k].dir with
     | true=>rfl
     | false=>exact absurd ⟨k,hk,rfl,hd⟩ um
   ·obtain⟨_,x,hx,h3⟩:=(bD ok p k).1 hk;exact .inr ⟨x,hx,h3⟩
theorem kNeq(y x:It)(hp:y.path=x.path):∃b:Bool,(b=if y.dir=x.dir then if y.data.toList=x.data.toList then false else true else true)/\(b=false->y=x):=by
 refine⟨_,rfl,fun h=>?_⟩;split at h
 ·rename_i h1;split at h
  ·rename_i h2;obtain⟨a1,b1,c1⟩:=y;obtain⟨a2,b2,c2⟩:=x;simp only at hp h1 h2;rw[ByteArray.toList_eq,ByteArray.toList_eq] at h2;have:=WideShapes.bytes_inj h2;subst hp h1 this;rfl
  ·cases h
 ·cases h
def CV(L M:List It)(w:World)(e:Ending)(w':World):Prop:=∃b:Bool,e=.returned (.bool b)/\(b=true->L.length=M.length/\∀x∈L,x∈M)/\Below w.heap.size w w'
theorem aad(L M:List It)(va vb:Value)(w:World)(ha:tY w va L)(hb:tY w vb M)(hl:L.length<=100000)(hm:M.length<=100000):
  Zc 37 #[va,vb] w (CV L M w):=by
 obtain⟨aa,ga,ca,rfl,haa,hac⟩:=ha.cells;have HBI:Hid (∀w',Below w.heap.size w w'->tY w' vb M):=fun w' h=>by
  obtain⟨ag,g,cap,h1,h2,h3⟩:=hb;exact⟨ag,g,cap,h1,h2,fun j v hv=>by have:=h3 j v hv;rw[h.cell (Zd this)];exact this⟩
 obtain⟨ab,gb,cb,rfl,hab,hbc⟩:=hb.cells;have HAA:Hid _:=haa;have HAC:Hid _:=hac;have HAB:Hid _:=hab;have HBC:Hid _:=hbc;clear haa hac hab hbc ha hb;by_cases hlen:L.length=M.length
 ·have hlb:((L.length:Int) !=(M.length:Int))=false:=by simp;omega
  have Hlen:Hid _:=hlen;have hlb2:¬(L.length:Int)≠(M.length:Int):=by omega
  clear hlen;go_enter func37,ntmps37;go_wp2;go_loopw [5] (fun iv wr=>∃i:Nat,iv=(Zi i)/\i<=L.length/\Hid (∀x∈L.take i,x∈M)/\Hid (Below w.heap.size w wr)) (fun iv _=>L.length-(RowKit.intOf iv).toNat)
  case atStart=>exact⟨0,rfl,Nat.zero_le _,(fun x hx=>by simp at hx),Zr⟩
  case round=>
   obtain⟨i,rfl,hi,HIn,HB⟩:=hrel;by_cases hlt:i<L.length
   ·have i0:(0:Int)<=(i:Int):=by omega
    have i1:(i:Int)<(L.length:Int):=by omega
    obtain rfl:=HAA.out (by omega);obtain⟨q0,q1,q2⟩:=HAC.out i hlt;have hgl:ga<w.heap.size:=Zd q0;rw[<-HB.out.cell hgl] at q0 q1 q2;have cF:=qY M L[i].path _ wr (HBI.out wr HB.out) hm;have HTk:Hid (L.take (i+1)=L.take i++[L[i]]):=take_succ_eq_append_getElem hlt;rcases iA M L[i].path with⟨hf,_⟩|⟨k,hk,hf,hpk⟩
    ·rw[hf] at cF;generalize L[i]=x at *;go_upto_region 7 with(go_at_call 54;refine cF.mono ?_;rintro e w1 ⟨rfl,rfl⟩)
     refine bF ?_;refine wp_region_held_drew (S:=fun _=>True) (by kernel_rfl) trivial (fun ah=>?_);refine Zt 0 (.int .i64 (-1)) ?_;refine Zt 1 (.bool true) ?_;refine Zt 2 (.bool true) ?_;refine Zu 3 ?_;refine Zu 4 ?_;refine Zu 5 ?_;refine Zu 6 ?_;refine Zu 7 ?_;refine Zu 8 ?_;refine Zu 9 ?_;refine Zu 10 ?_;refine Zu 11 ?_;refine Zt 12 (.bool true) ?_;refine Zx ?_;simp only[At];go_wp2;go_ret;exact⟨false,rfl,by simp,HB.out.drew⟩
    ·rw[hf] at cF;have k0:(0:Int)<=(k:Int):=by omega
     have k1:(k:Int)<(M.length:Int):=by omega
     have k3:¬(k:Int)<0:=by omega
     obtain rfl:=HAB.out (by omega);obtain⟨p0,p1,p2⟩:=HBC.out k hk;have hgl2:gb<w.heap.size:=Zd p0;rw[<-HB.out.cell hgl2] at p0 p1 p2;have HMk:Hid (M[k]∈M):=Zg hk;generalize L[i]=x at *;generalize M[k]=y at *;obtain⟨nb,hnb,hnb2⟩:=kNeq y x hpk;have Hnb:Hid _:=hnb;have Hnb2:Hid _:=hnb2;clear hnb hnb2;go_upto_region 7 with(go_at_call 54;refine cF.mono ?_;rintro e w1 ⟨rfl,rfl⟩)
     refine bF ?_;refine wp_region_held_drew (S:=fun w'=>w'.cell? (Za ga (i*3))=some (.string x.path)/\w'.cell? (Za ga (i*3+1))=some (.bool x.dir)/\w'.cell? (Za ga (i*3+2))=some (.string x.data)/\w'.cell? (Za gb (k*3))=some (.string y.path)/\w'.cell? (Za gb (k*3+1))=some (.bool y.dir)/\w'.cell? (Za gb (k*3+2))=some (.string y.data)) (by kernel_rfl) ⟨q0,q1,q2,p0,p1,p2⟩ (fun ah=>?_);refine Zt 0 (Zi k) ?_;refine Zt 1 (.bool false) ?_;refine Zt 2 (.bool false) ?_;refine Zt 3 (.slice (Zs gb) M.length cb) ?_;refine Zt 4 (Zi k) ?_;refine Zt 5 (.pointer (some (Za gb (k*3)))) ?_;refine Zt 6 (.agg #[.string y.path,.bool y.dir,.string y.data]) ?_;refine Zt 7 (.slice (Zs ga) L.length ca) ?_;refine Zt 8 (Zi i) ?_;refine Zt 9 (.pointer (some (Za ga (i*3)))) ?_;refine Zt 10 (.agg #[.string x.path,.bool x.dir,.string x.data]) ?_;refine Zt 11 (.bool nb) ?_ (hy:=Or.inl ⟨by rfl,by intro w hSw;go_simp;rw[Hnb.out];split<;>(try split)<;>rfl⟩);refine Zt 12 (.bool nb) ?_;refine Zx ?_;simp only[At];cases nb with
     | true=>
      go_wp2;go_ret;exact⟨false,rfl,by simp,HB.out.drew⟩
     | false=>
      have HIn2:Hid (∀z∈L.take (i+1),z∈M):=fun z hz=>by
       rw[HTk.out] at hz;rcases mem_append.1 hz with h1|h1
       ·exact HIn.out z h1
       ·rw[Zm.1 h1,<-Hnb2.out rfl];exact HMk.out
      clear HIn HMk HTk;go_wp2;exact⟨⟨i+1,by push_cast;rfl,by omega,HIn2.out,HB.out.drew⟩,by simp[RowKit.intOf];omega⟩
   ·have ei:i=L.length:=by omega
    have i1:¬(i:Int)<(L.length:Int):=by omega
    have HAll:Hid (∀x∈L,x∈M):=fun x hx=>HIn.out x (by rw[ei,take_length];exact hx);clear HIn;go_wp2;go_ret;refine⟨true,rfl,fun _=>?_,HB.out⟩;exact⟨Hlen.out,HAll.out⟩
 ·have hlb:((L.length:Int) !=(M.length:Int))=true:=by simp;omega
  have hlb2:(L.length:Int)≠(M.length:Int):=by omega
  go_enter func37,ntmps37;go_wp2;go_ret;exact⟨false,rfl,by simp,Zr⟩
def iX(l:List Zy):Nat->Nat
 | 0=>0
 | k+1=>if l.getD k ByteArray.empty=aX then iX l k else k+1
theorem Oc(h:aB w d S)(ok:S.Ok)(k:Nat)(hk:k<S.safe.length):
  Zc 63 #[Zp d.p,Zi k] w fun e w'=>e=.returned (.tuple #[.string (S.seen.getD k ByteArray.empty),.int .i64 0])/\aB w' d S/\Fr w w' [d.p]:=
 MU (N:=fun w'=>aB w' d S) (m:= -1) (jH h ok k hk) (fun w1 h1=>(rZ w1).mono fun e w' he=>by
  obtain⟨h2,rfl⟩:=he;exact⟨h2,h1,Fr.refl _ _⟩)
theorem aaL(h:aB w d S)(ok:S.Ok)(Yw:q≠d.p)(c1:w.cell? (Za q 1)=some (Zp d.p)):
  Zc 38 #[Zp q] w fun e w'=>∃lv,e=.returned (.tuple #[(Zi (iX S.seen S.safe.length)),lv])/\w'.ownsRow w.heap.size 9 1 lv S.safe.length (bN S.seen)/\aB w' d S/\Fr w w' [d.p]:=by
 have jD:=ok.most;have cS:=fK h ok;have tH:q<w.heap.size:=Zd c1;have hsl:S.seen.length=S.safe.length:=S.seen_length;have hdp:d.p<w.heap.size:=h.row.lt;have GR:Hid (∀b∈d.blocks,b<w.heap.size):=h.lt;have HC1:Hid (∀w',Fr w w' [d.p]->w'.cell? (Za q 1)=some (Zp d.p)):=fun w' f=>by rw[World.cell?_of_block (f.block q tH (by simp;exact Yw))];exact c1
 have HR:Hid (∀w' k,aB w' d S->k<S.safe.length->Zc 63 #[Zp d.p,Zi k] w' fun e w2=>e=.returned (.tuple #[.string (S.seen.getD k ByteArray.empty),.int .i64 0])/\aB w2 d S/\Fr w' w2 [d.p]):=fun w' k hd hk=>Oc hd ok k hk;have HU:Hid (∀k,iX S.seen (k+1)=if S.seen.getD k ByteArray.empty=aX then iX S.seen k else k+1):=fun k=>rfl;have HT:Hid (∀k,k<S.seen.length->bN (S.seen.take (k+1))=bN (S.seen.take k)++[.string (S.seen.getD k ByteArray.empty)]):=fun k hk=>by
  rw[take_succ_eq_append_getElem hk,getD_eq_getElem?_getD,getElem?_eq_getElem hk];unfold bN;rw[map_append];rfl
 have HTA:Hid (bN (S.seen.take S.safe.length)=bN S.seen):=by show _=_;rw[<-hsl,take_length]
 have hmk:(Instr.makeSlice 124 (.int .i64 64) (.int .i64 64)).run prog w=.ok (.slice (Zs w.heap.size) 64 64) (w.alloc (.cells (bytes (replicate 64 0)).toArray 5)):=P8 w 64 (by decide);have hcv:(convert 124 9 (.slice (Zs w.heap.size) 64 64)).run prog (w.alloc (.cells (bytes (replicate 64 0)).toArray 5))=.ok (.string aX) (w.alloc (.cells (bytes (replicate 64 0)).toArray 5)):=by
  have h1:ai (w.alloc (.cells (bytes (replicate 64 0)).toArray 5)) w.heap.size 5 ([]++(bytes (replicate 64 0)++[])):=by rw[append_nil,nil_append];exact ai.new w 5 _
  exact lQ _ _ 64 _ _ _ _ h1 (fun x hx=>by rw[eq_of_mem_replicate hx];decide) 0 64 rfl (by simp)
 have bA:Below w.heap.size w (w.alloc (.cells (bytes (replicate 64 0)).toArray 5)):=(Zr).alloc (Zn) _;have HD0:Hid (aB (w.alloc (.cells (bytes (replicate 64 0)).toArray 5)) d S):=h.below bA;obtain⟨i0,hi,hz0,hz1,hz2⟩:=info_parts I7;generalize S.safe.length=m at *;generalize hze:aX=z0 at *;generalize(bytes (replicate 64 0)).toArray=Zb at *;clear h hze;go_enter func38,ntmps38;go_wp2_with(go_at_call 62;refine cS.mono ?_;rintro e w1 ⟨rfl,rfl⟩);have f0:Fr w (w.alloc (.cells Zb 5)) [d.p]:=(Fr.refl _ _).alloc _;have HF0:Hid _:=f0;clear f0 hmk hcv bA cS;generalize(w.alloc (.cells Zb 5))=W at *;go_loopw [4,5,8] (fun nv lv iv wr=>∃(k:Nat) (ao:Option Addr) (co:Nat),nv=(Zi (iX S.seen k))/\lv=.slice ao k co/\iv=(Zi k)/\k<=m/\Hid (wr.ownsRow w.heap.size 9 1 (.slice ao k co) k (bN (S.seen.take k)))/\Hid (aB wr d S)/\Hid (Fr w wr [d.p])) (fun _ _ iv _=>m-(RowKit.intOf iv).toNat)
 case atStart=>exact⟨0,none,0,rfl,rfl,rfl,Nat.zero_le _,World.ownsRow_nil _ _ _ _,HD0.out,HF0.out⟩
 case round=>
  obtain⟨k,ao,co,rfl,rfl,rfl,hk,HO,HD,HF⟩:=hrel;by_cases hlt:k<m
  ·have k1:(k:Int)<(m:Int):=by omega
   have c1r:=HC1.out wr HF.out;have cR:=HR.out wr k HD.out hlt;have hT:=HT.out k (by omega);have hU:=HU.out k;have HT1:Hid _:=hT;have HUk:Hid _:=hU;generalize S.seen.getD k ByteArray.empty=x at *;have KV:Hid (∀b∈(Value.slice ao k co).ownBlock.toList,w.heap.size<=b):=fun b hb=>(World.ownsRow.lt HO.out b (Zo.1 hb)).1;have HOf:Hid (∀w5,Fr wr w5 [d.p]->w5.ownsRow w.heap.size 9 1 (.slice ao k co) k (bN (S.seen.take k))):=fun w5 f=>aT HO.out f (fun g hg hm=>by have:=KV.out g (Zo.2 hg);rw[Zm.1 hm] at this;omega);clear hT hU HO c1;by_cases hx:x=z0
   ·have hb:(x.toList==z0.toList)=true:=by rw[gP];simpa using hx
    rw[if_pos hx] at HUk;clear hx;go_wp2_with(first
     | (go_at_call 63;refine cR.mono ?_;rintro e w5 ⟨rfl,hd5,qR⟩;have Sg:=HOf.out _ qR;have hs5:=qR.size;have hsw:=HF.out.size)
     | (at_builtin;(refine wpList_append_lies _ rfl _ _ 35 rfl w.heap.size 9 i0 (.string ByteArray.empty) 1 16 underlying35 hi hz0 hz1 hz2 rfl (by decide) (.slice ao k co) k (bN (S.seen.take k)) rfl (World.ownsRow.alloc Sg _) (Za w5.heap.size 0) 1 1 [.string x] rfl rfl (World.news_of_block (cs:=#[.string x]) (heap_alloc_new w5 _)) (by intro u hu;simp at hu;subst hu;rfl) (by decide) (by unfold maxLen;omega) (by omega) (by simp;omega) _ rfl ?_;intro gg cc w6 aY aN hat hlt6)))
    have fg:Fr w5 w6 (Value.slice ao k co).ownBlock.toList:=((Fr.refl w5 _).alloc _).grown aN (fun b e=>.inl (Zo.2 e));refine⟨⟨k+1,some (Za gg 0),cc,by rw[HUk.out],rfl,by push_cast;rfl,by omega,by show World.ownsRow _ _ _ _ _ _ _;rw[HT1.out];exact aY,hd5.fr fg (fun b hb hm=>by have:=GR.out b hb;have:=KV.out b hm;omega),(HF.out.trans qR (fun x hx _=>hx)).trans fg (fun b hb hl=>by have:=KV.out b hb;omega)⟩,by simp[RowKit.intOf];omega⟩
   ·have hb:(x.toList==z0.toList)=false:=by rw[gP];simpa using hx
    rw[if_neg hx] at HUk;clear hx;go_wp2_with(first
     | (go_at_call 63;refine cR.mono ?_;rintro e w5 ⟨rfl,hd5,qR⟩;have Sg:=HOf.out _ qR;have hs5:=qR.size;have hsw:=HF.out.size)
     | (at_builtin;(refine wpList_append_lies _ rfl _ _ 35 rfl w.heap.size 9 i0 (.string ByteArray.empty) 1 16 underlying35 hi hz0 hz1 hz2 rfl (by decide) (.slice ao k co) k (bN (S.seen.take k)) rfl (World.ownsRow.alloc Sg _) (Za w5.heap.size 0) 1 1 [.string x] rfl rfl (World.news_of_block (cs:=#[.string x]) (heap_alloc_new w5 _)) (by intro u hu;simp at hu;subst hu;rfl) (by decide) (by unfold maxLen;omega) (by omega) (by simp;omega) _ rfl ?_;intro gg cc w6 aY aN hat hlt6)))
    have fg:Fr w5 w6 (Value.slice ao k co).ownBlock.toList:=((Fr.refl w5 _).alloc _).grown aN (fun b e=>.inl (Zo.2 e));refine⟨⟨k+1,some (Za gg 0),cc,by rw[HUk.out];push_cast;rfl,rfl,by push_cast;rfl,by omega,by show World.ownsRow _ _ _ _ _ _ _;rw[HT1.out];exact aY,hd5.fr fg (fun b hb hm=>by have:=GR.out b hb;have:=KV.out b hm;omega),(HF.out.trans qR (fun x hx _=>hx)).trans fg (fun b hb hl=>by have:=KV.out b hb;omega)⟩,by simp[RowKit.intOf];omega⟩
  ·have ek:k=m:=by omega
   subst ek;have k1:¬(k:Int)<(k:Int):=by omega
   go_wp2;refine bodyPost_ret (results_tmp2 rfl _ _ _) rfl ?_;exact⟨_,rfl,by rw[<-HTA.out];exact HO.out,HD.out,HF.out⟩
def kW:Nat->Nat->Zy->List (Nat × Zy)
 | 0,_,_=> []
 | f+1,i,t=>(i,t.extract 0 64)::kW f (i+1) (t.extract 64 t.size)
theorem qo(l:List Zy)(a b:List (Nat × Zy)):over l (a++b)=over (over l a) b:=by
 unfold over;rw[foldl_append]
theorem AL:∀(n:Nat) (S:Dk) (i:Nat) (t:Zy),S.fuse=0->S.down=false->gY n S i t=({S with safe:=over S.seen (kW n i t),wait:=[]},0)
 | 0,S,i,t,hf,hd=>by
  unfold gY;rw[su S hf hd];rfl
 | n+1,S,i,t,hf,hd=>by
  unfold gY;rw[sw S i _ hf hd,if_neg (by simp)];show gY n {S with wait:=S.wait++[(i,t.extract 0 64)]} (i+1) (t.extract 64 t.size)=_;rw[AL n {S with wait:=S.wait++[(i,t.extract 0 64)]} (i+1) (t.extract 64 t.size) hf hd];have e:Dk.seen {S with wait:=S.wait++[(i,t.extract 0 64)]}=over S.seen [(i,t.extract 0 64)]:=by
   show over S.safe (S.wait++[(i,t.extract 0 64)])=_;rw[qo];rfl
  simp only[e];rw[<-qo];rfl
theorem U0(S:Dk)(i:Nat)(data:Zy)(j:Nat)(last:Zy)(hf:S.fuse=0)(hd:S.down=false):
  kG S i data j last=({S with safe:=over S.seen (kW (data.size / 64) i data++kW (last.size / 64) j last),wait:=[]},0):=by
 unfold kG;split
 ·rename_i h0;rw[AL _ S j last hf hd,h0];rfl
 ·rw[AL _ S i data hf hd,if_neg (by simp)];rw[AL _ _ j last (by exact hf) (by exact hd),qo];rfl
theorem wW{t:Zy}{x:Nat × Zy}(h:x∈kW f i t):i<=x.1/\x.1<i+f:=by
 induction f generalizing i t with
 | zero=>cases h
 | succ f ih=>
  rcases mem_cons.1 h with rfl|h1
  ·exact⟨Zn,by show i<i+(f+1);omega⟩
  ·have:=ih h1;omega
theorem La(l:List Zy)(ws:List (Nat × Zy))(k:Nat)(h:∀x∈ws,x.1≠k):(over l ws).getD k ByteArray.empty=l.getD k ByteArray.empty:=by
 induction ws generalizing l with
 | nil=>rfl
 | cons x ws ih=>
  show(over (l.set x.1 x.2) ws).getD k ByteArray.empty=_;rw[ih _ (fun y hy=>h y (by simp[hy])),getD_eq_getElem?_getD,getD_eq_getElem?_getD,getElem?_set_ne (h x (by simp))]
theorem Od(l:List Zy)(f i:Nat)(t:Zy)(hf:0<f)(hi:i<l.length):(over l (kW f i t)).getD i ByteArray.empty=t.extract 0 64:=by
 obtain⟨f,rfl⟩:∃g,f=g+1:=⟨f-1,by omega⟩;show(over (l.set i (t.extract 0 64)) (kW f (i+1) (t.extract 64 t.size))).getD i ByteArray.empty=_;rw[La _ _ _ (fun x hx=>by have:=(wW hx).1;omega),getD_eq_getElem?_getD,getElem?_set_self hi];rfl
theorem ve(l:List Zy):∀k,iX l k<=k
 | 0=>Zn
 | k+1=>by
  unfold iX;split
  ·have:=ve l k;omega
  ·exact Zn
theorem sP(l:List Zy)(p:Nat):∀k,p<=k->(∀i,p<=i->i<k->l.getD i ByteArray.empty=aX)->iX l k<=p
 | 0,h,_=>by unfold iX;omega
 | k+1,h,hz=>by
  by_cases e:p=k+1
  ·rw[e];exact ve l (k+1)
  ·unfold iX;rw[if_pos (hz k (by omega) (by omega))];exact sP l p k (by omega) (fun i h1 h2=>hz i h1 (by omega))
theorem zy(l:List Zy)(p:Nat)(hp:l.getD p ByteArray.empty≠aX):∀k,p<k->p+1<=iX l k
 | 0,h=>absurd h (by omega)
 | k+1,h=>by
  unfold iX;by_cases e:p=k
  ·subst e;rw[if_neg hp];exact Zn
  ·split
   ·exact zy l p hp k (by omega)
   ·omega
theorem Oe(c:dz)(T:List Ob)(s:Dr)(k:Nat)(t:Zy):hasO T k (c.of t)=true\/hasO (s.object c T k t).A k (c.of t)=true:=by
 unfold Dr.object;split
 ·assumption
 ·refine .inr ?_;show hasO (pO s.A _) k (c.of t)=true;rw[uq];simp
theorem Lb(c:dz)(T:List Ob)(s:Dr)(k:Nat)(t:Zy){x:Zy}(h:hasO s.A k' x=true):hasO (s.object c T k t).A k' x=true:=by
 unfold Dr.object;split
 ·exact h
 ·show hasO (pO s.A _) k' x=true;rw[uq,h];rfl
theorem FK(c:dz)(T:List Ob):∀(l:List (Nat × Zy)) (s:Dr) {k':Nat} {x:Zy},hasO s.A k' x=true->hasO (s.puts c T l).A k' x=true
 |[],_,_,_,h=>h
 | y::l,s,_,_,h=>FK c T l (s.object c T y.1 y.2) (Lb c T s y.1 y.2 h)
theorem Lc(c:dz)(T:List Ob):∀(l:List (Nat × Zy)) (s:Dr),∀y∈l,hasO T y.1 (c.of y.2)=true\/hasO (s.puts c T l).A y.1 (c.of y.2)=true
 |[],_,_,h=>absurd h (by simp)
 | z::l,s,y,h=>by
  rcases mem_cons.1 h with rfl|h1
  ·rcases Oe c T s y.1 y.2 with h2|h2
   ·exact .inl h2
   ·exact .inr (FK c T l _ h2)
  ·exact Lc c T l (s.object c T z.1 z.2) y h1
theorem FL(c:dz)(T:List Ob):∀(l:List (Nat × Zy)) (s:Dr),(∀y∈l,hasO T y.1 (c.of y.2)=true)->s.puts c T l=s
 |[],_,_=>rfl
 | z::l,s,h=>by
  have e:s.object c T z.1 z.2=s:=by
   unfold Dr.object;rw[if_pos (.inl (h z (by simp)))]
  show(s.object c T z.1 z.2).puts c T l=s;rw[e];exact FL c T l s (fun y hy=>h y (by simp[hy]))
theorem kM(a b:Zy)(i:Nat)(h:i<a.size):(a++b).data.toList[i]? =a.data.toList[i]? :=by
 have:(a++b).data.toList=a.data.toList++b.data.toList:=by simp[ByteArray.data_append]
 rw[this,getElem?_append_left (by simpa using h)]
theorem Rz(kind num:Nat)(t:Zy):(o6 kind num t).data.toList[2]? =some (UInt8.ofNat kind):=by
 unfold o6;rw[kM _ _ 2 (by rw[ByteArray.size_append,aZ,aZ];simp[iU])];have:(text (iU t.size)++text [kind]).data.toList=(text (iU t.size)).data.toList++(text [kind]).data.toList:=by simp[ByteArray.data_append]
 rw[this,getElem?_append_right (by show(text (iU t.size)).data.toList.length<=2;simp[text,iU])];simp[text,iU]
theorem aae(num c0:Nat)(t:Zy):(mq 4 num c0 t).extract 0 64≠aX:=fun e=>by
 have h1:((mq 4 num c0 t).extract 0 64).data.toList[2]? =some 4:=by
  have e2:((mq 4 num c0 t).extract 0 64).data.toList[2]? =(mq 4 num c0 t).data.toList[2]? :=by simp[ByteArray.data_extract]
  rw[e2];unfold mq jB;rw[kM _ _ 2 (by rw[ByteArray.size_append,ByteArray.size_append,nD];omega),kM _ _ 2 (by rw[ByteArray.size_append,nD];omega),kM _ _ 2 (by rw[nD];decide),Rz];rfl
 rw[e] at h1;have h2:aX.data.toList[2]? =some 0:=by decide +kernel
 rw[h2] at h1;simp at h1
theorem Ad(H A:List Ob)(k:Nat)(x:Zy):hasO (H++A) k x=(hasO H k x||hasO A k x):=by
 unfold hasO gH;rw[find?_append];cases H.find? (WE k x)<;>rfl
structure vS(A:jc):Prop where
 fuse:A.S.fuse=0
 up:A.S.down=false
 wait:A.S.wait=[]
 dn:A.dn=false
 zeros:∀i,A.pos<=i->i<A.S.safe.length->A.S.safe.getD i ByteArray.empty=aX
 near:∃i,i<A.pos/\A.pos<=i+2/\A.S.safe.getD i ByteArray.empty≠aX
 num:A.num<=A.pos
 h:A.H.length<=A.pos
 i:A.I.length<=A.pos
structure Dr.Cn(s:Dr)(i num:Nat):Prop where
 a:s.A.length+i<=s.pos
 n:s.num+i<=s.pos+num
theorem Dr.Cn.object{T:List Ob}{s:Dr}(h:s.Cn i num)(k:Nat)(t:Zy):(s.object c T k t).Cn i num:=by
 unfold Dr.object;split
 ·exact h
 ·have h1:=h.a;have h2:=h.n;have h3:=nM s.A ⟨c.of t,k,s.pos,t.size⟩;exact⟨by show(pO s.A _).length+i<=s.pos+(11+t.size+63) / 64;omega,by show s.num+1+i<=s.pos+(11+t.size+63) / 64+num;omega⟩
theorem Dr.Cn.puts{T:List Ob}:∀(l:List (Nat × Zy)) {s:Dr},s.Cn i num->(s.puts c T l).Cn i num
 |[],_,h=>h
 | x::l,_,h=>Dr.Cn.puts l (h.object x.1 x.2)
theorem U1{n1 n2:Nat}(ok:S.Ok)(hf:S.fuse<=9223372036854775807)(h1:data.size=64*n1)(h2:last.size=64*n2)(hi:i+n1<=S.safe.length)(hj:j+n2<=S.safe.length)(hw:S.wait.length+n1+n2<=999999):(kG S i data j last).1.Ok:=by
 unfold kG;have e1:data.size / 64=n1:=by omega
 have e2:last.size / 64=n2:=by omega
 rw[e1,e2];split
 ·exact(pV n2 S j last ok hf h2 hj (by omega)).1
 ·have f1:=pV n1 S i data ok hf h1 hi (by omega);split
  ·exact f1.1
  ·exact(pV n2 _ j last f1.1 f1.2.1 h2 (by rw[f1.2.2.1];exact hj) (by have:=f1.2.2.2;omega)).1
theorem CW(hu:vS A)(hf:A.Fit)(label:Zy):
  (dJ c A label=((0,11),A)\/dJ c A label=((0,12),A))\/∃A',dJ c A label=((A.I.length+1,0),A')/\vS A'/\A'.Fit/\A'.L=A.L/\A'.I=A.I++[(dQ c A,label)]/\A'.S.safe.length=A.S.safe.length/\
   (∀k x,hasO A.H k x=true->hasO A'.H k x=true)/\(∀y∈iM c A.L 300 ⟨#[]⟩,hasO A'.H y.1 (c.of y.2)=true)/\(∀i,i<A.pos->A'.S.safe.getD i ByteArray.empty=A.S.safe.getD i ByteArray.empty)/\A.pos+1<=iX A'.S.safe A.S.safe.length/\
   ((∀y∈iM c A.L 300 ⟨#[]⟩,hasO A.H y.1 (c.of y.2)=true)->iX A'.S.safe A.S.safe.length<=A.pos+2):=by
 obtain⟨hfit,hal⟩:=zX (c:=c) hf;have hcn:(bq c A).Cn A.pos A.num:=Dr.Cn.puts _ ⟨by show 0+A.pos<=A.pos;omega,by show A.num+A.pos<=A.pos+A.num;omega⟩;have hsame:(∀y∈iM c A.L 300 ⟨#[]⟩,hasO A.H y.1 (c.of y.2)=true)->(bq c A).pos=A.pos:=fun h=>by unfold bq;rw[FL c A.H _ _ h]
 have hhas:=Lc c A.H (iM c A.L 300 ⟨#[]⟩) ⟨[],⟨#[]⟩,A.pos,A.num,A.crc⟩;have hdef:(⟨[],⟨#[]⟩,A.pos,A.num,A.crc⟩:Dr).puts c A.H (iM c A.L 300 ⟨#[]⟩)=bq c A:=rfl;rw[hdef] at hhas;have hrt:(dQ c A).size=32:=c.size _;unfold dJ;rw[if_neg (by rw[hu.dn];decide)];by_cases hb:20<label.size
 ·rw[if_pos hb];exact .inl (.inl rfl)
 rw[if_neg hb];generalize bq c A=s1 at *;have htx:(bZ (A.I.length+1) (dQ c A) label).size<=56:=by
  unfold bZ;rw[ByteArray.size_append,ByteArray.size_append,aZ,hrt];show 4+32+label.size<=56;omega
 generalize bZ (A.I.length+1) (dQ c A) label=tx at *;by_cases hfull:A.S.safe.length<s1.pos+(11+tx.size+63) / 64
 ·rw[if_pos hfull];exact .inl (.inr rfl)
 rw[if_neg hfull];have hls:=oJ 4 s1.num s1.crc tx;have hne:=aae s1.num s1.crc tx;have hcr:gB 4 s1.num s1.crc tx<4294967296:=yO _;generalize mq 4 s1.num s1.crc tx=last at *;have hk:=U0 A.S A.pos s1.data s1.pos last hu.fuse hu.up;have hap:=hal.pos;have hd64:s1.data.size / 64=s1.pos-A.pos:=by rw[hal.data];omega
 obtain⟨k2,hk2⟩:∃k2,k2=(11+tx.size+63) / 64:=⟨_,rfl⟩;rw[<-hk2] at hls hfull⊢;have vo:last.size / 64=k2:=by rw[hls];omega
 have hk12:1<=k2/\k2<=2:=by omega
 rw[hd64,vo] at hk;have aaM:A.S.seen=A.S.safe:=by unfold Dk.seen;rw[hu.wait];rfl
 rw[aaM] at hk;have jD:=hf.ok.most;have hok:(kG A.S A.pos s1.data s1.pos last).1.Ok:=U1 hf.ok hf.fuse (n1:=s1.pos-A.pos) (n2:=k2) hal.data (by omega) (by omega) (by omega) (by rw[hu.wait];simp;omega);rw[hk] at hok⊢;rw[if_neg (by simp)];have hlen:(over A.S.safe (kW (s1.pos-A.pos) A.pos s1.data++kW k2 s1.pos last)).length=A.S.safe.length:=ng _ _;have hout:∀i,i<A.pos\/s1.pos+k2<=i->(over A.S.safe (kW (s1.pos-A.pos) A.pos s1.data++kW k2 s1.pos last)).getD i ByteArray.empty=A.S.safe.getD i ByteArray.empty:=fun i hi=>La _ _ _ fun x hx=>by
  rcases mem_append.1 hx with h1|h1
  ·have:=wW h1;omega
  ·have:=wW h1;omega
 have hat:(over A.S.safe (kW (s1.pos-A.pos) A.pos s1.data++kW k2 s1.pos last)).getD s1.pos ByteArray.empty≠aX:=by
  rw[qo,Od _ _ _ _ (by omega) (by rw[ng];omega)];exact hne
 generalize over A.S.safe (kW (s1.pos-A.pos) A.pos s1.data++kW k2 s1.pos last)=CZ at *;have hcna:=hcn.a;have hcnn:=hcn.n;have hun:=hu.num;have huh:=hu.h;have hui:=hu.i;have hfp:=hf.pos;refine .inr ⟨_,rfl,?_,?_,rfl,rfl,hlen,?_,?_,fun i hi=>hout i (.inl hi),?_,fun hall=>?_⟩
 ·refine⟨hu.fuse,hu.up,rfl,hu.dn,fun i h1 h2=>?_,⟨s1.pos,by show s1.pos<s1.pos+k2;omega,by show s1.pos+k2<=s1.pos+2;omega,hat⟩,by show s1.num+1<=s1.pos+k2;omega,by show(A.H++s1.A).length<=s1.pos+k2;rw[length_append];omega,by show(A.I++[_]).length<=s1.pos+k2;rw[length_append];show A.I.length+1<=_;omega⟩;have h1':s1.pos+k2<=i:=h1;have h2':i<CZ.length:=h2;show CZ.getD i ByteArray.empty=aX;rw[hout i (.inr h1')];exact hu.zeros i (by omega) (by omega)
 ·refine⟨hok,hf.fuse,Nat.zero_le _,hf.tree,hf.kids,?_,?_,hcr,?_,?_⟩
  ·show s1.pos+k2<=CZ.length;omega
  ·show s1.num+1<=5000;omega
  ·show(A.H++s1.A).length<=50000;rw[length_append];omega
  ·show(A.I++[_]).length<=5000;rw[length_append];show A.I.length+1<=5000;omega
 ·intro k x hx;show hasO (A.H++s1.A) k x=true;rw[Ad,hx];rfl
 ·intro y hy;show hasO (A.H++s1.A) y.1 (c.of y.2)=true;rw[Ad];rcases hhas y hy with h1|h1
  ·rw[h1];rfl
  ·rw[h1];simp
 ·show A.pos+1<=iX CZ A.S.safe.length;have:=zy CZ s1.pos hat A.S.safe.length (by omega);omega
 ·have e:=hsame hall;show iX CZ A.S.safe.length<=A.pos+2;have:=sP CZ (s1.pos+k2) A.S.safe.length (by omega) (fun i h1 h2=>by
   rw[hout i (.inr h1)];exact hu.zeros i (by omega) (by omega))
  omega
theorem ru(h:L.Perm M)(p:Zy):aj p L=aj p M:=by
 have hp:(aj p L).Perm (aj p M):=(qL p L).trans (((h.filter _).map _).trans (qL p M).symm);refine hp.eq_of_pairwise (le:=WZ) (fun a b _ _ h1 h2=>?_) (uF p L) (uF p M);exact ji (List.le_antisymm h1 h2)
theorem sQ(h:L.Perm M){p:Zy}(hd:bC L p):bC M p:=hd.imp id fun⟨y,hy,r⟩=>⟨y,h.mem_iff.1 hy,r⟩
theorem aC.perm(h:L.Perm M)(ok:aC L):aC M:=
 ⟨(h.map It.path).nodup_iff.1 ok.apart,fun x hx=>by
  obtain⟨p,k,h1,h2,h3⟩:=ok.up x (h.mem_iff.2 hx);exact⟨p,k,h1,h2,sQ h h3⟩,fun x hx=>ok.size x (h.mem_iff.2 hx),fun x hx=>ok.data x (h.mem_iff.2 hx),by rw[<-h.length_eq];exact ok.few,fun x hx=>ok.bare x (h.mem_iff.2 hx)⟩
theorem dD.perm{blk mblk:Zy->Nat}(h:L.Perm M)(t:dD w L blk mblk):dD w M blk mblk:=
 ⟨fun p hp=>by
  obtain⟨h1,h2,D,h3,h4,h5⟩:=t.dir p (sQ h.symm hp);exact⟨h1,h2,D,h3,by rw[<-ru h p];exact h4,by rw[<-ru h p];exact h5⟩,fun x hx=>t.file x (h.mem_iff.2 hx),fun p q hp hq=>t.apart p q (sQ h.symm hp) (sQ h.symm hq)⟩
theorem Ae(h:L.Perm M)(blk mblk:Zy->Nat)(hb:b∈aP M blk mblk):b∈aP L blk mblk:=by
 unfold aP at hb⊢;simp only[mem_cons,mem_flatMap] at hb⊢;refine hb.imp id (Or.imp id fun⟨x,hx,r⟩=>⟨x,h.mem_iff.2 hx,r⟩)
theorem vg(ok:aC L)(hx:x∈L):qV L x.path=x.dir/\vB L x.path=x.data:=by
 obtain⟨k,hk,rfl⟩:=mem_iff_getElem.1 hx;unfold qV vB iY vP;rw[oF ok.apart hk];simp[hk]
theorem C8(c:dz)(h:L.Perm M)(ok:aC L):∀(f:Nat) (x:Zy),kF c L f x=kF c M f x
 | 0,_=>rfl
 | f+1,x=>by
  rw[sN,sN,<-ru h x];congr 1;refine map_congr_left fun k hk=>?_;obtain⟨_,y,hy,e⟩:=(bD ok x k).1 hk;have h1:=vg ok hy;have h2:=vg (ok.perm h) (h.mem_iff.1 hy);unfold iD;rw[<-e,h1.1,h1.2,h2.1,h2.2,C8 c h ok f]
theorem Af(c:dz)(h:L.Perm M)(ok:aC L):∀(f:Nat) (x:Zy),iM c L f x=iM c M f x
 | 0,_=>rfl
 | f+1,x=>by
  rw[nP,nP,<-ru h x,C8 c h ok];congr 1;rw[flatMap_def,flatMap_def];congr 1;refine map_congr_left fun k hk=>?_;obtain⟨_,y,hy,e⟩:=(bD ok x k).1 hk;have h1:=vg ok hy;have h2:=vg (ok.perm h) (h.mem_iff.1 hy);unfold gq;rw[<-e,h1.1,h1.2,h2.1,h2.2,Af c h ok f]
theorem fP.perm(h:L.Perm M)(hf:fP L):fP M:=fun p=>by rw[<-ru h p];exact hf p
theorem Ag:∀(L M:List It),L.Nodup->L.length=M.length->(∀x∈L,x∈M)->L.Perm M
 |[],M,_,hl,_=>by rw[eq_nil_of_length_eq_zero (l:=M) (by simpa using hl.symm)]
 | x::L,M,hn,hl,hs=>by
  obtain⟨a,b,rfl⟩:=append_of_mem (hs x (by simp));rw[nodup_cons] at hn;refine((Ag L (a++b) hn.2 (by simp at hl⊢;omega) fun y hy=>?_).cons x).trans perm_middle.symm;have:=hs y (by simp[hy]);simp only[mem_append,mem_cons] at this⊢;rcases this with h|h|h
  ·exact .inl h
  ·exact absurd (h▸hy) hn.1
  ·exact .inr h
theorem Eu(ok:aC L)(hl:L.length=M.length)(hs:∀x∈L,x∈M):L.Perm M:=by
 refine Ag L M ?_ hl hs;have:=ok.apart;unfold List.Nodup at this⊢;rw[pairwise_map] at this;exact this.imp fun h e=>h (by rw[e])
theorem Og(L:List It)(i:Nat)(hi:i<L.length)(x:It):(L.set i x).Perm (L.eraseIdx i++[x]):=by
 rw[set_eq_take_append_cons_drop,if_pos hi,eraseIdx_eq_take_drop_succ];exact(perm_middle).trans (perm_append_comm (l₁:=[x]))
theorem rz(p:Zy)(L:List It):(aj p L).length=((L.map It.path).filter fun y=>decide (nZ y=p)).length:=by
 rw[(qL p L).length_eq,length_map,filter_map,length_map];rfl
theorem Oh(hi:i<L.length)(d:Zy):setDat L i d=L.set i ⟨L[i].path,L[i].dir,d⟩:=by
 unfold setDat;apply ext_getElem?;intro j;rw[getElem?_modify,getElem?_set];by_cases e:i=j
 ·subst e;simp[hi]
 ·simp[e]
theorem fP.room(hf:fP L)(ok:aC L)(h0:bS L x.path=0)(hr:tZ L x.path=true):fP (L++[x]):=fun p=>by
 obtain⟨n,_,hn,e,_⟩:=Ay ok h0;have hu:nZ x.path=gy (ax x.path).1:=by
  have:=rM (gy (ax x.path).1) n hn;rw[<-e] at this;exact this
 unfold tZ at hr;rw[Bool.and_eq_true,decide_eq_true_eq] at hr;have h16:=hr.1;rw[<-hu] at h16;have hp:=hf p;rw[rz] at hp h16⊢;rw[map_append,filter_append,length_append];by_cases e2:nZ x.path=p
 ·subst e2;simp at h16⊢;omega
 ·simp[e2] at hp⊢;omega
theorem RA(ok:aC L)(hf:fP L)(s d:Zy):((iI L s d).2≠0/\(iI L s d).1=L)\/((iI L s d).2=0/\((bJ L s= -1/\(iI L s d).1=L++[⟨s,false,d⟩]/\fP (L++[⟨s,false,d⟩]))\/∃i,i<L.length/\bJ L s=(i:Nat)/\(iI L s d).1.Perm (L.eraseIdx i++[⟨s,false,d⟩])/\fP (L.eraseIdx i++[⟨s,false,d⟩]))):=by
 unfold iI;split
 ·exact .inl ⟨by simp,rfl⟩
 split
 ·exact .inl ⟨by simp,rfl⟩
 split
 ·rename_i h;exact .inl ⟨h,rfl⟩
 rename_i h0;have h0:bS L s=0:=by simpa using h0
 rcases iA L s with⟨e,_⟩|⟨i,hi,e,hp⟩
 ·rw[e,if_neg (by decide)];split
  ·exact .inl ⟨by simp,rfl⟩
  ·rename_i hr;refine .inr ⟨rfl,.inl ⟨rfl,rfl,fP.room hf ok h0 (by simpa using hr)⟩⟩
 ·rw[e,if_pos (Int.natCast_nonneg i)];split
  ·exact .inl ⟨by simp,rfl⟩
  ·rename_i hd;have hd:L[i].dir=false:=by
    unfold iY at hd;simp[hi] at hd;exact hd
   have hx:(⟨L[i].path,L[i].dir,d⟩:It)=⟨s,false,d⟩:=by rw[hp,hd]
   have hperm:(setDat L i d).Perm (L.eraseIdx i++[⟨s,false,d⟩]):=by
    rw[Oh hi,hx];exact Og L i hi _
   refine .inr ⟨rfl,.inr ⟨i,hi,rfl,by simpa using hperm,fP.perm hperm fun p=>?_⟩⟩;rw[rz,rY,<-rz];exact hf p
theorem Ld(ok:aC L)(hf:fP L)(s:Zy):((gD L s).2≠0/\(gD L s).1=L)\/((gD L s).2=0/\bJ L s= -1/\(gD L s).1=L++[⟨s,true,⟨#[]⟩⟩]/\fP (L++[⟨s,true,⟨#[]⟩⟩])):=by
 unfold gD;split
 ·rename_i h;exact .inl ⟨h,rfl⟩
 rename_i h0;have h0:bS L s=0:=by simpa using h0
 rcases iA L s with⟨e,_⟩|⟨i,hi,e,hp⟩
 ·rw[e,if_neg (by decide)];split
  ·exact .inl ⟨by simp,rfl⟩
  ·rename_i hr;exact .inr ⟨rfl,rfl,rfl,fP.room hf ok h0 (by simpa using hr)⟩
 ·rw[e,if_pos (Int.natCast_nonneg i)];exact .inl ⟨by simp,rfl⟩
theorem Ij(hf:fP L)(s:Zy):((eY L s).2≠0/\(eY L s).1=L)\/((eY L s).2=0/\∃i,i<L.length/\bJ L s=(i:Nat)/\(eY L s).1=L.eraseIdx i/\fP (L.eraseIdx i)):=by
 unfold eY;split
 ·rename_i h;exact .inl ⟨h,rfl⟩
 rcases iA L s with⟨e,_⟩|⟨i,hi,e,hp⟩
 ·rw[e,if_pos (by decide)];exact .inl ⟨by simp,rfl⟩
 ·rw[e,if_neg (by omega)];split
  ·exact .inl ⟨by simp,rfl⟩
  ·refine .inr ⟨rfl,i,hi,rfl,rfl,fun p=>?_⟩;have:=hf p;rw[rz] at this⊢;refine Nat.le_trans (List.Sublist.length_le ?_) this;exact((eraseIdx_sublist L i).map _).filter _
end
section
open Go.RowKit
structure Part where
 blocks:List Nat
 At:World->Prop
 fr:∀{w w':World} {bs:List Nat},At w->Fr w w' bs->(∀b∈blocks,b∉bs)->At w'
 lt:∀{w:World},At w->∀b∈blocks,b<w.heap.size
def Ah(P Q:Part):Prop:=∀b∈P.blocks,b∉Q.blocks
theorem Ah.symm{P Q:Part}(h:Ah P Q):Ah Q P:=fun b hb hc=>h b hc hb
def gZ(ps:List Part):List Nat:=ps.flatMap Part.blocks
theorem eZ{ps:List Part}:b∈gZ ps↔∃P∈ps,b∈P.blocks:=mem_flatMap
theorem bL(P:Part)(ps:List Part):gZ (P::ps)=P.blocks++gZ ps:=rfl
theorem iR(ps qs:List Part):gZ (ps++qs)=gZ ps++gZ qs:=flatMap_append
theorem jN:gZ []=[]:=rfl
structure dF(B:Nat)(w:World)(ps:List Part):Prop where
 at_:∀P∈ps,P.At w
 apart:ps.Pairwise Ah
 far:∀b∈gZ ps,B<=b
theorem dF.perm{ps qs:List Part}(h:dF B w ps)(p:ps.Perm qs):dF B w qs:=
 ⟨fun P hP=>h.at_ P (p.mem_iff.2 hP),(p.pairwise_iff (fun h=>h.symm)).1 h.apart,fun b hb=>by
  obtain⟨P,hP,C9⟩:=eZ.1 hb;exact h.far b (eZ.2 ⟨P,p.mem_iff.2 hP,C9⟩)⟩
theorem dF.lt{ps:List Part}(h:dF B w ps):∀b∈gZ ps,b<w.heap.size:=fun b hb=>by
 obtain⟨P,hP,C9⟩:=eZ.1 hb;exact P.lt (h.at_ P hP) b C9
theorem dF.left{ps qs:List Part}(h:dF B w (ps++qs)):dF B w ps:=
 ⟨fun P hP=>h.at_ P (mem_append_left _ hP),(pairwise_append.1 h.apart).1,fun b hb=>h.far b (by rw[iR];exact mem_append_left _ hb)⟩
theorem dF.right{ps qs:List Part}(h:dF B w (ps++qs)):dF B w qs:=
 ⟨fun P hP=>h.at_ P (mem_append_right _ hP),(pairwise_append.1 h.apart).2.1,fun b hb=>h.far b (by rw[iR];exact mem_append_right _ hb)⟩
theorem dF.disj{ps qs:List Part}(h:dF B w (ps++qs)):∀b∈gZ ps,b∉gZ qs:=fun b hb hc=>by
 obtain⟨P,hP,C9⟩:=eZ.1 hb;obtain⟨Q,hQ,hbQ⟩:=eZ.1 hc;exact(pairwise_append.1 h.apart).2.2 P hP Q hQ b C9 hbQ
theorem dF.fr{ps:List Part}(h:dF B w ps)(f:Fr w w' bs)(hb:∀b∈gZ ps,b∉bs):dF B w' ps:=
 ⟨fun P hP=>P.fr (h.at_ P hP) f (fun b C9=>hb b (eZ.2 ⟨P,hP,C9⟩)),h.apart,h.far⟩
theorem dF.below{ps:List Part}(h:dF B w ps)(hb:Below w.heap.size w w'):dF B w' ps:=h.fr (Fr.of_below hb []) (by simp)
structure Step(B:Nat)(w w':World)(ps qs:List Part):Prop where
 hold:dF B w' qs
 fr:Fr w w' (gZ ps)
 sub:∀b∈gZ qs,b∈gZ ps\/w.heap.size<=b
theorem Step.refl{ps:List Part}(h:dF B w ps):Step B w w ps ps:=⟨h,Fr.refl _ _,fun _ hb=>.inl hb⟩
theorem Step.below{ps qs:List Part}(h:Step B w w1 ps qs)(hb:Below w1.heap.size w1 w2):Step B w w2 ps qs:=⟨h.hold.below hb,h.fr.trans (Fr.of_below hb []) (by simp),h.sub⟩
theorem Step.drew{ps qs:List Part}(h:Step B w w1 ps qs):Step B w w1.drew ps qs:=h.below (Zr).drew
theorem Step.trans{ps qs rs:List Part}(h:Step B w w1 ps qs)(k:Step B w1 w2 qs rs):Step B w w2 ps rs:=by
 refine⟨k.hold,h.fr.trans k.fr (fun x hx hlt=>?_),fun b hb=>?_⟩
 ·rcases h.sub x hx with hq|hq
  ·exact hq
  ·omega
 ·rcases k.sub b hb with hq|hq
  ·exact h.sub b hq
  ·exact .inr (Nat.le_trans h.fr.size hq)
theorem Step.frame{ps qs rs:List Part}(h:dF B w (ps++rs))(s:Step B w w' ps qs):Step B w w' (ps++rs) (qs++rs):=by
 have hr:dF B w' rs:=h.right.fr s.fr (fun b hb hc=>h.disj b hc hb);refine⟨⟨fun P hP=>?_,pairwise_append.2 ⟨s.hold.apart,hr.apart,fun P hP Q hQ b C9 hbQ=>?_⟩,fun b hb=>?_⟩,s.fr.wider (fun x hx=>by rw[iR];exact mem_append_left _ hx),fun b hb=>?_⟩
 ·rcases mem_append.1 hP with hP|hP
  ·exact s.hold.at_ P hP
  ·exact hr.at_ P hP
 ·have hq:b∈gZ rs:=eZ.2 ⟨Q,hQ,hbQ⟩;rcases s.sub b (eZ.2 ⟨P,hP,C9⟩) with hx|hx
  ·exact h.disj b hx hq
  ·have:=h.right.lt b hq;omega
 ·rw[iR] at hb;rcases mem_append.1 hb with hb|hb
  ·exact s.hold.far b hb
  ·exact hr.far b hb
 ·rw[iR] at hb⊢;rcases mem_append.1 hb with hb|hb
  ·exact(s.sub b hb).imp (mem_append_left _) id
  ·exact .inl (mem_append_right _ hb)
theorem Step.perm{ps ps' qs qs':List Part}(s:Step B w w' ps qs)(hp:ps.Perm ps')(hq:qs.Perm qs'):Step B w w' ps' qs':=by
 have e:∀b,b∈gZ ps'->b∈gZ ps:=fun b hb=>by
  obtain⟨P,hP,C9⟩:=eZ.1 hb;exact eZ.2 ⟨P,hp.mem_iff.2 hP,C9⟩
 have e':∀b,b∈gZ ps->b∈gZ ps':=fun b hb=>by
  obtain⟨P,hP,C9⟩:=eZ.1 hb;exact eZ.2 ⟨P,hp.mem_iff.1 hP,C9⟩
 refine⟨s.hold.perm hq,s.fr.wider e',fun b hb=>?_⟩;obtain⟨P,hP,C9⟩:=eZ.1 hb;exact(s.sub b (eZ.2 ⟨P,hq.mem_iff.2 hP,C9⟩)).imp (e' b) id
theorem Step.one{P Q:Part}(hB:B<=w.heap.size)(h:dF B w [P])(hq:Q.At w')(f:Fr w w' P.blocks)(hs:∀b∈Q.blocks,b∈P.blocks\/w.heap.size<=b):Step B w w' [P] [Q]:=by
 have e:∀X:Part,gZ [X]=X.blocks:=fun X=>by simp[gZ]
 refine⟨⟨fun X hX=>by rw[Zm.1 hX];exact hq,pairwise_singleton _ _,fun b hb=>?_⟩,by rw[e];exact f,by rw[e,e];exact hs⟩;rw[e] at hb;rcases hs b hb with hx|hx
 ·exact h.far b (by rw[e];exact hx)
 ·omega
theorem Step.new{Q:Part}(hB:B<=w.heap.size)(hq:Q.At w')(f:Below w.heap.size w w')(hs:∀b∈Q.blocks,w.heap.size<=b):Step B w w' [] [Q]:=by
 have e:∀X:Part,gZ [X]=X.blocks:=fun X=>by simp[gZ]
 exact⟨⟨fun X hX=>by rw[Zm.1 hX];exact hq,pairwise_singleton _ _,fun b hb=>by rw[e] at hb;exact Nat.le_trans hB (hs b hb)⟩,Fr.of_below f _,fun b hb=>.inr (hs b (by rw[e] at hb;exact hb))⟩
theorem Step.drop{ps qs:List Part}(h:dF B w (ps++qs)):Step B w w (ps++qs) qs:=⟨h.right,Fr.refl _ _,fun b hb=>.inl (by rw[iR];exact mem_append_right _ hb)⟩
def oG(d:DP)(S:Dk):Part:=⟨d.blocks,fun w=>aB w d S,fun h f hb=>h.fr f hb,fun h=>h.lt⟩
def bU(g:Nat)(t:TypeId)(vs:List Value):Part:=⟨[g],fun w=>ai w g t vs,fun h f hb=>f.row h (hb g (by simp)),fun h b hb=>by rw[Zm.1 hb];exact h.lt⟩
def bn(e:TypeId)(size:Nat)(v:Value)(n:Nat)(xs:List Value):Part:=⟨v.ownBlock.toList,fun w=>w.ownsRow 0 e size v n xs,fun h f hb=>aT h f (fun g hg=>hb g (Zo.2 hg)),fun h b hb=>vW h b (Zo.1 hb)⟩
theorem Step.at{ps qs:List Part}{P Q:Part}(hB:B<=w.heap.size)(h:dF B w (ps++P::qs))(hq:Q.At w')(f:Fr w w' P.blocks)(hs:∀b∈Q.blocks,b∈P.blocks\/w.heap.size<=b):Step B w w' (ps++P::qs) (ps++Q::qs):=by
 have hp:(ps++P::qs).Perm ([P]++(ps++qs)):=perm_middle;have hq2:(ps++Q::qs).Perm ([Q]++(ps++qs)):=perm_middle;have h1:=h.perm hp;exact((Step.one hB h1.left hq f hs).frame h1).perm hp.symm hq2.symm
theorem dF.cons{P:Part}{ps:List Part}(h:dF B w (P::ps)):(∀b∈P.blocks,b∉gZ ps):=fun b hb=>dF.disj (ps:=[P]) (qs:=ps) h b (by simpa [gZ] using hb)
structure gU(a:Nat->Addr)(w0 w:World):Prop where
 sents:lT a w0
 glob:eO a w0
 g:18<=w0.heap.size
 low:Below w0.heap.size w0 w
theorem gU.size(h:gU a w0 w):w0.heap.size<=w.heap.size:=h.low.size
theorem gU.at(h:gU a w0 w):lT a w/\eO a w:=⟨h.sents.below h.low,h.glob.up h.low⟩
theorem gU.below(h:gU a w0 w)(hb:Below w.heap.size w w'):gU a w0 w':=⟨h.sents,h.glob,h.g,h.low.trans (hb.mono h.low.size)⟩
theorem gU.fr(h:gU a w0 w)(f:Fr w w' bs)(hb:∀b∈bs,w0.heap.size<=b):gU a w0 w':=⟨h.sents,h.glob,h.g,BB h.low f h.low.size hb⟩
end
section
open Go.RowKit Go.Maps Go.Lib
theorem Oi(L:List It)(s d:Zy):(iI L s d).2<=12:=by
 have h:=wu L s;unfold iI
 repeat' split
 all_goals first|(show(5:Nat)<=12;decide)|(show(11:Nat)<=12;decide)|(show bS L s<=12;omega)|(show(7:Nat)<=12;decide)|(show(0:Nat)<=12;decide)|(show(10:Nat)<=12;decide)
theorem Ik(L:List It)(s:Zy):(gD L s).2<=12:=by
 have h:=wu L s;unfold gD
 repeat' split
 all_goals first|(show bS L s<=12;omega)|(show(8:Nat)<=12;decide)|(show(0:Nat)<=12;decide)|(show(10:Nat)<=12;decide)
theorem Ev(L:List It)(s:Zy):(eY L s).2<=12:=by
 have h:=wu L s;unfold eY
 repeat' split
 all_goals first|(show bS L s<=12;omega)|(show(6:Nat)<=12;decide)|(show(0:Nat)<=12;decide)|(show(9:Nat)<=12;decide)
def bf(p:aS)(A:jc):Part:=⟨p.mine++aP A.L p.blk p.mblk,fun w=>eP w p A,fun h f hb=>h.fr f (fun b h1=>hb b (mem_append_left _ h1)) (fun b h1=>hb b (mem_append_right _ h1)),fun h b hb=>by
 rcases mem_append.1 hb with h1|h1
 ·exact h.lt b h1
 ·exact h.tree.lt b h1⟩
theorem eP.withL(h:eP w p A)(hd:jU w w' p.q A.L L' p.blk p.mblk):∃p',eP w' p' {A with L:=L'}/\p'.q=p.q/\p'.d=p.d/\aC L'/\(∀b∈p'.mine++aP L' p'.blk p'.mblk,b∈p.mine++aP A.L p.blk p.mblk\/w.heap.size<=b)/\Fr w w' (aP A.L p.blk p.mblk):=by
 obtain⟨mr,qi,h1,h2,f⟩:=hd;have nm:∀b∈p.mine,b∉aP A.L p.blk p.mblk:=fun b hb hm=>h.nt b hm hb;have hq:p.q∈p.mine:=by simp[aS.mine]
 have hrow:=f.row h.row (nm _ hq);have er:mr ⟨#[]⟩=p.blk ⟨#[]⟩:=by
  have e1:=h1.root;have e2:=hrow.cell 0;rw[e2] at e1;have:(some (Value.pointer (some ⟨p.blk ⟨#[]⟩,0,none⟩)))=some (Value.pointer (some ⟨mr ⟨#[]⟩,0,none⟩)):=e1;simpa using this.symm
 refine⟨{p with blk:=mr,mblk:=qi},⟨?_,h.objs.fr f (fun b hb=>nm b (by simp[aS.mine,hb])),aT h.snaps f (fun g hg=>nm g (by rw[bO p.ao _ _ 0 0] at hg;simp[aS.mine,aS.own,hg])),h1.tree,h.dev.fr f (fun b hb=>nm b (by simp[aS.mine,hb])),h.nq,h.nm,h.no,fun b hb hm=>?_⟩,rfl,rfl,h1.ok,fun b hb=>?_,f⟩
 ·show ai w' p.q _ (pU (.pointer (some ⟨mr ⟨#[]⟩,0,none⟩)) _ _ _ _ _ _ _);rw[er];exact hrow
 ·rcases h2 b hb with h3|h3
  ·exact h.nt b h3 hm
  ·have:=h.lt b hm;omega
 ·rcases mem_append.1 hb with h3|h3
  ·exact .inl (mem_append_left _ h3)
  ·exact(h2 b h3).imp (mem_append_right _) id
theorem eP.perm(h:eP w p A)(hp:A.L.Perm M):eP w p {A with L:=M}:=
 ⟨h.row,h.objs,h.snaps,h.tree.perm hp,h.dev,h.nq,h.nm,h.no,fun b hb=>h.nt b (Ae hp _ _ hb)⟩
section
variable {a:Nat->Addr}{w0 w:World}{p:aS}{A:jc}
def pW(a:Nat->Addr)(w0 w:World)(p:aS)(A A':jc)(w':World):Prop:=∃p',Step w0.heap.size w w' [bf p A] [bf p' A']/\p'.q=p.q/\p'.d.p=p.d.p/\gU a w0 w'
theorem pW.below(h:pW a w0 w p A A' w1)(hb:Below w1.heap.size w1 w2):pW a w0 w p A A' w2:=by
 obtain⟨p',h1,h2,h3,h4⟩:=h;exact⟨p',h1.below hb,h2,h3,h4.below hb⟩
theorem kH(P:Part):gZ [P]=P.blocks:=by simp[gZ]
theorem wX(bs:gU a w0 w)(h:dF w0.heap.size w [bf p A])(hd:jU w w' p.q A.L L' p.blk p.mblk)(hp:L'.Perm M):pW a w0 w p A {A with L:=M} w'/\aC M:=by
 have hg:eP w p A:=h.at_ (bf p A) (by simp);obtain⟨p',h1,h2,h3,h4,h5,f⟩:=hg.withL hd;have f':Fr w w' (bf p A).blocks:=f.wider (fun x hx=>mem_append_right _ hx);refine⟨⟨p',Step.one bs.size h (Q:=bf p' {A with L:=M}) (h1.perm hp) f' (fun b hb=>?_),h2,by rw[h3],bs.fr f' (fun b hb=>h.far b (by rw[kH];exact hb))⟩,h4.perm hp⟩;refine h5 b ?_;rcases mem_append.1 hb with h6|h6
 ·exact mem_append_left _ h6
 ·exact mem_append_right _ (Ae hp _ _ h6)
theorem Oj(h:dF w0.heap.size w [bf p A])(ok:aC A.L):eH w p.q A.L p.blk p.mblk:=by
 have hg:eP w p A:=h.at_ (bf p A) (by simp);exact⟨hg.row.cell 0,hg.tree,ok⟩
theorem Da(bs:gU a w0 w)(h:dF w0.heap.size w [bf p A])(ok:aC A.L)(s d:Zy)(hs:s.size<=262144)(M:List It)(hp:(iI A.L s d).1.Perm M):
  Zc 49 #[Zp p.q,.string s,.string d] w fun e w'=>e=.returned (.int .i64 ((iI A.L s d).2:Nat))/\pW a w0 w p A {A with L:=M} w'/\aC M:=
 Rv (a:=a) (N:=fun w'=>pW a w0 w p A {A with L:=M} w'/\aC M) (Oi _ _ _) (fun w1 h1=>by obtain⟨⟨_,_,_,_,hb⟩,_⟩:=h1;exact hb.at.1) (fun w1 w2 h1 hb=>⟨h1.1.below hb,h1.2⟩)
  ((Ei bs.at.2 (Oj h ok) s d hs).mono fun e w' he=>⟨he.1,wX bs h he.2 hp⟩)
theorem Db(bs:gU a w0 w)(h:dF w0.heap.size w [bf p A])(ok:aC A.L)(s:Zy)(hs:s.size<=262144)(M:List It)(hp:(gD A.L s).1.Perm M):
  Zc 27 #[Zp p.q,.string s] w fun e w'=>e=.returned (.int .i64 ((gD A.L s).2:Nat))/\pW a w0 w p A {A with L:=M} w'/\aC M:=
 KZ (a:=a) (N:=fun w'=>pW a w0 w p A {A with L:=M} w'/\aC M) (Ik _ _) (fun w1 h1=>by obtain⟨⟨_,_,_,_,hb⟩,_⟩:=h1;exact hb.at.1) (fun w1 w2 h1 hb=>⟨h1.1.below hb,h1.2⟩)
  ((Em bs.at.2 (Oj h ok) s hs).mono fun e w' he=>⟨he.1,wX bs h he.2 hp⟩)
theorem Ai(bs:gU a w0 w)(h:dF w0.heap.size w [bf p A])(ok:aC A.L)(s:Zy)(hs:s.size<=262144)(M:List It)(hp:(eY A.L s).1.Perm M):
  Zc 56 #[Zp p.q,.string s] w fun e w'=>e=.returned (.int .i64 ((eY A.L s).2:Nat))/\pW a w0 w p A {A with L:=M} w'/\aC M:=
 Ih (a:=a) (N:=fun w'=>pW a w0 w p A {A with L:=M} w'/\aC M) (Ev _ _) (fun w1 h1=>by obtain⟨⟨_,_,_,_,hb⟩,_⟩:=h1;exact hb.at.1) (fun w1 w2 h1 hb=>⟨h1.1.below hb,h1.2⟩)
  ((Cj bs.at.2 (Oj h ok) s hs).mono fun e w' he=>⟨he.1,wX bs h he.2 hp⟩)
theorem Ol(bs:gU a w0 w)(h:dF w0.heap.size w [bf p A])(hL:A'.L=A.L)(hd:jd w w' p A'):pW a w0 w p A A' w':=by
 obtain⟨p',h1,h2,h3,h4,h5,h6,f⟩:=hd;have f':Fr w w' (bf p A).blocks:=f.wider (fun x hx=>mem_append_left _ hx);refine⟨p',Step.one bs.size h (Q:=bf p' A') h1 f' (fun b hb=>?_),h2,h5,bs.fr f' (fun b hb=>h.far b (by rw[kH];exact hb))⟩;rcases mem_append.1 hb with h7|h7
 ·exact(h6 b h7).imp (mem_append_left _) id
 ·refine .inl (mem_append_right _ ?_);rw[h3,h4,hL] at h7;exact h7
theorem PE(c:dz)(A:jc)(label:Zy):(dJ c A label).2.L=A.L:=by
 unfold dJ
 repeat' split
 all_goals rfl
theorem RB(bs:gU a w0 w)(hC:dI c w)(h:dF w0.heap.size w [bf p A])(hf:A.Fit)(label:Zy)(hls:label.size<=1000000)(hc:(dJ c A label).1.2<=12):
  Zc 50 #[Zp p.q,.string label] w fun e w'=>e=.returned (.tuple #[.int .i64 ((dJ c A label).1.1:Nat),.int .i64 ((dJ c A label).1.2:Nat)])/\pW a w0 w p A (dJ c A label).2 w':=by
 have hg:eP w p A:=h.at_ (bf p A) (by simp);have kV:∀b∈p.mine,18<=b:=fun b hb=>by
  have:=h.far b (by rw[kH];exact mem_append_left _ hb);have:=bs.g;omega
 refine CG (a:=a) (N:=pW a w0 w p A (dJ c A label).2) hc (fun w1 h1=>by obtain⟨_,_,_,_,hb⟩:=h1;exact hb.at.1) (fun w1 w2 h1 hb=>h1.below hb) ?_;have fin:∀e w',(e=Ending.returned (.tuple #[.int .i64 ((dJ c A label).1.1:Nat),dx a (dJ c A label).1.2])/\jd w w' p (dJ c A label).2)->e=Ending.returned (.tuple #[.int .i64 ((dJ c A label).1.1:Nat),dx a (dJ c A label).1.2])/\pW a w0 w p A (dJ c A label).2 w':=fun e w' he=>⟨he.1,Ol bs h (PE c A label) he.2⟩;by_cases hd:A.dn=true
 ·exact(NM bs.at.2 hg label hd).mono fin
 ·have hd:A.dn=false:=by simpa using hd
  by_cases hl:20<label.size
  ·exact(KP bs.at.2 hg label hls hd hl).mono fin
  ·exact(Hw bs.at.2 hC (Nat.le_trans bs.g bs.size) hg kV hf label (by omega) hd).mono fin
end
theorem Step.put{xs:List Value}{z n':Nat}(hB:B<=w.heap.size)(h:dF B w [bU q t r,bn e z tv n xs])(fg:Fr w w4 tv.ownBlock.toList)(aY:w4.ownsRow 0 e z v' n' xs')(hs:∀b,v'.ownBlock=some b->tv.ownBlock=some b\/w.heap.size<=b):
  Step B w (w4.setCell (Za q k) v') [bU q t r,bn e z tv n xs] [bU q t (r.set k v'),bn e z v' n' xs']/\w4.cell? (Za q k)=r[k]? /\w4.frozen? (Za q k)=false:=by
 have hrow:ai w q t r:=h.at_ (bU q t r) (by simp);have hq:q∉tv.ownBlock.toList:=by
  have:=h.cons q (by simp[bU]);simpa [gZ,bn] using this
 have tH:=hrow.lt;have zl:=fg.row hrow hq;have fq:Fr w4 (w4.setCell (Za q k) v') [q]:=(Fr.refl _ _).setCell _ _ (.inl (by simp));have hvq:v'.ownBlock≠some q:=fun e1=>by
  rcases hs q e1 with h1|h1
  ·exact hq (Zo.2 h1)
  ·omega
 have kV:=h.far;simp only[bL,jN,append_nil,bU,bn,cons_append,nil_append,mem_cons] at kV;refine⟨⟨⟨?_,?_,?_⟩,?_,?_⟩,zl.cell k,zl.frozen k⟩
 ·intro P hP;simp only[mem_cons,not_mem_nil,or_false] at hP;rcases hP with rfl|rfl
  ·exact zl.set k v'
  ·exact aT aY fq (fun g hg hm=>hvq (by rw[Zm.1 hm] at hg;exact hg))
 ·refine Pairwise.cons (fun Q hQ=>?_) (pairwise_singleton _ _);rw[Zm.1 hQ];intro b hb hc;rw[Zm.1 hb] at hc;exact hvq (Zo.1 hc)
 ·intro b hb;simp only[bL,jN,append_nil,bU,bn,cons_append,nil_append,mem_cons] at hb;rcases hb with hb|hb
  ·exact kV b (.inl hb)
  ·rcases hs b (Zo.1 hb) with h1|h1
   ·exact kV b (.inr (Zo.2 h1))
   ·omega
 ·refine(fg.wider (fun x hx=>?_)).trans fq (fun x hx _=>?_)
  ·simp only[bL,jN,append_nil,bU,bn,cons_append,nil_append,mem_cons];exact .inr hx
  ·rw[Zm.1 hx];simp[bL,bU]
 ·intro b hb;simp only[bL,jN,append_nil,bU,bn,cons_append,nil_append,mem_cons] at hb⊢;rcases hb with hb|hb
  ·exact .inl (.inl hb)
  ·rcases hs b (Zo.1 hb) with h1|h1
   ·exact .inl (.inr (Zo.2 h1))
   ·exact .inr h1
end
end Go.Proofs.YtdidjdoifpfmmaaGreatDoor
