import Derived.Test.YtdidjdoifpfmmaaGreatDoorGO17
set_option maxRecDepth 100000
set_option maxHeartbeats 16000000
namespace Go.Proofs.YtdidjdoifpfmmaaGreatDoor
open Go.Proofs.Tryz List
variable{w w' wr w2 w4:World}{nb mb B q m n co k j b g i:Nat}{a:Nat->Addr}{c:dz}{d:DP}{S:Dk}{ms l bs:List Nat}{H T:List Ob}{L:List It}{z t0 t p:Zy}{vs A xs ys:List Value}{u dir:Bool}{P:Program}{v' v:Value}{ao:Option Addr}
section
open Go.RowKit Go.Maps
theorem aa3(ho:w.ownsMap (H:=Unit) prog 9 eD mb 0 (.map []))(h0:w.cell? (Za nb 0)=some (.map (some mb)))(h1:w.cell? (Za nb 1)=some (.string ⟨#[]⟩))(hB:B<=nb/\B<=mb):∃blk mblk,blk ⟨#[]⟩=nb/\qA w [] (UE ⟨#[]⟩) blk mblk B:=
 jq.done (l:=[]) (B1:=w.heap.size) (blk:=fun _=>0) (mblk:=fun _=>0) aC.nil (.inl rfl) (fun k=>by simp[aj]) ⟨ho,fun k=>by simp[Maps.has],fun x hx=>by simp at hx,Maps.isMap_empty,h0,h1,⟨fun z ⟨x,hx,_⟩=>by simp at hx,fun y _ ⟨x,hx,_⟩=>by simp at hx,fun x y ⟨x',hx,_⟩=>by simp at hx,fun z ⟨x,hx,_⟩=>by simp at hx⟩,⟨Zd h0,World.ownsMap.lt ho,Zn⟩⟩ hB
def qU(c:dz)(S:Dk)(H:List Ob)(I:List (Zy × Zy))(L:List It):Prop:=match I.getLast? with
 | none=>L=[]
 | some x=>x.1.size=32/\∃f,Po c S H L f x.1 ⟨#[]⟩
theorem Kr(h:kD a c w q d S ms H)(QZ:aC L)(I:List (Zy × Zy))(hI:∀x∈I,x.1.size=32)(hIl:I.length<=5000)(hL:qU c S H I L)(ao:Option Addr)(co:Nat)(c6:w.cell? (Za q 6)=some (.slice ao I.length co))(hO:w.ownsRow 0 123 34 (.slice ao I.length co) I.length (bG I))(hOd:∀g,(Value.slice ao I.length co).ownBlock=some g->g≠d.p):
  Zc 88 #[Zp q] w (jJ w L ⟨#[]⟩ d S):=by
 have tH:=h.at_.lt;have Yw:=h.at_.apart.1;cases hI0:I.getLast? with
 | none=>
  have e:I=[]:=getLast?_eq_none_iff.1 hI0;subst e;unfold qU at hL;rw[hI0] at hL;simp only at hL;subst hL;have c6':w.cell? (Za q 6)=some (.slice ao 0 co):=c6;have hd:=h.at_.dev;have HS:Hid (∀(w':World) (nb mb:Nat),w'.ownsMap (H:=Unit) prog 9 eD mb 0 (.map [])->w'.cell? (Za nb 0)=some (.map (some mb))->w'.cell? (Za nb 1)=some (.string ⟨#[]⟩)->w.heap.size<=nb/\w.heap.size<=mb->∃blk mblk,blk ⟨#[]⟩=nb/\qA w' [] (UE ⟨#[]⟩) blk mblk w.heap.size):=fun w' nb mb h1 h2 h3 h4=>aa3 h1 h2 h3 h4;have cN:=zb w;clear c6 hO h;go_enter func88,ntmps88;go_wp2_with(go_at_call 92;refine Calls.mono cN ?_;rintro e w3 ⟨v,mb,rfl,⟨nb,rfl,hn1,hn2,hn3,Q5⟩,hmb,hom,hb3⟩);refine bodyPost_ret (results_tmp2 rfl _ _ _) rfl ?_;obtain⟨blk,mblk,h1,h2⟩:=HS.out w3 nb mb hom hn3 Q5 ⟨hn1,hmb⟩;exact⟨nb,blk,mblk,rfl,h1,h2,hd.below hb3,Fr.of_below hb3 _⟩
 | some x=>
  unfold qU at hL;rw[hI0] at hL;obtain⟨hxs,f,hG⟩:=hL;obtain⟨I',rfl⟩:∃I',I=I'++[x]:=by
   obtain⟨h1,h2⟩:=getLast?_eq_some_iff.1 hI0;exact⟨h1,h2⟩
  rw[length_append,length_singleton] at c6 hO hOd hIl;rw[tq] at hO;obtain⟨g,rfl,_,hgl,hrg⟩:=dH hO (by omega);have hgd:g≠d.p:=hOd g rfl;have cG:Hid (∀w',kD a c w' q d S ms H->Zc 154 #[Zp q,.agg (bytes (af x.1)).toArray] w' (jJ w' L ⟨#[]⟩ d S)):=fun w' hw=>Un QZ f x.1 _ hG w' hw;have Nc:(prog.info? 121).map (·.size)=some (bytes (af x.1)).length:=by rw[dh _ hxs];kernel_rfl
  have hlen:(bG I').length=I'.length*34:=by
   unfold bG;rw[nk _ 34 _ (fun y hy=>ou (hI y.1 (by have:=mem_zipIdx' hy;simp[this.2])) _ _),length_zipIdx]
  have gR:w.rangeAt g (I'.length*34+1) (bytes (af x.1)):=fun k v hv=>by
   have hk:=(List.getElem?_eq_some_iff.1 hv).1;have:=hrg (I'.length*34+(1+k)) v (by
    rw[getElem?_append_right (by omega),hlen,Nat.add_sub_cancel_left,aH,show 1+k=k+1 by omega,getElem?_cons_succ,getElem?_append_left hk];exact hv)
   rw[Nat.zero_add] at this;rw[Nat.add_assoc];exact this
  generalize bytes (af x.1)=CR at *;generalize I'.length=m at *;have Nz:Hid _:=h;clear h hO hrg hG hlen;have mlt:(m:Int)<(m:Int)+1:=by omega
  go_enter func88,ntmps88;go_wp2;refine bF ?_;refine wp_region_held_drew (S:=fun w'=>Fr w w' [d.p]) (by kernel_rfl) (Fr.refl _ _).drew (fun ah=>?_);refine Zt 0 (Zp q) ?_;refine Zt 1 (Zp q) ?_;refine Zt 2 (Zp q) ?_;refine Zt 3 (.pointer (some (Za q 6))) ?_;refine wpAnyH_take (i:=4) (oi:=⟨some 15,.load 115 (.tmp 14),_,_,_,none⟩) (v:=.slice (Zs g) (m+1) co) rfl (by kernel_rfl) (by kernel_rfl) (by kernel_rfl) (fun _ _ _ h=>h) (Or.inl ⟨by rfl,by intro w hSw;have h1:=(World.cell?_of_block (hSw.block q tH (by simp;exact Yw))).trans c6;go_simp⟩) ah ?_;simp only[Act.put,lA,lZ,lS];refine Zt 5 (Zp q) ?_;refine Zt 6 (Zp q) ?_;refine Zt 7 (.pointer (some (Za q 6))) ?_;refine wpAnyH_take (i:=8) (oi:=⟨some 19,.load 115 (.tmp 18),_,_,_,none⟩) (v:=.slice (Zs g) (m+1) co) rfl (by kernel_rfl) (by kernel_rfl) (by kernel_rfl) (fun _ _ _ h=>h) (Or.inl ⟨by rfl,by intro w hSw;have h1:=(World.cell?_of_block (hSw.block q tH (by simp;exact Yw))).trans c6;go_simp⟩) ah ?_;simp only[Act.put,lA,lZ,lS];refine Zt 9 (.int .i64 ((m:Int)+1)) ?_;refine Zt 10 (Zi m) ?_ (hy:=Or.inl ⟨by rfl,by intro w hSw;go_simp;rw[IntKind.wrap_i64];omega⟩);refine Zt 11 (.pointer (some (Za g (m*34)))) ?_;refine Zt 12 (.pointer (some (Za g (m*34+1)))) ?_;refine Zt 13 (.agg (CR).toArray) ?_ (hy:=yieldsIf_load_mid (by rfl) _ _ rfl (g) (m*34+1) rfl CR _ (fun w h=>iC gR hgl h (by simp;exact hgd)) underlying121 rfl Nc);refine Zh 14 fun K hK=>?_;go_simp;go_at_call 154;refine Calls.mono (cG.out w.drew (Nz.out.below (Zr).drew)) ?_;rintro e w5 ⟨b,blk,mblk,rfl,hbp,hsub,hd5,qR⟩;refine hK.out _ _ (ah.trans qR (fun x hx _=>hx)) (fun ah=>?_);clear hK K;(try simp only[Act.put,lA,lZ,lS]);refine Zt 15 (Zp b) ?_;refine Zt 16 .nilIface ?_;refine Zh 17 fun K hK=>?_;go_simp;refine hK.out _ _ (ah) (fun ah=>?_);clear hK K;(try simp only[Act.put,lA,lZ,lS]);refine Zh 18 fun K hK=>?_;go_simp;refine hK.out _ _ (ah) (fun ah=>?_);clear hK K;(try simp only[Act.put,lA,lZ,lS]);refine Zx ?_;simp only[At];go_wp2;refine bodyPost_ret (results_tmp2 rfl _ _ _) rfl ?_;exact⟨b,blk,mblk,rfl,hbp,hsub,hd5,((Fr.refl w _).drew).trans qR (fun x hx _=>hx)⟩
end
section
open Go.RowKit
def pU(root:Value)(p:Nat)(ms:List Nat)(sn:Value)(at_ num crc:Nat)(dn:Bool):List Value:=[root,Zp p]++aG ms++[sn,Zi at_,.int .u32 (num:Nat),.int .u32 (crc:Nat),.bool dn]
end
section
open Go.RowKit Go.Maps
theorem wR(h:w.heap[m]? =some (.map #[] 0)):cu w m (Maps.size (.map []:DataW Unit)) (.map []):=by
 obtain⟨es,clock,h1,h2⟩:=World.ownsMap_made (H:=Unit) w prog 121 sF;rw[heap_alloc_new] at h1;cases h1
 exact⟨#[],0,h,h2⟩
theorem qm(h:l.Pairwise (·<·)):l.Nodup:=h.imp (fun h=>Nat.ne_of_lt h)
theorem Kt(w:World):
  Zc 85 #[] w fun e w'=>∃p:lH,e=.returned (Zp p.q)/\aR w' p ⟨[],[],[]⟩/\(∀b∈p.blocks,w.heap.size<=b)/\Below w.heap.size w w':=by
 refine(MZ w).mono ?_;rintro e w' ⟨ms,mx,b,hl,rfl,r,n,hmx,hb⟩;have hap:=n.apart;rw[pairwise_append] at hap;refine⟨⟨b,mx,ms,none,0⟩,rfl,⟨r,⟨hl,qm hap.1,fun k hk=>⟨.map [],wR (n.empty _ (mem_append_left _ (Zg _))),Dn.empty k⟩⟩,⟨.map [],wR (n.empty _ (by simp)),Ea.empty⟩,World.ownsRow_nil _ _ _ _,⟨fun hm=>?_,fun hm=>?_,?_,fun g hg=>by cases hg⟩,⟨by simp,by simp,by simp⟩⟩,fun x hx=>?_,hb⟩
 ·have:=n.empty b (mem_append_left _ hm);rw[r.heap] at this;cases this
 ·exact absurd (hap.2.2 mx hm mx (by simp)) (Nat.lt_irrefl _)
 ·exact(Nat.ne_of_lt hmx).symm
 ·simp only[lH.blocks,Value.ownBlock,Option.toList_none,append_nil,mem_cons] at hx;have h1:=n.far mx (by simp);rcases hx with rfl|rfl|hx
  ·have:=h1;omega
  ·exact h1
  ·exact n.far x (mem_append_left _ hx)
theorem Ku(ok:aC L):∀(m:Nat) (z:Zy),z.size<=m->(∃y∈L,y.path=z)->fZ ⟨#[]⟩ z:=by
 intro m;induction m with
 | zero=>
  rintro z hz ⟨y,hy,rfl⟩;obtain⟨p,k,h1,h2,_⟩:=ok.up y hy;have:=gN p k h2;rw[<-h1] at this;omega
 | succ m ih=>
  rintro z hz ⟨y,hy,rfl⟩;obtain⟨p,k,h1,h2,h3⟩:=ok.up y hy;have:=gN p k h2;rw[<-h1] at this;rw[h1];rcases h3 with rfl|⟨x,hx,rfl,_⟩
  ·exact .one k h2
  ·exact .more _ k (ih x.path (by omega) ⟨x,hx,rfl⟩) h2
theorem yu(ok:aC L)(h:bC L z\/∃y∈L,y.path=z):UE ⟨#[]⟩ z:=by
 by_cases e:z=⟨#[]⟩
 ·exact .inl e.symm
 ·exact .inr (Ku ok z.size z (Zn) (BZ h e))
theorem qA.tree(ok:aC L){blk mblk:Zy->Nat}(h:qA w L (UE ⟨#[]⟩) blk mblk B):dD w L blk mblk/\∀b∈aP L blk mblk,B<=b:=by
 refine⟨⟨fun p hp=>?_,fun x hx hd=>h.file x hx (yu ok (.inr ⟨x,hx,rfl⟩)) hd,fun p q hp hq=>h.apart p q (yu ok (.inl hp)) (yu ok (.inl hq)) hp hq⟩,fun b hb=>?_⟩
 ·obtain⟨h1,h2,h3,_⟩:=h.dir p (yu ok (.inl hp)) hp;exact⟨h1,h2,h3⟩
 ·unfold aP at hb;have hr:bC L ⟨#[]⟩:=.inl rfl;rcases mem_cons.1 hb with rfl|hb
  ·exact h.low _ (.inl rfl) (.inl hr)
  ·rcases mem_cons.1 hb with rfl|hb
   ·exact(h.dir _ (.inl rfl) hr).2.2.2
   ·obtain⟨x,hx,hxb⟩:=mem_flatMap.1 hb;have hu:=yu ok (L:=L) (.inr ⟨x,hx,rfl⟩);split at hxb
    ·rename_i hd;have Pn:bC L x.path:=.inr ⟨x,hx,rfl,hd⟩;simp only[mem_cons,not_mem_nil,or_false] at hxb;rcases hxb with rfl|rfl
     ·exact h.low _ hu (.inr ⟨x,hx,rfl⟩)
     ·exact(h.dir _ hu Pn).2.2.2
    ·simp only[mem_cons,not_mem_nil,or_false] at hxb;rw[hxb];exact h.low _ hu (.inr ⟨x,hx,rfl⟩)
structure NA(w w':World)(d:DP)(S':Dk)(R:(Nat × Nat × Nat) × Sc)(L:List It)(q:Nat):Prop where
 made:∃(d':DP) (ms:List Nat) (ao:Option Addr) (co:Nat) (blk mblk:Zy->Nat),aB w' d' S'/\d'.p=d.p/\(∀b∈d'.blocks,(b∈d.blocks\/w.heap.size<=b)/\b<q)/\Fr w w' d.blocks/\
  ai w' q 119 (pU (.pointer (some ⟨blk ⟨#[]⟩,0,none⟩)) d.p ms (.slice ao R.2.I.length co) R.1.1 R.1.2.1 R.1.2.2 false)/\fF w' ms R.2.H/\w'.ownsRow 0 123 34 (.slice ao R.2.I.length co) R.2.I.length (bG R.2.I)/\dD w' L blk mblk/\
  w.heap.size<=q/\(∀m∈ms,w.heap.size<=m/\m<q/\m∉d'.blocks)/\(∀g,(Value.slice ao R.2.I.length co).ownBlock=some g->w.heap.size<=g/\g<q/\g∉d'.blocks/\g∉ms)/\∀b∈aP L blk mblk,q<b
theorem Fu(G:eO a w)(hC:dI c w)(h:aB w d S)(hF:wY d)(ok:S.Ok)(hf:S.fuse<=9223372036854775807)(gV:S.wait.length<=900000)(hG:18<=w.heap.size)(h4:4<=S.safe.length)(h0:S.seen.getD 0 ByteArray.empty=dG S.safe.length)
  (i num crc:Nat) (zn:Sc) (hR:qO c S.seen S.safe.length 1 1 (bQ S.safe.length) ⟨[],[],[]⟩=((i,num,crc),zn)/\nU c S.seen S.safe.length 1 1 (bQ S.safe.length) ⟨[],[],[]⟩=true) (hi:i<=S.safe.length) (hcw:(dN S i).2=0) (okS':(dN S i).1.Ok) (L:List It) (QZ:aC L) (hfit:wM zn.H (dN S i).1.safe.length) (hI:∀x∈zn.I,x.1.size=32) (hL:qU c (dN S i).1 zn.H zn.I L):
  Zc 45 #[Zp d.p] w fun e w'=>∃q,e=.returned (.tuple #[Zp q,.nilIface])/\NA w w' d (dN S i).1 ((i,num,crc),zn) L q:=by
 have jD:=ok.most;have Z9:=jH h ok 0 ok.pos;rw[h0] at Z9;have hfp:∀b∈ [d.p],18<=b:=by intro b hb;rw[Zm.1 hb];exact hF.p
 have HS:Hid (∀w1,aB w1 d S->Zc 62 #[Zp d.p] w1 fun e w'=>e=.returned (Zi S.safe.length)/\w1=w'):=fun w1 hd=>fK hd ok;have HH:Hid (∀w1,Zc 82 #[Zi S.safe.length] w1 fun e w'=>e=.returned (.string (dG S.safe.length))/\Below w1.heap.size w1 w'):=fun w1=>OT S.safe.length jD w1;have HRec:Hid (∀w1 p,aB w1 d S->Fr w w1 [d.p]->aR w1 p ⟨[],[],[]⟩->(∀b∈p.blocks,w.heap.size<=b)->Zc 86 #[Zp d.p,.func (.func 87) #[Zp p.q] #[]] w1 (BS w1 d S p ((i,num,crc),zn))):=fun w1 p hd f1 hsc hp=>by
  have:=Nu (hC.fr f1 hfp) hd hF ok (by omega) (Nat.le_trans hG f1.size) hsc (fun b hb hm=>by have:=h.lt b hb;have:=hp b hm;omega) (fun b hb=>Nat.le_trans hG (hp b hb)) hR.2;rw[hR.1] at this;exact this
 have HW:Hid (∀w1 (bs:List Nat),aB w1 d S->Fr w w1 bs->(∀b∈bs,18<=b)->Zc 80 #[Zp d.p,Zi i] w1 fun e w'=>e=.returned .nilIface/\dW w1 w' d (dN S i).1):=fun w1 bs hd f1 hb=>by
  have:=zR (G.fr f1 hb) hd hF ok hf gV (Nat.le_trans hG f1.size) i hi;rw[hcw,jI] at this;exact this
 have Yx:Hid (∀(w1:World) (q:Nat) (d1:DP) (ms bs:List Nat) (ao:Option Addr) (co:Nat),Fr w w1 bs->(∀b∈bs,18<=b)->wY d1->iW w1 q d1 (dN S i).1 ms zn.H->w1.cell? (Za q 6)=some (.slice ao zn.I.length co)->w1.ownsRow 0 123 34 (.slice ao zn.I.length co) zn.I.length (bG zn.I)->(∀g,(Value.slice ao zn.I.length co).ownBlock=some g->g≠d1.p)->zn.I.length<=5000->Zc 88 #[Zp q] w1 (jJ w1 L ⟨#[]⟩ d1 (dN S i).1)):=fun w1 q d1 ms bs ao co f1 hb hF1 hrd c6 hO hg hIl=>Kr ⟨G.fr f1 hb,hC.fr f1 hb,hF1,okS',hrd,hfit⟩ QZ zn.I hI hIl hL ao co c6 hO hg;have HL:Hid _:=h.lt;have xV:Hid _:=hF;have hdG:=hF.p;have hb0:((dG S.safe.length).toList==(dG S.safe.length).toList)=true:=by simp
 have h4':¬(S.safe.length:Int)<4:=by omega
 clear h h0 hcw G hC hF hR hL;generalize dG S.safe.length=st at *;generalize(dN S i).1=S' at *;go_enter func45,ntmps45;go_wp2_with(first
  | (go_at_call 84;refine Z9.mono ?_;rintro e w1 ⟨rfl,h1,f1⟩;have hS:=HS.out w1 h1)
  | (go_at_call 62;refine hS.mono ?_;rintro e w2 ⟨rfl,rfl⟩)
  | (go_at_call 82;refine(HH.out _).mono ?_;rintro e w3 ⟨rfl,hb3⟩;have f3:Fr w w3 [d.p]:=f1.trans (Fr.of_below hb3 []) (fun x hx=>nomatch hx))
  | (go_at_call 85;refine(Kt w3).mono ?_;rintro e w4 ⟨p,rfl,hsc4,hp4,hb4⟩;have f4:Fr w w4 [d.p]:=(f3.trans (Fr.of_below hb4 []) (fun x hx=>nomatch hx));have h4d:aB w4 d S:=((h1.below hb3).below hb4);have hRec:=(HRec.out w4 p h4d f4 hsc4 (fun b hb=>Nat.le_trans f3.size (hp4 b hb)));unfold BS iZ at hRec)
  | (go_at_call 86;refine hRec.mono ?_;rintro e w5 ⟨p5,hT5,rfl,hsc5,h5,f5⟩;have F5:Fr w (w5.alloc (.cells #[Zi i,.int .u32 (num:Nat),.int .u32 (crc:Nat)] 117)) [d.p]:=((f4.trans f5 (fun x hx hlx=>by rcases mem_cons.1 hx with e|e;simp[e];have:=hp4 x e;have:=f3.size;omega)).alloc _);have b5:Below w5.heap.size w5 (w5.alloc (.cells #[Zi i,.int .u32 (num:Nat),.int .u32 (crc:Nat)] 117)):=((Zr).alloc (Zn) _);have QB:=HW.out _ [d.p] (h5.below b5) F5 (by intro b hb;rw[Zm.1 hb];exact hdG))
  | (go_at_call 80;refine QB.mono ?_;rintro e w6 ⟨rfl,hd6⟩))
 obtain⟨d6,a1,a2,a3,a4⟩:=hd6;have hw3:=f3.size;have hw4:=hb4.size;have hw5:=f5.size;have hw5a:=b5.size;have hw6:=a4.size;have WS:∀b∈p5.blocks,w.heap.size<=b/\b<w5.heap.size:=fun b hb=>⟨by
  rcases hT5.sub b hb with hh|hh
  ·have:=hp4 b hh;omega
  ·omega,hsc5.lt b hb⟩
 have hdl:∀b∈d.blocks,b<w.heap.size:=HL.out;have Kv:aR w6 p5 zn:=(hsc5.below b5).fr a4 (fun b hb hm=>by have:=(WS b hb).1;have:=hdl b hm;omega);have t6:=a4.row (ai.new w5 117 [Zi i,.int .u32 (num:Nat),.int .u32 (crc:Nat)]) (fun hm=>by have:=hdl _ hm;omega);have F6:Fr w w6 d.blocks:=(F5.wider (by simp[DP.blocks])).trans a4 (fun x hx _=>hx);have Uo:∀b∈d6.blocks,b<w6.heap.size:=a1.lt;have Q7:∀b∈p5.blocks,b∉d6.blocks:=fun b hb hm=>by
  have h1:=WS b hb;rcases a3 b hm with hh|hh
  ·have:=hdl b hh;omega
  ·omega
 have hF6:wY d6:=fun b hb=>by
  rcases a3 b hb with hh|hh
  ·exact xV.out b hh
  ·omega
 have hms:=Kv.objs.len;have Q8:=hT5.q;obtain⟨m0,m1,m2,m3,hmm⟩:∃m0 m1 m2 m3,p5.ms=[m0,m1,m2,m3]:=by
  match hx:p5.ms,hms with
  |[m0,m1,m2,m3],_=>exact⟨_,_,_,_,rfl⟩
 have c0:w6.cell? (Za p.q 0)=some (.map (some m0)):=by rw[<-Q8,Kv.map 0 (by omega)];simp[hmm]
 have c1:w6.cell? (Za p.q 1)=some (.map (some m1)):=by rw[<-Q8,Kv.map 1 (by omega)];simp[hmm]
 have c2:w6.cell? (Za p.q 2)=some (.map (some m2)):=by rw[<-Q8,Kv.map 2 (by omega)];simp[hmm]
 have c3:w6.cell? (Za p.q 3)=some (.map (some m3)):=by rw[<-Q8,Kv.map 3 (by omega)];simp[hmm]
 have c5:w6.cell? (Za p.q 5)=some (.slice p5.ao zn.I.length p5.co):=by rw[<-Q8];exact Kv.sl
 have e0:w6.cell? (Za w5.heap.size 0)=some (Zi i):=t6.cell 0;have e1:w6.cell? (Za w5.heap.size 1)=some (.int .u32 (num:Nat)):=t6.cell 1;have e2:w6.cell? (Za w5.heap.size 2)=some (.int .u32 (crc:Nat)):=t6.cell 2;have r7:ai (w6.alloc (.cells #[.pointer none,Zp d.p,.map (some m0),.map (some m1),.map (some m2),.map (some m3),.slice p5.ao zn.I.length p5.co,Zi i,.int .u32 (num:Nat),.int .u32 (crc:Nat),.bool false] 119)).drew w6.heap.size 119 (pU (.pointer none) d.p [m0,m1,m2,m3] (.slice p5.ao zn.I.length p5.co) i num crc false):=(ai.new w6 119 (pU (.pointer none) d.p [m0,m1,m2,m3] (.slice p5.ao zn.I.length p5.co) i num crc false)).drew;have b7:Below w6.heap.size w6 (w6.alloc (.cells #[.pointer none,Zp d.p,.map (some m0),.map (some m1),.map (some m2),.map (some m3),.slice p5.ao zn.I.length p5.co,Zi i,.int .u32 (num:Nat),.int .u32 (crc:Nat),.bool false] 119)).drew:=((Zr).alloc (Zn) _).drew;have hs7:(w6.alloc (.cells #[.pointer none,Zp d.p,.map (some m0),.map (some m1),.map (some m2),.map (some m3),.slice p5.ao zn.I.length p5.co,Zi i,.int .u32 (num:Nat),.int .u32 (crc:Nat),.bool false] 119)).drew.heap.size=w6.heap.size+1:=by simp
 have Uq:=Kv.below b7;have zo:∀g,(Value.slice p5.ao zn.I.length p5.co).ownBlock=some g->g∈p5.blocks:=fun g hg=>by
  simp only[lH.blocks,mem_append];exact .inr (Zo.2 ((bO p5.ao 0 0 zn.I.length p5.co).trans hg))
 have Fv:∀b∈p5.ms,b∈p5.blocks:=fun b hb=>by simp[lH.blocks,hb]
 have NC:d6.p∈d6.blocks:=by simp[DP.blocks]
 have rd7:iW (w6.alloc (.cells #[.pointer none,Zp d.p,.map (some m0),.map (some m1),.map (some m2),.map (some m3),.slice p5.ao zn.I.length p5.co,Zi i,.int .u32 (num:Nat),.int .u32 (crc:Nat),.bool false] 119)).drew w6.heap.size d6 S' p5.ms zn.H:=⟨by rw[a2];exact r7.cell 1,fun k v hv=>by rw[hmm] at hv;rw[r7.cell (2+k)];unfold pU;rw[append_assoc,getElem?_append_right (by simp),show 2+k- [Value.pointer none,Zp d.p].length=k by simp,getElem?_append_left (List.getElem?_eq_some_iff.1 hv).1];exact hv,Uq.objs,a1.below b7,r7.lt,⟨fun e=>by have:=Uo _ NC;omega,fun hm=>Q7 _ (Fv _ hm) NC⟩⟩;have cL:=Yx.out _ w6.heap.size d6 p5.ms d.blocks p5.ao p5.co ((F6.alloc (.cells #[.pointer none,Zp d.p,.map (some m0),.map (some m1),.map (some m2),.map (some m3),.slice p5.ao zn.I.length p5.co,Zi i,.int .u32 (num:Nat),.int .u32 (crc:Nat),.bool false] 119)).drew) (fun b hb=>xV.out b hb) hF6 rd7 (r7.cell 6) Uq.own (fun g hg e=>Q7 g (zo g hg) (by rw[e];exact NC)) Uq.few.2.2;have R7:Hid _:=r7;have B7:Hid _:=b7;have SC7:Hid _:=Uq;have S7:Hid _:=hs7;have FF:Hid _:=F6;clear r7 b7 hs7 Uq rd7 Kv t6 hsc5 hRec QB Yx HRec HW F6 hsc4;go_region;go_wp2_with(go_at_call 88;refine cL.mono ?_;rintro e w8 ⟨b,blk,mblk,rfl,hbp,hsub,hd8,hf8⟩;have r8:=hf8.row R7.out (by simp;intro e;have:=Uo _ NC;omega);have k0:w8.cell? (Za w6.heap.size 0)=some (.pointer none):=(r8.cell 0);have k1:=r8.frozen 0);have hl8:=hf8.size;have hs7:=S7.out;have f9:Fr w8 (w8.setCell (Za w6.heap.size 0) (Zp b)) [w6.heap.size]:=(Fr.refl _ _).setCell _ _ (.inl (by simp));have ab8:d6.p<w6.heap.size:=Uo _ NC;obtain⟨htr,hlow⟩:=((hsub.keep (w':=w8.setCell (Za w6.heap.size 0) (Zp b)) (fun k h1 h2=>f9.block k h2 (by simp;omega))).tree QZ);have hobj:=(SC7.out.objs.fr hf8 (fun x hx hm=>Q7 x (Fv x hx) (by rw[Zm.1 hm];exact NC))).fr f9 (fun x hx hm=>by have:=(WS x (Fv x hx)).2;rw[Zm.1 hm] at this;omega);have aaF:=aT (aT SC7.out.own hf8 (fun g hg hm=>Q7 g (zo g hg) (by rw[Zm.1 hm];exact NC))) f9 (fun g hg hm=>by have:=(WS g (zo g hg)).2;rw[Zm.1 hm] at this;omega);have hr9:=r8.set 0 (Zp b);refine bodyPost_ret (results_tmp2 rfl _ _ _) rfl ⟨w6.heap.size,rfl,⟨d6,p5.ms,p5.ao,p5.co,blk,mblk,hd8.fr f9 (fun x hx hm=>by have:=Uo x hx;rw[Zm.1 hm] at this;omega),a2,fun x hx=>⟨(a3 x hx).imp id (fun hh=>by omega),Uo x hx⟩,?_,?_,hobj,aaF,htr,by omega,fun m hm=>⟨(WS m (Fv m hm)).1,by have:=(WS m (Fv m hm)).2;omega,Q7 m (Fv m hm)⟩,fun g hg=>⟨(WS g (zo g hg)).1,by have:=(WS g (zo g hg)).2;omega,Q7 g (zo g hg),(SC7.out.apart.2.2.2 g hg).2.2⟩,fun x hx=>by have:=hlow x hx;omega⟩⟩
 ·exact(((FF.out.alloc _).drew).trans hf8 (fun x hx _=>by rw[Zm.1 hx,a2];simp[DP.blocks])).setCell _ _ (.inr (by show w.heap.size<=w6.heap.size;omega))
 ·rw[hbp,hmm];exact hr9
theorem zq(a:Nat->Addr)(h:n≠0):∃ea,dx a n=.iface 452 (.pointer (some ea)):=by
 unfold dx;rw[if_neg h];exact⟨_,rfl⟩
def gY:Nat->Dk->Nat->Zy->Dk × Nat
 | 0,S,_,_=>dS S
 | f+1,S,i,t=>if(bK S i (t.extract 0 64)).2≠0 then bK S i (t.extract 0 64) else gY f (bK S i (t.extract 0 64)).1 (i+1) (t.extract 64 t.size)
theorem GU(G:eO a w)(h:aB w d S)(hF:wY d)(ok:S.Ok)(hf:S.fuse<=9223372036854775807)(gV:S.wait.length<=900000)(hG:18<=w.heap.size)(i n:Nat)(t:Zy)(ht:t.size=64*n)(hi:i+n<=S.safe.length):
  Zc 237 #[Zp d.p,Zi i,.string t] w fun e w'=>e=.returned (dx a (gY n S i t).2)/\dW w w' d (gY n S i t).1:=by
 have jD:=ok.most;have xV:Hid _:=hF;have Lu:Hid _:=G;have HHG:Hid _:=hG;have H0:Hid _:=h;obtain⟨R,HR⟩:∃R,Hid (gY n S i t=R):=⟨_,rfl⟩;rw[HR.out];clear h hF G hG;go_enter func237,ntmps237;go_wp2;go_loopw [2,7] (fun tv iv wr=>∃(j:Nat) (t1:Zy) (S1:Dk) (d1:DP),tv=.string t1/\iv=.int .i64 ((j:Nat):Nat)/\i<=j/\j<=i+n/\t1.size=64*(i+n-j)/\Hid (aB wr d1 S1)/\d1.p=d.p/\Hid (∀b∈d1.blocks,b∈d.blocks\/w.heap.size<=b)/\Hid (Fr w wr d.blocks)/\Hid S1.Ok/\Hid (S1.fuse<=9223372036854775807)/\Hid (S1.safe.length=S.safe.length)/\Hid (S1.wait.length<=S.wait.length+(j-i))/\Hid (gY (i+n-j) S1 j t1=R)) (fun _ iv _=>i+n-(intOf iv).toNat)
 case atStart=>exact⟨i,t,S,d,rfl,rfl,Zn,by omega,by rw[ht];congr 1;omega,H0.out,rfl,fun b hb=>.inl hb,Fr.refl _ _,ok,hf,rfl,by show S.wait.length<=_;omega,by rw[show i+n-i=n by omega];exact HR.out⟩
 case round=>
  obtain⟨j,t1,S1,d1,rfl,rfl,hij,hjn,ht1,HD,hq,WT,Hfr,Hok,Hf1,Hl1,Hw1,HRj⟩:=hrel;have hl1:=Hl1.out;have hw1:=Hw1.out;have JS:wY d1:=wY.step xV.out HHG.out WT.out;have hG1:eO a wr:=Lu.out.fr Hfr.out xV.out;by_cases hlt:j<i+n
  ·have hne:t1.toList.isEmpty=false:=by rw[dP];exact decide_eq_false (fun e=>by rw[e] at ht1;have:(⟨#[]⟩:Zy).size=0:=rfl;omega)
   have h64:(64:Int)<=(t1.size:Int):=by omega
   have hx:(t1.extract 0 64).size=64:=by rw[ByteArray.size_extract];omega
   have hW':=wE hG1 HD.out JS Hok.out Hf1.out j (by omega) (t1.extract 0 64) hx (by omega);rw[hq] at hW';have hRj:=HRj.out;rw[show i+n-j=(i+n-(j+1))+1 by omega,gY] at hRj;have ok2:Hid (bK S1 j (t1.extract 0 64)).1.Ok:=oW Hok.out j (by omega) _ hx (by omega);have hf2:Hid _:=jV Hf1.out j (t1.extract 0 64);have hs2:=lN S1 j (t1.extract 0 64);have hw2:=og S1 j (t1.extract 0 64);have hx2:(t1.extract 64 t1.size).size=64*(i+n-(j+1)):=by rw[ByteArray.size_extract];omega
   have HX:Hid _:=hx;have Yj:Hid _:=hx2;have HT1:Hid _:=ht1;clear hx hx2 ht1;generalize bK S1 j (t1.extract 0 64)=W at *;obtain⟨S2,c2⟩:=W;simp only at hW' ok2 hs2 hw2 hRj hf2;by_cases hc:c2=0
   ·subst hc;rw[if_neg (by simp)] at hRj;have HP:Hid _:=hRj;clear hRj;rw[jI] at hW';have HW:Hid _:=hW';clear hW';go_wp2_with(go_at_call 81;refine Calls.mono HW.out ?_;rintro e w3 ⟨rfl,hd⟩);obtain⟨d2,a1,a2,a3,a4⟩:=dW.trans hq WT.out Hfr.out hd;refine⟨⟨j+1,t1.extract 64 t1.size,S2,d2,rfl,rfl,by omega,by omega,Yj.out,a1,a2,a3,a4,ok2.out,hf2.out,by show _=_;rw[hs2];exact hl1,by show _<=_;omega,HP.out⟩,?_⟩;show i+n-(((j+1:Nat):Int)).toNat<i+n-((j:Int)).toNat;omega
   ·rw[if_pos hc] at hRj;have HP:Hid (R=(S2,c2)):=hRj.symm;obtain⟨ea,M9⟩:=zq a hc;rw[M9] at hW';have HW:Hid _:=hW';clear hW' hRj;have HE:Hid _:=M9;clear M9;go_wp2_with(go_at_call 81;refine Calls.mono HW.out ?_;rintro e w3 ⟨rfl,hd⟩);go_ret;rw[HP.out];exact⟨by rw[HE.out];rfl,dW.trans hq WT.out Hfr.out hd⟩
  ·have hte:t1.size=0:=by rw[ht1];omega
   have hne:t1.toList.isEmpty=true:=by rw[dP];exact decide_eq_true (ji (by rw[Array.eq_empty_of_size_eq_zero hte]))
   have hFl':=wF hG1 HD.out JS Hok.out Hf1.out;rw[hq] at hFl';have HFl:Hid _:=hFl';clear hFl';have hRj:=HRj.out;rw[show i+n-j=0 by omega,gY] at hRj;have HP:Hid (R=dS S1):=hRj.symm;clear hRj;go_wp2_with(go_at_call 83;refine Calls.mono HFl.out ?_;rintro e w3 ⟨rfl,hd⟩);go_ret;rw[HP.out];exact⟨rfl,dW.trans hq WT.out Hfr.out hd⟩
end
section
open Go.RowKit Go.Maps Go.Lib
theorem Fx:(prog.info? 275).map (·.size)=some 2:=by kernel_rfl
theorem Q9:liesAt prog prog.depth 277 (13 / prog.cellsOf 277) 8 275 1=true:=by kernel_rfl
theorem Eg(h:ai w q 277 vs)(h8:vs[8]? =some (.pointer (some (Za q 8)))):
  Zc 260 #[.pointer (some (Za q 8))] w fun e w'=>e=.returned (.tuple #[])/\w'=w:=by
 obtain⟨j,hj,_⟩:=Option.map_eq_some_iff.1 Fx;have h0:w.cell? (Za q 8)=some (.pointer (some (Za q 8))):=(h.cell 8).trans h8;go_enter func260,ntmps260;go_wp2;rw[Lib.run_neq_ptr_same w _ underlying273 hj];go_wp2;go_end0;exact⟨rfl,rfl⟩
theorem Cb(h:ai w q 277 vs)(hl:vs.length=13)(h8:vs[8]? =some (.pointer none)):
  Zc 260 #[.pointer (some (Za q 8))] w fun e w'=>e=.returned (.tuple #[])/\w'=w.setCell (Za q 8) (.pointer (some (Za q 8))):=by
 obtain⟨j,hj,hjs⟩:=Option.map_eq_some_iff.1 Fx;have h0:w.cell? (Za q 8)=some (.pointer none):=(h.cell 8).trans h8;have hsh:w.shape? q=some (277,13):=by simp[World.shape?,h.heap,hl]
 have hfz:=h.frozen 8;go_enter func260,ntmps260;go_wp2;rw[Lib.run_to_unsafe w (Za q 8) underlying273 underlying239 hj (by rw[hjs];decide) hsh (by show 8<13;decide)];simp only[Result.andThen];rw[Oper.upon_value];go_wp2;rw[run_callFunc_extern func279 (by kernel_rfl) (by kernel_rfl) (by kernel_rfl) (e:=Extern.AbiNoEscape.same) (by kernel_rfl)];rw[Lib.run_noEscape];simp only[Result.andThen];rw[Oper.upon_value];go_wp2;rw[Lib.run_from_unsafe w (Za q 8) underlying239 underlying273 hj hsh Q9];simp only[Result.andThen];rw[Oper.upon_value];go_wp2;go_end0;exact⟨rfl,rfl⟩
def vN(q:Nat)(u:Bool):Value:=.pointer (if u=true then some (Za q 8) else none)
theorem Ur(h:ai w q 277 vs)(hl:vs.length=13)(h8:vs[8]? =some (vN q u)):
  Zc 260 #[.pointer (some (Za q 8))] w fun e w'=>e=.returned (.tuple #[])/\ai w' q 277 (vs.set 8 (vN q true))/\Fr w w' [q]:=by
 cases u with
 | false=>
  refine(Cb h hl h8).mono ?_;rintro e w' ⟨rfl,rfl⟩;exact⟨rfl,h.set 8 _,(Fr.refl _ _).setCell _ _ (.inl (by simp))⟩
 | true=>
  refine(Eg h h8).mono ?_;rintro e w' ⟨rfl,rfl⟩;refine⟨rfl,?_,Fr.refl _ _⟩;have:vs.set 8 (vN q true)=vs:=ext_getElem? (fun i=>by
   rw[getElem?_set];split
   ·rename_i e;subst e;rw[if_pos (by omega),h8]
   ·rfl)
  rw[this];exact h
theorem Us(w:World)(base:Nat)(t u ty e:TypeId)(i:TypeInfo)(ht:P.underlying t=some (.slice e))(hu:P.underlying u=some .string)(hi:P.info? e=some i)(hz:i.zero=some (.int .u8 0))
  (hsize:i.size=1) (hby:i.bytes=1) (v:Value) (n:Nat) (xs:List Value) (aY:w.ownsRow base e 1 v n xs) (s:Zy)
  (h63:n+s.size<=maxLen) (hbytes:n+s.size<=140737488355328) (_:base<=w.heap.size) (hr:(Builtin.append_ #[t,u] ty #[v,.string s]).run P w=.ok v' w'):
  ∀g,v'.ownBlock=some g->v.ownBlock=some g\/w.heap.size<=g:=by
 intro g hg;have hsmall:n+s.size<=9223372036854775807:=by simp only[maxLen] at h63;omega
 have hxl:xs.length=n:=by simpa using aY.1
 rcases aY.2 with⟨rfl,rfl⟩|⟨k,cap,cur,rfl,hbg,hk,hnc,hcm,hcs,htake⟩
 ·obtain⟨v2,w2,hr2,ho2,_⟩:=run_append_own_string (P:=P) w w.heap.size t u ty e i ht hu hi hz hsize hby (.slice none 0 0) 0 [] (World.ownsRow_nil _ _ _ _) s h63 hbytes (Zn);rw[hr2] at hr;injection hr with e1 e2
  subst e1;exact .inr (ho2.lt g hg).1
 ·by_cases hroom:n+s.size<=cap
  ·have hr2:=run_append_room_string (P:=P) w t u ty e i ht hu hi hsize k n cap cur hk s hroom (by omega);rw[hr2] at hr;injection hr with e1 e2
   subst e1;exact .inl hg
  ·have holds:∀j u,xs[j]? =some u->w.cell? (((Za k 0):Addr).add j)=some u:=aY.cells (g:=k) rfl;have hr2:=run_append_grow_string (P:=P) w t u ty e i (.int .u8 0) ht hu hi hz (Za k 0) n cap xs (by rw[hsize];simpa using hxl) holds s (by omega) (by omega) (by rw[hby];exact growslice_fits (by omega) (by omega));rw[hr2] at hr;injection hr with e1 e2
   subst e1;simp only[Value.ownBlock,Option.some.injEq] at hg;exact .inr (by omega)
theorem yw(w:World){ops:Array Oper}{rest:List Oper}{o:Oper}{a:Act}{Q:Exit->Act->World->Prop}(hgd:o.guard=none)(sl x:Operand)(t u:TypeId)
  (ho:o.op=.call {callee:=.builtin .append,args:=#[sl,x],argTypes:=#[t,u]})
  (base:Nat) (e:TypeId) (i:TypeInfo) (ht:P.underlying t=some (.slice e)) (hu:P.underlying u=some .string) (hi:P.info? e=some i) (hz:i.zero=some (.int .u8 0))
  (hsize:i.size=1) (hby:i.bytes=1)
  (v:Value) (n:Nat) (xs:List Value) (hs:a.eval sl=v) (aY:w.ownsRow base e 1 v n xs) (s:Zy) (hx:a.eval x=.string s)
  (h63:n+s.size<=maxLen) (hbytes:n+s.size<=140737488355328) (hbase:base<=w.heap.size)
  (h:∀v' w',w'.ownsRow base e 1 v' (n+s.size) (xs++strCells s)->w.grownBy w' v.ownBlock->(∀g,v'.ownBlock=some g->v.ownBlock=some g\/w.heap.size<=g)->wpList P ops Q rest (a.put o.dst v') w'):wpList P ops Q (o::rest) a w:=by
 refine wpList_plain hgd fun K hK=>?_;obtain⟨v',w',hr,h2,h3,_⟩:=run_append_own_string (P:=P) w base t u o.type e i ht hu hi hz hsize hby v n xs aY s h63 hbytes hbase;have h4:=Us (P:=P) w base t u o.type e i ht hu hi hz hsize hby v n xs aY s h63 hbytes hbase hr;unfold Oper.wp execOp;simp only[ho,resolve,invoke,builtin,Sem.run_bind,Sem.run_pure,Result.andThen_ok,map_toArray,map_cons,map_nil,hs,hx,hr];exact hK _ _ (h v' w' h2 h3 h4)
theorem aaG:(prog.info? 5).map (fun i=>(i.zero,i.size,i.bytes))=some (some (.int .u8 0),1,1):=by kernel_rfl
theorem Ra(h:ai w q 277 vs)(hl:vs.length=13)(h8:vs[8]? =some (vN q u))(h9:vs[9]? =some (.slice ao t0.size co))(aY:w.ownsRow 0 5 1 (.slice ao t0.size co) t0.size (strCells t0))(t:Zy)(hsz:t0.size+t.size<=100000000):
  Zc 213 #[.pointer (some (Za q 8)),.string t] w fun e w'=>e=.returned (.tuple #[Zi t.size,.nilIface])/\∃Si co',ai w' q 277 ((vs.set 8 (vN q true)).set 9 (.slice Si (t0++t).size co'))/\w'.ownsRow 0 5 1 (.slice Si (t0++t).size co') (t0++t).size (strCells (t0++t))/\Fr w w' (q::(Value.slice ao 0 0).ownBlock.toList)/\(∀g,(Value.slice Si 0 0).ownBlock=some g->(Value.slice ao 0 0).ownBlock=some g\/w.heap.size<=g):=by
 obtain⟨i0,hi,hz0,hz1,hz2⟩:=info_parts aaG;have hne:(Value.slice ao t0.size co).ownBlock≠some q:=Lib.ownBlock_ne aY h.heap (by decide);have hCk:Hid _:=Ur h hl h8;have hown1:∀w1,Fr w w1 [q]->w1.ownsRow 0 5 1 (.slice ao t0.size co) t0.size (strCells t0):=fun w1 f=>aT aY f (fun g hg hm=>by rw[Zm.1 hm] at hg;exact hne hg);go_enter func213,ntmps213;go_wp2_with(first
  | (go_at_call 260;refine Calls.mono hCk.out ?_;rintro e w1 ⟨rfl,hr1,hf1⟩;have c9:w1.cell? (Za q 9)=some (.slice ao t0.size co):=(hr1.cell 9).trans (by rw[getElem?_set_ne (by decide)];exact h9))
  | (at_builtin;refine yw _ rfl _ _ 124 9 rfl 0 5 i0 underlying124 underlying9 hi hz0 hz1 hz2 (.slice ao t0.size co) _ _ rfl (hown1 w1 hf1) t rfl (by unfold maxLen;omega) (by omega) (Nat.zero_le _) ?_;intro v' w2 hown' aN hlies;have hr2:ai w2 q 277 (vs.set 8 (vN q true)):=⟨by rw[aN.block q hr1.lt (fun e=>hne e.symm)];exact hr1.heap⟩;have f9:=hr2.frozen 9;have d9:w2.cell? (Za q 9)=some (.slice ao t0.size co):=(hr2.cell 9).trans (by rw[getElem?_set_ne (by decide)];exact h9);obtain⟨Si,n',cap,rfl⟩:∃ao n' cap,v'=.slice ao n' cap:=by rcases hown'.2 with⟨hv,_⟩|⟨g,cap,cur,hv,_⟩<;>exact⟨_,_,_,hv⟩))
 go_ret2;have hn':n'=(t0++t).size:=by
  rw[ByteArray.size_append];rcases hown'.2 with⟨hv,h0⟩|⟨g,cap,cur,hv,_⟩
  ·injection hv with _ e _;omega
  ·injection hv
 subst hn';have hne':(Value.slice Si (t0++t).size cap).ownBlock≠some q:=Lib.ownBlock_ne hown' hr2.heap (by decide);have hF:Fr w1 (w2.setCell (Za q 9) (.slice Si (t0++t).size cap)) (q::(Value.slice ao 0 0).ownBlock.toList):=((Fr.refl w1 _).grown aN (fun k hk=>.inl (by rw[bO ao 0 0 t0.size co,hk];simp))).setCell _ _ (.inl (by simp));refine⟨rfl,Si,cap,hr2.set 9 _,?_,(hf1.wider (by simp)).trans hF (fun x hx _=>hx),?_⟩
 ·rw[kK];rw[ByteArray.size_append] at hown' hne'⊢;exact aT hown' ((Fr.refl w2 [q]).setCell _ _ (.inl (by simp))) (fun g hg hm=>by rw[Zm.1 hm] at hg;exact hne' hg)
 ·intro g hg;rcases hlies g (by rw[bO Si _ _ 0 0];exact hg) with h1|h1
  ·exact .inl (by rw[bO ao 0 0 t0.size co];exact h1)
  ·exact .inr (by have:=hf1.size;omega)
theorem WU(h:ai w q 277 vs)(h9:vs[9]? =some (.slice ao n co)):
  Zc 214 #[.pointer (some (Za q 8))] w fun e w'=>e=.returned (Zi n)/\w'=w:=by
 have c9:w.cell? (Za q 9)=some (.slice ao n co):=(h.cell 9).trans h9;go_enter func214,ntmps214;go_wp2;go_ret;exact⟨rfl,rfl⟩
theorem Rb(h:Fr w w' bs)(p:Addr)(n:Nat)(hp:p.block∈bs\/w.heap.size<=p.block):Fr w (w'.freeze p n) bs:=by
 unfold World.freeze;split
 ·exact h
 ·refine⟨h.os,h.tape,h.output,by simpa using h.size,fun k hk hn=>?_⟩;show(Array.modify _ _ _)[k]? =_;rw[Array.getElem?_modify,if_neg (fun e=>by rcases hp with h1|h1;exact hn (e▸h1);omega)];exact h.block k hk hn
theorem WV:prog.cellsOf 5=1:=by kernel_rfl
theorem ND(h:ai w q 277 vs)(h9:vs[9]? =some (.slice ao t.size co))(aY:w.ownsRow 0 5 1 (.slice ao t.size co) t.size (strCells t))(h0:0<t.size):
  Zc 215 #[.pointer (some (Za q 8))] w fun e w'=>e=.returned (.string t)/\Fr w w' (Value.slice ao 0 0).ownBlock.toList:=by
 obtain⟨l,hl⟩:∃l,t.data.toList=l:=⟨_,rfl⟩;have ht:t=⟨l.toArray⟩:=by rw[<-hl]
 have hts:t.size=l.length:=by rw[ht];rfl
 have hsc:strCells t=byteCells l:=by rw[<-hl];rfl
 rw[hts] at h9 aY h0;rw[hsc] at aY;have hne:l≠ []:=fun e=>by rw[e] at h0;exact absurd h0 (by decide)
 obtain⟨g,cap,cur,hv,hbg,hg,hnc,hcm,hcs,htake⟩:∃g cap cur,Value.slice ao l.length co=.slice (Zs g) l.length cap/\0<=g/\w.heap[g]? =some (.cells cur 5 (0,0))/\l.length<=cap/\cap<=maxLen/\cur.size=cap*1/\cur.toList.take (l.length*1)=Lib.byteCells l:=by
  rcases aY.2 with⟨_,hz⟩|⟨g,cap,cur,hv,r⟩
  ·omega
  ·exact⟨g,cap,cur,hv,r⟩
 injection hv with e1 _ e2
 subst e1 e2;have c9:w.drew.cell? (Za q 9)=some (.slice (Zs g) l.length co):=(h.cell 9).trans h9;have hSD:(Builtin.unsafeSliceData_ #[124] 397 #[.slice (Zs g) l.length co]).run prog w.drew=.ok (Zp g) w.drew:=
  Lib.run_unsafeSliceData_row _ _ _ _ _ _ (by omega)
 have hUS:(Builtin.unsafeString_ #[397,3] 9 #[Zp g,.int .i64 l.length]).run prog w.drew=.ok (.string ⟨l.toArray⟩) (w.drew.freeze (Za g 0) l.length):=by
  refine Lib.run_unsafeString_row w.drew 397 3 9 5 underlying397 WV g cur.size (by have hg':w.drew.heap[g]? =some (.cells cur 5 (0,0)):=hg;simp[World.shape?,hg']) l hne (by omega) (by unfold maxLen at hcm;omega) ?_;intro j x hx;have:=aY.cells (g:=g) rfl j (.int .u8 x.toNat) (by simp[Lib.byteCells,hx]);exact this
 rw[ht];go_enter func215,ntmps215;go_wp2;go_region
 all_goals(go_wp2;go_ret;refine⟨rfl,?_⟩)
 all_goals exact Rb (Fr.refl w _).drew (Za g 0) _ (.inl (by simp[Value.ownBlock]))
structure Dr where
 A:List Ob
 data:Zy
 pos:Nat
 num:Nat
 crc:Nat
structure iQ where
 q:Nat
 tm:List Nat
 am:List Nat
 used:Bool
 ao:Option Addr
 co:Nat
def iQ.blocks(p:iQ):List Nat:=p.q::p.am++(Value.slice p.ao 0 0).ownBlock.toList
def iQ.cells(p:iQ)(s:Dr):List Value:=aG p.tm++aG p.am++[vN p.q p.used,.slice p.ao s.data.size p.co,Zi s.pos,.int .u32 (s.num:Nat),.int .u32 (s.crc:Nat)]
structure jK(w:World)(p:iQ)(T:List Ob)(s:Dr):Prop where
 row:ai w p.q 277 (p.cells s)
 there:fF w p.tm T
 added:fF w p.am s.A
 own:w.ownsRow 0 5 1 (.slice p.ao s.data.size p.co) s.data.size (strCells s.data)
 apart:p.q∉p.tm/\p.q∉p.am/\(∀b∈p.am,b∉p.tm)/\∀g,(Value.slice p.ao 0 0).ownBlock=some g->g≠p.q/\g∉p.tm/\g∉p.am
theorem jK.fr{p:iQ}{s:Dr}(h:jK w p T s)(f:Fr w w' bs)(hb:∀b∈p.blocks,b∉bs)(ht:∀b∈p.tm,b∉bs):jK w' p T s:=by
 refine⟨f.row h.row (hb _ (by simp[iQ.blocks])),h.there.fr f ht,h.added.fr f (fun b hm=>hb b (by simp[iQ.blocks,hm])),aT h.own f (fun g hg=>hb g ?_),h.apart⟩;rw[bO p.ao _ _ 0 0] at hg;simp[iQ.blocks,hg]
theorem jK.below{p:iQ}{s:Dr}(h:jK w p T s)(f:Below w.heap.size w w'):jK w' p T s:=h.fr (Fr.of_below f []) (by simp) (by simp)
theorem jK.lt{p:iQ}{s:Dr}(h:jK w p T s):∀b∈p.blocks,b<w.heap.size:=fun b hb=>by
 simp only[iQ.blocks,cons_append,mem_cons,mem_append] at hb;rcases hb with rfl|hb|hb
 ·exact h.row.lt
 ·exact h.added.lt b hb
 ·have:=Zo.1 hb;rw[bO p.ao 0 0 s.data.size p.co] at this;exact(h.own.lt b this).2
theorem jK.cellsL{p:iQ}{s:Dr}(h:jK w p T s):(p.cells s).length=13:=by
 simp[iQ.cells,aG,h.there.len,h.added.len]
theorem jK.rangeT{p:iQ}{s:Dr}(h:jK w p T s):w.rangeAt p.q 0 (aG p.tm):=fun j v hv=>by
 have hj:j<(aG p.tm).length:=(List.getElem?_eq_some_iff.1 hv).1;rw[Nat.zero_add,h.row.cell j];unfold iQ.cells;rw[append_assoc,getElem?_append_left hj];exact hv
theorem jK.rangeA{p:iQ}{s:Dr}(h:jK w p T s):w.rangeAt p.q 4 (aG p.am):=fun j v hv=>by
 have hj:j<(aG p.am).length:=(List.getElem?_eq_some_iff.1 hv).1;have h4:(aG p.tm).length=4:=by simp[aG,h.there.len]
 rw[h.row.cell (4+j)];unfold iQ.cells;rw[append_assoc,getElem?_append_right (by omega),getElem?_append_left (by omega),h4,show 4+j-4=j by omega];exact hv
theorem jK.tailAt{p:iQ}{s:Dr}(h:jK w p T s):w.rangeAt p.q 8 [vN p.q p.used,.slice p.ao s.data.size p.co,Zi s.pos,.int .u32 (s.num:Nat),.int .u32 (s.crc:Nat)]:=fun j v hv=>by
 have h4:(aG p.tm++aG p.am).length=8:=by simp[aG,h.there.len,h.added.len]
 rw[h.row.cell (8+j)];unfold iQ.cells;rw[getElem?_append_right (by omega),h4,show 8+j-8=j by omega];exact hv
theorem Rc{B:List Value}(hA:A.length=4)(hB:B.length=4)(a b c d e a' b' c' d' e':Value):(((((A++B++[a,b,c,d,e]).set 8 a').set 9 b').set 10 c').set 11 d').set 12 e'=A++B++[a',b',c',d',e']:=by
 have h8:(A++B).length=8:=by rw[length_append,hA,hB]
 generalize A++B=C at *;rw[set_append_right _ _ (by omega),set_append_right _ _ (by omega),set_append_right _ _ (by omega),set_append_right _ _ (by omega),set_append_right _ _ (by omega),h8];rfl
def Dr.object(c:dz)(T:List Ob)(s:Dr)(k:Nat)(t:Zy):Dr:=
 if hasO T k (c.of t)=true\/hasO s.A k (c.of t)=true then s
 else⟨pO s.A ⟨c.of t,k,s.pos,t.size⟩,s.data++mq k s.num s.crc t,s.pos+(11+t.size+63) / 64,s.num+1,gB k s.num s.crc t⟩
def j6(w w':World)(p:iQ)(T:List Ob)(s:Dr):Prop:=
 ∃p':iQ,jK w' p' T s/\p'.q=p.q/\p'.tm=p.tm/\p'.am=p.am/\(∀b∈p'.blocks,b∈p.blocks\/w.heap.size<=b)/\Fr w w' p.blocks
theorem j6.same{p:iQ}{s:Dr}(h:jK w p T s)(f:Below w.heap.size w w'):j6 w w' p T s:=⟨p,h.below f,rfl,rfl,rfl,fun _ hb=>.inl hb,Fr.of_below f _⟩
theorem Fy{p:iQ}{s:Dr}(hC:dI c w)(h:jK w p T s)(k:Nat)(hk:k<4)(t:Zy)(ht:t.size<=60000)(hA:s.A.length<=90000)(JY:s.num+1<4294967296)(T9:s.crc<4294967296)(hpos:s.pos<=1000000)(hdat:s.data.size<=90000000):
  Zc 234 #[Zp p.q,.int .u8 (k:Nat),.string t] w fun e w'=>e=.returned (dA (c.of t))/\j6 w w' p T (s.object c T k t):=by
 have hsum:(c.of t).size=32:=c.size t;have hsv:dA (c.of t)=.agg (bytes (af (c.of t))).toArray:=rfl;have hiMT:(prog.info? 114).map (·.size)=some (aG p.tm).length:=by simp only[aG,length_map,h.there.len];kernel_rfl
 have hiMA:(prog.info? 114).map (·.size)=some (aG p.am).length:=by simp only[aG,length_map,h.added.len];kernel_rfl
 have mM:(prog.info? 121).map (·.size)=some (bytes (af (c.of t))).length:=by rw[dh _ hsum];kernel_rfl
 have om:((bytes (af (c.of t))).toArray.all Value.oneCell')=true:=bY _;have cO:Hid (∀w1,Below w.heap.size w w1->Zc 109 #[.string t] w1 fun e w2=>e=.returned (.agg (bytes (af (c.of t))).toArray)/\Below w1.heap.size w1 w2):=fun w1 hb=>devOf c t (by omega) (hC.fr (Fr.of_below hb []) (by simp));have cHT:Hid (∀V w1,jK V p T s->Below V.heap.size V w1->Zc 219 #[.agg (aG p.tm).toArray,.int .u8 (k:Nat),.agg (bytes (af (c.of t))).toArray] w1 fun e w2=>e=.returned (.bool (hasO T k (c.of t)))/\Below w1.heap.size w1 w2):=fun V w1 hV hb=>AA (hV.below hb).there k hk _ hsum;have cHA:Hid (∀V w1,jK V p T s->Below V.heap.size V w1->Zc 219 #[.agg (aG p.am).toArray,.int .u8 (k:Nat),.agg (bytes (af (c.of t))).toArray] w1 fun e w2=>e=.returned (.bool (hasO s.A k (c.of t)))/\Below w1.heap.size w1 w2):=fun V w1 hV hb=>AA (hV.below hb).added k hk _ hsum;have Yy:Hid (s.object c T k t=if hasO T k (c.of t)=true\/hasO s.A k (c.of t)=true then s else⟨pO s.A ⟨c.of t,k,s.pos,t.size⟩,s.data++mq k s.num s.crc t,s.pos+(11+t.size+63) / 64,s.num+1,gB k s.num s.crc t⟩):=rfl;have cP:Hid (∀V w1,jK V p T s->Below V.heap.size V w1->Zc 223 #[.agg (aG p.am).toArray,.int .u8 (k:Nat),.agg (bytes (af (c.of t))).toArray,.agg #[Zi s.pos,Zi t.size]] w1 fun e w2=>e=.returned (.tuple #[])/\fF w2 p.am (pO s.A ⟨c.of t,k,s.pos,t.size⟩)/\Fr w1 w2 p.am):=fun V w1 hV hb=>Pb (hV.below hb).added ⟨c.of t,k,s.pos,t.size⟩ hk hsum (by omega);obtain⟨R,HR⟩:∃R,Hid (s.object c T k t=R):=⟨_,rfl⟩;rw[HR.out];have HRR:Hid _:=HR.out.symm.trans Yy.out;have H0:Hid (∀w1,Below w.heap.size w w1->jK w1 p T s):=fun w1 hb=>h.below hb;have Eh:Hid (∀b∈p.blocks,b<w.heap.size):=h.lt;have HRT:Hid (∀w1,jK w1 p T s->w1.rangeAt p.q 0 (aG p.tm)):=fun w1 h1=>h1.rangeT;have HRA:Hid (∀w1,jK w1 p T s->w1.rangeAt p.q 4 (aG p.am)):=fun w1 h1=>h1.rangeA;have hz32:(bytes (replicate 32 0)).toArray.size=(bytes (af (c.of t))).toArray.size:=by rw[size_toArray,size_toArray,dh _ hsum];rfl
 rw[hsv];generalize hb1:hasO T k (c.of t)=b1 at *;generalize hb2:hasO s.A k (c.of t)=b2 at *;generalize Yh:bytes (af (c.of t))=CK at *;generalize hMT:aG p.tm=MT at *;generalize hMA:aG p.am=MA at *;clear h hsv Yy hb1 hb2 Yh hMT hMA hC;have hsz:(prog.info? 121).map (·.size)=some CK.toArray.size:=mM;go_enter func234,ntmps234;go_upto_region 1 with fail
 show Code.wp _ _ _ _ (w.alloc (.cells (bytes (replicate 32 0)).toArray 121));have r6:=ai.new w 121 (bytes (replicate 32 0));have bW:Below w.heap.size w (w.alloc (.cells (bytes (replicate 32 0)).toArray 121)):=(Zr).alloc (Zn) _;have lW:w.heap.size<(w.alloc (.cells (bytes (replicate 32 0)).toArray 121)).heap.size:=by simp
 generalize w.alloc (.cells (bytes (replicate 32 0)).toArray 121)=W at r6 bW lW⊢;go_upto_region 2 with(first
  | (go_at_call 109;refine Calls.mono (cO.out _ bW) ?_;rintro e w1 ⟨rfl,hb1⟩)
  | (refine aJ rfl 121 _ _ rfl w1.heap.size _ CK.toArray rfl rfl rfl hsz hz32 om ?_))
 have r7:=ai.new w1 121 CK;have l1:=hb1.size;have r6V:ai (w1.alloc (.cells CK.toArray 121)) w.heap.size 121 (bytes (replicate 32 0)):=(r6.below hb1 lW).below ((Zr).alloc (Zn) _) (by omega);have bV:Below w.heap.size w (w1.alloc (.cells CK.toArray 121)):=(bW.trans (hb1.mono (by omega))).alloc (by omega) _;generalize hVe:w1.alloc (.cells CK.toArray 121)=V at *;have hB7:w.heap.size<w1.heap.size:=by omega
 generalize hB7e:w1.heap.size=B7 at *;have l7:B7<V.heap.size:=r7.lt;have g7:V.rangeAt B7 0 CK:=fun i v hv=>by rw[Nat.zero_add];exact(r7.cell i).trans hv
 have hV:=H0.out _ bV;have lq:p.q<V.heap.size:=hV.row.lt;have gT:=HRT.out _ hV;have gA:=HRA.out _ hV;have c10:V.cell? (Za p.q 10)=some (Zi s.pos):=hV.tailAt 2 _ rfl;have R6:Hid _:=r6V;have R7:Hid _:=r7;have cHT:=cHT;have HV:Hid _:=hV;have hfin:∀(V':World) (R':Dr),Below V.heap.size V V'->Hid (ai V' w.heap.size 121 (bytes (replicate 32 0))/\ai V' B7 121 CK):=fun V' _ hb=>⟨r6V.below hb r6V.lt,r7.below hb r7.lt⟩;clear r6V r7 hV hVe hb1 l1 bW r6 lW hB7e;have WW:Hid (∀w1,Below V.heap.size V w1->_):=fun w1=>cHT.out V w1 HV.out;have cHA':Hid (∀w1,Below V.heap.size V w1->_):=fun w1=>cHA.out V w1 HV.out;have cP':Hid (∀w1,Below V.heap.size V w1->_):=fun w1=>cP.out V w1 HV.out;clear cHT cHA cP;cases b1 with
 | true=>
  have HE:Hid (R=s):=HRR.out.trans (if_pos (.inl rfl));refine bF ?_;refine wp_region_held_drew (S:=fun w'=>Below V.heap.size V w') (by kernel_rfl) (Zr).drew (fun ah=>?_);refine Zt 0 (Zp p.q) ?_;refine Zt 1 (Zp p.q) ?_;refine Zt 2 (Zp p.q) ?_;refine Zt 3 (.agg (MT).toArray) ?_ (hy:=yieldsIf_load_mid (by rfl) _ _ rfl (p.q) (0) rfl MT _ (fun w h=>aU gT lq h) underlying114 rfl hiMT);refine Zt 4 (.int .u8 (k:Nat)) ?_;refine Zt 5 (.agg (CK).toArray) ?_ (hy:=yieldsIf_load_mid (by rfl) _ _ rfl (B7) (0) rfl CK _ (fun w h=>aU g7 l7 h) underlying121 rfl mM);refine Zh 6 fun K hK=>?_;go_simp;go_at_call 219;refine Calls.mono (WW.out _ ah) ?_;rintro e wh ⟨rfl,Pf⟩;refine hK.out _ _ (ah.trans (Pf.mono ah.size)) (fun ah=>?_);clear hK K;(try simp only[Act.put,lA,lZ,lS]);refine Zt 7 (.bool false) ?_;refine Zt 8 (.bool false) ?_;refine Zu 9 ?_;refine Zu 10 ?_;refine Zu 11 ?_;refine Zu 12 ?_;refine Zu 13 ?_;refine Zu 14 ?_;refine Zu 15 ?_;refine Zu 16 ?_;refine Zt 17 (.bool false) ?_;refine Zx ?_;simp only[At];obtain⟨r6,r7⟩:=(hfin _ R ah).out;go_wp2_with(first
   | (refine wpList_load_row rfl 121 _ rfl B7 rfl _ _ _ _ r7.heap underlying121 rfl hsz ?_)
   | (refine wpList_store_row rfl 121 _ _ rfl w.heap.size _ rfl rfl _ _ r6.heap hsz hz32 om ?_))
  refine bodyPost_ret (v:=.agg CK.toArray) ?_ rfl ⟨rfl,?_⟩
  ·exact results_cell_row (P:=prog) results234 _ _ w.heap.size _ _ _ _ rfl (setRow_heap _ w.heap.size _ CK.toArray _ _ r6.heap) underlying121 rfl hsz
  ·rw[HE.out];exact j6.same (H0.out _ (Zr)) ((bV.trans (ah.mono bV.size)).setRow _ (Zn))
 | false=>
  cases b2 with
  | true=>
   have HE:Hid (R=s):=HRR.out.trans (if_pos (.inr rfl));refine bF ?_;refine wp_region_held_drew (S:=fun w'=>Below V.heap.size V w') (by kernel_rfl) (Zr).drew (fun ah=>?_);refine Zt 0 (Zp p.q) ?_;refine Zt 1 (Zp p.q) ?_;refine Zt 2 (Zp p.q) ?_;refine Zt 3 (.agg (MT).toArray) ?_ (hy:=yieldsIf_load_mid (by rfl) _ _ rfl (p.q) (0) rfl MT _ (fun w h=>aU gT lq h) underlying114 rfl hiMT);refine Zt 4 (.int .u8 (k:Nat)) ?_;refine Zt 5 (.agg (CK).toArray) ?_ (hy:=yieldsIf_load_mid (by rfl) _ _ rfl (B7) (0) rfl CK _ (fun w h=>aU g7 l7 h) underlying121 rfl mM);refine Zh 6 fun K hK=>?_;go_simp;go_at_call 219;refine Calls.mono (WW.out _ ah) ?_;rintro e wh ⟨rfl,Pf⟩;refine hK.out _ _ (ah.trans (Pf.mono ah.size)) (fun ah=>?_);clear hK K;(try simp only[Act.put,lA,lZ,lS]);refine Zt 7 (.bool true) ?_;refine Zt 8 (.bool true) ?_;refine Zt 9 (Zp p.q) ?_;refine Zt 10 (Zp p.q) ?_;refine Zt 11 (.pointer (some (Za p.q 4))) ?_;refine Zt 12 (.agg (MA).toArray) ?_ (hy:=yieldsIf_load_mid (by rfl) _ _ rfl (p.q) (4) rfl MA _ (fun w h=>aU gA lq h) underlying114 rfl hiMA);refine Zt 13 (.int .u8 (k:Nat)) ?_;refine Zt 14 (.agg (CK).toArray) ?_ (hy:=yieldsIf_load_mid (by rfl) _ _ rfl (B7) (0) rfl CK _ (fun w h=>aU g7 l7 h) underlying121 rfl mM);refine Zh 15 fun K hK=>?_;go_simp;go_at_call 219;refine Calls.mono (cHA'.out _ ah) ?_;rintro e wh ⟨rfl,Pf⟩;refine hK.out _ _ (ah.trans (Pf.mono ah.size)) (fun ah=>?_);clear hK K;(try simp only[Act.put,lA,lZ,lS]);refine Zt 16 (.bool false) ?_;refine Zt 17 (.bool false) ?_;refine Zx ?_;simp only[At];obtain⟨r6,r7⟩:=(hfin _ R ah).out;go_wp2_with(first
    | (refine wpList_load_row rfl 121 _ rfl B7 rfl _ _ _ _ r7.heap underlying121 rfl hsz ?_)
    | (refine wpList_store_row rfl 121 _ _ rfl w.heap.size _ rfl rfl _ _ r6.heap hsz hz32 om ?_))
   refine bodyPost_ret (v:=.agg CK.toArray) ?_ rfl ⟨rfl,?_⟩
   ·exact results_cell_row (P:=prog) results234 _ _ w.heap.size _ _ _ _ rfl (setRow_heap _ w.heap.size _ CK.toArray _ _ r6.heap) underlying121 rfl hsz
   ·rw[HE.out];exact j6.same (H0.out _ (Zr)) ((bV.trans (ah.mono bV.size)).setRow _ (Zn))
  | false=>
   have HE:Hid (R=_):=HRR.out.trans (if_neg (by simp));refine bF ?_;refine wp_region_held_drew (S:=fun w'=>Below V.heap.size V w') (by kernel_rfl) (Zr).drew (fun ah=>?_);refine Zt 0 (Zp p.q) ?_;refine Zt 1 (Zp p.q) ?_;refine Zt 2 (Zp p.q) ?_;refine Zt 3 (.agg (MT).toArray) ?_ (hy:=yieldsIf_load_mid (by rfl) _ _ rfl (p.q) (0) rfl MT _ (fun w h=>aU gT lq h) underlying114 rfl hiMT);refine Zt 4 (.int .u8 (k:Nat)) ?_;refine Zt 5 (.agg (CK).toArray) ?_ (hy:=yieldsIf_load_mid (by rfl) _ _ rfl (B7) (0) rfl CK _ (fun w h=>aU g7 l7 h) underlying121 rfl mM);refine Zh 6 fun K hK=>?_;go_simp;go_at_call 219;refine Calls.mono (WW.out _ ah) ?_;rintro e wh ⟨rfl,Pf⟩;refine hK.out _ _ (ah.trans (Pf.mono ah.size)) (fun ah=>?_);clear hK K;(try simp only[Act.put,lA,lZ,lS]);refine Zt 7 (.bool true) ?_;refine Zt 8 (.bool true) ?_;refine Zt 9 (Zp p.q) ?_;refine Zt 10 (Zp p.q) ?_;refine Zt 11 (.pointer (some (Za p.q 4))) ?_;refine Zt 12 (.agg (MA).toArray) ?_ (hy:=yieldsIf_load_mid (by rfl) _ _ rfl (p.q) (4) rfl MA _ (fun w h=>aU gA lq h) underlying114 rfl hiMA);refine Zt 13 (.int .u8 (k:Nat)) ?_;refine Zt 14 (.agg (CK).toArray) ?_ (hy:=yieldsIf_load_mid (by rfl) _ _ rfl (B7) (0) rfl CK _ (fun w h=>aU g7 l7 h) underlying121 rfl mM);refine Zh 15 fun K hK=>?_;go_simp;go_at_call 219;refine Calls.mono (cHA'.out _ ah) ?_;rintro e wh ⟨rfl,Pf⟩;refine hK.out _ _ (ah.trans (Pf.mono ah.size)) (fun ah=>?_);clear hK K;(try simp only[Act.put,lA,lZ,lS]);refine Zt 16 (.bool true) ?_;refine Zt 17 (.bool true) ?_;refine Zx ?_;simp only[At];obtain⟨r6,r7⟩:=(hfin _ R ah).out;have bV2:Below w.heap.size w wh:=bV.trans (ah.mono bV.size);clear gT gA c10 lq g7 l7 WW cHA' hfin;go_upto_region 3 with fail
   have hV:=H0.out _ bV2;have hPV:Hid (∀w1,Below wh.heap.size wh w1->_):=fun w1 hb=>cP'.out w1 (ah.trans (hb.mono ah.size));clear ah;generalize wh=V2 at *;have l7:B7<V2.heap.size:=r7.lt;have g7:V2.rangeAt B7 0 CK:=fun i v hv=>by rw[Nat.zero_add];exact(r7.cell i).trans hv
   have lq:p.q<V2.heap.size:=hV.row.lt;have gA:=HRA.out _ hV;have c10:V2.cell? (Za p.q 10)=some (Zi s.pos):=hV.tailAt 2 _ rfl;have nq:p.q∉p.am:=hV.apart.2.1;have n7:B7∉p.blocks:=fun hm=>by have:=Eh.out B7 hm;omega
   have n6:w.heap.size∉p.blocks:=fun hm=>by have:=Eh.out _ hm;omega
   have amb:∀b∈p.am,b∈p.blocks:=fun b hb=>by simp[iQ.blocks,hb]
   have n7a:B7∉p.am:=fun hm=>n7 (amb _ hm);refine bF ?_;refine wp_region_held_drew (S:=fun w'=>Fr V2 w' p.am) (by kernel_rfl) (Fr.refl _ _).drew (fun ah=>?_);refine Zt 0 (Zp p.q) ?_;refine Zt 1 (Zp p.q) ?_;refine Zt 2 (.pointer (some (Za p.q 4))) ?_;refine Zt 3 (.agg (MA).toArray) ?_ (hy:=yieldsIf_load_mid (by rfl) _ _ rfl (p.q) (4) rfl MA _ (fun w h=>iC gA lq h nq) underlying114 rfl hiMA);refine Zt 4 (.int .u8 (k:Nat)) ?_;refine Zt 5 (.agg (CK).toArray) ?_ (hy:=yieldsIf_load_mid (by rfl) _ _ rfl (B7) (0) rfl CK _ (fun w h=>iC g7 l7 h n7a) underlying121 rfl mM);refine Zt 6 (Zp p.q) ?_;refine Zt 7 (Zp p.q) ?_;refine Zt 8 (.pointer (some (Za p.q 10))) ?_;refine Zt 9 (.pointer (some (Za p.q 10))) ?_;refine wpAnyH_take (i:=10) (oi:=⟨some 40,.load 3 (.tmp 39),_,_,_,none⟩) (v:=(Zi s.pos)) rfl (by kernel_rfl) (by kernel_rfl) (by kernel_rfl) (fun _ _ _ h=>h) (Or.inl ⟨by rfl,by intro w hSw;have h1:=(World.cell?_of_block (hSw.block _ lq nq)).trans c10;go_simp⟩) ah ?_;simp only[Act.put,lA,lZ,lS];refine Zt 11 (.string t) ?_;refine Zt 12 (Zi t.size) ?_;refine Zt 13 (.agg #[Zi s.pos,Zi t.size]) ?_;refine Zh 14 fun K hK=>?_;go_simp;go_at_call 223;refine Calls.mono (hPV.out _ (Zr).drew) ?_;rintro e wp ⟨rfl,hop,hfp⟩;refine hK.out _ _ (ah.trans hfp (fun x hx _=>hx)) (fun ah=>?_);clear hK K;(try simp only[Act.put,lA,lZ,lS]);refine Zx ?_;simp only[At];have nb:∀b,b∉p.blocks->b∉p.am:=fun b h hm=>h (amb b hm);have r6:=ah.row r6 (nb _ n6);have r7:=ah.row r7 n7a;have hrow:=ah.row hV.row nq;have hT3:=hV.there.fr ah (fun b hb hm=>hV.apart.2.2.1 b hm hb);have hO3:=aT hV.own ah (fun g hg hm=>(hV.apart.2.2.2 g (by rw[bO p.ao 0 0 s.data.size p.co];exact hg)).2.2 hm);have hF3:Fr w wp p.blocks:=(Fr.of_below bV2 _).trans ah (fun x hx _=>amb x hx);have hL13:=hV.cellsL;have hcs:∀j v,[vN p.q p.used,.slice p.ao s.data.size p.co,Zi s.pos,.int .u32 (s.num:Nat),.int .u32 (s.crc:Nat)][j]? =some v->(p.cells s)[8+j]? =some v:=fun j v hv=>by
    have h8:(aG p.tm++aG p.am).length=8:=by simp[aG,hV.there.len,hV.added.len]
    unfold iQ.cells;rw[getElem?_append_right (by omega),h8,show 8+j-8=j by omega];exact hv
   have hap:=hV.apart;have l4t:(aG p.tm).length=4:=by simp[aG,hV.there.len]
   have l4a:(aG p.am).length=4:=by simp[aG,hV.added.len]
   have h10:wp.cell? (Za p.q 10)=some (Zi s.pos):=(hrow.cell 10).trans (hcs 2 _ rfl);have h11:wp.cell? (Za p.q 11)=some (.int .u32 (s.num:Nat)):=(hrow.cell 11).trans (hcs 3 _ rfl);have h12:wp.cell? (Za p.q 12)=some (.int .u32 (s.crc:Nat)):=(hrow.cell 12).trans (hcs 4 _ rfl);have cW:Hid _:=Gg s.pos s.num s.crc k t ht (by omega) JY T9 hpos wp;obtain⟨dt,Hdt⟩:∃dt,Hid (mq k s.num s.crc t=dt):=⟨_,rfl⟩;obtain⟨cr,Hcr⟩:∃cr,Hid (gB k s.num s.crc t=cr):=⟨_,rfl⟩;obtain⟨ps,Hps⟩:∃ps,Hid (s.pos+(11+t.size+63) / 64=ps):=⟨_,rfl⟩;have Rf:dt.size<=70000:=by rw[<-Hdt.out,oJ];omega
   obtain⟨nu,Hnu⟩:∃nu,Hid (s.num+1=nu):=⟨_,rfl⟩;rw[Hdt.out,Hcr.out,Hps.out,Hnu.out] at cW;unfold iZ at cW;have RR6:Hid _:=r6;have RR7:Hid _:=r7;have HROW:Hid _:=hrow;have QG:Hid _:=hO3;have HT3:Hid _:=hT3;have HOP:Hid _:=hop;have HF3:Hid _:=hF3;have HAP:Hid _:=hap;have HCS:Hid _:=hcs;have HL13:Hid _:=hL13;clear r6 r7 hrow hO3 hT3 hop hF3 hap hcs hL13 hV gA c10 g7 hfp ah hPV cP' bV2;go_upto_region 5 with(first
    | (go_at_call 167;refine Calls.mono cW.out ?_;rintro e w4 ⟨rfl,hb4⟩))
   have r9:=ai.new w4 117 [Zi ps,.int .u32 (nu:Nat),.int .u32 (cr:Nat)];have l4:=hb4.size;have b5:Below wp.heap.size wp (w4.alloc (.cells #[Zi ps,.int .u32 (nu:Nat),.int .u32 (cr:Nat)] 117)):=hb4.alloc (by omega) _;generalize hV5:w4.alloc (.cells #[Zi ps,.int .u32 (nu:Nat),.int .u32 (cr:Nat)] 117)=V5 at *;have Yz:=HROW.out.below b5 HROW.out.lt;have hown5:=aT QG.out (Fr.of_below b5 []) (by simp);have hB9:wp.heap.size<=w4.heap.size:=l4;generalize hB9e:w4.heap.size=B9 at *;have cWr:Hid _:=Ra Yz HL13.out (HCS.out 0 _ rfl) (HCS.out 1 _ rfl) hown5 dt (by omega);have R9:Hid _:=r9;have own9:∀g,(Value.slice p.ao 0 0).ownBlock=some g->g<wp.heap.size:=fun g hg=>by rw[bO p.ao 0 0 s.data.size p.co] at hg;exact(World.ownsRow.lt QG.out g hg).2
   have n9:B9∉(p.q::(Value.slice p.ao 0 0).ownBlock.toList):=fun hm=>by
    rcases mem_cons.1 hm with h1|h1
    ·have:=HROW.out.lt;omega
    ·have:=own9 B9 (Zo.1 h1);omega
   clear r9 Yz hown5 hV5 hB9e hb4 cW;go_upto_region 6 with(first
    | (go_at_call 213;refine Calls.mono cWr.out ?_;rintro e w6 ⟨rfl,Si,co',NE,Yv,Q6,hl6⟩))
   have r9:=Q6.row R9.out n9;have k0:w6.cell? (Za B9 0)=some (Zi ps):=r9.cell 0;have k1:w6.cell? (Za B9 1)=some (.int .u32 (nu:Nat)):=r9.cell 1;have k2:w6.cell? (Za B9 2)=some (.int .u32 (cr:Nat)):=r9.cell 2;have z0:=NE.frozen 10;have z1:=NE.frozen 11;have z2:=NE.frozen 12;have y0:w6.cell? (Za p.q 10)=some (Zi s.pos):=(NE.cell 10).trans (by rw[getElem?_set_ne (by decide),getElem?_set_ne (by decide)];exact HCS.out 2 _ rfl);have y1:w6.cell? (Za p.q 11)=some (.int .u32 (s.num:Nat)):=(NE.cell 11).trans (by rw[getElem?_set_ne (by decide),getElem?_set_ne (by decide)];exact HCS.out 3 _ rfl);have y2:w6.cell? (Za p.q 12)=some (.int .u32 (s.crc:Nat)):=(NE.cell 12).trans (by rw[getElem?_set_ne (by decide),getElem?_set_ne (by decide)];exact HCS.out 4 _ rfl);go_upto_region 7 with fail
   have hrN:=((NE.set 10 (Zi ps)).set 11 (.int .u32 (nu:Nat))).set 12 (.int .u32 (cr:Nat));have Pp:Fr w6 (((w6.setCell (Za p.q 10) (Zi ps)).setCell (Za p.q 11) (.int .u32 (nu:Nat))).setCell (Za p.q 12) (.int .u32 (cr:Nat))) [p.q]:=(((Fr.refl _ _).setCell _ _ (.inl (by simp))).setCell _ _ (.inl (by simp))).setCell _ _ (.inl (by simp));clear k0 k1 k2 z0 z1 z2 y0 y1 y2 r9;generalize((w6.setCell (Za p.q 10) (Zi ps)).setCell (Za p.q 11) (.int .u32 (nu:Nat))).setCell (Za p.q 12) (.int .u32 (cr:Nat))=V7 at *;have hqb:p.q∈p.blocks:=by simp[iQ.blocks]
   have Pq:∀x∈(Value.slice p.ao 0 0).ownBlock.toList,x∈p.blocks:=fun x hx=>by simp only[iQ.blocks,mem_append];exact .inr hx
   have hqo:∀x∈(p.q::(Value.slice p.ao 0 0).ownBlock.toList),x∈p.blocks:=fun x hx=>by
    rcases mem_cons.1 hx with rfl|h1
    ·exact hqb
    ·exact Pq x h1
   have F57:Fr V5 V7 (p.q::(Value.slice p.ao 0 0).ownBlock.toList):=Q6.trans Pp (fun x hx _=>by rw[Zm.1 hx];simp);have F37:Fr wp V7 (p.q::(Value.slice p.ao 0 0).ownBlock.toList):=(Fr.of_below b5 _).trans F57 (fun x hx _=>hx);have r6:=F37.row RR6.out (fun hm=>n6 (hqo _ hm));have r7:=F37.row RR7.out (fun hm=>n7 (hqo _ hm));have hz:=NE;have HN:Hid _:=hrN;clear hrN;go_wp2_with(first
    | (refine wpList_load_row rfl 121 _ rfl B7 rfl _ _ _ _ r7.heap underlying121 rfl hsz ?_)
    | (refine wpList_store_row rfl 121 _ _ rfl w.heap.size _ rfl rfl _ _ r6.heap hsz hz32 om ?_))
   refine bodyPost_ret (v:=.agg CK.toArray) ?_ rfl ⟨rfl,?_⟩
   ·exact results_cell_row (P:=prog) results234 _ _ w.heap.size _ _ _ _ rfl (setRow_heap _ w.heap.size _ CK.toArray _ _ r6.heap) underlying121 rfl hsz
   ·have F78:Fr V7 (V7.setRow w.heap.size CK.toArray) [w.heap.size]:=⟨rfl,rfl,rfl,by simp,fun x _ hx=>setRow_other _ _ _ _ (fun e=>hx (by simp[e]))⟩;have hle:w.heap.size<=wp.heap.size:=HF3.out.size;have F38:Fr wp (V7.setRow w.heap.size CK.toArray) (w.heap.size::p.q::(Value.slice p.ao 0 0).ownBlock.toList):=(F37.wider (fun x hx=>mem_cons_of_mem _ hx)).trans F78 (fun x hx _=>by rw[Zm.1 hx];simp);have F08:Fr w (V7.setRow w.heap.size CK.toArray) p.blocks:=HF3.out.trans F38 (fun x hx hl=>by
     rcases mem_cons.1 hx with rfl|h1
     ·omega
     ·exact hqo x h1)
    have hT0:∀b∈p.tm,b<w.heap.size:=(H0.out _ (Zr)).there.lt;have Qo:(Value.slice Si (s.data++dt).size co').ownBlock≠some w.heap.size:=Lib.ownBlock_ne (aT Yv Pp (fun g hg hm=>by rw[Zm.1 hm] at hg;exact Lib.ownBlock_ne Yv NE.heap (by decide) hg)) r6.heap (by decide);have hneq:(Value.slice Si (s.data++dt).size co').ownBlock≠some p.q:=Lib.ownBlock_ne Yv NE.heap (by decide);have hls:w.heap.size<=V5.heap.size:=Nat.le_trans hle b5.size;rw[HE.out,Hdt.out,Hcr.out,Hps.out,Hnu.out];refine⟨⟨p.q,p.tm,p.am,true,Si,co'⟩,⟨?_,?_,?_,?_,?_⟩,rfl,rfl,rfl,?_,F08⟩
    ·have hr:=HN.out;unfold iQ.cells at hr;rw[Rc l4t l4a] at hr;exact hr.otherRow _ (fun e=>n6 (by rw[<-e];exact hqb))
    ·refine HT3.out.fr F38 (fun b hb hm=>?_);rcases mem_cons.1 hm with rfl|h1
     ·have:=hT0 _ hb;omega
     ·rcases mem_cons.1 h1 with rfl|h2
      ·exact HAP.out.1 hb
      ·exact(HAP.out.2.2.2 b (Zo.1 h2)).2.1 hb
    ·refine HOP.out.fr F38 (fun b hb hm=>?_);rcases mem_cons.1 hm with rfl|h1
     ·exact n6 (amb _ hb)
     ·rcases mem_cons.1 h1 with rfl|h2
      ·exact nq hb
      ·exact(HAP.out.2.2.2 b (Zo.1 h2)).2.2 hb
    ·refine aT (aT Yv Pp (fun g hg hm=>by rw[Zm.1 hm] at hg;exact hneq hg)) F78 (fun g hg hm=>by rw[Zm.1 hm] at hg;exact Qo hg)
    ·refine⟨HAP.out.1,HAP.out.2.1,HAP.out.2.2.1,fun g hg=>?_⟩;rcases hl6 g hg with h1|h1
     ·exact HAP.out.2.2.2 g h1
     ·exact⟨fun e=>by have:=Eh.out p.q hqb;have e2:g=p.q:=e;omega,fun hm=>by have:=hT0 g hm;omega,fun hm=>by have:=Eh.out g (amb g hm);omega⟩
    ·intro b hb;simp only[iQ.blocks,cons_append,mem_cons,mem_append] at hb;rcases hb with rfl|hb|hb
     ·exact .inl hqb
     ·exact .inl (amb b hb)
     ·rcases hl6 b (Zo.1 hb) with h1|h1
      ·exact .inl (Pq b (Zo.2 h1))
      ·exact .inr (by omega)
structure Dr.Fit(s:Dr)(m:Nat):Prop where
 a:s.A.length<=m
 num:s.num<=5000+m
 pos:s.pos<=5000+16*m
 data:s.data.size<=1024*m
 crc:s.crc<4294967296
theorem Dr.Fit.more{s:Dr}(h:s.Fit m)(hn:m<=n):s.Fit n:=⟨Nat.le_trans h.a hn,by have:=h.num;omega,by have:=h.pos;omega,by have:=h.data;omega,h.crc⟩
theorem Dr.Fit.object{s:Dr}(h:s.Fit m)(k:Nat)(ht:t.size<=1000):(s.object c T k t).Fit (m+1):=by
 unfold Dr.object;split
 ·exact h.more (by omega)
 ·refine⟨?_,?_,?_,?_,?_⟩
  ·have:=nM s.A ⟨c.of t,k,s.pos,t.size⟩;have:=h.a;simp only;omega
  ·have:=h.num;simp only;omega
  ·have:=h.pos;simp only;omega
  ·have:=h.data;simp only[ByteArray.size_append,oJ];omega
  ·exact yO _
def Dr.objs(c:dz)(T:List Ob)(s:Dr)(k:Nat)(l:List Zy):Dr:=l.foldl (fun s t=>s.object c T k t) s
theorem Dr.objs_take{s:Dr}{l:List Zy}(hj:j<l.length):s.objs c T k (l.take (j+1))=(s.objs c T k (l.take j)).object c T k l[j]:=by
 unfold Dr.objs;rw[take_succ_eq_append_getElem hj,foldl_append];rfl
theorem Dr.Fit.objs(k:Nat):∀(l:List Zy) {s:Dr} {m:Nat},s.Fit m->(∀t∈l,t.size<=1000)->(s.objs c T k l).Fit (m+l.length)
 |[],_,_,h,_=>h
 | t::l,_,m,h,hl=>by
  have:=Dr.Fit.objs k l (h.object (c:=c) (T:=T) k (hl t (by simp))) (fun x hx=>hl x (by simp[hx]));rw[length_cons,show m+(l.length+1)=m+1+l.length by omega];exact this
def bR(d:Zy):List Zy:=(List.range ((d.size+95) / 96)).map fun i=>d.extract (96*i) (min (96*i+96) d.size)
theorem uD(d:Zy):(bR d).length=(d.size+95) / 96:=by simp[bR]
theorem Kw(d:Zy)(i:Nat)(h:i<(bR d).length):(bR d)[i]=d.extract (96*i) (min (96*i+96) d.size):=by simp[bR]
theorem vO(d:Zy):∀t∈bR d,t.size<=96:=by
 intro t ht;simp only[bR,mem_map] at ht;obtain⟨i,_,rfl⟩:=ht;rw[ByteArray.size_extract];omega
def kL(c:dz)(d:Zy):Zy:=xG d.size ((bR d).map c.of)
theorem yx(c:dz)(d:Zy):(kL c d).size=4+32*((d.size+95) / 96):=by
 unfold kL xG;rw[ByteArray.size_append,aZ,pE 32 _ (fun x hx=>by obtain⟨y,_,rfl⟩:=mem_map.1 hx;exact c.size y),length_map,uD];rfl
def Dr.file(c:dz)(T:List Ob)(s:Dr)(d:Zy):Dr:=(s.objs c T 1 (bR d)).object c T 2 (kL c d)
structure Dp(w wr:World)(p p':iQ)(T:List Ob)(s:Dr)(n j:Nat)(xs:List Value)(ao:Option Addr)(co:Nat):Prop where
 r4:ai wr w.heap.size 121 (bytes (replicate 32 0))
 r5:ai wr (w.heap.size+1) 360 [Zi n,.slice ao j co]
 own:wr.ownsRow (w.heap.size+2) 121 32 (.slice ao j co) j xs
 dr:jK wr p' T s
 same:p'.q=p.q/\p'.tm=p.tm/\p'.am=p.am
 sub:∀b∈p'.blocks,b∈p.blocks\/w.heap.size+2<=b
 apart:∀g,(Value.slice ao 0 0).ownBlock=some g->g∉p'.blocks
 fr:Fr w wr p.blocks
 lt:∀b∈p.blocks,b<w.heap.size
 tm:∀b∈p.tm,b<w.heap.size
theorem Dp.size{p p':iQ}{s:Dr}(h:Dp w wr p p' T s n j xs ao co):w.heap.size+2<=wr.heap.size:=h.r5.lt
theorem Dp.n4{p p':iQ}{s:Dr}(h:Dp w wr p p' T s n j xs ao co)(h1:w.heap.size<=b)(h2:b<w.heap.size+2):b∉p'.blocks:=fun hm=>by
 rcases h.sub b hm with h3|h3
 ·have:=h.lt b h3;omega
 ·omega
theorem Dp.step{p p':iQ}{s:Dr}(h:Dp w wr p p' T s n j xs ao co)(f:Below wr.heap.size wr w2):Dp w w2 p p' T s n j xs ao co:=by
 have hs:=h.size;exact⟨h.r4.below f (by omega),h.r5.below f (by omega),aT h.own (Fr.of_below f []) (by simp),h.dr.below f,h.same,h.sub,h.apart,h.fr.trans (Fr.of_below f []) (by simp),h.lt,h.tm⟩
theorem Dp.put{p p':iQ}{s s2:Dr}(h:Dp w wr p p' T s n j xs ao co)(d:j6 wr w2 p' T s2):∃p2,Dp w w2 p p2 T s2 n j xs ao co:=by
 obtain⟨p2,hd,e1,e2,e3,hsub,hf⟩:=d;have hs:=h.size;refine⟨p2,hf.row h.r4 (h.n4 (Zn) (by omega)),hf.row h.r5 (h.n4 (by omega) (by omega)),aT h.own hf (fun g hg=>h.apart g (by rw[bO ao 0 0 j co];exact hg)),hd,⟨e1.trans h.same.1,e2.trans h.same.2.1,e3.trans h.same.2.2⟩,fun b hb=>?_,fun g hg hm=>?_,h.fr.trans hf (fun x hx hl=>?_),h.lt,h.tm⟩
 ·rcases hsub b hb with h1|h1
  ·exact h.sub b h1
  ·exact .inr (by omega)
 ·rcases hsub g hm with h1|h1
  ·exact h.apart g hg h1
  ·have:=(World.ownsRow.lt h.own g (by rw[bO ao j co 0 0];exact hg)).2;omega
 ·rcases h.sub x hx with h1|h1
  ·exact h1
  ·omega
theorem Dp.grow{p p':iQ}{s:Dr}{cap:Nat}(h:Dp w wr p p' T s n j xs ao co)(hg:wr.grownBy w4 (Value.slice ao j co).ownBlock)(aY:w4.ownsRow (w.heap.size+2) 121 32 (.slice (Zs g) (j+1) cap) (j+1) ys)(hat:(Value.slice ao j co).ownBlock=some g\/g=wr.heap.size):
  Dp w (w4.setCell (Za (w.heap.size+1) 1) (.slice (Zs g) (j+1) cap)) p p' T s n (j+1) ys (Zs g) cap:=by
 have hs:=h.size;have Pq:∀k,(Value.slice ao j co).ownBlock=some k->w.heap.size+2<=k/\k∉p'.blocks:=fun k hk=>⟨(World.ownsRow.lt h.own k hk).1,h.apart k (by rw[bO ao 0 0 j co];exact hk)⟩;have f1:Fr wr w4 (Value.slice ao j co).ownBlock.toList:=(Fr.refl _ _).grown hg (fun k hk=>.inl (by rw[hk];simp));have f2:Fr wr (w4.setCell (Za (w.heap.size+1) 1) (.slice (Zs g) (j+1) cap)) ((w.heap.size+1)::(Value.slice ao j co).ownBlock.toList):=(f1.wider (fun x hx=>mem_cons_of_mem _ hx)).setCell _ _ (.inl (by simp));have hg2:w.heap.size+2<=g:=(World.ownsRow.lt aY g rfl).1;have hnb:∀b∈p'.blocks,b∉((w.heap.size+1)::(Value.slice ao j co).ownBlock.toList):=fun b hb hm=>by
  rcases mem_cons.1 hm with rfl|h1
  ·exact h.n4 (by omega) (by omega) hb
  ·exact(Pq b (Zo.1 h1)).2 hb
 refine⟨f2.row h.r4 (fun hm=>?_),?_,aT aY ((Fr.refl w4 [w.heap.size+1]).setCell _ _ (.inl (by simp))) (fun k hk hm=>?_),h.dr.fr f2 hnb (fun b hb hm=>?_),h.same,h.sub,fun k hk hm=>?_,h.fr.trans f2 (fun x hx hl=>?_),h.lt,h.tm⟩
 ·rcases mem_cons.1 hm with h1|h1
  ·omega
  ·have:=(Pq _ (Zo.1 h1)).1;omega
 ·exact(f1.row h.r5 (fun hm=>by have:=(Pq _ (Zo.1 hm)).1;omega)).set 1 _
 ·rw[Zm.1 hm] at hk;simp only[Value.ownBlock,Option.some.injEq] at hk;omega
 ·have ht:=h.tm b (by rw[<-h.same.2.1];exact hb);rcases mem_cons.1 hm with h1|h1
  ·omega
  ·have:=(Pq _ (Zo.1 h1)).1;omega
 ·cases hk
  rcases hat with h1|h1
  ·exact(Pq g h1).2 hm
  ·have:=h.dr.lt g hm;omega
 ·rcases mem_cons.1 hx with h1|h1
  ·omega
  ·have:=(Pq _ (Zo.1 h1)).1;omega
theorem Dp.done{p p':iQ}{s:Dr}(h:Dp w wr p p' T s n j xs ao co)(cs:Array Value):j6 w (wr.setRow w.heap.size cs) p T s:=by
 have f:Fr wr (wr.setRow w.heap.size cs) [w.heap.size]:=⟨rfl,rfl,rfl,by simp,fun x _ hx=>setRow_other _ _ _ _ (fun e=>hx (by simp[e]))⟩;refine⟨p',h.dr.fr f (fun b hb hm=>?_) (fun b hb hm=>?_),h.same.1,h.same.2.1,h.same.2.2,fun b hb=>?_,h.fr.trans f (fun x hx hl=>by rw[Zm.1 hx] at hl;omega)⟩
 ·rw[Zm.1 hm] at hb;exact h.n4 (Zn) (by omega) hb
 ·rw[Zm.1 hm] at hb;have:=h.tm _ (by rw[<-h.same.2.1];exact hb);omega
 ·rcases h.sub b hb with h1|h1
  ·exact .inl h1
  ·exact .inr (by omega)
theorem Ut{p:iQ}{s:Dr}(hC:dI c w)(h:jK w p T s)(Sd:∀b∈p.blocks,18<=b)(_hG:18<=w.heap.size)(hfit:s.Fit m)(hm:m<=19000)(d:Zy)(hd:d.size<=1536):
  Zc 233 #[Zp p.q,.string d] w fun e w'=>e=.returned (dA (c.of (kL c d)))/\j6 w w' p T (s.file c T d):=by
 obtain⟨i0,hi0,hz0,hz1,hz2⟩:=info_parts OY;have hnk:=uD d;have hfs:=yx c d;obtain⟨n,hn⟩:∃n,(bR d).length=n:=⟨_,rfl⟩;have hn16:n<=16:=by rw[<-hn,hnk];omega
 have HF:Hid (∀j,j<=n->(s.objs c T 1 ((bR d).take j)).Fit (m+j)):=fun j hj=>by
  have:=Dr.Fit.objs (c:=c) (T:=T) 1 ((bR d).take j) hfit (fun t ht=>by have:=vO d t (mem_of_mem_take ht);omega);rw[length_take,hn,Nat.min_eq_left hj] at this;exact this
 have NG:Hid (∀j (hj:j<(bR d).length),s.objs c T 1 ((bR d).take (j+1))=(s.objs c T 1 ((bR d).take j)).object c T 1 (bR d)[j]):=fun j hj=>Dr.objs_take hj;have Eh:Hid (∀b∈p.blocks,b<w.heap.size):=h.lt;have HTm:Hid (∀b∈p.tm,b<w.heap.size):=h.there.lt;have HSha:Hid (∀{wr:World} {p':iQ} {s':Dr} {n j:Nat} {xs:List Value} {ao:Option Addr} {co:Nat},Dp w wr p p' T s' n j xs ao co->dI c wr):=fun hx=>hC.fr hx.fr Sd;have YA:Hid (∀{wr:World} {p':iQ} {s':Dr} {n j:Nat} {xs:List Value} {ao:Option Addr} {co m':Nat} (k:Nat) (t:Zy),Dp w wr p p' T s' n j xs ao co->s'.Fit m'->m'<=19900->k<4->t.size<=1000->Zc 234 #[Zp p.q,.int .u8 (k:Nat),.string t] wr fun e w'=>e=.returned (.agg (bytes (af (c.of t))).toArray)/\j6 wr w' p' T (s'.object c T k t)):=fun{wr p' s' n j xs ao co m'} k t hx hf hm' hk ht=>by
  have:=Fy (HSha.out hx) hx.dr k hk t (by omega) (by have:=hf.a;omega) (by have:=hf.num;omega) hf.crc (by have:=hf.pos;omega) (by have:=hf.data;omega);rw[hx.same.1] at this;exact this
 have hdi:(d.size:Int)<=1536:=by omega
 have H0:Hid _:=h;have hgl:=Sd;clear h hC Sd;obtain⟨R,HR⟩:∃R,Hid (s.file c T d=R):=⟨_,rfl⟩;rw[HR.out];have HRR:Hid (R=(s.objs c T 1 (bR d)).object c T 2 (kL c d)):=HR.out.symm;have HTx:Hid (∀(w1:World) (ao:Option Addr) (co b:Nat),w1.ownsRow b 121 32 (.slice ao n co) n (dY ((bR d).map c.of))->Zc 273 #[.agg #[Zi d.size,.slice ao n co]] w1 fun e w'=>e=.returned (.string (kL c d))/\Below w1.heap.size w1 w'):=fun w1 ao co b ho=>by
  have:=Jz d.size (by omega) ((bR d).map c.of) (fun x hx=>by obtain⟨y,_,rfl⟩:=mem_map.1 hx;exact c.size y) (by rw[length_map,hn];omega) ao co b w1;rw[length_map,hn] at this;exact this ho
 obtain⟨t2,Ht2⟩:∃t2,Hid (kL c d=t2):=⟨_,rfl⟩;rw[Ht2.out] at HTx HRR hfs;rw[Ht2.out];have hsv:dA (c.of t2)=.agg (bytes (af (c.of t2))).toArray:=rfl;rw[hsv];have hsz:(prog.info? 121).map (·.size)=some (bytes (af (c.of t2))).toArray.size:=by rw[size_toArray,dh _ (c.size t2)];kernel_rfl
 have hz32:(bytes (replicate 32 0)).toArray.size=(bytes (af (c.of t2))).toArray.size:=by rw[size_toArray,size_toArray,dh _ (c.size t2)];rfl
 have om:((bytes (af (c.of t2))).toArray.all Value.oneCell')=true:=bY _;obtain⟨C2,Vv⟩:∃C2,Hid (bytes (af (c.of t2))=C2):=⟨_,rfl⟩;rw[Vv.out] at hsz hz32 om;rw[Vv.out];go_enter func233,ntmps233;go_upto_region 2 with fail
 show Code.wp _ _ _ _ ((w.alloc (.cells (bytes (replicate 32 0)).toArray 121)).alloc (.cells #[Zi d.size,.slice none 0 0] 360));have F0:Dp w ((w.alloc (.cells (bytes (replicate 32 0)).toArray 121)).alloc (.cells #[Zi d.size,.slice none 0 0] 360)) p p T s d.size 0 [] none 0:=by
  have b1:Below w.heap.size w ((w.alloc (.cells (bytes (replicate 32 0)).toArray 121)).alloc (.cells #[Zi d.size,.slice none 0 0] 360)):=((Zr).alloc (Zn) _).alloc (by simp) _;refine⟨(ai.new w 121 (bytes (replicate 32 0))).below ((Zr).alloc (Zn) _) (by simp),⟨?_⟩,World.ownsRow_nil _ _ _ _,H0.out.below b1,⟨rfl,rfl,rfl⟩,fun b hb=>.inl hb,fun g hg=>by simp[Value.ownBlock] at hg,Fr.of_below b1 _,Eh.out,HTm.out⟩;have:=heap_alloc_new (w.alloc (.cells (bytes (replicate 32 0)).toArray 121)) (.cells #[Zi d.size,.slice none 0 0] 360);rw[show(w.alloc (.cells (bytes (replicate 32 0)).toArray 121)).heap.size=w.heap.size+1 by simp] at this;exact this
 generalize((w.alloc (.cells (bytes (replicate 32 0)).toArray 121)).alloc (.cells #[Zi d.size,.slice none 0 0] 360))=W at F0⊢;go_wp2;go_loopw [6] (fun iv wr=>∃(f j:Nat) (ao:Option Addr) (co:Nat) (p':iQ),iv=(Zi f)/\Hid (f=96*j)/\j<=n/\Hid (Dp w wr p p' T (s.objs c T 1 ((bR d).take j)) d.size j (dY (((bR d).take j).map c.of)) ao co)) (fun iv _=>2000-(RowKit.intOf iv).toNat)
 case atStart=>exact⟨0,0,none,0,p,rfl,rfl,Nat.zero_le _,F0⟩
 case round=>
  obtain⟨f,j,ao,co,p',rfl,Hf,hjn,FX⟩:=hrel;by_cases hlt:f<d.size
  ·have jl:(f:Int)<(d.size:Int):=by omega
   have hj:j<(bR d).length:=by have:=Hf.out;rw[hnk];omega
   have hch:(bR d)[j]=d.extract f (min (f+96) d.size):=by rw[Kw d j hj,Hf.out]
   have q1:(f:Int)+96<=9223372036854775807:=by omega
   have hmin:(min ((f:Int)+96) (d.size:Int)).toNat=min (f+96) d.size:=by omega
   have hnx1:Hid (s.objs c T 1 ((bR d).take (j+1))=(s.objs c T 1 ((bR d).take j)).object c T 1 (d.extract f (min (f+96) d.size))):=by
    show _=_;rw[<-hch];exact NG.out j hj
   have hnx2:Hid (dY (((bR d).take (j+1)).map c.of)=dY (((bR d).take j).map c.of)++bytes (af (c.of (d.extract f (min (f+96) d.size))))):=by
    show _=_;rw[take_succ_eq_append_getElem hj,hch];simp[dY]
   have hFj:=HF.out j (by omega);have hchs:(d.extract f (min (f+96) d.size)).size<=1000:=by rw[ByteArray.size_extract];omega
   generalize hchn:d.extract f (min (f+96) d.size)=ch at *;have hObV:Hid (∀V,Dp w V p p' T (s.objs c T 1 ((bR d).take j)) d.size j (dY (((bR d).take j).map c.of)) ao co->_):=fun V hV=>YA.out 1 ch hV hFj (by omega) (by omega) hchs;have qy:(bytes (af (c.of ch))).length=1*32:=by rw[dh _ (c.size ch)]
   have Mv:∀u∈bytes (af (c.of ch)),u.oneCell'=true:=fun u hu=>by have:=bY (af (c.of ch));rw[all_toArray,all_eq_true] at this;exact this u hu
   have Qn:Hid _:=Mv;clear Mv;have xE:=fun w'=>bH (P:=prog) w' 358 121 underlying358 (bytes (af (c.of ch))) i0 _ hi0 hz0 (by rw[hz1,qy]) (by omega) (by omega);have hbs:Hid _:=xE;clear xE;have WX:Hid (∀(w7:World) (p5:iQ) (g cap:Nat),Dp w w7 p p5 T ((s.objs c T 1 ((bR d).take j)).object c T 1 ch) d.size (j+1) (dY (((bR d).take j).map c.of)++bytes (af (c.of ch))) (Zs g) cap->(∃(f' j':Nat) (ao:Option Addr) (co:Nat) (p':iQ),Value.int .i64 ((f:Int)+96)=(Zi f')/\Hid (f'=96*j')/\j'<=n/\Hid (Dp w w7 p p' T (s.objs c T 1 ((bR d).take j')) d.size j' (dY (((bR d).take j').map c.of)) ao co))/\2000-((f:Int)+96).toNat<2000-(f:Int).toNat):=fun w7 p5 g cap F=>by
    refine⟨⟨f+96,j+1,some (Za g 0),cap,p5,by push_cast;rfl,?_,by omega,?_⟩,by omega⟩
    ·have:=Hf.out;show _=_;omega
    ·rw[hnx1.out,hnx2.out];exact F
   generalize bytes (af (c.of ch))=C at *;generalize dY (((bR d).take j).map c.of)=xs at *;go_upto_region 6 with fail
   try simp only[hmin,hchn]
   refine bF ?_;refine wp_region_any (by kernel_rfl) ?_;show wpAny _ _ _ _ _ _ _ wr.drew;have F1:=FX.out.step (Zr).drew;have hOb1:=hObV.out _ F1;clear FX;generalize wr.drew=V at F1 hOb1⊢;refine Zv 0 (.pointer (some (Za (w.heap.size+1) 1))) ?_;refine Zv 2 (Zp p.q) ?_;refine Zv 3 (.string ch) ?_;refine wpAny_ready (rs:=[1,4]) (by kernel_rfl) (by simp) ?_;refine AllReady.cons (o:=⟨some 26,.load 358 (.tmp 25),_,_,_,none⟩) rfl (fun K hK=>?_) (AllReady.cons (o:=⟨some 29,.call {callee:=.value (.func 234),args:=#[.tmp 27,.const (.int .u8 1),.tmp 28],argTypes:=#[269,255,9]},_,_,_,none⟩) rfl (fun K hK=>?_) AllReady.nil);have q1:=F1.r5.cell 1;refine aD rfl (v:=.slice ao j co) (w':=V) (by go_simp) ?_;refine hK _ _ ?_;clear hK K;(try simp only[Act.put,lA,lZ,lS]);refine wpAny_ready (rs:=[4]) (by kernel_rfl) (by simp) ?_;refine AllReady.cons (o:=⟨some 29,.call {callee:=.value (.func 234),args:=#[.tmp 27,.const (.int .u8 1),.tmp 28],argTypes:=#[269,255,9]},_,_,_,none⟩) rfl (fun K hK=>?_) AllReady.nil;go_simp;go_at_call 234;refine Calls.mono hOb1 ?_;rintro e u5 ⟨rfl,hd5⟩;obtain⟨p5,F5⟩:=F1.put hd5;clear hd5;refine hK _ _ ?_;clear hK K;(try simp only[Act.put,lA,lZ,lS]);refine wpAny_ready (rs:=[5]) (by kernel_rfl) (by simp) ?_;refine AllReady.cons (o:=⟨some 30,.buildSlice 358 1 #[(0,.tmp 29)],_,_,_,none⟩) rfl (fun K hK=>?_) AllReady.nil;refine aD rfl (v:=.slice (Zs u5.heap.size) 1 1) (w':=(u5.alloc (.cells C.toArray 121))) (by exact aL 358 (.tmp 29) (by rfl) (.agg C.toArray) _ _ _ (by rfl) (hbs.out u5)) ?_;rotate_left;go_simp;go_at_call 234;refine Calls.mono hOb1 ?_;rintro e u5 ⟨rfl,hd5⟩;obtain⟨p5,F5⟩:=F1.put hd5;clear hd5;refine hK _ _ ?_;clear hK K;(try simp only[Act.put,lA,lZ,lS]);refine wpAny_ready (rs:=[1,5]) (by kernel_rfl) (by simp) ?_;refine AllReady.cons (o:=⟨some 26,.load 358 (.tmp 25),_,_,_,none⟩) rfl (fun K hK=>?_) (AllReady.cons (o:=⟨some 30,.buildSlice 358 1 #[(0,.tmp 29)],_,_,_,none⟩) rfl (fun K hK=>?_) AllReady.nil);have q1:=F5.r5.cell 1;refine aD rfl (v:=.slice ao j co) (w':=u5) (by go_simp) ?_;refine hK _ _ ?_;clear hK K;(try simp only[Act.put,lA,lZ,lS]);refine wpAny_ready (rs:=[5]) (by kernel_rfl) (by simp) ?_;refine AllReady.cons (o:=⟨some 30,.buildSlice 358 1 #[(0,.tmp 29)],_,_,_,none⟩) rfl (fun K hK=>?_) AllReady.nil;refine aD rfl (v:=.slice (Zs u5.heap.size) 1 1) (w':=(u5.alloc (.cells C.toArray 121))) (by exact aL 358 (.tmp 29) (by rfl) (.agg C.toArray) _ _ _ (by rfl) (hbs.out u5)) ?_;rotate_left;refine aD rfl (v:=.slice (Zs u5.heap.size) 1 1) (w':=(u5.alloc (.cells C.toArray 121))) (by exact aL 358 (.tmp 29) (by rfl) (.agg C.toArray) _ _ _ (by rfl) (hbs.out u5)) ?_;refine hK _ _ ?_;clear hK K;(try simp only[Act.put,lA,lZ,lS]);refine wpAny_ready (rs:=[1]) (by kernel_rfl) (by simp) ?_;refine AllReady.cons (o:=⟨some 26,.load 358 (.tmp 25),_,_,_,none⟩) rfl (fun K hK=>?_) AllReady.nil;have F6a:=F5.step ((Zr).alloc (Zn) (.cells C.toArray 121));have q1:=F6a.r5.cell 1;refine aD rfl (v:=.slice ao j co) (w':=(u5.alloc (.cells C.toArray 121))) (by go_simp) ?_;rotate_left
   all_goals
    refine hK _ _ ?_;clear hK K;(try simp only[Act.put,lA,lZ,lS]);refine wpAny_ready (rs:=[6]) (by kernel_rfl) (by simp) ?_;refine AllReady.cons (o:=⟨some 31,.call {callee:=.builtin .append,args:=#[.tmp 26,.tmp 30],argTypes:=#[358,358]},_,_,_,none⟩) rfl (fun K hK=>?_) AllReady.nil;have F6:=F5.step ((Zr).alloc (Zn) (.cells C.toArray 121));have news:=World.news_of_block (cs:=C.toArray) (t:=121) (fr:=(0,0)) (heap_alloc_new u5 (.cells C.toArray 121));refine step_append_lies _ (by rfl) (.tmp 26) (.tmp 30) 358 (by rfl) (w.heap.size+2) 121 i0 _ 32 32 underlying358 hi0 hz0 hz1 hz2 (by rfl) (by decide) (.slice ao j co) j xs (by rfl) F6.own (Za u5.heap.size 0) 1 1 C (by rfl) qy (by exact news) Qn.out (by decide) (by unfold maxLen;omega) (by omega) (by have:=F6.size;omega) _ rfl ?_;intro g cap w4 aY aN hat hlt;refine hK _ _ ?_;clear hK K;(try simp only[Act.put,lA,lZ,lS]);refine Zv 7 (.pointer (some (Za (w.heap.size+1) 1))) ?_;refine wpAny_ready (rs:=[8]) (by kernel_rfl) (by simp) ?_;refine AllReady.cons (o:=⟨none,.store 358 (.tmp 32) (.tmp 31),_,_,_,none⟩) rfl (fun K hK=>?_) AllReady.nil;have hF4:Fr _ w4 (Value.slice ao j co).ownBlock.toList:=(Fr.refl _ _).grown aN (fun k hk=>.inl (by rw[hk];simp));have r5:=hF4.row F6.r5 (fun hm=>by have:=(World.ownsRow.lt F6.own _ (Zo.1 hm)).1;omega);have z0:=r5.cell 1;have z1:=r5.frozen 1;refine step_skip rfl (w':=w4.setCell (Za (w.heap.size+1) 1) (.slice (Zs g) (j+1) cap)) (by go_simp) ?_;refine hK _ _ ?_;clear hK K
    try simp only[Act.put]
    refine wpAny_done (by kernel_rfl) ?_ _;simp only[At];have F7:=F6.grow aN aY hat;clear z0 z1 r5 hF4 hlt aY aN hat news q1;generalize w4.setCell (Za (w.heap.size+1) 1) (.slice (Zs g) (j+1) cap)=w7 at F7⊢;go_wp2;exact WX.out _ _ _ _ F7
  ·have jl:¬(f:Int)<(d.size:Int):=by omega
   have hjn2:j=n:=by have:=Hf.out;rw[<-hn,hnk] at hjn⊢;omega
   subst hjn2;have htk:(bR d).take j=bR d:=take_of_length_le (by omega);rw[htk] at FX;have hFn:=HF.out j (Zn);rw[htk] at hFn;have c0:=FX.out.r5.cell 0;have c1:=FX.out.r5.cell 1;simp only[getElem?_cons_zero,getElem?_cons_succ] at c0 c1;have ht2s:t2.size<=1000:=by omega
   go_wp2_with(first
    | (go_at_call 273;refine Calls.mono (HTx.out _ ao co _ FX.out.own) ?_;rintro e w3 ⟨rfl,hb3⟩;have F3:=FX.out.step hb3)
    | (go_at_call 234;refine Calls.mono (YA.out 2 t2 F3 hFn (by omega) (by omega) ht2s) ?_;rintro e w4 ⟨rfl,hd4⟩;obtain⟨p4,F4⟩:=F3.put hd4)
    | (refine wpList_store_row rfl 121 _ _ rfl w.heap.size _ rfl (by rw[Vv.out];rfl) _ _ F4.r4.heap hsz hz32 om ?_))
   refine bodyPost_ret (v:=.agg C2.toArray) ?_ rfl ⟨rfl,?_⟩
   ·exact results_cell_row (P:=prog) results233 _ _ w.heap.size _ _ _ _ rfl (setRow_heap _ w.heap.size _ C2.toArray _ _ F4.r4.heap) underlying121 rfl hsz
   ·rw[HRR.out];exact F4.done _
end
section
open Go.RowKit
section
variable {a:Nat->Addr}{w w4 w5:World}{q:Nat}{L:List It}{blk mblk:Zy->Nat}
theorem sM(h:dD w L blk mblk)(hd:bC L p)(c:w.cell? (Za b i)=some v):b≠mblk p:=by
 rintro rfl;obtain⟨_,_,D',⟨es,clock,h1,_⟩,_⟩:=h.dir p hd;simp[World.cell?,h1] at c
theorem WY(h4:eH w4 q L blk mblk)(hB:Below w.heap.size w w4){n:Zy}(hn:aO (af n)=true)(hd:bC L p)(hi:i<L.length)(uo:L[i].path=aA p n)(hid:L[i].dir=false){d:Zy}(hbig:¬1536<d.size)(f:Fr w4 w5 [mblk p])(nb:Nat)(hnb:w.heap.size<=nb)
  (D:DataW Unit) (hh:∀k:Zy,Maps.has D (.string k.data.toList)=true↔k∈aj p L) (ha:∀k∈aj p L,∀z,D.atKey (.string k.data.toList) z=.lit (.int .i64 (blk (aA p k):Nat))) (hm:Maps.IsMap D) (m:Nat)
  (ho:w5.ownsMap prog 9 eD (mblk p) m (D.put (.string n.data.toList) (.lit (.int .i64 (nb:Nat))))) (n0:w4.cell? (Za nb 0)=some (.map none)) (n1:w4.cell? (Za nb 1)=some (.string d)):jU w w5 q L (setDat L i d) blk mblk:=by
 have ok':=h4.ok.setDat hi hid (d:=d) (by omega);have nbm:=sM h4.tree hd n0;have hb:=f.block _ (Zd n0) (by simpa using nbm);have hq:=f.block _ (Zd h4.root) (by simpa using sM h4.tree hd h4.root);refine⟨Dm blk (aA p n) nb,mblk,⟨?_,h4.tree.setDat h4.ok hn hd hi uo hid ok' f nb D hh ha hm m ho ⟨ay n0 hb,ay n1 hb⟩,ok'⟩,DX hnb,?_⟩
 ·rw[fD blk nb (fun e=>ja p n hn e.symm)];exact ay h4.root hq
 ·exact(Fr.of_below hB _).trans f (fun y hy _=>by rw[Zm.1 hy];exact(Av blk mblk hd).2)
theorem Ky(h4:eH w4 q L blk mblk)(hB:Below w.heap.size w w4){n:Zy}(hn:aO (af n)=true)(hd:bC L p)(hno:n∉aj p L)(hsz:(aA p n).size<=262144)(hl:L.length<256){d:Zy}(hbig:¬1536<d.size)(hdd:dir=true->d=⟨#[]⟩)(f:Fr w4 w5 [mblk p])(nb nm:Nat)(hnb:w.heap.size<=nb)(hnm:w.heap.size<=nm)
  (hnew:∀q,bC L q->mblk q≠nm)
  (D:DataW Unit) (hh:∀k:Zy,Maps.has D (.string k.data.toList)=true↔k∈aj p L) (ha:∀k∈aj p L,∀z,D.atKey (.string k.data.toList) z=.lit (.int .i64 (blk (aA p k):Nat))) (hm:Maps.IsMap D) (m:Nat)
  (ho:w5.ownsMap prog 9 eD (mblk p) m (D.put (.string n.data.toList) (.lit (.int .i64 (nb:Nat)))))
  (um:dir=false->w4.cell? (Za nb 0)=some (.map none)/\w4.cell? (Za nb 1)=some (.string d))
  (vZ:dir=true->w4.cell? (Za nb 0)=some (.map (some nm))/\w4.cell? (Za nb 1)=some (.string ⟨#[]⟩)/\∃m,w4.ownsMap (H:=Unit) prog 9 eD nm m (.map [])):jU w w5 q L (L++[⟨aA p n,dir,d⟩]) blk mblk:=by
 have ok':=h4.ok.snoc hn hd hno hsz hl dir d (by omega) hdd;have hq:=f.block _ (Zd h4.root) (by simpa using sM h4.tree hd h4.root);refine⟨Dm blk (aA p n) nb,Dm mblk (aA p n) nm,⟨?_,h4.tree.snoc h4.ok hn hd hno ok' f nb nm hnew D hh ha hm m ho ?_ ?_,ok'⟩,JN hnb hnm,?_⟩
 ·rw[fD blk nb (fun e=>ja p n hn e.symm)];exact ay h4.root hq
 ·intro e;obtain⟨n0,n1⟩:=um e;have hb:=f.block _ (Zd n0) (by simpa using sM h4.tree hd n0);exact⟨ay n0 hb,ay n1 hb⟩
 ·intro e;obtain⟨n0,n1,m',hm'⟩:=vZ e;have hb:=f.block _ (Zd n0) (by simpa using sM h4.tree hd n0);refine⟨ay n0 hb,ay n1 hb,m',?_⟩;obtain⟨es,clock,h1,h2⟩:=hm';have hlt:nm<w4.heap.size:=(Array.getElem?_eq_some_iff.1 h1).1;exact⟨es,clock,(f.block _ hlt (by simp;exact fun e=>hnew p hd e.symm)).trans h1,h2⟩
 ·exact(Fr.of_below hB _).trans f (fun y hy _=>by rw[Zm.1 hy];exact(Av blk mblk hd).2)
theorem GV(G:eO a w)(h:eH w q L blk mblk)(s d:Zy)(hs:s.size<=1000000)(hbig:¬1536<d.size)(h0:bS L s=0)(p n:Zy)(hp:gy (ax s).1=p)(hnn:(ax s).1=(ax s).1.take ((ax s).1.length-1)++[n])(hn:aO (af n)=true)(hd:bC L p)(i:Nat)(hi:i<L.length)(uo:L[i].path=aA p n)(hid:L[i].dir=false):
  Zc 95 #[Zp q,.string s,.string d] w fun e w'=>e=.returned .nilIface/\jU w w' q L (setDat L i d) blk mblk:=by
 have hlow:nX s:=oM h0;have c:=iP G s hs hlow;have ib:¬(1536:Int)<(d.size:Int):=by omega
 rw[nK hlow] at h0;have gV:=gJ s hlow.1;have hmem:n∈aj p L:=(bD h.ok p n).2 ⟨hn,L[i],Zg hi,uo⟩;clear hlow;have HN:Hid _:=hnn;have HI:Hid _:=uo;clear hnn uo;go_enter func95,ntmps95;go_wp2_with(go_at_call 155;refine c.mono ?_;rintro e w1 ⟨v,rfl,h1,hb⟩;have hr':=(h.below hb).root);have h':=h.below hb;have G':=G.up hb;have cA:=nJ h'.tree h'.ok a (ax s).1 n HN.out v h1 (iq s) (by omega) (G'.err 5 (by decide)) (G'.err 6 (by decide)) h0;rw[hp] at cA;have HL:Hid _:=h'.look hn hd;have HT:Hid (∀w2,Below w1.heap.size w1 w2->w2.cell? (Za (blk (aA p n)) 0)=some (.map none)):=fun w2 hb2=>by
  have:=((h'.below hb2).tree.file _ (Zg hi) hid).1;rw[HI.out] at this;exact this
 go_wp2_with(go_at_call 156;refine cA.mono ?_;rintro e w2 ⟨rfl,hb2⟩;obtain⟨e0,ey,_⟩:=HL.out w2 hb2;have ey:=ey hmem;have e1:=HT.out w2 hb2);have cD:=eX _ _ w2 e1;have cN:=wo d w2 (by omega);go_wp2_with(first
  | (go_at_call 162;refine cD.mono ?_;rintro e w' ⟨rfl,rfl⟩)
  | (go_at_call 164;refine cN.mono ?_;rintro e w4 ⟨v4,rfl,⟨nb,rfl,g1,g2,n0,n1⟩,hb4⟩))
 have h4:=(h'.below hb2).below hb4;obtain⟨c0,_,D,ho,hh,ha⟩:=h4.tree.dir p hd;have hsz:=pG h4.ok ho hh;have YB:=lU h4.ok p;have cP:=rV ho (by omega) c0 n (by have:=ic hn;omega) nb;have hs1:=hb.size;have hs2:=hb2.size;go_wp2_with(go_at_call 91;refine cP.mono ?_;rintro e w5 ⟨rfl,ho5,f5⟩);go_ret;exact⟨rfl,WY h4 (hb.trans ((hb2.trans (hb4.mono hs2)).mono hs1)) hn hd hi HI.out hid hbig f5 nb (by omega) D hh ha ho.isMap _ ho5 n0 n1⟩
end
section
variable {a:Nat->Addr}{w:World}{q:Nat}{L:List It}{blk mblk:Zy->Nat}
theorem GX(G:eO a w)(h:eH w q L blk mblk)(s d:Zy)(hs:s.size<=1000000)(hbig:¬1536<d.size)(h0:bS L s=0)(p n:Zy)(hp:gy (ax s).1=p)(hnn:(ax s).1=(ax s).1.take ((ax s).1.length-1)++[n])(hn:aO (af n)=true)(hd:bC L p)(hno:n∉aj p L)(hsz:(aA p n).size<=262144)(hroom:(decide ((aj p L).length<16)&&decide (L.length<256))=true):
  Zc 95 #[Zp q,.string s,.string d] w fun e w'=>e=.returned .nilIface/\jU w w' q L (L++[⟨aA p n,false,d⟩]) blk mblk:=by
 have hlow:nX s:=oM h0;have c:=iP G s hs hlow;have ib:¬(1536:Int)<(d.size:Int):=by omega
 rw[nK hlow] at h0;have gV:=gJ s hlow.1;have hl:L.length<256:=by rw[Bool.and_eq_true,decide_eq_true_eq,decide_eq_true_eq] at hroom;exact hroom.2
 clear hlow;have HN:Hid _:=hnn;have HR:Hid _:=hroom;clear hnn hroom;go_enter func95,ntmps95;go_wp2_with(go_at_call 155;refine c.mono ?_;rintro e w1 ⟨v,rfl,h1,hb⟩;have hr':=(h.below hb).root);have h':=h.below hb;have G':=G.up hb;have cA:=nJ h'.tree h'.ok a (ax s).1 n HN.out v h1 (iq s) (by omega) (G'.err 5 (by decide)) (G'.err 6 (by decide)) h0;rw[hp] at cA;have HL:Hid _:=h'.look hn hd;go_wp2_with(go_at_call 156;refine cA.mono ?_;rintro e w2 ⟨rfl,hb2⟩;obtain⟨e0,_,ey⟩:=HL.out w2 hb2;have ey:=ey hno);have h'':=h'.below hb2;have cF:=qg h'' p hd;rw[HR.out] at cF;go_wp2_with(go_at_call 90;refine cF.mono ?_;rintro e w3 ⟨rfl,hb3⟩);have cN:=wo d w3 (by omega);go_wp2_with(go_at_call 164;refine cN.mono ?_;rintro e w4 ⟨v4,rfl,⟨nb,rfl,g1,g2,n0,n1⟩,hb4⟩);have h4:=(h''.below hb3).below hb4;obtain⟨c0,_,D,ho,hh,ha⟩:=h4.tree.dir p hd;have hds:=pG h4.ok ho hh;have YB:=lU h4.ok p;have cP:=rV ho (by omega) c0 n (by have:=ic hn;omega) nb;have hs1:=hb.size;have hs2:=hb2.size;have hs3:=hb3.size;go_wp2_with(go_at_call 91;refine cP.mono ?_;rintro e w5 ⟨rfl,ho5,f5⟩);go_ret;exact⟨rfl,Ky h4 (hb.trans ((hb2.trans ((hb3.trans (hb4.mono hs3)).mono hs2)).mono hs1)) hn hd hno hsz hl hbig (fun e=>by cases e) f5 nb nb (by omega) (by omega) (fun q hq e=>sM h4.tree hq n0 e.symm) D hh ha ho.isMap _ ho5 (fun _=>⟨n0,n1⟩) (fun e=>by cases e)⟩
theorem lY(a:Nat->Addr)(c:Nat)(hc:c≠0){e:Ending}(h:e=.returned (eF a (c-1))):e=.returned (dx a c):=by rw[jT a hc];exact h
theorem Ei(G:eO a w)(h:eH w q L blk mblk)(s d:Zy)(hs:s.size<=262144):
  Zc 95 #[Zp q,.string s,.string d] w fun e w'=>e=.returned (dx a (iI L s d).2)/\jU w w' q L (iI L s d).1 blk mblk:=by
 unfold iI;by_cases hlow:nX s
 ·rw[if_neg (by rw[hlow.1];simp;exact fun e=>hlow.2 (by rw[e];rfl))];by_cases hbig:1536<d.size
  ·rw[if_pos hbig];exact(GA G h s d (by omega) hlow hbig).mono fun e w' he=>⟨lY a 11 (by decide) he.1,h.same he.2⟩
  ·rw[if_neg hbig];by_cases h0:bS L s=0
   ·rw[if_neg (by simp[h0])];obtain⟨n,hnn,hn,hsj,hd⟩:=Ay h.ok h0;generalize hp:gy (ax s).1=p at hsj hd;have NH:tZ L s=(decide ((aj p L).length<16)&&decide (L.length<256)):=by unfold tZ;rw[hp]
    rcases pJ h.ok (p:=p) hn with⟨hneg,hno⟩|⟨i,hi,hfi,uo,hmem⟩
    ·rw[<-hsj] at hneg;rw[if_neg (by omega),NH];cases hroom:(decide ((aj p L).length<16)&&decide (L.length<256))
     ·rw[if_pos rfl];exact(D8 G h s d (by omega) hbig h0 p n hp hnn hn hd hno hroom).mono fun e w' he=>⟨lY a 10 (by decide) he.1,h.same he.2⟩
     ·rw[if_neg (by simp)];have:=GX G h s d (by omega) hbig h0 p n hp hnn hn hd hno (by rw[<-hsj];exact hs) hroom;rw[<-hsj] at this;exact this
    ·rw[<-hsj] at hfi;rw[if_pos (by omega)];have hdi:iY L (bJ L s)=L[i].dir:=by
      unfold iY;rw[hfi,Int.toNat_natCast,getElem?_eq_getElem hi];rfl
     cases hid:L[i].dir
     ·rw[if_neg (by rw[hdi,hid];simp),hfi,Int.toNat_natCast];exact GV G h s d (by omega) hbig h0 p n hp hnn hn hd i hi uo hid
     ·rw[if_pos (by rw[hdi,hid])];exact(D7 G h s d (by omega) hbig h0 p n hp hnn hn hd i hi uo hid).mono fun e w' he=>⟨lY a 7 (by decide) he.1,h.same he.2⟩
   ·rw[if_pos h0];exact(DZ G h s d (by omega) hlow hbig h0).mono fun e w' he=>⟨lY a _ h0 he.1,h.same he.2⟩
 ·rw[if_pos (by
   cases hn:(ax s).2
   ·exact .inl rfl
   ·exact .inr (Classical.not_not.1 fun h0=>hlow ⟨hn,h0⟩))]
  exact(DY G h s d (by omega) hlow).mono fun e w' he=>⟨lY a 5 (by decide) he.1,h.same he.2⟩
end
section
variable {a:Nat->Addr}{w:World}{q:Nat}{L:List It}{blk mblk:Zy->Nat}
theorem Ej(G:eO a w)(h:eH w q L blk mblk)(s:Zy)(hs:s.size<=1000000)(h0:bS L s≠0):
  Zc 46 #[Zp q,.string s] w fun e w'=>e=.returned (eF a (bS L s-1))/\Below w.heap.size w w':=by
 have c:=xM G h s hs h0;generalize bS L s-1=j at c;unfold eF at c;go_enter func46,ntmps46;go_wp2_with(go_at_call 89;refine c.mono ?_;rintro e w1 ⟨rfl,hb⟩);go_ret;exact⟨rfl,hb⟩
theorem Cc(G:eO a w)(h:eH w q L blk mblk)(s:Zy)(hs:s.size<=1000000)(h0:bS L s=0)(p n:Zy)(hp:gy (ax s).1=p)(hnn:(ax s).1=(ax s).1.take ((ax s).1.length-1)++[n])(hn:aO (af n)=true)(hd:bC L p)(hmem:n∈aj p L):
  Zc 46 #[Zp q,.string s] w fun e w'=>e=.returned (eF a 7)/\Below w.heap.size w w':=by
 have c:=lD G h s hs h0 n hnn;rw[hp] at c;have HL:Hid _:=h.look hn hd;clear hnn;go_enter func46,ntmps46;go_wp2_with(go_at_call 89;refine c.mono ?_;rintro e w1 ⟨rfl,hb⟩;obtain⟨e0,ey,_⟩:=HL.out w1 hb;have ey:=ey hmem;have e7:=(G.up hb).err 7 (by decide));go_ret;exact⟨rfl,hb⟩
theorem El(G:eO a w)(h:eH w q L blk mblk)(s:Zy)(hs:s.size<=1000000)(h0:bS L s=0)(p n:Zy)(hp:gy (ax s).1=p)(hnn:(ax s).1=(ax s).1.take ((ax s).1.length-1)++[n])(hn:aO (af n)=true)(hd:bC L p)(hno:n∉aj p L)(hroom:(decide ((aj p L).length<16)&&decide (L.length<256))=false):
  Zc 46 #[Zp q,.string s] w fun e w'=>e=.returned (eF a 9)/\Below w.heap.size w w':=by
 have c:=lD G h s hs h0 n hnn;rw[hp] at c;have HL:Hid _:=h.look hn hd;have HR:Hid _:=hroom;clear hnn hroom;go_enter func46,ntmps46;go_wp2_with(go_at_call 89;refine c.mono ?_;rintro e w1 ⟨rfl,hb⟩;obtain⟨e0,_,ey⟩:=HL.out w1 hb;have ey:=ey hno);have h':=h.below hb;have cF:=qg h' p hd;rw[HR.out] at cF;have HG:Hid (∀w3,Below w1.heap.size w1 w3->w3.cell? (Za 9 0)=some (eF a 9)):=fun w3 hb3=>((G.up hb).up hb3).err 9 (by decide);go_wp2_with(go_at_call 90;refine cF.mono ?_;rintro e w3 ⟨rfl,hb3⟩;have e9:=HG.out w3 hb3);go_ret;exact⟨rfl,hb.trans (hb3.mono hb.size)⟩
theorem GY(G:eO a w)(h:eH w q L blk mblk)(s:Zy)(hs:s.size<=1000000)(h0:bS L s=0)(p n:Zy)(hp:gy (ax s).1=p)(hnn:(ax s).1=(ax s).1.take ((ax s).1.length-1)++[n])(hn:aO (af n)=true)(hd:bC L p)(hno:n∉aj p L)(hsz:(aA p n).size<=262144)(hroom:(decide ((aj p L).length<16)&&decide (L.length<256))=true):
  Zc 46 #[Zp q,.string s] w fun e w'=>e=.returned .nilIface/\jU w w' q L (L++[⟨aA p n,true,⟨#[]⟩⟩]) blk mblk:=by
 have c:=lD G h s hs h0 n hnn;rw[hp] at c;have HL:Hid _:=h.look hn hd;have hl:L.length<256:=by rw[Bool.and_eq_true,decide_eq_true_eq,decide_eq_true_eq] at hroom;exact hroom.2
 have HR:Hid _:=hroom;clear hnn hroom;go_enter func46,ntmps46;go_wp2_with(go_at_call 89;refine c.mono ?_;rintro e w1 ⟨rfl,hb⟩;obtain⟨e0,_,ey⟩:=HL.out w1 hb;have ey:=ey hno);have h':=h.below hb;have cF:=qg h' p hd;rw[HR.out] at cF;go_wp2_with(go_at_call 90;refine cF.mono ?_;rintro e w3 ⟨rfl,hb3⟩);have cN:=zb w3;go_wp2_with(go_at_call 92;refine cN.mono ?_;rintro e w4 ⟨v4,nm,rfl,⟨nb,rfl,g1,g2,n0,n1⟩,g3,ho4,hb4⟩);have h3:=h'.below hb3;have h4:=h3.below hb4;obtain⟨c0,_,D,ho,hh,ha⟩:=h4.tree.dir p hd;have hds:=pG h4.ok ho hh;have YB:=lU h4.ok p;have cP:=rV ho (by omega) c0 n (by have:=ic hn;omega) nb;have hs1:=hb.size;have hs3:=hb3.size;go_wp2_with(go_at_call 91;refine cP.mono ?_;rintro e w5 ⟨rfl,ho5,f5⟩);go_ret;exact⟨rfl,Ky h4 (hb.trans ((hb3.trans (hb4.mono hs3)).mono hs1)) hn hd hno hsz hl (by decide) (fun _=>rfl) f5 nb nm (by omega) (by omega) (fun q hq e=>by have:=(h3.tree.dir q hq).2.2.lt;omega) D hh ha ho.isMap _ ho5 (fun e=>by cases e) (fun _=>⟨n0,n1,0,ho4⟩)⟩
theorem Em(G:eO a w)(h:eH w q L blk mblk)(s:Zy)(hs:s.size<=262144):
  Zc 46 #[Zp q,.string s] w fun e w'=>e=.returned (dx a (gD L s).2)/\jU w w' q L (gD L s).1 blk mblk:=by
 unfold gD;by_cases h0:bS L s=0
 ·rw[if_neg (by simp[h0])];obtain⟨n,hnn,hn,hsj,hd⟩:=Ay h.ok h0;generalize hp:gy (ax s).1=p at hsj hd;have NH:tZ L s=(decide ((aj p L).length<16)&&decide (L.length<256)):=by unfold tZ;rw[hp]
  rcases pJ h.ok (p:=p) hn with⟨hneg,hno⟩|⟨i,hi,hfi,uo,hmem⟩
  ·rw[<-hsj] at hneg;rw[if_neg (by omega),NH];cases hroom:(decide ((aj p L).length<16)&&decide (L.length<256))
   ·rw[if_pos rfl];exact(El G h s (by omega) h0 p n hp hnn hn hd hno hroom).mono fun e w' he=>⟨lY a 10 (by decide) he.1,h.same he.2⟩
   ·rw[if_neg (by simp)];have:=GY G h s (by omega) h0 p n hp hnn hn hd hno (by rw[<-hsj];exact hs) hroom;rw[<-hsj] at this;exact this
  ·rw[<-hsj] at hfi;rw[if_pos (by omega)];exact(Cc G h s (by omega) h0 p n hp hnn hn hd hmem).mono fun e w' he=>⟨lY a 8 (by decide) he.1,h.same he.2⟩
 ·rw[if_pos h0];exact(Ej G h s (by omega) h0).mono fun e w' he=>⟨lY a _ h0 he.1,h.same he.2⟩
end
end
end Go.Proofs.YtdidjdoifpfmmaaGreatDoor
