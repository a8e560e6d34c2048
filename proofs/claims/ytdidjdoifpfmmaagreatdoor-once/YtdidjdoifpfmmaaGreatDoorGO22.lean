import Derived.Test.YtdidjdoifpfmmaaGreatDoorGO21
import Derived.WalkMore
set_option maxRecDepth 100000
set_option maxHeartbeats 16000000
namespace Go.Proofs.YtdidjdoifpfmmaaGreatDoor
open Go.Proofs.Tryz List
variable{a:Nat->Addr}{c:dz}{w wr w':World}{p:aS}{A:jc}{S:Dk}{H:List Ob}{Sn Sn':Nat->Zy->Prop}{fv v:Value}{m k k0 n q g co:Nat}{bs ms:List Nat}{s s0 t0 x y sum:Zy}{d:DP}{I:List (Zy × Zy)}{ao:Option Addr}
section
open Go.RowKit Go.Maps Go.Lib
def bq(c:dz)(A:jc):Dr:=(⟨[],⟨#[]⟩,A.pos,A.num,A.crc⟩:Dr).puts c A.H (iM c A.L 300 ⟨#[]⟩)
def dQ(c:dz)(A:jc):Zy:=c.of (kF c A.L 300 ⟨#[]⟩)
def dJ(c:dz)(A:jc)(label:Zy):(Nat × Nat) × jc:=
 if A.dn=true then((0,2),A)
 else if 20<label.size then((0,11),A)
 else if A.S.safe.length<(bq c A).pos+(11+(bZ (A.I.length+1) (dQ c A) label).size+63) / 64 then((0,12),A)
 else if(kG A.S A.pos (bq c A).data (bq c A).pos (mq 4 (bq c A).num (bq c A).crc (bZ (A.I.length+1) (dQ c A) label))).2≠0 then
  ((0,(kG A.S A.pos (bq c A).data (bq c A).pos (mq 4 (bq c A).num (bq c A).crc (bZ (A.I.length+1) (dQ c A) label))).2),{A with S:=(kG A.S A.pos (bq c A).data (bq c A).pos (mq 4 (bq c A).num (bq c A).crc (bZ (A.I.length+1) (dQ c A) label))).1,dn:=true})
 else((A.I.length+1,0),{A with S:=(kG A.S A.pos (bq c A).data (bq c A).pos (mq 4 (bq c A).num (bq c A).crc (bZ (A.I.length+1) (dQ c A) label))).1,H:=A.H++(bq c A).A,I:=A.I++[(dQ c A,label)],pos:=(bq c A).pos+(11+(bZ (A.I.length+1) (dQ c A) label).size+63) / 64,num:=(bq c A).num+1,crc:=gB 4 (bq c A).num (bq c A).crc (bZ (A.I.length+1) (dQ c A) label)})
structure jc.Fit(A:jc):Prop where
 ok:A.S.Ok
 fuse:A.S.fuse<=9223372036854775807
 wait:A.S.wait.length<=870000
 tree:aC A.L
 kids:fP A.L
 pos:A.pos<=A.S.safe.length
 num:A.num<=5000
 crc:A.crc<4294967296
 h:A.H.length<=50000
 i:A.I.length<=5000
theorem NM(G:eO a w)(h:eP w p A)(label:Zy)(hd:A.dn=true):
  Zc 96 #[Zp p.q,.string label] w fun e w'=>e=.returned (.tuple #[.int .i64 ((dJ c A label).1.1:Nat),dx a (dJ c A label).1.2])/\jd w w' p (dJ c A label).2:=by
 have e:dJ c A label=((0,2),A):=if_pos hd;rw[e];have c10:w.cell? (Za p.q 10)=some (.bool true):=by rw[<-hd];exact h.rest 4 _ rfl
 have g1:=G.err 1 (by omega);have HD:Hid (∀w',Below w.heap.size w w'->jd w w' p A):=fun w' hb=>.same h hb;clear h;go_enter func96,ntmps96;go_wp2;go_region
 all_goals
  go_wp2;go_ret2;exact⟨rfl,HD.out _ (Zr).drew⟩
theorem KP(G:eO a w)(h:eP w p A)(label:Zy)(hl:label.size<=1000000)(hd:A.dn=false)(hb:20<label.size):
  Zc 96 #[Zp p.q,.string label] w fun e w'=>e=.returned (.tuple #[.int .i64 ((dJ c A label).1.1:Nat),dx a (dJ c A label).1.2])/\jd w w' p (dJ c A label).2:=by
 have e:dJ c A label=((0,11),A):=by unfold dJ;rw[if_neg (by rw[hd];decide),if_pos hb]
 rw[e];have c10:w.cell? (Za p.q 10)=some (.bool false):=by rw[<-hd];exact h.rest 4 _ rfl
 have g1:=G.err 10 (by omega);have hgt:(label.size:Int)>20:=by omega
 have HD:Hid (∀w',Below w.heap.size w w'->jd w w' p A):=fun w' hb=>.same h hb;clear h;go_enter func96,ntmps96;go_wp2;go_region
 all_goals
  go_wp2;go_ret2;exact⟨rfl,HD.out _ (Zr).drew⟩
theorem zX(hf:A.Fit):(bq c A).Fit 4400/\(bq c A).Al A.H A.pos:=by
 have hlen:=wU (c:=c) hf.tree 300 ⟨#[]⟩;have hr:=xH hf.tree;have gV:=hf.tree.few;have hm:=hf.ok.most;have h0:(⟨[],⟨#[]⟩,A.pos,A.num,A.crc⟩:Dr).Fit 0:=⟨Nat.zero_le _,by have:=hf.num;simp only;omega,by have:=hf.pos;simp only;omega,Nat.zero_le _,hf.crc⟩;have h1:(⟨[],⟨#[]⟩,A.pos,A.num,A.crc⟩:Dr).Al A.H A.pos:=⟨Zn,by show 0=64*(A.pos-A.pos);omega,fun k x hx=>by simp[hasO,gH] at hx⟩;refine⟨(Dr.Fit.puts (c:=c) (T:=A.H) _ h0 (sO hf.tree hf.kids 300 ⟨#[]⟩)).more (by omega),h1.puts _⟩
theorem Hw(G:eO a w)(hC:dI c w)(hG:18<=w.heap.size)(h:eP w p A)(kV:∀b∈p.mine,18<=b)(hf:A.Fit)(label:Zy)(hl:label.size<=20)(hd:A.dn=false):
  Zc 96 #[Zp p.q,.string label] w fun e w'=>e=.returned (.tuple #[.int .i64 ((dJ c A label).1.1:Nat),dx a (dJ c A label).1.2])/\jd w w' p (dJ c A label).2:=by
 have jD:=hf.ok.most;have hF:dJ c A label=if A.S.safe.length<(bq c A).pos+(11+(bZ (A.I.length+1) (dQ c A) label).size+63) / 64 then((0,12),A)
  else if(kG A.S A.pos (bq c A).data (bq c A).pos (mq 4 (bq c A).num (bq c A).crc (bZ (A.I.length+1) (dQ c A) label))).2≠0 then
   ((0,(kG A.S A.pos (bq c A).data (bq c A).pos (mq 4 (bq c A).num (bq c A).crc (bZ (A.I.length+1) (dQ c A) label))).2),{A with S:=(kG A.S A.pos (bq c A).data (bq c A).pos (mq 4 (bq c A).num (bq c A).crc (bZ (A.I.length+1) (dQ c A) label))).1,dn:=true})
  else((A.I.length+1,0),{A with S:=(kG A.S A.pos (bq c A).data (bq c A).pos (mq 4 (bq c A).num (bq c A).crc (bZ (A.I.length+1) (dQ c A) label))).1,H:=A.H++(bq c A).A,I:=A.I++[(dQ c A,label)],pos:=(bq c A).pos+(11+(bZ (A.I.length+1) (dQ c A) label).size+63) / 64,num:=(bq c A).num+1,crc:=gB 4 (bq c A).num (bq c A).crc (bZ (A.I.length+1) (dQ c A) label)}):=by
  unfold dJ;rw[if_neg (by rw[hd];decide),if_neg (by omega)]
 obtain⟨hfit,hal⟩:=zX (c:=c) hf;have hrt:(dQ c A).size=32:=c.size _;have hDef:Hid (bq c A=(⟨[],⟨#[]⟩,A.pos,A.num,A.crc⟩:Dr).puts c A.H (iM c A.L 300 ⟨#[]⟩)):=rfl;have hRef:Hid (dA (dQ c A)=dA (c.of (kF c A.L 300 ⟨#[]⟩))):=rfl;obtain⟨R,HR⟩:∃R,Hid (dJ c A label=R):=⟨_,rfl⟩;rw[HR.out];have Nb:Hid _:=HR.out.symm.trans hF;clear hF;have hms:p.ms.length=4:=h.objs.len;have hiM:(prog.info? 114).map (·.size)=some (aG p.ms).length:=by simp only[aG,length_map,hms];kernel_rfl
 have hiT:(prog.info? 117).map (·.size)=some (mg A.pos A.num A.crc).length:=by show _=some 3;kernel_rfl
 have c10:w.cell? (Za p.q 10)=some (.bool false):=by rw[<-hd];exact h.rest 4 _ rfl
 have gM:=h.maps;have gT:=h.tl;have lq:=h.row.lt;have c0:w.cell? (Za p.q 0)=some (.pointer (some ⟨p.blk ⟨#[]⟩,0,none⟩)):=h.row.cell 0;have hgt:¬(label.size:Int)>20:=by omega
 have hlsz:label.size<=1000:=by omega
 have HA:Hid (∀w',Below w.heap.size w w'->eP w' p A):=fun w' hb=>h.below hb;have Eh:Hid (∀b∈p.mine,b<w.heap.size):=h.lt;have Rl:Hid (∀b∈aP A.L p.blk p.mblk,b<w.heap.size):=h.tree.lt;have cN:Hid (∀w1,Below w.heap.size w w1->Zc 165 #[.agg (aG p.ms).toArray,.agg (mg A.pos A.num A.crc).toArray] w1 fun e w'=>∃q:iQ,e=.returned (Zp q.q)/\jK w' q A.H ⟨[],⟨#[]⟩,A.pos,A.num,A.crc⟩/\q.tm=p.ms/\(∀b∈q.blocks,w1.heap.size<=b)/\Below w1.heap.size w1 w'):=fun w1 hb=>KM (HA.out _ hb).objs A.pos A.num A.crc;have cDir:Hid (∀(w1:World) (q:iQ),Below w.heap.size w w1->jK w1 q A.H ⟨[],⟨#[]⟩,A.pos,A.num,A.crc⟩->(∀b∈q.blocks,w.heap.size<=b)->Zc 166 #[Zp q.q,.pointer (some ⟨p.blk ⟨#[]⟩,0,none⟩)] w1 fun e w'=>e=.returned (dA (dQ c A))/\j6 w1 w' q A.H (bq c A)):=fun w1 q hb hdr hq=>by
  have hlen:=wU (c:=c) hf.tree 300 ⟨#[]⟩;have hr:=xH hf.tree;have gV:=hf.tree.few;refine Pv hf.tree hf.kids 300 ⟨#[]⟩ (.inl rfl) (by omega) (hC.fr (Fr.of_below hb []) (by simp)) (HA.out _ hb).tree hdr (fun b hb2 hm=>?_) (fun b hb2=>Nat.le_trans hG (hq b hb2)) (Nat.le_trans hG hb.size) (m:=0) ⟨Nat.zero_le _,by have:=hf.num;simp only;omega,by have:=hf.pos;simp only;omega,Nat.zero_le _,hf.crc⟩ (by omega);have:=Rl.out b hb2;have:=hq b hm;omega
 have hnI:=hf.i;have WR:Hid (∀(w1:World) (q:iQ) (last:Zy) (n1 n2:Nat),Below w.heap.size w w1->jK w1 q A.H (bq c A)->(∀b∈q.blocks,w.heap.size<=b)->(bq c A).data.size=64*n1->last.size=64*n2->A.pos+n1<=A.S.safe.length->(bq c A).pos+n2<=A.S.safe.length->Zc 169 #[Zp p.q,Zp q.q,.string last] w1 fun e w'=>e=.returned (dx a (kG A.S A.pos (bq c A).data (bq c A).pos last).2)/\yC w1 w' p.d (kG A.S A.pos (bq c A).data (bq c A).pos last).1 (Value.slice q.ao 0 0).ownBlock.toList):=fun w1 q last n1 n2 hb hdr hq e1 e2 e3 e4=>by
  have hA1:=HA.out _ hb;have hdb:∀b∈p.d.blocks,b∈p.mine:=fun b hb=>by simp[aS.mine,hb]
  exact Xg (G.fr (Fr.of_below hb []) (by simp)) (Nat.le_trans hG hb.size) hA1.dev (fun b hb=>kV b (hdb b hb)) hf.ok hf.fuse hms hA1.row hdr (fun b hb2=>Nat.le_trans hG (hq b hb2)) hA1.nq.2.2 (fun hm=>by have:=hq _ hm;omega) (fun b hb2 hm=>by have:=hq b hb2;have:=Eh.out b (hdb b hm);omega) last n1 n2 e1 e2 e3 e4 (by have:=hf.wait;omega)
 have HSha:Hid _:=hC;have Lu:Hid _:=G;have LA:Hid (∀(x:Zy),bG (A.I++[(dQ c A,x)])=bG A.I++aH (A.I.length+1) (dQ c A) x):=fun x=>by unfold bG;rw[zipIdx_append];simp
 generalize bq c A=s1 at *;generalize dQ c A=root at *;obtain⟨n,hn⟩:∃n,n=A.I.length:=⟨_,rfl⟩;obtain⟨n1,hn1⟩:∃n1,n1=n+1:=⟨_,rfl⟩;rw[<-hn,<-hn1] at Nb;rw[<-hn] at hnI;have hwr:IntKind.u32.wrap ((n:Int)+1)=(n1:Int):=by rw[IntKind.wrap_u32,hn1];push_cast;omega
 have hn1s:n1<4294967296:=by omega
 have Hn:Hid (n=A.I.length):=hn;have Hn1:Hid (n1=n+1):=hn1;clear hn hn1;generalize Yn:aG p.ms=M at *;generalize hTT:mg A.pos A.num A.crc=TL at *;go_enter func96,ntmps96;go_upto_region 5 with fail
 refine bF ?_;refine wp_region_held_drew (S:=fun w'=>Below w.heap.size w w') (by kernel_rfl) (Zr).drew (fun ah=>?_);refine Zt 0 (Zp p.q) ?_;refine Zt 1 (Zp p.q) ?_;refine Zt 2 (.pointer (some (Za p.q 2))) ?_;refine Zt 3 (.agg (M).toArray) ?_ (hy:=yieldsIf_load_mid (by rfl) _ _ rfl (p.q) (2) rfl M _ (fun w h=>aU gM lq h) underlying114 rfl hiM);refine Zt 4 (Zp p.q) ?_;refine Zt 5 (Zp p.q) ?_;refine Zt 6 (.pointer (some (Za p.q 7))) ?_;refine Zt 7 (.agg (TL).toArray) ?_ (hy:=yieldsIf_load_mid (by rfl) _ _ rfl (p.q) (7) rfl TL _ (fun w h=>aU gT lq h) underlying117 rfl hiT);refine Zh 8 fun K hK=>?_;go_simp;go_at_call 165;refine Calls.mono (cN.out _ ah) ?_;rintro e w5 ⟨p5,rfl,hd5,WS,hb5,hbw5⟩;refine hK.out _ _ (ah.trans (hbw5.mono ah.size)) (fun ah=>?_);clear hK K;(try simp only[Act.put,lA,lZ,lS]);refine Zt 9 (Zp p5.q) ?_;refine Zx ?_;simp only[At];have b5:Below w.heap.size w w5:=ah;have Q8:∀b∈p5.blocks,w.heap.size<=b:=hb5;have c05:w5.cell? (Za p.q 0)=some (.pointer (some ⟨p.blk ⟨#[]⟩,0,none⟩)):=ay c0 (b5.block _ lq);have hdr5:=hd5;have cD5:=cDir.out w5 p5 b5 hdr5 Q8;unfold dA at cD5;have cD:Hid _:=cD5;have hCR:(bytes (af root)).length=32:=dh _ hrt;have jR:(prog.info? 121).map (·.size)=some (bytes (af root)).length:=by rw[hCR];kernel_rfl
 have QX:(prog.info? 121).map (·.size)=some (bytes (af root)).toArray.size:=jR;have hzCR:(bytes (replicate 32 0)).toArray.size=(bytes (af root)).toArray.size:=by rw[size_toArray,size_toArray,hCR];rfl
 have hoCR:((bytes (af root)).toArray.all Value.oneCell')=true:=bY _;have hbd:Hid (∀w,(Instr.build 123 #[(0,.int .u32 (n1:Nat)),(1,.agg (bytes (af root)).toArray),(2,.string label)]).run prog w=.ok (.agg (aH n1 root label).toArray) w):=fun w=>Bn n1 root label hrt w;have Xj:(prog.info? 123).map (·.size)=some (aH n1 root label).toArray.size:=o8 hrt n1 label;have YF:(prog.info? 123).map (·.size)=some (aH n1 root label).length:=o8 hrt n1 label;have hsSC:(aH 0 (aI 32) ⟨#[]⟩).toArray.size=(aH n1 root label).toArray.size:=by rw[size_toArray,size_toArray,ou hrt,ou rfl]
 have hzZ:(prog.info? 123).map (fun i=>i.zero)=some (some (.agg (aH 0 (aI 32) ⟨#[]⟩).toArray)):=by obtain⟨i,h1,h2,_⟩:=info_parts BJ;rw[h1,Option.map_some,h2]
 have hsZ:(prog.info? 123).map (fun i=>i.size)=some (aH 0 (aI 32) ⟨#[]⟩).toArray.size:=o8 rfl 0 ⟨#[]⟩;have hnZ:(aH 0 (aI 32) ⟨#[]⟩).toArray.size≠0:=by rw[size_toArray,ou rfl];decide
 have UB:(aH n1 root label).toArray.all (·.oneCell')=true:=GN n1 root label;have cTx:Hid (∀w,Zc 168 #[.agg (aH n1 root label).toArray] w fun e w'=>e=.returned (.string (bZ n1 root label))/\Below w.heap.size w w'):=fun w=>Jt n1 root label hrt hn1s (by omega) w;have htxs:(bZ n1 root label).size<=56:=by
  unfold bZ;rw[ByteArray.size_append,ByteArray.size_append,aZ,hrt];show 4+32+label.size<=56;omega
 have cW:Hid (∀w,Zc 167 #[iZ s1.pos s1.num s1.crc,.int .u8 (4:Nat),.string (bZ n1 root label)] w fun e w'=>e=.returned (.tuple #[.string (mq 4 s1.num s1.crc (bZ n1 root label)),iZ (s1.pos+(11+(bZ n1 root label).size+63) / 64) (s1.num+1) (gB 4 s1.num s1.crc (bZ n1 root label))])/\Below w.heap.size w w'):=fun w=>Gg s1.pos s1.num s1.crc 4 _ (by omega) (by omega) (by have:=hfit.num;omega) hfit.crc (by have:=hfit.pos;omega) w;have hTS:iZ s1.pos s1.num s1.crc=.agg (mg s1.pos s1.num s1.crc).toArray:=rfl;have hiTS:(prog.info? 117).map (·.size)=some (mg s1.pos s1.num s1.crc).length:=by show _=some 3;kernel_rfl
 rw[hTS] at cW;unfold iZ at cW;have Rf:(mq 4 s1.num s1.crc (bZ n1 root label)).size=64*((11+(bZ n1 root label).size+63) / 64):=by rw[oJ];omega
 obtain⟨tx,Htx⟩:∃tx,Hid (bZ n1 root label=tx):=⟨_,rfl⟩;rw[Htx.out] at cW cTx Nb htxs Rf;obtain⟨dt,Hdt⟩:∃dt,Hid (mq 4 s1.num s1.crc tx=dt):=⟨_,rfl⟩;obtain⟨cr,Hcr⟩:∃cr,Hid (gB 4 s1.num s1.crc tx=cr):=⟨_,rfl⟩;obtain⟨k2,hk2⟩:∃k2,k2=(11+tx.size+63) / 64:=⟨_,rfl⟩;rw[<-hk2] at cW Nb Rf;obtain⟨ps,Hps⟩:∃ps,Hid (s1.pos+k2=ps):=⟨_,rfl⟩;obtain⟨nu,Hnu⟩:∃nu,Hid (s1.num+1=nu):=⟨_,rfl⟩;rw[Hdt.out] at cW Nb Rf;rw[Hcr.out,Hps.out,Hnu.out] at cW Nb;obtain⟨SC,HSC⟩:∃SC,Hid (aH n1 root label=SC):=⟨_,rfl⟩;rw[HSC.out] at hbd Xj YF hsSC UB cTx;generalize(aH 0 (aI 32) ⟨#[]⟩).toArray=Z0 at *;generalize hCRe:bytes (af root)=CR at *;generalize hTSe:mg s1.pos s1.num s1.crc=TS at *;have HTSe:Hid _:=hTSe;have hfw:Hid _:=Rf;have hk2':Hid _:=hk2;clear hCRe hTSe hTS Rf hk2 cD5 cDir cN hDef hRef ah;go_upto_region 7 with(first
  | (go_at_call 166;refine Calls.mono cD.out ?_;rintro e w6 ⟨rfl,hd6⟩)
  | (refine aJ rfl 121 _ _ rfl w6.heap.size _ CR.toArray rfl rfl rfl QX hzCR hoCR ?_))
 obtain⟨p6,hdr6,e6q,e6t,e6a,YG,Rn⟩:=hd6;have b6:Below w.heap.size w w6:=⟨Rn.os.trans b5.os,Rn.tape.trans b5.tape,Rn.output.trans b5.output,Nat.le_trans b5.size Rn.size,fun k hk=>(Rn.block k (Nat.lt_of_lt_of_le hk b5.size) (fun hm=>by have:=Q8 k hm;omega)).trans (b5.block k hk)⟩;have Xk:∀b∈p6.blocks,w.heap.size<=b:=fun b hb=>by
  rcases YG b hb with h1|h1
  ·exact Q8 b h1
  ·have:=b5.size;omega
 have r7:=ai.new w6 121 CR;have b7:Below w.heap.size w (w6.alloc (.cells CR.toArray 121)):=b6.alloc b6.size _;have hdr7:=hdr6.below ((Zr).alloc (Zn) (.cells CR.toArray 121));rw[<-e6q];clear e6q e6t e6a;generalize w6.alloc (.cells CR.toArray 121)=V7 at r7 b7 hdr7⊢;have hB7:w.heap.size<=w6.heap.size:=b6.size;generalize w6.heap.size=B7 at *;have l7:B7<V7.heap.size:=r7.lt;have g7:V7.rangeAt B7 0 CR:=fun i v hv=>by rw[Nat.zero_add];exact(r7.cell i).trans hv
 have Xl:=HA.out _ b7;have lq7:p.q<V7.heap.size:=Xl.row.lt;have c6:V7.cell? (Za p.q 6)=some (.slice p.ao n p.co):=by rw[Hn.out];exact Xl.rest 0 _ rfl
 have UC:Hid _:=hdr7;clear Rn YG hdr6 hd5 hdr5 c05 gM gT Xl hdr7 r7
 try go_frame
 go_cut [8] from 36 to 46 (fun s wx=>∃B8,s=(Zp B8)/\V7.heap.size<=B8/\ai wx B8 123 SC/\Below V7.heap.size V7 wx)
 case first=>
  refine bF ?_;refine wp_region_held_drew (S:=fun w'=>Below V7.heap.size V7 w') (by kernel_rfl) (Zr).drew (fun ah=>?_);refine Zt 0 (Zp p.q) ?_;refine Zt 1 (Zp p.q) ?_;refine Zt 2 (.pointer (some (Za p.q 6))) ?_;refine wpAnyH_take (i:=3) (oi:=⟨some 39,.load 115 (.tmp 38),_,_,_,none⟩) (v:=.slice p.ao n p.co) rfl (by kernel_rfl) (by kernel_rfl) (by kernel_rfl) (fun _ _ _ h=>h) (Or.inl ⟨by rfl,by intro w hSw;have h1:=(World.cell?_of_block (hSw.block _ lq7)).trans c6;go_simp⟩) ah ?_;simp only[Act.put,lA,lZ,lS];refine Zt 4 (Zi n) ?_;refine Zt 5 (.int .i64 ((n:Int)+1)) ?_ (hy:=Or.inl ⟨by rfl,by intro w hSw;go_simp;rw[IntKind.wrap_i64];omega⟩);refine Zt 6 (.int .u32 (n1:Nat)) ?_;refine Zt 7 (.agg (CR).toArray) ?_ (hy:=yieldsIf_load_mid (by rfl) _ _ rfl (B7) (0) rfl CR _ (fun w h=>aU g7 l7 h) underlying121 rfl jR);refine Zt 8 (.string label) ?_;refine Zw [9,11] ?_;refine Zb (fun K hK=>?_) ?_
  ·go_simp;go_at_call 158;refine Calls.mono (xK label _ (by omega)) ?_;rintro e w7 ⟨rfl,Vi⟩;refine hK.out _ _ (ah.trans (Vi.mono ah.size)) (fun ah=>?_);clear hK K;(try simp only[Act.put,lA,lZ,lS]);refine Zt 10 (.agg SC.toArray) ?_ (hy:=Or.inl ⟨by rfl,by intro w hSw;exact zW (x:=.tmp 42) (y:=.tmp 43) (z:=.tmp 45) (u:=.int .u32 (n1:Nat)) (v:=.agg CR.toArray) (s:=.string label) (by rfl) (by rfl) (by rfl) (by rfl) (hbd.out w)⟩);refine Zw [11] ?_;have hH7:=ah;refine Ze fun K hK=>?_;refine aD rfl (v:=(Zp w7.heap.size)) (w':=w7.alloc (.cells Z0 123)) (Cw rfl hzZ hsZ hnZ) ?_;refine hK.out _ _ (ah.alloc ah.size _) (fun ah=>?_);clear hK K;(try simp only[Act.put,lA,lZ,lS]);refine Zh 12 fun K hK=>?_;refine step_skip rfl (w':=(w7.alloc (.cells Z0 123)).setRow w7.heap.size SC.toArray) (jL (x:=.tmp 8) (y:=.tmp 46) rfl rfl rfl (heap_alloc_new w7 _) Xj hsSC UB) ?_;refine hK.out _ _ (ah.setRow _ hH7.size) (fun ah=>?_);clear hK K
   try simp only[Act.put]
   refine Zx ?_;simp only[At];go_wp2_with fail;go_meet;exact⟨_,rfl,hH7.size,⟨setRow_heap _ _ _ _ _ _ (heap_alloc_new w7 _)⟩,ah⟩
  refine Ze fun K hK=>?_;refine aD rfl (v:=(Zp V7.drew.heap.size)) (w':=V7.drew.alloc (.cells Z0 123)) (Cw rfl hzZ hsZ hnZ) ?_;refine hK.out _ _ (ah.alloc ah.size _) (fun ah=>?_);clear hK K;(try simp only[Act.put,lA,lZ,lS]);refine Zh 9 fun K hK=>?_;go_simp;go_at_call 158;refine Calls.mono (xK label _ (by omega)) ?_;rintro e w7 ⟨rfl,Vi⟩;refine hK.out _ _ (ah.trans (Vi.mono ah.size)) (fun ah=>?_);clear hK K;(try simp only[Act.put,lA,lZ,lS]);refine Zt 10 (.agg SC.toArray) ?_ (hy:=Or.inl ⟨by rfl,by intro w hSw;exact zW (x:=.tmp 42) (y:=.tmp 43) (z:=.tmp 45) (u:=.int .u32 (n1:Nat)) (v:=.agg CR.toArray) (s:=.string label) (by rfl) (by rfl) (by rfl) (by rfl) (hbd.out w)⟩);have hg8:w7.heap[V7.drew.heap.size]? =some (.cells Z0 123):=(Vi.block _ (by simp)).trans (heap_alloc_new V7.drew _);refine Zh 12 fun K hK=>?_;refine step_skip rfl (w':=(w7).setRow V7.drew.heap.size SC.toArray) (jL (x:=.tmp 8) (y:=.tmp 46) rfl rfl rfl hg8 Xj hsSC UB) ?_;refine hK.out _ _ (ah.setRow _ (Zn)) (fun ah=>?_);clear hK K
  try simp only[Act.put]
  refine Zx ?_;simp only[At];go_wp2_with fail;go_meet;exact⟨_,rfl,Zn,⟨setRow_heap _ _ _ _ _ _ hg8⟩,ah⟩
 obtain⟨B8,rfl,hV7,r8,b8⟩:=hcut;have hB8:w.heap.size<=B8:=Nat.le_trans b7.size hV7;generalize wc=V8 at *;have l8:B8<V8.heap.size:=r8.lt;have g8:V8.rangeAt B8 0 SC:=fun i v hv=>by rw[Nat.zero_add];exact(r8.cell i).trans hv
 have hdr8:=UC.out.below b8;have lp8:p6.q<V8.heap.size:=hdr8.row.lt;have gTS:V8.rangeAt p6.q 10 TS:=fun j v hv=>by
  have:=hdr8.tailAt (2+j) v (by rw[show 2+j=j+1+1 by omega,getElem?_cons_succ,getElem?_cons_succ];rw[<-HTSe.out] at hv;exact hv);rw[show 8+(2+j)=10+j by omega] at this;exact this
 have YH:Hid _:=r8;have hq8:B8∉p6.blocks:=fun hm=>by
  have:=UC.out.lt B8 hm;omega
 clear r8 hdr8;go_upto_region 8 with fail
 have hiTC:(prog.info? 117).map (·.size)=some #[Zi ps,.int .u32 (nu:Nat),.int .u32 (cr:Nat)].size:=by show _=some 3;kernel_rfl
 have hoTC: #[Zi ps,.int .u32 (nu:Nat),.int .u32 (cr:Nat)].all (·.oneCell')=true:=by simp[Value.oneCell']
 try go_frame
 go_cut [9,10] from 47 to 56 (fun s t wx=>s=.string dt/\∃B10,t=(Zp B10)/\V8.heap.size<=B10/\ai wx B10 117 [Zi ps,.int .u32 (nu:Nat),.int .u32 (cr:Nat)]/\Below V8.heap.size V8 wx)
 case first=>
  refine bF ?_;refine wp_region_held_drew (S:=fun w'=>Below V8.heap.size V8 w') (by kernel_rfl) (Zr).drew (fun ah=>?_);refine Zt 0 (Zp p6.q) ?_;refine Zt 1 (Zp p6.q) ?_;refine Zt 2 (.pointer (some (Za p6.q 10))) ?_;refine Zt 3 (.agg (TS).toArray) ?_ (hy:=yieldsIf_load_mid (by rfl) _ _ rfl (p6.q) (10) rfl TS _ (fun w h=>aU gTS lp8 h) underlying117 rfl hiTS);refine Zt 4 (.agg (SC).toArray) ?_ (hy:=yieldsIf_load_mid (by rfl) _ _ rfl (B8) (0) rfl SC _ (fun w h=>aU g8 l8 h) underlying123 rfl YF);refine Zw [5,10] ?_;refine Zb (fun K hK=>?_) ?_
  ·go_simp;go_at_call 168;refine Calls.mono (cTx.out _) ?_;rintro e w8a ⟨rfl,UD⟩;refine hK.out _ _ (ah.trans (UD.mono ah.size)) (fun ah=>?_);clear hK K;(try simp only[Act.put,lA,lZ,lS]);refine Zw [6,10] ?_;refine Zb (fun K hK=>?_) ?_
   ·go_simp;go_at_call 167;refine Calls.mono (cW.out _) ?_;rintro e w8 ⟨rfl,hb8⟩;refine hK.out _ _ (ah.trans (hb8.mono ah.size)) (fun ah=>?_);clear hK K;(try simp only[Act.put,lA,lZ,lS]);refine Zt 7 (.tuple #[.string dt,.agg #[Zi ps,.int .u32 (nu:Nat),.int .u32 (cr:Nat)]]) ?_;refine Zt 8 (.string dt) ?_;refine Zt 9 (.agg #[Zi ps,.int .u32 (nu:Nat),.int .u32 (cr:Nat)]) ?_;refine Zh 10 fun K hK=>?_;have hH8:=ah;refine aD rfl (v:=(Zp w8.heap.size)) (w':=w8.alloc (.cells #[.int .i64 0,.int .u32 0,.int .u32 0] 117)) (by go_simp) ?_;refine hK.out _ _ (ah.alloc ah.size _) (fun ah=>?_);clear hK K;(try simp only[Act.put,lA,lZ,lS]);refine Zt 11 (.string dt) ?_;refine Zh 12 fun K hK=>?_;refine step_skip rfl (w':=(w8.alloc (.cells #[.int .i64 0,.int .u32 0,.int .u32 0] 117)).setRow w8.heap.size #[Zi ps,.int .u32 (nu:Nat),.int .u32 (cr:Nat)]) (jL (x:=.tmp 10) (y:=.tmp 56) rfl rfl rfl (heap_alloc_new w8 _) hiTC rfl hoTC) ?_;refine hK.out _ _ (ah.setRow _ hH8.size) (fun ah=>?_);clear hK K
    try simp only[Act.put]
    refine Zx ?_;simp only[At];go_wp2_with fail;go_meet;exact⟨rfl,_,rfl,hH8.size,⟨setRow_heap _ _ _ _ _ _ (heap_alloc_new w8 _)⟩,ah⟩
   refine Ze fun K hK=>?_;have hH8:=ah;refine aD rfl (v:=(Zp w8a.heap.size)) (w':=w8a.alloc (.cells #[.int .i64 0,.int .u32 0,.int .u32 0] 117)) (by go_simp) ?_;refine hK.out _ _ (ah.alloc ah.size _) (fun ah=>?_);clear hK K;(try simp only[Act.put,lA,lZ,lS]);refine Zh 6 fun K hK=>?_;go_simp;go_at_call 167;refine Calls.mono (cW.out _) ?_;rintro e w8 ⟨rfl,hb8⟩;refine hK.out _ _ (ah.trans (hb8.mono ah.size)) (fun ah=>?_);clear hK K;(try simp only[Act.put,lA,lZ,lS]);refine Zt 7 (.tuple #[.string dt,.agg #[Zi ps,.int .u32 (nu:Nat),.int .u32 (cr:Nat)]]) ?_;refine Zt 8 (.string dt) ?_;refine Zt 9 (.agg #[Zi ps,.int .u32 (nu:Nat),.int .u32 (cr:Nat)]) ?_;refine Zt 11 (.string dt) ?_;have Qc:w8.heap[w8a.heap.size]? =some (.cells #[.int .i64 0,.int .u32 0,.int .u32 0] 117):=(hb8.block _ (by simp)).trans (heap_alloc_new w8a _);refine Zh 12 fun K hK=>?_;refine step_skip rfl (w':=(w8).setRow w8a.heap.size #[Zi ps,.int .u32 (nu:Nat),.int .u32 (cr:Nat)]) (jL (x:=.tmp 10) (y:=.tmp 56) rfl rfl rfl Qc hiTC rfl hoTC) ?_;refine hK.out _ _ (ah.setRow _ hH8.size) (fun ah=>?_);clear hK K
   try simp only[Act.put]
   refine Zx ?_;simp only[At];go_wp2_with fail;go_meet;exact⟨rfl,_,rfl,hH8.size,⟨setRow_heap _ _ _ _ _ _ Qc⟩,ah⟩
  refine Ze fun K hK=>?_;have hH8:=ah;refine aD rfl (v:=(Zp V8.drew.heap.size)) (w':=V8.drew.alloc (.cells #[.int .i64 0,.int .u32 0,.int .u32 0] 117)) (by go_simp) ?_;refine hK.out _ _ (ah.alloc ah.size _) (fun ah=>?_);clear hK K;(try simp only[Act.put,lA,lZ,lS]);refine Zh 5 fun K hK=>?_;go_simp;go_at_call 168;refine Calls.mono (cTx.out _) ?_;rintro e w8a ⟨rfl,UD⟩;refine hK.out _ _ (ah.trans (UD.mono ah.size)) (fun ah=>?_);clear hK K;(try simp only[Act.put,lA,lZ,lS]);refine Zh 6 fun K hK=>?_;go_simp;go_at_call 167;refine Calls.mono (cW.out _) ?_;rintro e w8 ⟨rfl,hb8⟩;refine hK.out _ _ (ah.trans (hb8.mono ah.size)) (fun ah=>?_);clear hK K;(try simp only[Act.put,lA,lZ,lS]);refine Zt 7 (.tuple #[.string dt,.agg #[Zi ps,.int .u32 (nu:Nat),.int .u32 (cr:Nat)]]) ?_;refine Zt 8 (.string dt) ?_;refine Zt 9 (.agg #[Zi ps,.int .u32 (nu:Nat),.int .u32 (cr:Nat)]) ?_;refine Zt 11 (.string dt) ?_;have Qc:w8.heap[V8.drew.heap.size]? =some (.cells #[.int .i64 0,.int .u32 0,.int .u32 0] 117):=((hb8.block _ (by show V8.heap.size<w8a.heap.size;have:=UD.size;simp at this;omega)).trans (UD.block _ (by simp))).trans (heap_alloc_new V8.drew _);refine Zh 12 fun K hK=>?_;refine step_skip rfl (w':=(w8).setRow V8.drew.heap.size #[Zi ps,.int .u32 (nu:Nat),.int .u32 (cr:Nat)]) (jL (x:=.tmp 10) (y:=.tmp 56) rfl rfl rfl Qc hiTC rfl hoTC) ?_;refine hK.out _ _ (ah.setRow _ (Zn)) (fun ah=>?_);clear hK K
  try simp only[Act.put]
  refine Zx ?_;simp only[At];go_wp2_with fail;go_meet;exact⟨rfl,_,rfl,(Zn),⟨setRow_heap _ _ _ _ _ _ Qc⟩,ah⟩
 obtain⟨rfl,B10,rfl,Mq,r10,b9⟩:=hcut;generalize wc=V9 at *;have l10:B10<V9.heap.size:=r10.lt;have c10t:V9.cell? (Za B10 0)=some (Zi ps):=r10.cell 0;have hB8V:V7.heap.size<=V8.heap.size:=b8.size;have abb:B8<B10:=Nat.lt_of_lt_of_le l8 Mq;have bV9:Below w.heap.size w V9:=(b7.trans (b8.mono b7.size)).trans (b9.mono (Nat.le_trans b7.size hB8V));have hA9:=HA.out _ bV9;have lq9:p.q<V9.heap.size:=hA9.row.lt;have c1:V9.cell? (Za p.q 1)=some (Zp p.d.p):=hA9.row.cell 1;have Xm:Hid (∀w1,Below V9.heap.size V9 w1->Zc 62 #[Zp p.d.p] w1 fun e w'=>e=.returned (Zi A.S.safe.length)/\w1=w'):=fun w1 hb=>fK (hA9.below hb).dev hf.ok;have HA9:Hid _:=hA9;have HDr9:Hid _:=(UC.out.below b8).below b9;have HR8':Hid _:=YH.out.below b9 l8;have HR10:Hid _:=r10;have l89:B8<V9.heap.size:=Nat.lt_of_lt_of_le l8 b9.size;have h8x:∀g∈p6.blocks,g<B8:=fun g hg=>by have:=UC.out.lt g hg;omega
 clear hA9 r10 g8 gTS lp8 YH UC hq8 c6 g7;go_upto_region 9 with fail
 refine bF ?_;refine wp_region_held_drew (S:=fun w'=>Below V9.heap.size V9 w') (by kernel_rfl) (Zr).drew (fun ah=>?_);refine Zt 0 (Zp B10) ?_;refine wpAnyH_take (i:=1) (oi:=⟨some 58,.load 3 (.tmp 57),_,_,_,none⟩) (v:=(Zi ps)) rfl (by kernel_rfl) (by kernel_rfl) (by kernel_rfl) (fun _ _ _ h=>h) (Or.inl ⟨by rfl,by intro w hSw;have h1:=(World.cell?_of_block (hSw.block _ l10)).trans c10t;go_simp⟩) ah ?_;simp only[Act.put,lA,lZ,lS];refine Zt 2 (Zp p.q) ?_;refine Zt 3 (Zp p.q) ?_;refine Zt 4 (.pointer (some (Za p.q 1))) ?_;refine wpAnyH_take (i:=5) (oi:=⟨some 62,.load 30 (.tmp 61),_,_,_,none⟩) (v:=(Zp p.d.p)) rfl (by kernel_rfl) (by kernel_rfl) (by kernel_rfl) (fun _ _ _ h=>h) (Or.inl ⟨by rfl,by intro w hSw;have h1:=(World.cell?_of_block (hSw.block _ lq9)).trans c1;go_simp⟩) ah ?_;simp only[Act.put,lA,lZ,lS];refine Zh 6 fun K hK=>?_;go_simp;go_at_call 62;refine Calls.mono (Xm.out _ ah) ?_;rintro e w9 ⟨rfl,rfl⟩;refine hK.out _ _ (ah) (fun ah=>?_);clear hK K;(try simp only[Act.put,lA,lZ,lS]);refine Zt 7 (.bool (decide ((ps:Int)>(A.S.safe.length:Int)))) ?_;refine Zx ?_;simp only[At];clear ah;have bX:Below w.heap.size w V9.drew:=bV9.drew;have HAX:Hid (eP V9.drew p A):=HA9.out.below (Zr).drew;have YI:Hid (jK V9.drew p6 A.H s1):=HDr9.out.below (Zr).drew;have HR8X:Hid (ai V9.drew B8 123 SC):=HR8'.out.drew;have YJ:Hid (ai V9.drew B10 117 [Zi ps,.int .u32 (nu:Nat),.int .u32 (cr:Nat)]):=HR10.out.drew;have l8X:B8<V9.drew.heap.size:=l89;have l10X:B10<V9.drew.heap.size:=l10;clear HA9 HDr9 HR8' HR10 l89 l10 Xm c1 lq9 c10t bV9 b9 b8 l8 l7 lq7;generalize V9.drew=X at *;by_cases hfull:A.S.safe.length<ps
 ·have j1:(ps:Int)>(A.S.safe.length:Int):=by omega
  have g11:=(Lu.out.fr (Fr.of_below bX []) (by simp)).err 11 (by omega);have hRR:Hid (R=((0,12),A)):=Nb.out.trans (if_pos hfull);have HD:Hid (∀w',Below X.heap.size X w'->jd w w' p A):=fun w' hb=>.same (HA.out _ (Zr)) (bX.trans (hb.mono bX.size));clear Nb;simp only[j1,decide_true];go_wp2;go_region
  all_goals
   go_wp2;go_ret2;exact⟨by rw[hRR.out];rfl,by rw[hRR.out];exact HD.out _ (Zr).drew⟩
 ·have j1:¬(ps:Int)>(A.S.safe.length:Int):=by omega
  have hpe:=Hps.out;have Ro:Hid _:=Nb.out.trans (if_neg hfull);have YK:=WR.out X p6 dt (s1.pos-A.pos) k2 bX YI.out Xk hal.data hfw.out (by have:=hal.pos;omega) (by omega);obtain⟨K,HK⟩:∃K,Hid (kG A.S A.pos s1.data s1.pos dt=K):=⟨_,rfl⟩;rw[HK.out] at YK Ro;have how:∀b∈(Value.slice p6.ao 0 0).ownBlock.toList,b∈p6.blocks:=fun b hb=>by simp only[iQ.blocks,mem_append];exact .inr hb
  have KQ:Hid (∀w',yC X w' p.d K.1 (Value.slice p6.ao 0 0).ownBlock.toList->∃d',eP w' {p with d:=d'} {A with S:=K.1}/\d'.p=p.d.p/\(∀b∈d'.blocks,b∈p.d.blocks\/X.heap.size<=b)/\Fr X w' (p.d.blocks++(Value.slice p6.ao 0 0).ownBlock.toList)):=fun w' hm=>HAX.out.kept hm (fun b hb=>⟨fun h1=>by have:=Eh.out b h1;have:=Xk b (how b hb);omega,fun h1=>by have:=Rl.out b h1;have:=Xk b (how b hb);omega⟩);generalize Vj:(Value.slice p6.ao 0 0).ownBlock.toList=OW at *;obtain⟨S2,c2⟩:=K;simp only at YK Ro KQ;clear WR Nb HK;by_cases hc:c2=0
  ·subst hc;have hR:=Ro.out.trans (if_neg (by simp));rw[jI] at YK;have cK:Hid _:=YK;clear YK;simp only[j1,decide_false];go_upto_region 15 with(go_at_call 169;refine Calls.mono cK.out ?_;rintro e NP ⟨rfl,UF⟩)
   obtain⟨d',Xn,e3,hs11,Xo⟩:=KQ.out NP UF;have hnD:∀b∈p6.blocks,b∉p.d.blocks:=fun b hb hm=>by have:=Xk b hb;have:=Eh.out b (aS.d_in hm);omega
   have hnq:p6.q∉p.d.blocks++OW:=fun hm=>by
    rcases mem_append.1 hm with h5|h5
    ·exact hnD _ (by simp[iQ.blocks]) h5
    ·rw[<-Vj] at h5;exact(YI.out.apart.2.2.2 _ (Zo.1 h5)).1 rfl
   have hna:∀b∈p6.am,b∉p.d.blocks++OW:=fun b hb hm=>by
    rcases mem_append.1 hm with h5|h5
    ·exact hnD _ (by simp[iQ.blocks,hb]) h5
    ·rw[<-Vj] at h5;exact(YI.out.apart.2.2.2 _ (Zo.1 h5)).2.2 hb
   have UG:=Xo.row YI.out.row hnq;have hobD:=YI.out.added.fr Xo hna;have htl:p6.tm.length=4:=YI.out.there.len;have hal4:p6.am.length=4:=YI.out.added.len;have gAM:NP.drew.rangeAt p6.q 4 (aG p6.am):=fun j v hv=>by
    have hj:j<(aG p6.am).length:=(List.getElem?_eq_some_iff.1 hv).1;rw[UG.drew.cell (4+j)];unfold iQ.cells;rw[append_assoc,getElem?_append_right (by simp[aG,htl]),show 4+j-(aG p6.tm).length=j by simp[aG,htl],getElem?_append_left hj];exact hv
   have Px:=Xn.below (Zr).drew;have gM11:NP.drew.rangeAt p.q 2 M:=by rw[<-Yn];exact Px.maps
   have aa6:∀b∈p6.am,w.heap.size<=b:=fun b hb=>Xk b (by simp[iQ.blocks,hb]);have Py:∀b∈p.ms,b<w.heap.size:=fun b hb=>Eh.out b (aS.ms_in hb);have YL:=Rm (w:=NP.drew) Px.objs (hobD.fr ((Fr.refl NP []).drew) (by simp)) (fun b hb hm=>by have:=aa6 b hb;have:=Py b hm;omega) hal.new (by have:=hf.h;have:=hfit.a;show A.H.length+s1.A.length<=100000;omega);have cAdd:Hid (Zc 170 #[.agg M.toArray,.agg (aG p6.am).toArray] NP.drew fun e w'=>e=.returned (.tuple #[])/\fF w' p.ms (A.H++s1.A)/\Fr NP.drew w' p.ms):=by rw[<-Yn];exact YL
   have hiAM:(prog.info? 114).map (·.size)=some (aG p6.am).length:=by simp only[aG,length_map,hal4];kernel_rfl
   have abd:w.heap.size<=NP.heap.size:=Nat.le_trans bX.size Xo.size;have lp11:p6.q<NP.drew.heap.size:=UG.lt;have lq11:p.q<NP.drew.heap.size:=Xn.row.lt;have hq6q:w.heap.size<=p6.q:=Xk _ (by simp[iQ.blocks]);have nq6:p6.q∉p.ms:=fun hm=>by have:=Py _ hm;omega
   have nqm:p.q∉p.ms:=Xn.nq.1;have f11:Hid (Fr w NP.drew p.mine):=((Fr.of_below bX p.mine).trans Xo (fun x hx hl=>by
    rcases mem_append.1 hx with h5|h5
    ·exact aS.d_in h5
    ·rw[<-Vj] at h5;have:=Xk x (by simp only[iQ.blocks,mem_append];exact .inr h5);omega)).drew
   have n8:B8∉p.d.blocks++OW:=fun hm=>by
    rcases mem_append.1 hm with h5|h5
    ·have:=Eh.out _ (aS.d_in h5);omega
    ·rw[<-Vj] at h5;have:=h8x B8 (by simp only[iQ.blocks,mem_append];exact .inr h5);omega
   have n10:B10∉p.d.blocks++OW:=fun hm=>by
    rcases mem_append.1 hm with h5|h5
    ·have:=Eh.out _ (aS.d_in h5);omega
    ·rw[<-Vj] at h5;have:=h8x B10 (by simp only[iQ.blocks,mem_append];exact .inr h5);omega
   have HR8w:Hid (ai NP.drew B8 123 SC):=(Xo.row HR8X.out n8).drew;have YM:Hid (ai NP.drew B10 117 [Zi ps,.int .u32 (nu:Nat),.int .u32 (cr:Nat)]):=(Xo.row YJ.out n10).drew;have HA11:Hid _:=Px;have HS11:Hid _:=hs11;have HE3:Hid _:=e3;have hXs:w.heap.size<=X.heap.size:=bX.size;have hRR:Hid _:=hR;have hmX:Hid (∀b∈aS.mine {p with d:=d'},b∈p.mine\/w.heap.size<=b):=fun b hb=>by
    simp only[aS.mine,aS.own,cons_append,mem_cons,mem_append] at hb⊢;rcases hb with e|(e|e)|e
    ·exact .inl (.inl e)
    ·exact .inl (.inr (.inl (.inl e)))
    ·exact .inl (.inr (.inl (.inr e)))
    ·rcases HS11.out b e with h5|h5
     ·exact .inl (.inr (.inr h5))
     ·exact .inr (Nat.le_trans hXs h5)
   clear UG hobD Xn Px hs11 e3 UF Xo cK KQ Ro hR HR8X YJ YI HAX YL hna hnq n8 n10 bX l8X l10X;generalize hAMe:aG p6.am=AM at *;generalize p6.q=pq6 at *;clear hAMe;refine bF ?_;refine wp_region_held_drew (S:=fun w'=>w'.rangeAt p.q 2 M/\w'.rangeAt pq6 4 AM) (by kernel_rfl) ⟨gM11,gAM⟩ (fun ah=>?_);refine Zt 0 (Zp p.q) ?_;refine Zt 1 (Zp p.q) ?_;refine Zt 2 (.pointer (some (Za p.q 2))) ?_;refine Zt 3 (.agg (M).toArray) ?_ (hy:=yieldsIf_load_mid (by rfl) _ _ rfl (p.q) (2) rfl M _ (fun w h=>h.1) underlying114 rfl hiM);refine Zt 4 (Zp pq6) ?_;refine Zt 5 (Zp pq6) ?_;refine Zt 6 (.pointer (some (Za pq6 4))) ?_;refine Zt 7 (.agg (AM).toArray) ?_ (hy:=yieldsIf_load_mid (by rfl) _ _ rfl (pq6) (4) rfl AM _ (fun w h=>h.2) underlying114 rfl hiAM);refine Zh 8 fun K hK=>?_;go_simp;go_at_call 170;refine Calls.mono cAdd.out ?_;rintro e w15 ⟨rfl,ho15,NQ⟩;refine hK.out _ _ (⟨iC gM11 lq11 NQ nqm,iC gAM lp11 NQ nq6⟩) (fun ah=>?_);clear hK K;(try simp only[Act.put,lA,lZ,lS]);refine Zx ?_;simp only[At];have YN:=HA11.out.objsTo ho15 NQ;have HR8v:Hid (ai w15.drew B8 123 SC):=(NQ.row HR8w.out (fun hm=>by have:=Py _ hm;omega)).drew;have aaJ:Hid (ai w15.drew B10 117 [Zi ps,.int .u32 (nu:Nat),.int .u32 (cr:Nat)]):=(NQ.row YM.out (fun hm=>by have:=Py _ hm;omega)).drew;have f15:Hid (Fr w w15.drew p.mine):=(f11.out.trans NQ (fun x hx _=>aS.ms_in hx)).drew;have Rp:Hid _:=YN.below (Zr).drew;clear YN ho15 NQ ah HA11 cAdd gM11 gAM f11 HR8w YM lq11 lp11;generalize hV15:w15.drew=V at *;have HV15:Hid (w15.drew=V):=hV15;clear hV15;have Ud:V.cell? (Za p.q 6)=some (.slice p.ao n p.co):=by rw[Hn.out];exact Rp.out.rest 0 _ rfl
   have lqV:p.q<V.heap.size:=Rp.out.row.lt;have hVs:w.heap.size<=V.heap.size:=f15.out.size;obtain⟨xs,hxs⟩:∃xs,xs=bG A.I:=⟨_,rfl⟩;have HOV:Hid (V.ownsRow 0 123 34 (.slice p.ao n p.co) n xs):=by rw[hxs,Hn.out];exact Rp.out.snaps
   have Qo:some p.q≠(Value.slice p.ao n p.co).ownBlock:=fun e=>by
    rw[bO p.ao _ _ 0 0] at e;exact Rp.out.nq.2.1 (Zo.2 e.symm)
   have hfz6:=Rp.out.row.frozen 6;obtain⟨i0,hi0,hz0,hz1,hz2⟩:=info_parts BJ;have qy:SC.length=1*34:=by rw[<-HSC.out];exact ou hrt _ _
   have hld:(Instr.loadAt 123 (Zp B8)).run prog V=.ok (.agg SC.toArray) V:=run_loadAt_mid V B8 0 _ SC _ (fun k v hv=>by rw[Nat.zero_add];exact(HR8v.out.cell k).trans hv) underlying123 rfl Xj;have hbs:Hid _:=fun w'=>bH (P:=prog) w' 115 123 underlying115 SC i0 _ hi0 hz0 (by rw[hz1,qy]) (by omega) (by omega);have hSC1:∀u∈SC,u.oneCell'=true:=fun u hu=>by rw[all_toArray,all_eq_true] at UB;exact UB u hu
   have HD:Hid (∀(g cap:Nat) (w4:World),w4.ownsRow 0 123 34 (.slice (Zs g) (n+1) cap) (n+1) (xs++SC)->(V.alloc (.cells SC.toArray 123)).grownBy w4 (Value.slice p.ao n p.co).ownBlock->((Value.slice p.ao n p.co).ownBlock=some g\/g=(V.alloc (.cells SC.toArray 123)).heap.size)->∃KR,KR=w4.setCell (Za p.q 6) (.slice (Zs g) (n+1) cap)/\
     KR.cell? (Za B10 0)=some (Zi ps)/\KR.cell? (Za B10 1)=some (.int .u32 (nu:Nat))/\KR.cell? (Za B10 2)=some (.int .u32 (cr:Nat))/\
     KR.cell? (Za p.q 7)=some (Zi A.pos)/\KR.cell? (Za p.q 8)=some (.int .u32 (A.num:Nat))/\KR.cell? (Za p.q 9)=some (.int .u32 (A.crc:Nat))/\KR.frozen? (Za p.q 7)=false/\KR.frozen? (Za p.q 8)=false/\KR.frozen? (Za p.q 9)=false/\
     (((KR.setCell (Za p.q 7) (Zi ps)).setCell (Za p.q 8) (.int .u32 (nu:Nat))).setCell (Za p.q 9) (.int .u32 (cr:Nat))).cell? (Za p.q 6)=some (.slice (Zs g) (n+1) cap)/\
     jd w (((KR.setCell (Za p.q 7) (Zi ps)).setCell (Za p.q 8) (.int .u32 (nu:Nat))).setCell (Za p.q 9) (.int .u32 (cr:Nat))) p R.2):=fun g cap w4 aY aN hat=>by
    have hn:=Hn.out;have hn1:=Hn1.out;rw[hn] at aY aN hat;rw[hxs] at aY;have hsn:bG (A.I++[(root,label)])=bG A.I++SC:=by rw[LA.out,<-hn,<-hn1,HSC.out]
    have hsn2:=Rp.out.snapped (x:=(root,label)) hsn aY aN hat;obtain⟨Eo,hm16,f16⟩:=hsn2;refine⟨_,rfl,?_⟩;rw[<-hn] at Eo f16;generalize w4.setCell (Za p.q 6) (.slice (Zs g) (n+1) cap)=KR at Eo f16⊢;have r10':=f16.row aaJ.out (fun hm=>by
     rcases mem_cons.1 hm with e|e
     ·have e':B10=p.q:=e;have:=Eh.out _ aS.q_in;omega
     ·have e':B10∈p.own:=e;have:=Eh.out _ (aS.own_in e');omega)
    have hrow:=((Eo.row.set 7 (Zi ps)).set 8 (.int .u32 (nu:Nat))).set 9 (.int .u32 (cr:Nat));rw[Uz (by exact hms)] at hrow;have hfq:Fr KR (((KR.setCell (Za p.q 7) (Zi ps)).setCell (Za p.q 8) (.int .u32 (nu:Nat))).setCell (Za p.q 9) (.int .u32 (cr:Nat))) [p.q]:=(((Fr.refl _ _).setCell _ _ (.inl (by simp))).setCell _ _ (.inl (by simp))).setCell _ _ (.inl (by simp));have hA17:=Eo.rowTo hfq hrow;refine⟨r10'.cell 0,r10'.cell 1,r10'.cell 2,Eo.rest 1 _ rfl,Eo.rest 2 _ rfl,Eo.rest 3 _ rfl,Eo.row.frozen 7,Eo.row.frozen 8,Eo.row.frozen 9,?_,?_⟩
    ·have:=hA17.rest 0 _ rfl;simp only[length_append,length_singleton,<-hn] at this;exact this
    ·rw[hRR.out];refine⟨_,hA17,rfl,rfl,rfl,HE3.out,fun b hb=>?_,?_⟩
     ·rcases hm16 b hb with e|e
      ·exact hmX.out b e
      ·exact .inr (Nat.le_trans hVs e)
     ·refine(f15.out.trans f16 (fun x hx _=>?_)).trans hfq (fun x hx _=>by rw[Zm.1 hx];exact aS.q_in);rcases mem_cons.1 hx with e|e
      ·rw[e];exact aS.q_in
      ·exact aS.own_in e
   go_upto_region 16 with fail
   refine bF ?_;refine wp_region_any (by kernel_rfl) ?_;show wpAny _ _ _ _ _ _ _ w15.drew;rw[HV15.out];have hslA:(V.alloc (.cells SC.toArray 123)).cell? (Za p.q 6)=some (.slice p.ao n p.co):=by rw[World.cell?_alloc_lt _ _ _ lqV];exact Ud
   refine Zv 0 (Zp p.q) ?_;refine Zv 1 (Zp p.q) ?_;refine Zv 2 (Zp p.q) ?_;refine Zv 3 (.pointer (some (Za p.q 6))) ?_;refine wpAny_ready (rs:=[4,5]) (by kernel_rfl) (by simp) ?_;refine AllReady.cons (o:=⟨some 89,.load 115 (.tmp 88),_,_,_,none⟩) rfl (fun K hK=>?_) (AllReady.cons (o:=⟨some 90,.load 123 (.tmp 8),_,_,_,none⟩) rfl (fun K hK=>?_) AllReady.nil);refine aD rfl (v:=.slice p.ao n p.co) (w':=V) (by go_simp) ?_;refine hK _ _ ?_;clear hK K;(try simp only[Act.put,lA,lZ,lS]);refine wpAny_ready (rs:=[5]) (by kernel_rfl) (by simp) ?_;refine AllReady.cons (o:=⟨some 90,.load 123 (.tmp 8),_,_,_,none⟩) rfl (fun K hK=>?_) AllReady.nil;refine aD rfl (v:=.agg SC.toArray) (w':=V) (by refine uT (ty:=123) (x:=.tmp 8) (u:=(Zp B8)) ?_ ?_ hld<;>rfl) ?_;refine hK _ _ ?_;clear hK K;(try simp only[Act.put,lA,lZ,lS]);refine wpAny_ready (rs:=[6]) (by kernel_rfl) (by simp) ?_;refine AllReady.cons (o:=⟨some 91,.buildSlice 115 1 #[(0,.tmp 90)],_,_,_,none⟩) rfl (fun K hK=>?_) AllReady.nil;refine aD rfl (v:=.slice (Zs V.heap.size) 1 1) (w':=(V.alloc (.cells SC.toArray 123))) (by exact aL 115 (.tmp 90) (by rfl) (.agg SC.toArray) _ _ _ (by rfl) (hbs.out V)) ?_;rotate_left;refine aD rfl (v:=.agg SC.toArray) (w':=V) (by refine uT (ty:=123) (x:=.tmp 8) (u:=(Zp B8)) ?_ ?_ hld<;>rfl) ?_;refine hK _ _ ?_;clear hK K;(try simp only[Act.put,lA,lZ,lS]);refine wpAny_ready (rs:=[4,6]) (by kernel_rfl) (by simp) ?_;refine AllReady.cons (o:=⟨some 89,.load 115 (.tmp 88),_,_,_,none⟩) rfl (fun K hK=>?_) (AllReady.cons (o:=⟨some 91,.buildSlice 115 1 #[(0,.tmp 90)],_,_,_,none⟩) rfl (fun K hK=>?_) AllReady.nil);refine aD rfl (v:=.slice p.ao n p.co) (w':=V) (by go_simp) ?_;refine hK _ _ ?_;clear hK K;(try simp only[Act.put,lA,lZ,lS]);refine wpAny_ready (rs:=[6]) (by kernel_rfl) (by simp) ?_;refine AllReady.cons (o:=⟨some 91,.buildSlice 115 1 #[(0,.tmp 90)],_,_,_,none⟩) rfl (fun K hK=>?_) AllReady.nil;refine aD rfl (v:=.slice (Zs V.heap.size) 1 1) (w':=(V.alloc (.cells SC.toArray 123))) (by exact aL 115 (.tmp 90) (by rfl) (.agg SC.toArray) _ _ _ (by rfl) (hbs.out V)) ?_;rotate_left;refine aD rfl (v:=.slice (Zs V.heap.size) 1 1) (w':=(V.alloc (.cells SC.toArray 123))) (by exact aL 115 (.tmp 90) (by rfl) (.agg SC.toArray) _ _ _ (by rfl) (hbs.out V)) ?_;refine hK _ _ ?_;clear hK K;(try simp only[Act.put,lA,lZ,lS]);refine wpAny_ready (rs:=[4]) (by kernel_rfl) (by simp) ?_;refine AllReady.cons (o:=⟨some 89,.load 115 (.tmp 88),_,_,_,none⟩) rfl (fun K hK=>?_) AllReady.nil;refine aD rfl (v:=.slice p.ao n p.co) (w':=(V.alloc (.cells SC.toArray 123))) (by go_simp) ?_;rotate_left
   all_goals
    refine hK _ _ ?_;clear hK K;(try simp only[Act.put,lA,lZ,lS]);refine wpAny_ready (rs:=[7]) (by kernel_rfl) (by simp) ?_;refine AllReady.cons (o:=⟨some 92,.call {callee:=.builtin .append,args:=#[.tmp 89,.tmp 91],argTypes:=#[115,115]},_,_,_,none⟩) rfl (fun K hK=>?_) AllReady.nil;refine step_append_lies _ (by rfl) (.tmp 89) (.tmp 91) 115 (by rfl) 0 123 i0 _ 34 56 underlying115 hi0 hz0 hz1 hz2 (by rfl) (by decide) (.slice p.ao n p.co) n xs (by rfl) (World.ownsRow.alloc HOV.out _) (Za V.heap.size 0) 1 1 SC (by rfl) qy (by exact World.news_of_block (cs:=SC.toArray) (t:=123) (fr:=(0,0)) (heap_alloc_new V _)) hSC1 (by decide) (by unfold maxLen;omega) (by omega) (by omega) _ rfl ?_;intro g cap w4 aY aN hat hlt;refine hK _ _ ?_;clear hK K;(try simp only[Act.put,lA,lZ,lS]);refine Zv 8 (Zp p.q) ?_;refine Zv 9 (.pointer (some (Za p.q 6))) ?_;refine wpAny_ready (rs:=[10]) (by kernel_rfl) (by simp) ?_;refine AllReady.cons (o:=⟨none,.store 115 (.tmp 94) (.tmp 92),_,_,_,none⟩) rfl (fun K hK=>?_) AllReady.nil;have q5:w4.cell? (Za p.q 6)=some (.slice p.ao n p.co):=by rw[aN.cell_far _ (by simp;omega) Qo];rw[World.cell?_alloc_lt _ _ _ lqV];exact Ud
    have q6:w4.frozen? (Za p.q 6)=false:=(World.frozen?_of_block (aN.block _ (by simp;omega) Qo)).trans ((World.frozen?_of_block (heap_alloc_old V _ lqV)).trans hfz6);refine step_skip rfl (w':=w4.setCell (Za p.q 6) (.slice (Zs g) (n+1) cap)) (by go_simp) ?_;refine hK _ _ ?_;clear hK K
    try simp only[Act.put]
    refine wpAny_done (by kernel_rfl) ?_ _;simp only[At];obtain⟨KR,hV16,k0,k1,k2,y0,y1,y2,z0,z1,z2,k6,hfin⟩:=HD.out g cap w4 aY aN hat;have HFin:Hid _:=hfin;rw[<-hV16];clear hfin hV16 aY aN hat;go_upto_region 18 with fail
    clear k0 k1 k2 y0 y1 y2 z0 z1 z2;generalize(((KR.setCell (Za p.q 7) (Zi ps)).setCell (Za p.q 8) (.int .u32 (nu:Nat))).setCell (Za p.q 9) (.int .u32 (cr:Nat)))=V17 at *;go_wp2;go_ret2;exact⟨by rw[hRR.out];have hn1:=Hn1.out;simp[jI];omega,HFin.out⟩
  ·have hR:=Ro.out.trans (if_pos hc);obtain⟨ea,M9⟩:=zq a hc;rw[M9] at YK;have cK:Hid _:=YK;have HEA:Hid _:=M9;have HE:Hid (∀w',yC X w' p.d S2 OW->w'.cell? (Za p.q 10)=some (.bool false)/\w'.frozen? (Za p.q 10)=false/\jd w (w'.setCell (Za p.q 10) (.bool true)) p {A with S:=S2,dn:=true}):=fun w' hm=>by
    obtain⟨d',hA',e3,hs,Xo⟩:=KQ.out w' hm;refine⟨by rw[<-hd];exact hA'.rest 4 _ rfl,hA'.row.frozen 10,?_⟩;have hrow:=hA'.row.set 10 (.bool true);rw[aa5 (p:={p with d:=d'}) hms] at hrow;have hfq:Fr w' (w'.setCell (Za p.q 10) (.bool true)) [p.q]:=(Fr.refl _ _).setCell _ _ (.inl (by simp));refine⟨_,hA'.rowTo hfq hrow,rfl,rfl,rfl,e3,fun b hb=>?_,?_⟩
    ·simp only[aS.mine,aS.own,cons_append,mem_cons,mem_append] at hb⊢;rcases hb with e|(e|e)|e
     ·exact .inl (.inl e)
     ·exact .inl (.inr (.inl (.inl e)))
     ·exact .inl (.inr (.inl (.inr e)))
     ·rcases hs b e with h5|h5
      ·exact .inl (.inr (.inr h5))
      ·exact .inr (Nat.le_trans bX.size h5)
    ·refine((Fr.of_below bX p.mine).trans Xo (fun x hx hl=>?_)).trans hfq (fun x hx _=>by rw[Zm.1 hx];exact aS.q_in);rcases mem_append.1 hx with h5|h5
     ·exact aS.d_in h5
     ·have:=Xk x (how x h5);omega
   have hRR:Hid _:=hR;clear M9 YK KQ Ro hR;simp only[j1,decide_false];go_wp2_with(go_at_call 169;refine Calls.mono cK.out ?_;rintro e NP ⟨rfl,UF⟩;obtain⟨k10,z10,hfin⟩:=HE.out NP UF;have HFin:Hid _:=hfin;clear hfin UF);go_ret2;exact⟨by rw[hRR.out];show _=Ending.returned (.tuple #[.int .i64 0,dx a c2]);rw[HEA.out];rfl,by rw[hRR.out];exact HFin.out⟩
def nV(a:Nat->Addr)(c:dz)(S:Dk)(H:List Ob)(Sn:Nat->Zy->Prop)(wr:World)(fv:Value)(m:Nat):Prop:=
 (fv=.nilIface/\m=S.safe.length/\∀k s,Sn k s->hasO H k s=true->∃t,fu c S H k s=.ok t)\/
 (∃b,fv=sJ b/\yc a wr b m/\(∃k s,k<4/\hasO H k s=true/\fu c S H k s=.error m)/\∀k s,Sn k s->hasO H k s=true->∀l,fu c S H k s=.error l->m<=l)
theorem nV.less(h:nV a c S H Sn wr fv m)(hs:∀k s,Sn' k s->hasO H k s=true->Sn k s):nV a c S H Sn' wr fv m:=by
 rcases h with⟨h1,h2,h3⟩|⟨b,h1,h2,h3,h4⟩
 ·exact .inl ⟨h1,h2,fun k s hk hh=>h3 k s (hs k s hk hh) hh⟩
 ·exact .inr ⟨b,h1,h2,h3,fun k s hk hh=>h4 k s (hs k s hk hh) hh⟩
theorem nV.fr(h:nV a c S H Sn wr fv m)(f:Fr wr w' bs)(hb:∀b∈bs,∀vs,¬ai wr b 156 vs):nV a c S H Sn w' fv m:=by
 rcases h with h|⟨b,h1,h2,h3,h4⟩
 ·exact .inl h
 ·exact .inr ⟨b,h1,f.row h2 (fun hm=>hb b hm _ h2),h3,h4⟩
theorem Rq{l:Nat}(h:fu c S H k s=.error l):l=pX H k s:=by
 unfold fu at h;split at h
 ·cases h
 ·cases h;rfl
theorem nV.past(h:nV a c S H Sn wr fv m)(hf:pX H k0 s0<=S.safe.length)(hl:m<pX H k0 s0):nV a c S H (fun k s=>Sn k s\/(k=k0/\s=s0)) wr fv m:=by
 rcases h with⟨h1,h2,h3⟩|⟨b,h1,h2,h3,h4⟩
 ·omega
 ·refine .inr ⟨b,h1,h2,h3,fun k s hk hh l he=>?_⟩;rcases hk with hk|⟨rfl,rfl⟩
  ·exact h4 k s hk hh l he
  ·have:=Rq he;omega
theorem nV.good(h:nV a c S H Sn wr fv m)(ht:fu c S H k0 s0=.ok t0):nV a c S H (fun k s=>Sn k s\/(k=k0/\s=s0)) wr fv m:=by
 rcases h with⟨h1,h2,h3⟩|⟨b,h1,h2,h3,h4⟩
 ·refine .inl ⟨h1,h2,fun k s hk hh=>?_⟩;rcases hk with hk|⟨rfl,rfl⟩
  ·exact h3 k s hk hh
  ·exact⟨t0,ht⟩
 ·refine .inr ⟨b,h1,h2,h3,fun k s hk hh l he=>?_⟩;rcases hk with hk|⟨rfl,rfl⟩
  ·exact h4 k s hk hh l he
  ·rw[ht] at he;cases he
theorem KS:(Go.Lit.string x.data.toList).sameKey (.string y.data.toList)=decide (x=y):=by
 by_cases e:x=y
 ·subst e;simp[Go.Lit.sameKey]
 ·have:x.data.toList≠y.data.toList:=fun h=>e (ji (by simpa using h));have h2:¬x.data=y.data:=fun h=>this (by rw[h]);simp[Go.Lit.sameKey,e,h2]
theorem NR(h:ms.length=4)(i:Nat)(hi:i<4)(w:World):(Instr.index 114 (.agg (aG ms).toArray) (Zi i)).run prog w=.ok (.map (some (ms[i]'(by omega)))) w:=by
 have hu:prog.underlying 114=some (.array 4 112):=underlying114;have hv:prog.underlying 112=some (.map 121 290):=underlying112;obtain⟨j,hj,hj1⟩:∃j,prog.info? 112=some j/\j.size=1:=by
  have:(prog.info? 112).map (·.size)=some 1:=by kernel_rfl
  obtain⟨j,h1,h2⟩:=Option.map_eq_some_iff.1 this;exact⟨j,h1,h2⟩
 have h1:(0:Int)<=(i:Int)/\(i:Int)<((4:Nat):Int):=by omega
 have hg:(aG ms).toArray[i]? =some (.map (some (ms[i]'(by omega)))):=by simp[aG,h,hi]
 have hg':(aG ms)[i]? =some (.map (some (ms[i]'(by omega)))):=by simpa using hg
 simp[Instr.index,asIntOf,run_underlying hu,hi,part,isAgg,run_underlying hv,sizeOf,typeInfo,hj,hj1,hg']
theorem UH(hx:x.size=32)(hy:y.size=32)(h:dA x=dA y):x=y:=by
 have h1:=jW x hx;rw[h,jW y hy] at h1;have h2:=Option.some.inj h1;simp only[Go.Lit.string.injEq] at h2;exact(ji (by simpa using h2)).symm
theorem UI{a a' n':Nat}(h:qz a n=qz a' n'):a=a':=by
 unfold qz at h;simp at h;have:=h.1;omega
def Xp(a:Nat->Addr)(c:dz)(S:Dk)(H:List Ob)(e:Ending)(w':World):Prop:=∃fv m,e=.returned fv/\nV a c S H (fun k _=>k<4) w' fv m
theorem Rs(h:kD a c w q d S ms H)(hall:∀k s,hasO H k s=true->∃t,fu c S H k s=.ok t):
  Zc 106 #[Zp q] w fun e w'=>Xp a c S H e w'/\aB w' d S/\Fr w w' [d.p]:=by
 have HAll:Hid _:=hall;clear hall;have c1:=h.at_.disk;have gM:=h.at_.maps;have hml:ms.length=4:=h.at_.objs.len;have tH:=h.at_.lt;have jD:=h.ok.most;have hap:=h.at_.apart;have hiM:(prog.info? 114).map (·.size)=some (aG ms).length:=by simp only[aG,length_map,hml];kernel_rfl
 have Xm:Hid _:=fK h.at_.dev h.ok;have Nz:Hid _:=h;have GR:Hid (∀b∈d.blocks,b<w.heap.size):=h.at_.dev.lt;have HV0:Hid (nV a c S H (fun k _=>k<0) w .nilIface S.safe.length):=.inl ⟨rfl,rfl,fun k s hk=>absurd hk (by omega)⟩;have hdp:d.p<w.heap.size:=h.at_.dev.row.lt;have HLc:Hid (∀k s,pX H k s<=S.safe.length):=fun k s=>by have:=(h.fit.at_ h.ok.pos k s).1;omega
 have HNF:Hid (∀(wr:World),aB wr d S->∀vs,¬ai wr d.p 156 vs):=fun wr hd vs hr=>by
  have h1:=hd.row.heap;have h2:=hr.heap;rw[h1] at h2;simp at h2
 clear h;go_enter func106,ntmps106;go_wp2_with(first
  | (go_at_call 62;refine Calls.mono Xm.out ?_;rintro e w1 ⟨rfl,rfl⟩)
  | (refine wpList_load_mid rfl 114 _ rfl q 2 rfl (aG ms) _ gM underlying114 rfl hiM ?_))
 go_loopw [3,4,20] (fun fv av iv wr=>∃(i m:Nat),iv=(Zi i)/\i<=4/\av=(Zi m)/\Hid (nV a c S H (fun k _=>k<i) wr fv m)/\Hid (aB wr d S)/\Hid (Fr w wr [d.p])) (fun _ _ iv _=>4-(RowKit.intOf iv).toNat)
 case atStart=>exact⟨0,S.safe.length,rfl,by omega,rfl,HV0.out,Nz.out.at_.dev,Fr.refl _ _⟩
 case round=>
  obtain⟨i,m0,rfl,hi4,rfl,HV,HD,HF⟩:=hrel;by_cases hlt:i<4
  ·have j1:(i:Int)<4:=by omega
   have j0:(0:Int)<=(i:Int):=by omega
   have hRr:=Nz.out.read HD.out HF.out;obtain⟨D,od,rd⟩:=hRr.at_.objs.at_ i hlt;have hix:=NR hml i hlt wr;have hbm:ms[i]'(by omega)∈ms:=Zg _;have hbd:ms[i]'(by omega)≠d.p:=fun e=>hap.2 (e▸hbm);have hRw:w.heap.size<=wr.heap.size:=HF.out.size;generalize ms[i]'(by omega)=bs at *;have HRdO:Hid _:=rd;have hov:=od;have hbl:=od.lt;clear hRr od rd;go_wp2_with(at_range;refine wpList_range_own _ rfl _ 112 rfl 121 290 iJ underlying112 sF bs _ _ rfl hov ?_;intro w0 hrg0 hg0 hs0);have fr0:Fr wr w0 []:=(Fr.refl _ _).grown hg0 (fun k e=>by cases e);have HV0:Hid (nV a c S H (fun k s=>k<i\/(k=i/\Maps.has D (.string s.data.toList)=false)) w0 u3 m0):=by
    refine(HV.out.fr fr0 (by simp)).less (fun k s hk hh=>?_);rcases hk with h1|⟨rfl,h2⟩
    ·exact h1
    ·rw[HRdO.out.has,hh] at h2;cases h2
   have HD0:Hid _:=HD.out.fr fr0 (by simp);have HF0:Hid _:=HF.out.trans fr0 (by simp);have hR0:wr.heap.size<w0.heap.size:=by omega
   generalize hRR:wr.heap.size=R at *;clear hov hix HV HD HF fr0 hg0 hs0;go_frame;go_loopw [3,4] (fun fv av wi=>∃(left:Go.Lit->Bool) (oL m:Nat),Hid (wi.ranges prog 121 sF bs R (Maps.size D) D left oL)/\Hid (∀z,left z=true->Maps.has D z=true)/\av=.int .i64 (m:Nat)/\Hid (nV a c S H (fun k s=>k<i\/(k=i/\left (.string s.data.toList)=false)) wi fv m)/\Hid (aB wi d S)/\Hid (Fr w wi [d.p])) (fun _ _ wi=>wi.rangeLeft bs R)
   case atStart=>exact⟨_,_,m0,hrg0,fun _ h=>h,rfl,HV0.out,HD0.out,HF0.out⟩
   case round=>
    obtain⟨left,oL,m,HRg,HLf,rfl,HV,HD,HF⟩:=hrel;have hrg:=HRg.out;have hRs:w.heap.size<=R:=hRw;have HRd':Hid (kD a c wr q d S ms H):=Nz.out.read HD.out HF.out;go_wp2_with(at_next;refine wpList_next_ranges (α:={s:Zy // s.size=32}) (β:=Nat × Nat) _ rfl _ rfl 121 iJ sF (fun x=>dA x.1) (fun y=>kU y.1 y.2) (fun key _ h=>by obtain⟨s,h1,h2,_⟩:=qB h;exact⟨⟨s,h1⟩,h2⟩) (fun v _ h=>by obtain⟨a,n,h1,_⟩:=pK h;exact⟨(a,n),h1⟩) bs R _ _ _ _ rfl hrg ?_ ?_)
    ·intro hc0 hl0;have HVn:Hid (nV a c S H (fun k _=>k<i+1) wr u3 m):=HV.out.less (fun k s hk _=>by
      by_cases e:k=i
      ·exact .inr ⟨e,hl0 _⟩
      ·exact .inl (by omega))
     go_wp2;exact⟨⟨i+1,m,by push_cast;rfl,by omega,rfl,HVn.out,HD.out,HF.out⟩,by simp[RowKit.intOf];omega⟩
    ·intro x hx oa on kl yd yp w1 cnt1 hkey hlx hv hat hrg1 hltc hg1 hs1 hen;obtain⟨s0,hs0,hsv,hkl⟩:=qB hkey;have hsx:s0=x:=by
      have:dA x=dA s0:=hsv;exact(UH hx hs0 this).symm
     subst hsx;have hkl':kl=.string s0.data.toList:=hkl;have hhas:hasO H i s0=true:=by rw[<-HRdO.out.has,<-hkl];exact HLf.out _ hlx
     have hoa:oa=pX H i s0:=by
      obtain⟨a',n',e1,e2⟩:=pK hv;have e3:=J3 e1;obtain⟨o,ho⟩:=Option.isSome_iff_exists.1 hhas;have e4:=HRdO.out.get s0 o ho (.map []);have e5:=hat (.map []);rw[hkl',e4] at e5;simp only at e2;rw[e2] at e5;have e6:o.loc=a':=UI e5;unfold pX;rw[ho];simp only[Option.elim_some];omega
     have hen':(Instr.entry (Zp R)).run prog w1=.ok (.tuple #[.agg (bytes (af s0)).toArray,.agg #[Zi oa,Zi on]]) w1:=hen;have hsz:(prog.info? 121).map (·.size)=some (bytes (af s0)).toArray.size:=by rw[size_toArray,dh _ hx];kernel_rfl
     have hz32:(bytes (replicate 32 0)).toArray.size=(bytes (af s0)).toArray.size:=by rw[size_toArray,size_toArray,dh _ hx];rfl
     have om:((bytes (af s0)).toArray.all Value.oneCell')=true:=bY _;have hsO:(prog.info? 290).map (·.size)=some 2:=by kernel_rfl
     have g1f:Fr wr w1 [R]:=(Fr.refl _ _).grown hg1 (fun k e=>.inl (by cases e;simp));have HV1:Hid (nV a c S H (fun k s=>k<i\/(k=i/\left (.string s.data.toList)=false)) w1 u3 m):=HV.out.fr g1f (fun b hb vs hr=>by
      rw[Zm.1 hb] at hr;obtain⟨_,_,_,_,_,_,_,_,_,hit,_⟩:=HRg.out;rw[hr.heap] at hit;cases hit)
     have HD1:Hid (aB w1 d S):=HD.out.fr g1f (fun b hb hm=>by rw[Zm.1 hm] at hb;have:=GR.out _ hb;omega);have Uw:Hid (Fr w w1 [d.p]):=HF.out.grown hg1 (fun k e=>.inr (by cases e;omega));have HRg1:Hid (w1.ranges prog 121 sF bs R (Maps.size D) D (fun z=>left z && !z.sameKey kl) cnt1):=hrg1;have HL1:Hid (∀z,(left z && !z.sameKey kl)=true->Maps.has D z=true):=fun z hz=>HLf.out z (by simp at hz;exact hz.1);have LA:Hid (∀(W:World) (fv:Value) (m':Nat),nV a c S H (fun k s=>(k<i\/(k=i/\left (.string s.data.toList)=false))\/(k=i/\s=s0)) W fv m'->nV a c S H (fun k s=>k<i\/(k=i/\(left (.string s.data.toList) && !(Go.Lit.string s.data.toList).sameKey kl)=false)) W fv m'):=fun W fv m' hh=>hh.less (fun k s hk _=>by
      rcases hk with h1|⟨rfl,h2⟩
      ·exact .inl (.inl h1)
      ·rw[hkl',KS] at h2;by_cases e:s=s0
       ·exact .inr ⟨rfl,e⟩
       ·simp[e] at h2;exact .inl (.inr ⟨rfl,h2⟩))
     have cT:Hid (∀W,Fr w1 W []->Zc 180 #[Zp q,.int .u8 (i:Nat),.agg (bytes (af s0)).toArray] W fun e w2=>mX a (fu c S H i s0) W.heap.size e w2/\aB w2 d S/\Fr W w2 [d.p]):=fun W f=>yg (Nz.out.read (HD1.out.fr f (by simp)) (Uw.out.trans f (by simp))) i hlt s0 hx;have YO:Hid (m<oa->∀W fv,nV a c S H (fun k s=>k<i\/(k=i/\left (.string s.data.toList)=false)) W fv m->nV a c S H (fun k s=>(k<i\/(k=i/\left (.string s.data.toList)=false))\/(k=i/\s=s0)) W fv m):=fun hl W fv hv=>hv.past (HLc.out i s0) (by omega);have YP:Hid (∀t,fu c S H i s0=.ok t->∀W fv,nV a c S H (fun k s=>k<i\/(k=i/\left (.string s.data.toList)=false)) W fv m->nV a c S H (fun k s=>(k<i\/(k=i/\left (.string s.data.toList)=false))\/(k=i/\s=s0)) W fv m):=fun t ht W fv hv=>hv.good ht;have AB:Hid (∃t,fu c S H i s0=.ok t):=HAll.out i s0 hhas;have hRg2:Hid (∀W,Fr w1 W [d.p]->W.ranges prog 121 sF bs R (Maps.size D) D (fun z=>left z && !z.sameKey kl) cnt1):=fun W f=>HRg1.out.kept (show w1.grownBy W (some d.p) from⟨f.os,f.tape,f.output,f.size,fun k hk hn=>f.block k hk (by simp;exact fun e=>hn (by rw[e]))⟩) (fun e=>hbd (Option.some.inj e)) (fun e=>by have:=Option.some.inj e;omega);have hMs:Hid (∀W,Fr w1 W [d.p]->W.rangeLeft bs R<wr.rangeLeft bs R):=fun W f=>by
      rw[(hRg2.out W f).left_eq,HRg.out.left_eq];exact hltc
     have hwrap:IntKind.u8.wrap (i:Int)=(i:Int):=by rw[IntKind.wrap_u8];omega
     clear hkey hv hen hat hrg hrg1 hg1 hs1 hoa hsv hkl hkl' hhas hs0 hx;simp only[dA,kU];generalize bytes (af s0)=CK at *;by_cases hgt:m<oa
     ·have hgt':(oa:Int)>(m:Int):=by omega
      go_wp2_with(first
       | (refine wpList_store_row rfl 121 _ _ rfl w1.heap.size _ rfl rfl _ _ (yD w1 _ _) hsz hz32 om ?_;obtain⟨r4,r5,f2⟩:=Cv w1 _ [.int .i64 0,.int .i64 0] CK _ _;generalize World.setRow _ w1.heap.size CK.toArray=W2 at r4 r5 f2⊢;have k50:=r5.cell 0;have k51:=r5.cell 1;have z50:=r5.frozen 0;have z51:=r5.frozen 1)
       | (refine wpList_load_row rfl 121 _ rfl w1.heap.size rfl _ _ _ _ ((r4.other (a:=(Za (w1.heap.size+1) 0)) _ (by show w1.heap.size≠w1.heap.size+1;omega)).other (a:=(Za (w1.heap.size+1) 1)) _ (by show w1.heap.size≠w1.heap.size+1;omega)).heap underlying121 rfl hsz ?_))
      have f3:Fr w1 ((W2.setCell (Za (w1.heap.size+1) 0) (Zi oa)).setCell (Za (w1.heap.size+1) 1) (Zi on)) []:=(f2.setCell (Za (w1.heap.size+1) 0) _ (.inr (by show w1.heap.size<=w1.heap.size+1;omega))).setCell (Za (w1.heap.size+1) 1) _ (.inr (by show w1.heap.size<=w1.heap.size+1;omega));have f4:=f3.wider (cs:=[d.p]) (by simp);exact⟨⟨_,cnt1,m,hRg2.out _ f4,HL1.out,rfl,LA.out _ _ _ (YO.out hgt _ _ (HV1.out.fr f3 (by simp))),HD1.out.fr f3 (by simp),Uw.out.trans f3 (by simp)⟩,hMs.out _ f4⟩
     ·have hgt':¬(oa:Int)>(m:Int):=by omega
      cases hY:fu c S H i s0 with
      | ok t=>
       have hgd:=YP.out t hY;have cT2:=cT;rw[hY] at cT2;have HG2:Hid _:=hgd;clear hgd hY cT YP YO;go_wp2_with(first
        | (refine wpList_store_row rfl 121 _ _ rfl w1.heap.size _ rfl rfl _ _ (yD w1 _ _) hsz hz32 om ?_;obtain⟨r4,r5,f2⟩:=Cv w1 _ [.int .i64 0,.int .i64 0] CK _ _;generalize World.setRow _ w1.heap.size CK.toArray=W2 at r4 r5 f2⊢;have k50:=r5.cell 0;have k51:=r5.cell 1;have z50:=r5.frozen 0;have z51:=r5.frozen 1)
        | (refine wpList_load_row rfl 121 _ rfl w1.heap.size rfl _ _ _ _ ((r4.other (a:=(Za (w1.heap.size+1) 0)) _ (by show w1.heap.size≠w1.heap.size+1;omega)).other (a:=(Za (w1.heap.size+1) 1)) _ (by show w1.heap.size≠w1.heap.size+1;omega)).heap underlying121 rfl hsz ?_)
        | (go_at_call 180;refine Calls.mono (cT2.out _ ((f2.setCell (Za (w1.heap.size+1) 0) _ (.inr (by show w1.heap.size<=w1.heap.size+1;omega))).setCell (Za (w1.heap.size+1) 1) _ (.inr (by show w1.heap.size<=w1.heap.size+1;omega)))) ?_;rintro e w5 ⟨rfl,hd5,qR⟩))
       have f3:Fr w1 ((W2.setCell (Za (w1.heap.size+1) 0) (Zi oa)).setCell (Za (w1.heap.size+1) 1) (Zi on)) []:=(f2.setCell (Za (w1.heap.size+1) 0) _ (.inr (by show w1.heap.size<=w1.heap.size+1;omega))).setCell (Za (w1.heap.size+1) 1) _ (.inr (by show w1.heap.size<=w1.heap.size+1;omega));have f4:Fr w1 w5 [d.p]:=(f3.wider (cs:=[d.p]) (by simp)).trans qR (fun x hx _=>hx);exact⟨⟨_,cnt1,m,hRg2.out _ f4,HL1.out,rfl,LA.out _ _ _ (HG2.out _ _ (HV1.out.fr f4 (fun b hb=>by rw[Zm.1 hb];exact HNF.out _ HD1.out))),hd5,Uw.out.trans f4 (fun x hx _=>hx)⟩,hMs.out _ f4⟩
      | error l=>
       obtain⟨t,et⟩:=AB.out;rw[et] at hY;cases hY
  ·have hi4':i=4:=by omega
   subst hi4';have j1:¬(((4:Nat):Int)<4):=by decide
   go_wp2;go_ret;exact⟨⟨_,m0,rfl,HV.out⟩,HD.out,HF.out⟩
def zw(n:Nat)(x:Zy × Zy):List Value:=[Zi n,.string x.2,.string x.1]
def eu(I:List (Zy × Zy)):List Value:=I.zipIdx.flatMap fun x=>zw (x.2+1) x.1
theorem tu(I:List (Zy × Zy))(x:Zy × Zy):eu (I++[x])=eu I++zw (I.length+1) x:=by
 unfold eu;rw[zipIdx_append];simp
theorem UJ:(prog.info? 62).map (fun i=>(i.zero,i.size,i.bytes))=some (some (.agg #[.int .i64 0,.string ByteArray.empty,.string ByteArray.empty]),3,40):=by kernel_rfl
theorem zY(hI:∀x∈I,x.1.size=32)(h:w.rangeAt g 0 (bG I))(j:Nat)(hj:j<I.length):w.rangeAt g (j*34) (aH (j+1) I[j].1 I[j].2):=by
 have:=iB (fun x:(Zy × Zy) × Nat=>aH (x.2+1) x.1.1 x.1.2) 34 (l:=I.zipIdx) (fun y hy=>ou (hI y.1 (by have:=mem_zipIdx' hy;simp[this.2])) _ _) h j (by rw[length_zipIdx];exact hj);simpa using this
theorem yE(h:eP w p A)(hI:∀x∈A.I,x.1.size=32)(hl:A.I.length<=5000):
  Zc 35 #[Zp p.q] w fun e w'=>∃v,e=.returned v/\w'.ownsRow w.heap.size 62 3 v A.I.length (eu A.I)/\Below w.heap.size w w':=by
 have c6:w.cell? (Za p.q 6)=some (.slice p.ao A.I.length p.co):=h.rest 0 _ rfl;have HS:Hid _:=h.snaps;have HI:Hid _:=hI;obtain⟨i0,hi0,hz0,hz1,hz2⟩:=info_parts UJ;have Hlt:Hid (∀g,(Value.slice p.ao A.I.length p.co).ownBlock=some g->g<w.heap.size):=fun g hg=>(World.ownsRow.lt h.snaps g hg).2;clear h;generalize hII:A.I=I at *;generalize p.ao=sao at *;generalize p.co=sco at *;have hiS:Hid (∀x∈I,∀n,(prog.info? 123).map (·.size)=some (aH n x.1 x.2).length):=fun x hx n=>o8 (hI x hx) n x.2;clear hII hI;go_enter func35,ntmps35;go_wp2;go_loopw [3,11] (fun ov iv wr=>∃(j:Nat) (ao:Option Addr) (co:Nat),ov=.slice ao j co/\iv=.int .i64 j/\j<=I.length/\wr.ownsRow w.heap.size 62 3 (.slice ao j co) j (eu (I.take j))/\Below w.heap.size w wr) (fun _ iv _=>I.length-(intOf iv).toNat)
 case atStart=>exact⟨0,none,0,rfl,rfl,Nat.zero_le _,World.ownsRow_nil _ _ _ _,Zr⟩
 case round=>
  obtain⟨j,ao,co,rfl,rfl,hjl,ho,hbr⟩:=hrel;by_cases hlt:j<I.length
  ·have j1:(j:Int)<(I.length:Int):=by omega
   have j0:(0:Int)<=(j:Int):=by omega
   obtain⟨gs,hgs,_,hgl,hrg⟩:=dH HS.out (by omega);subst hgs;have Mw:wr.rangeAt gs (j*34) (aH (j+1) I[j].1 I[j].2):=fun k v hv=>(World.cell?_of_block (hbr.block gs hgl)).trans (zY HI.out hrg j hlt k v hv);have hx32:=HI.out I[j] (Zg hlt);have jR:=hiS.out I[j] (Zg hlt) (j+1);have om:=GN (j+1) I[j].1 I[j].2;have vv:(aH 0 (aI 32) ⟨#[]⟩).toArray.size=(aH (j+1) I[j].1 I[j].2).toArray.size:=by rw[size_toArray,size_toArray,ou hx32,ou rfl]
   have HE:Hid (eu (I.take (j+1))=eu (I.take j)++[.int .i64 ((j+1:Nat):Int),.string I[j].2,.string I[j].1]):=by
    show _=_;rw[take_succ_eq_append_getElem hlt,tu,length_take,Nat.min_eq_left (by omega)];rfl
   have HF':∀(W:World) (B5:Nat),ai W B5 123 (aH (j+1) I[j].1 I[j].2)->W.cell? (Za B5 0)=some (.int .u32 ((j+1:Nat):Int))/\W.cell? (Za B5 33)=some (.string I[j].2)/\(convert 124 9 (.slice (some (Za B5 1)) 32 32)).run prog W=.ok (.string I[j].1) W:=fun W B5 hr=>by
    refine⟨hr.cell 0,(hr.cell 33).trans (Js hx32),?_⟩;have h1:ai W B5 123 ([.int .u32 ((j+1:Nat):Int)]++(bytes (af I[j].1)++[.string I[j].2])):=hr;have:=lQ W B5 32 _ _ _ _ h1 (qd I[j].1) 1 32 rfl (by rw[aM,hx32]);rw[lg] at this;exact this
   have r5:=ai.new wr 123 (aH (j+1) I[j].1 I[j].2);have HF:Hid (∀W,ai W wr.heap.size 123 (aH (j+1) I[j].1 I[j].2)->_):=fun W hW=>HF' W _ hW;clear HF';have hb5:Below wr.heap.size wr (wr.alloc (.cells (aH (j+1) I[j].1 I[j].2).toArray 123)):=(Zr).alloc (Zn) _;have hsz0:w.heap.size<=wr.heap.size:=hbr.size;have hao:∀g,(Value.slice ao j co).ownBlock=some g->w.heap.size<=g/\g<wr.heap.size:=fun g hg=>World.ownsRow.lt ho g hg;have HO':=fB ho hb5;have JY:j+1<=5000:=by omega
   generalize I[j].1=root at *;generalize I[j].2=label at *;obtain⟨num,hnm⟩:∃num,num=j+1:=⟨_,rfl⟩;rw[<-hnm] at Mw jR om vv HF r5 hb5 HO' JY;have HE2:Hid (eu (I.take (j+1))=eu (I.take j)++[Zi num,.string label,.string root]):=by rw[hnm];exact HE.out
   have hwr:IntKind.i64.wrap (num:Int)=(num:Int):=by rw[IntKind.wrap_i64];omega
   clear HE hnm;generalize aH num root label=C at *;generalize eu (I.take j)=xs at *;have Rj:Hid _:=hbr;have hbs:Hid (∀W:World,(Instr.buildSlice 59 1 #[(0,.agg #[Zi num,.string label,.string root])]).run prog W=.ok (.slice (Zs W.heap.size) 1 1) (W.alloc (.cells #[Zi num,.string label,.string root] 62))):=fun W=>bH (P:=prog) W 59 62 underlying59 [Zi num,.string label,.string root] i0 _ hi0 hz0 hz1 (by simp) (by simp);clear ho hbr;go_upto_region 5 with(first
    | (refine wpList_load_mid rfl 123 _ rfl gs (j*34) rfl C _ Mw underlying123 rfl jR ?_)
    | (refine aJ rfl 123 _ _ rfl wr.heap.size _ C.toArray rfl rfl rfl jR vv om ?_))
   generalize(wr.alloc (.cells C.toArray 123))=W at *;have HO:Hid _:=HO';clear HO';have hbA1:Below W.drew.heap.size W.drew (W.drew.alloc (.cells #[Zi num,.string label,.string root] 62)):=(Zr).alloc (Zn) _;have l5:=r5.lt;have HR4:Hid (∀w4:World,(W.drew.alloc (.cells #[Zi num,.string label,.string root] 62)).grownBy w4 (Value.slice ao j co).ownBlock->ai w4 wr.heap.size 123 C):=fun w4 hg=>⟨by
    rw[hg.block _ (by simp;omega) (fun e=>by have:=(hao _ e.symm).2;omega)];exact(r5.drew.below hbA1 r5.drew.lt).heap⟩
   generalize Ya:wr.heap.size=B5 at *;refine bF ?_;refine wp_region_held_drew (S:=fun w'=>w'.cell? (Za B5 0)=some (.int .u32 (num:Nat))/\w'.cell? (Za B5 33)=some (.string label)/\(convert 124 9 (.slice (some (Za B5 1)) 32 32)).run prog w'=.ok (.string root) w') (by kernel_rfl) (HF.out _ r5.drew) (fun ah=>?_);refine Zt 0 (.slice ao j co) ?_;refine Zt 1 (Zp B5) ?_;refine Zt 2 (.int .u32 (num:Nat)) ?_;refine Zt 3 (Zi num) ?_;refine Zt 4 (.pointer (some (Za B5 33))) ?_;refine Zt 5 (.string label) ?_;refine Zt 6 (.pointer (some (Za B5 1))) ?_;refine Zt 7 (.slice (some (Za B5 1)) 32 32) ?_;refine Zt 8 (.string root) ?_;refine Zt 9 (.agg #[Zi num,.string label,.string root]) ?_;refine Zh 10 fun K hK=>?_;refine aD rfl (v:=.slice (Zs W.drew.heap.size) 1 1) (w':=W.drew.alloc (.cells #[Zi num,.string label,.string root] 62)) (by exact aL 59 (.tmp 24) (by rfl) (.agg #[Zi num,.string label,.string root]) _ _ _ (by rfl) (hbs.out _)) ?_;refine hK.out _ _ (HF.out _ (r5.drew.below hbA1 r5.drew.lt)) (fun ah=>?_);clear hK K;(try simp only[Act.put,lA,lZ,lS]);refine Zh 11 fun K hK=>?_;refine step_append_lies _ (by rfl) (.tmp 15) (.tmp 25) 59 (by rfl) w.heap.size 62 i0 _ 3 40 underlying59 hi0 hz0 hz1 hz2 (by rfl) (by decide) (.slice ao j co) j xs (by rfl) (World.ownsRow.alloc (fB HO.out (Zr).drew) _) (Za W.drew.heap.size 0) 1 1 [Zi num,.string label,.string root] (by rfl) (by rfl) (World.news_of_block (cs:=#[Zi num,.string label,.string root]) (t:=62) (fr:=(0,0)) (heap_alloc_new W.drew _)) (by intro u hu;simp at hu;rcases hu with rfl|rfl|rfl<;>rfl) (by decide) (by unfold maxLen;omega) (by omega) (by simp;omega) _ rfl ?_;intro g cap w4 aY aN hat tJ;refine hK.out _ _ (HF.out _ (HR4.out _ aN)) (fun ah=>?_);clear hK K;(try simp only[Act.put,lA,lZ,lS]);refine Zt 12 (.slice (Zs g) (j+1) cap) ?_;refine Zx ?_;simp only[At];have hgs4:=aN.size;go_wp2;refine⟨⟨j+1,some (Za g 0),cap,rfl,by go_num,by omega,by rw[HE2.out];exact aY,?_⟩,by simp[intOf];omega⟩;have f1:Fr w w4 []:=by
    have f0:Fr w W.drew []:=(Fr.of_below (Rj.out.trans (hb5.mono (by omega))) _).drew;exact(f0.alloc _).grown aN (fun k e=>.inr (hao k e).1)
   exact⟨f1.os,f1.tape,f1.output,f1.size,fun k hk=>f1.block k hk (by simp)⟩
  ·have ej:j=I.length:=by omega
   subst ej;have kk1:¬(I.length:Int)<(I.length:Int):=by omega
   have HO:Hid _:=ho;have Rj:Hid _:=hbr;clear ho hbr;go_wp2;go_ret;refine⟨_,rfl,?_,Rj.out⟩;have:=HO.out;rw[take_length] at this;exact this
inductive KE where
 | err (n:Nat)
 | fault (loc:Nat)
def KE.At(a:Nat->Addr)(w:World)(x:KE)(v:Value):Prop:=match x with
 | .err n=>v=eF a n
 | .fault loc=>∃b,v=sJ b/\yc a w b loc
def UK(c:dz)(S:Dk)(H:List Ob):Ln->List Zy->Except KE Ln
 | x,[]=>.ok x
 | x,n::r=>if x.dir=false then .error (.err 6) else match wO c S H x.sum with
  | .error l=>.error (.fault l)
  | .ok ls=>match ls.find? (fun y=>decide (y.name=n)) with
   | none=>.error (.err 5)
   | some y=>UK c S H y r
def uJ(c:dz)(S:Dk)(H:List Ob)(I:List (Zy × Zy))(n:Int)(ns:List Zy):Except KE Ln:=
 if 1<=n/\n<=(I.length:Int) then UK c S H ⟨⟨#[]⟩,true,(I.getD (n-1).toNat (⟨#[]⟩,⟨#[]⟩)).1⟩ ns else .error (.err 5)
def aa7:List Value:=au ⟨#[]⟩ false (aI 32)
def YQ(a:Nat->Addr)(R:Except KE Ln)(e:Ending)(w':World):Prop:=match R with
 | .ok x=>e=.returned (.tuple #[.agg x.cells.toArray,.nilIface])/\x.sum.size=32
 | .error k=>∃v,e=.returned (.tuple #[.agg aa7.toArray,v])/\k.At a w' v
theorem Cx{P:Program}{ops:Array Oper}{rest:List Oper}{o:Oper}{a:Act}{Q:Exit->Act->World->Prop}(hg:o.guard=none)(t:TypeId)(x y:Operand)(ho:o.op=.build t #[(1,x),(2,y)])(u v r:Value)(hx:a.eval x=u)(hy:a.eval y=v)(hr:(Instr.build t #[(1,u),(2,v)]).run P w=.ok r w)
  (h:wpList P ops Q rest (a.put o.dst r) w):wpList P ops Q (o::rest) a w:=by
 refine wpList_plain hg fun _ hK=>?_;unfold Oper.wp execOp;simp only[ho,Sem.run_bind,map_toArray,map_cons,map_nil,hx,hy,hr];exact hK _ _ h
theorem Ep(d:Bool)(sum:Zy)(hr:sum.size=32)(w:World):(Instr.build 353 #[(1,.bool d),(2,dA sum)]).run prog w=.ok (.agg (au ⟨#[]⟩ d sum).toArray) w:=by
 unfold dA au;have hl:(af sum).length=32:=by rw[aM];exact hr
 generalize af sum=l at *;obtain⟨a0,a1,a2,a3,a4,a5,a6,a7,a8,a9,a10,a11,a12,a13,a14,a15,a16,a17,a18,a19,a20,a21,a22,a23,a24,a25,a26,a27,a28,a29,a30,a31,rfl⟩:=Ms l hl;unfold bytes;go_simp
theorem qX(name:Zy)(d:Bool)(sum:Zy):(au name d sum).toArray.all (·.oneCell')=true:=by
 unfold au;rw[all_toArray,all_cons,all_cons];have:=bY (af sum);rw[all_toArray] at this;rw[this];rfl
theorem gu(h:sum.size=32)(name:Zy)(d:Bool):(au name d sum).toArray.size=34:=by
 unfold au;rw[size_toArray,length_cons,length_cons,aF,aM,h]
theorem Cy{α:Type}{p:α->Bool}:∀(l:List α) (k:Nat) (hk:k<l.length),(∀y∈l.take k,p y=false)->p l[k]=true->l.find? p=some l[k]
 |[],k,hk,_,_=>absurd hk (by simp)
 | x::l,0,_,_,h=>by rw[find?_cons];simp only[getElem_cons_zero] at h⊢;rw[h]
 | x::l,k+1,hk,h1,h2=>by
  rw[find?_cons,h1 x (by simp)];exact Cy l k (by simpa using hk) (fun y hy=>h1 y (by simp[hy])) h2
theorem FH{l:List Ln}(h:wO c S H s=.ok l):(∀x∈l,x.sum.size=32)/\l.length<=256:=by
 unfold wO at h;split at h
 ·rename_i t _;cases h
  cases hd:vw t with
  | none=>exact⟨fun x hx=>absurd hx (not_mem_nil),Nat.zero_le _⟩
  | some l=>
   obtain⟨h1,h2⟩:=wJ hd;exact⟨fun x hx=>(h1 x hx).1,by show l.length<=256;omega⟩
 ·cases h
theorem Cz(h:kD a c w q d S ms H)(_:18<=w.heap.size)(I:List (Zy × Zy))(hI:∀x∈I,x.1.size=32)(hIl:I.length<=5000)(ao:Option Addr)(co:Nat)(c6:w.cell? (Za q 6)=some (.slice ao I.length co))(hO:w.ownsRow 0 123 34 (.slice ao I.length co) I.length (bG I))(m:Nat)(hm:m<I.length)(ns:List Zy)(gn cap:Nat)(ag:Option Addr)(hv:∀w',Fr w w' [d.p]->0<ns.length->ag=some (Za gn 0)/\ns.length<=cap/\∀j x,(bN ns)[j]? =some x->w'.cell? (Za gn j)=some x)(hl:ns.length<=100)(hok:∃r,UK c S H ⟨⟨#[]⟩,true,I[m].1⟩ ns=.ok r):
  Zc 229 #[Zp q,.int .i64 ((m:Int)+1),.slice ag ns.length cap] w fun e w'=>YQ a (UK c S H ⟨⟨#[]⟩,true,I[m].1⟩ ns) e w'/\aB w' d S/\Fr w w' [d.p]:=by
 have hz1:(au ⟨#[]⟩ false (aI 32)).toArray.all (·.oneCell')=true:=by kernel_rfl
 have hzs:(prog.info? 353).map (·.size)=some (au ⟨#[]⟩ false (aI 32)).toArray.size:=by kernel_rfl
 have hz34:(au ⟨#[]⟩ false (aI 32)).toArray.size=(au ⟨#[]⟩ false (aI 32)).toArray.size:=rfl;have tH:=h.at_.lt;have Nz:Hid _:=h;have HNs:Hid _:=hv;obtain⟨gs,rfl,_,hgl,hrg⟩:=dH hO (by omega);have hx32:I[m].1.size=32:=hI _ (Zg hm);have gR:w.rangeAt gs (m*34+1) (bytes (af I[m].1)):=fun k v hv=>by
  have hk:=(List.getElem?_eq_some_iff.1 hv).1;have:=zY hI hrg m hm (1+k) v (by rw[aH,show 1+k=k+1 by omega,getElem?_cons_succ,getElem?_append_left hk];exact hv);rw[<-Nat.add_assoc] at this;exact this
 have Nc:(prog.info? 121).map (·.size)=some (bytes (af I[m].1)).length:=by rw[dh _ hx32];kernel_rfl
 have hbn:Hid (∀W,(Instr.build 353 #[(1,.bool true),(2,.agg (bytes (af I[m].1)).toArray)]).run prog W=.ok (.agg (au ⟨#[]⟩ true I[m].1).toArray) W):=fun W=>Ep true _ hx32 W;have r6:=ai.new w 353 (au ⟨#[]⟩ false (aI 32));have b6:Below w.heap.size w (w.alloc (.cells (au ⟨#[]⟩ false (aI 32)).toArray 353)):=(Zr).alloc (Zn) _;have i1:¬(m:Int)+1<1:=by omega
 have i2:¬(I.length:Int)<(m:Int)+1:=by omega
 have i3:(m:Int)<(I.length:Int):=by omega
 have hwrp:IntKind.i64.wrap ((m:Int)+1-1)=(m:Int):=by rw[IntKind.wrap_i64];omega
 have hiN:=fM hx32 ⟨#[]⟩ true;have hsN:(au ⟨#[]⟩ false (aI 32)).toArray.size=(au ⟨#[]⟩ true I[m].1).toArray.size:=by rw[gu rfl,gu hx32]
 have hoN:=qX ⟨#[]⟩ true I[m].1;obtain⟨R,HR⟩:∃R,Hid (UK c S H ⟨⟨#[]⟩,true,I[m].1⟩ ns=R):=⟨UK c S H ⟨⟨#[]⟩,true,I[m].1⟩ ns,Eq.refl _⟩;have AB:Hid (∃r,R=.ok r):=by
  obtain⟨r,e⟩:=hok;exact⟨r,HR.out.symm.trans e⟩
 rw[HR.out];generalize hsum:I[m].1=sum at *;clear hsum hO hrg hv h;go_enter func229,ntmps229;go_upto_region 1 with fail
 have c6':(w.alloc (.cells (au ⟨#[]⟩ false (aI 32)).toArray 353)).cell? (Za q 6)=some (.slice (Zs gs) I.length co):=ay c6 (b6.block q tH);have gR':(w.alloc (.cells (au ⟨#[]⟩ false (aI 32)).toArray 353)).rangeAt gs (m*34+1) (bytes (af sum)):=aU gR hgl b6;show Code.wp _ _ _ _ (w.alloc (.cells (au ⟨#[]⟩ false (aI 32)).toArray 353));generalize(w.alloc (.cells (au ⟨#[]⟩ false (aI 32)).toArray 353))=W at *;go_step3;go_wp2_with(first
  | (refine wpList_load_mid rfl 121 _ rfl gs (m*34+1) rfl (bytes (af sum)) _ gR' underlying121 rfl Nc ?_)
  | (refine Cx rfl 353 _ _ rfl (.bool true) (.agg (bytes (af sum)).toArray) _ rfl rfl (hbn.out _) ?_)
  | (refine aJ rfl 353 _ _ rfl W.heap.size _ (au ⟨#[]⟩ true sum).toArray rfl rfl rfl hiN hsN hoN ?_)
  | go_step3)
 have r8:=ai.new W 353 (au ⟨#[]⟩ true sum);have b8:Below W.heap.size W (W.alloc (.cells (au ⟨#[]⟩ true sum).toArray 353)):=(Zr).alloc (Zn) _;have r6':=r6.below b8 r6.lt;have hWs:w.heap.size<W.heap.size:=r6.lt;have f8:Fr w (W.alloc (.cells (au ⟨#[]⟩ true sum).toArray 353)) [d.p]:=(Fr.of_below b6 _).alloc _;have HD8:Hid (aB (W.alloc (.cells (au ⟨#[]⟩ true sum).toArray 353)) d S):=Nz.out.at_.dev.fr ((Fr.of_below b6 []).alloc _) (by simp);have hdp:d.p<w.heap.size:=Nz.out.at_.dev.row.lt;have GR:Hid (∀b∈d.blocks,b<w.heap.size):=Nz.out.at_.dev.lt;clear c6' gR' hbn hiN hsN hoN c6 gR b8 b6 r6 Nc;generalize(W.alloc (.cells (au ⟨#[]⟩ true sum).toArray 353))=W8 at *;generalize hB8:W.heap.size=B8 at *;have YH:Hid _:=r8;have HR6:Hid _:=r6';have HF8:Hid _:=f8;clear r8 r6' f8;go_loopw [40] (fun iv wr=>∃(j:Nat) (x:Ln),j<=ns.length/\iv=(Zi j)/\x.sum.size=32/\Hid (UK c S H x (ns.drop j)=R)/\Hid (ai wr B8 353 x.cells)/\Hid (ai wr w.heap.size 353 (au ⟨#[]⟩ false (aI 32)))/\Hid (aB wr d S)/\Hid (Fr w wr [d.p])) (fun iv _=>ns.length-(RowKit.intOf iv).toNat)
 case atStart=>exact⟨0,⟨⟨#[]⟩,true,sum⟩,Nat.zero_le _,rfl,hx32,HR.out,YH.out,HR6.out,HD8.out,HF8.out⟩
 case round=>
  obtain⟨j,x,hj,rfl,hxs,HK,HX,HZ,HD,HF⟩:=hrel;have NE:=HZ.out;by_cases hlt:j<ns.length
  ·have i0:(0:Int)<=(j:Int):=by omega
   have i1:(j:Int)<(ns.length:Int):=by omega
   obtain⟨hag,hcap,hcell⟩:=HNs.out wr HF.out (by omega);subst hag;have hc1:wr.cell? (Za gn j)=some (.string ns[j]):=hcell j _ (by rw[jy _ _ hlt,getD_eq_getElem?_getD,getElem?_eq_getElem hlt];rfl);have hdrop:ns.drop j=ns[j]::ns.drop (j+1):=drop_eq_getElem_cons hlt;have hK:=HK.out;rw[hdrop,UK] at hK;obtain⟨k0,k1,k2⟩:=wQ HX.out;generalize ns[j]=nm at *;clear hcell hdrop;cases hxd:x.dir with
   | false=>
    rw[hxd,if_pos rfl] at hK;obtain⟨r,er⟩:=AB.out;rw[er] at hK;cases hK
   | true=>
    rw[hxd,if_neg (by decide)] at hK;rw[hxd] at k1;have Lv:=sK (Nz.out.read HD.out HF.out) x.sum hxs;unfold dA at Lv;have Na:(prog.info? 121).map (·.size)=some (bytes (af x.sum)).length:=by rw[dh _ hxs];kernel_rfl
    cases hY:wO c S H x.sum with
    | error l=>
     obtain⟨r,er⟩:=AB.out;rw[hY,er] at hK;cases hK
    | ok ls=>
     rw[hY] at hK Lv;obtain⟨hls,hll⟩:=FH hY;have cD:Hid _:=Lv;have Vt:Hid _:=hK;have HLS:Hid _:=hls;clear hK Lv hY k0 hls;generalize bytes (af x.sum)=CX at *;go_wp2_with(first
      | (refine wpList_load_mid rfl 121 _ rfl B8 2 rfl CX _ k2 underlying121 rfl Na ?_)
      | (go_at_call 224;refine Calls.mono cD.out ?_;rintro e w5 ⟨⟨al,cl,rfl,Sg⟩,hd5,qR⟩))
     have rX5:=qR.row HX.out (by simp;omega);have rZ5:=qR.row HZ.out (by simp;omega);have Pz:Fr w w5 [d.p]:=HF.out.trans qR (fun x hx _=>hx);have HX5:Hid _:=rX5;have HZ5:Hid _:=rZ5;have HD5:Hid _:=hd5;have Lx:Hid _:=Pz;have HO5:Hid _:=Sg;have hw5:wr.heap.size<=w5.heap.size:=qR.size;have hB8l:B8<w5.heap.size:=rX5.lt;have hB6l:w.heap.size<w5.heap.size:=rZ5.lt;have aaK:B8≠w.heap.size:=fun e=>by have:=hWs;omega
     clear rX5 rZ5 Pz hd5 qR cD k1 k2 Na hc1 NE Sg
     try go_frame
     go_loopw [62] (fun iv wi=>∃k:Nat,k<=ls.length/\iv=(Zi k)/\Hid (∀y∈ls.take k,y.name≠nm)/\Hid (Below w5.heap.size w5 wi)) (fun iv _=>ls.length-(RowKit.intOf iv).toNat)
     case atStart=>exact⟨0,Nat.zero_le _,rfl,(fun y hy=>by simp at hy),Zr⟩
     case round=>
      obtain⟨k,hk,rfl,HNo,Sk⟩:=hrel;have NE:=HZ5.out.below Sk.out hB6l;by_cases hkl:k<ls.length
      ·have i2:(0:Int)<=(k:Int):=by omega
       have i3:(k:Int)<(ls.length:Int):=by omega
       obtain⟨gl,rfl,_,hgl,hrl⟩:=dH HO5.out (by omega);have Rt:=iB Ln.cells 34 (fun y hy=>by have:=gu (HLS.out y hy) y.name y.dir;rw[size_toArray] at this;exact this) hrl k hkl;have Vy:wr.rangeAt gl (k*34) (au ls[k].name ls[k].dir ls[k].sum):=aU Rt hgl Sk.out;have hys:=HLS.out ls[k] (Zg hkl);have Xq:=fM hys ls[k].name ls[k].dir;have UL:(prog.info? 353).map (·.size)=some (au ls[k].name ls[k].dir ls[k].sum).length:=Xq;have hoY:=qX ls[k].name ls[k].dir ls[k].sum;have hsY:(au ⟨#[]⟩ false (aI 32)).toArray.size=(au ls[k].name ls[k].dir ls[k].sum).toArray.size:=by rw[gu rfl,gu hys]
       have YR:=ai.new wr 353 (au ls[k].name ls[k].dir ls[k].sum);have c14:(wr.alloc (.cells (au ls[k].name ls[k].dir ls[k].sum).toArray 353)).cell? (Za wr.heap.size 0)=some (.string ls[k].name):=YR.cell 0;have b14:Below wr.heap.size wr (wr.alloc (.cells (au ls[k].name ls[k].dir ls[k].sum).toArray 353)):=(Zr).alloc (Zn) _;have HY:Hid (Ln.cells ls[k]=au ls[k].name ls[k].dir ls[k].sum):=rfl;have hwr5:w5.heap.size<=wr.heap.size:=Sk.out.size;by_cases hnm:ls[k].name=nm
       ·have hfind:ls.find? (fun y=>decide (y.name=nm))=some ls[k]:=Cy ls k hkl (fun y hy=>by have:=HNo.out y hy;simpa using this) (by simpa using hnm);have HK3:Hid (UK c S H ls[k] (ns.drop (j+1))=R):=by
         have:=Vt.out;simp only[hfind] at this;exact this
        have hX14:ai (wr.alloc (.cells (au ls[k].name ls[k].dir ls[k].sum).toArray 353)) B8 353 x.cells:=(HX5.out.below Sk.out hB8l).below b14 (by omega);have hsX8:x.cells.toArray.size=(au ls[k].name ls[k].dir ls[k].sum).toArray.size:=by rw[gu hys];exact gu hxs x.name x.dir
        generalize ls[k]=y at *;generalize hCY:au y.name y.dir y.sum=CY at *;clear hCY hfind Rt;have hb:(y.name.toList==nm.toList)=true:=by rw[gP];simpa using hnm
        go_wp2_with(first
         | (refine wpList_load_mid rfl 353 _ rfl gl (k*34) rfl CY _ Vy underlying353 rfl UL ?_)
         | (refine aJ rfl 353 _ _ rfl wr.heap.size _ CY.toArray rfl rfl rfl Xq hsY hoY ?_)
         | (refine wpList_load_row rfl 353 _ rfl wr.heap.size rfl _ _ _ _ YR.heap underlying353 rfl Xq ?_)
         | (refine wpList_store_row rfl 353 _ _ rfl B8 _ rfl rfl _ _ hX14.heap Xq hsX8 hoY ?_))
        have b5:Below w5.heap.size w5 (wr.alloc (.cells CY.toArray 353)):=Sk.out.trans (b14.mono Sk.out.size);have f5:Fr w5 ((wr.alloc (.cells CY.toArray 353)).setRow B8 CY.toArray) [B8]:=uY (Fr.of_below b5 _) _ _ (.inl (by simp));refine⟨⟨j+1,y,by omega,by push_cast;rfl,hys,HK3.out,?_,?_,?_,?_⟩,by simp[RowKit.intOf];omega⟩
        ·rw[HY.out];exact hX14.setRow CY
        ·exact(HZ5.out.below b5 hB6l).otherRow _ (fun e=>aaK e.symm)
        ·exact HD5.out.fr f5 (fun b hb hm=>by rw[Zm.1 hm] at hb;have:=GR.out _ hb;omega)
        ·exact uY (Lx.out.trans (Fr.of_below b5 _) (fun x hx _=>hx)) _ _ (.inr (by omega))
       ·generalize hy:ls[k]=y at *;generalize hCY:au y.name y.dir y.sum=CY at *;clear hCY Rt;have hb:(y.name.toList==nm.toList)=false:=by rw[gP];simpa using hnm
        go_wp2_with(first
         | (refine wpList_load_mid rfl 353 _ rfl gl (k*34) rfl CY _ Vy underlying353 rfl UL ?_)
         | (refine aJ rfl 353 _ _ rfl wr.heap.size _ CY.toArray rfl rfl rfl Xq hsY hoY ?_))
        refine⟨⟨k+1,by omega,by push_cast;rfl,?_,Sk.out.trans (b14.mono Sk.out.size)⟩,by simp[RowKit.intOf];omega⟩;intro z hz;rw[take_succ_eq_append_getElem hkl,hy] at hz;rcases mem_append.1 hz with h1|h1
        ·exact HNo.out z h1
        ·rw[Zm.1 h1];exact hnm
      ·have ek:k=ls.length:=by omega
       subst ek;have i3:¬(ls.length:Int)<(ls.length:Int):=by omega
       have hfind:ls.find? (fun y=>decide (y.name=nm))=none:=find?_eq_none.2 (fun y hy=>by have:=HNo.out y (by rw[take_length];exact hy);simpa using this);have HK3:=Vt.out;obtain⟨r,er⟩:=AB.out;simp only[hfind,er] at HK3;cases HK3
  ·have ej:j=ns.length:=by omega
   have i1:¬(j:Int)<(ns.length:Int):=by omega
   subst ej;have hK:=HK.out;rw[drop_length,UK] at hK;have Vt:Hid _:=hK;clear hK;have rX:=HX.out;have Na:=fM hxs x.name x.dir;have hoX:=qX x.name x.dir x.sum;have hsX:(au ⟨#[]⟩ false (aI 32)).toArray.size=(au x.name x.dir x.sum).toArray.size:=by rw[gu rfl,gu hxs]
   have hxc:x.cells=au x.name x.dir x.sum:=rfl;rw[hxc] at rX;have HXc:Hid _:=hxc;clear hxc;generalize au x.name x.dir x.sum=CX at *;go_wp2_with(first
    | (refine wpList_load_row rfl 353 _ rfl B8 rfl _ _ _ _ rX.heap underlying353 rfl Na ?_)
    | (refine wpList_store_row rfl 353 _ _ rfl w.heap.size _ rfl rfl _ _ NE.heap Na hsX hoX ?_))
   have hrF:=NE.setRow CX;have hfs:Fr wr (wr.setRow w.heap.size CX.toArray) [w.heap.size]:=uY (Fr.refl _ _) _ _ (.inl (by simp));have hfF:Fr w (wr.setRow w.heap.size CX.toArray) [d.p]:=uY HF.out _ _ (.inr (Zn));have HDF:Hid (aB (wr.setRow w.heap.size CX.toArray) d S):=aB.fr HD.out hfs (fun b hb hm=>by rw[Zm.1 hm] at hb;have:=GR.out _ hb;omega)
   try rw[Exit.noGoto_ret]
   refine bodyPost_ret (jC results229 _ _ rfl (run_loadVar_row _ _ _ _ _ _ _ hrF.heap underlying353 rfl Na)) rfl ?_;rw[<-Vt.out];exact⟨⟨by rw[HXc.out];rfl,hxs⟩,HDF.out,hfF⟩
structure mO(a:Nat->Addr)(c:dz)(w:World)(q:Nat)(d:DP)(S:Dk)(ms:List Nat)(H:List Ob)(I:List (Zy × Zy))(ao:Option Addr)(co:Nat):Prop where
 rd:kD a c w q d S ms H
 far:18<=w.heap.size
 sums:∀x∈I,x.1.size=32
 few:I.length<=5000
 sl:w.cell? (Za q 6)=some (.slice ao I.length co)
 own:w.ownsRow 0 123 34 (.slice ao I.length co) I.length (bG I)
 nd:∀g,(Value.slice ao I.length co).ownBlock=some g->g≠d.p
theorem mO.read(h:mO a c w q d S ms H I ao co)(hd:aB w' d S)(f:Fr w w' [d.p]):mO a c w' q d S ms H I ao co:=
 ⟨h.rd.read hd f,Nat.le_trans h.far f.size,h.sums,h.few,(World.cell?_of_block (f.block q h.rd.at_.lt (by simp;exact h.rd.at_.apart.1))).trans h.sl,aT h.own f (fun g hg=>by simp;exact h.nd g hg),h.nd⟩
theorem mO.below(h:mO a c w q d S ms H I ao co)(f:Below w.heap.size w w'):mO a c w' q d S ms H I ao co:=h.read (h.rd.at_.dev.below f) (Fr.of_below f _)
def wV(w:World)(d:DP)(v:Value)(ns:List Zy):Prop:=∃(gn cap:Nat) (ag:Option Addr),v=.slice ag ns.length cap/\∀w',Fr w w' [d.p]->0<ns.length->ag=some (Za gn 0)/\ns.length<=cap/\∀j x,(bN ns)[j]? =some x->w'.cell? (Za gn j)=some x
theorem wV.of{ns:List Zy}(h:iF w v ns)(hd:aB w d S):wV w d v ns:=by
 obtain⟨ag,g,cap,rfl,hcap,hag,hc⟩:=h;refine⟨g,cap,ag,rfl,fun w' f h0=>⟨hag h0,hcap,fun j x hx=>?_⟩⟩;have h1:=hc j x hx;have hne:g≠d.p:=fun e=>by
  have h2:=hc 0 (.string ns[0]) (by rw[jy _ _ h0,getD_eq_getElem?_getD,getElem?_eq_getElem h0];rfl);rw[e,hd.row.cell 0] at h2;simp[DP.cells] at h2
 rw[World.cell?_of_block (f.block g (Zd h1) (by simp;exact hne))];exact h1
theorem zZ(h:mO a c w q d S ms H I ao co)(n:Int)(ns:List Zy)(v:Value)(hv:wV w d v ns)(hl:ns.length<=100)(hok:∃r,uJ c S H I n ns=.ok r):
  Zc 229 #[Zp q,.int .i64 n,v] w fun e w'=>YQ a (uJ c S H I n ns) e w'/\aB w' d S/\Fr w w' [d.p]:=by
 by_cases hn:1<=n/\n<=(I.length:Int)
 ·obtain⟨gn,cap,ag,rfl,hv⟩:=hv;obtain⟨m,hm⟩:∃m:Nat,n=(m:Int)+1:=⟨(n-1).toNat,by omega⟩;subst hm;have hmI:m<I.length:=by omega
  have e:uJ c S H I ((m:Int)+1) ns=UK c S H ⟨⟨#[]⟩,true,I[m].1⟩ ns:=by
   unfold uJ;rw[if_pos hn,show((m:Int)+1-1).toNat=m by omega,getD_eq_getElem?_getD,getElem?_eq_getElem hmI];rfl
  rw[e];exact Cz h.rd h.far I h.sums h.few ao co h.sl h.own m hmI ns gn cap ag hv hl (by rw[<-e];exact hok)
 ·obtain⟨r,er⟩:=hok;unfold uJ at er;rw[if_neg hn] at er;cases er
def yF(c:dz)(S:Dk)(H:List Ob)(I:List (Zy × Zy))(n:Int)(ns:List Zy):Except KE Zy:=match uJ c S H I n ns with
 | .error k=>.error k
 | .ok x=>if x.dir=true then .error (.err 6) else match uy c S H x.sum with
  | .error l=>.error (.fault l)
  | .ok t=>.ok t
def NS(a:Nat->Addr)(R:Except KE Zy)(e:Ending)(w':World):Prop:=match R with
 | .ok t=>e=.returned (.tuple #[.string t,.nilIface])
 | .error k=>∃v,e=.returned (.tuple #[.string ⟨#[]⟩,v])/\k.At a w' v
theorem KT(h:mO a c w q d S ms H I ao co)(n:Int)(ns:List Zy)(v:Value)(hv:wV w d v ns)(hl:ns.length<=100)(hok:∃r,yF c S H I n ns=.ok r):
  Zc 171 #[Zp q,.int .i64 n,v] w fun e w'=>NS a (yF c S H I n ns) e w'/\aB w' d S/\Fr w w' [d.p]:=by
 have hdp:d.p<w.heap.size:=h.rd.at_.dev.row.lt;have HK:Hid _:=h;have GR:Hid (∀b∈d.blocks,b<w.heap.size):=h.rd.at_.dev.lt;have HR:Hid (yF c S H I n ns=match uJ c S H I n ns with | .error k=>.error k | .ok x=>if x.dir=true then .error (.err 6) else match uy c S H x.sum with | .error l=>.error (.fault l) | .ok t=>.ok t):=rfl;cases hX:uJ c S H I n ns with
 | error k=>
  have hR:=HR.out;rw[hX] at hR;obtain⟨r,er⟩:=hok;rw[er] at hR;cases hR
 | ok x=>
  have M6:=zZ h n ns v hv hl ⟨x,hX⟩;rw[hX] at M6;have hR:=HR.out;rw[hX] at hR;simp only at hR;have cF:Hid (Zc 229 #[Zp q,.int .i64 n,v] w fun e w'=>(e=.returned (.tuple #[.agg (au x.name x.dir x.sum).toArray,.nilIface])/\x.sum.size=32)/\aB w' d S/\Fr w w' [d.p]):=M6;have Na:Hid (x.sum.size=32->(prog.info? 353).map (·.size)=some (au x.name x.dir x.sum).toArray.size/\(au ⟨#[]⟩ false (aI 32)).toArray.size=(au x.name x.dir x.sum).toArray.size/\(au x.name x.dir x.sum).toArray.all (·.oneCell')=true/\(prog.info? 121).map (·.size)=some (bytes (af x.sum)).length):=fun hx=>⟨fM hx _ _,by rw[gu rfl,gu hx],qX _ _ _,by rw[dh _ hx];kernel_rfl⟩;have cC:Hid (∀w1,aB w1 d S->Fr w w1 [d.p]->x.sum.size=32->Zc 239 #[Zp q,.agg (bytes (af x.sum)).toArray] w1 fun e w'=>mX a (uy c S H x.sum) w1.heap.size e w'/\aB w' d S/\Fr w1 w' [d.p]):=fun w1 h1 h2 h3=>Pm (h.rd.read h1 h2) x.sum h3;have HRW:Hid (∀W:World,ai (W.alloc (.cells (au x.name x.dir x.sum).toArray 353)) W.heap.size 353 (au x.name x.dir x.sum)):=fun W=>ai.new W _ _;have HLn:Hid (∀(W:World) (b:Nat),ai W b 353 (au x.name x.dir x.sum)->W.cell? (Za b 1)=some (.bool x.dir)/\W.rangeAt b 2 (bytes (af x.sum))):=fun W b hr=>(wQ (x:=x) hr).2;clear M6 hX HR h;cases hxd:x.dir with
  | true=>
   rw[hxd,if_pos rfl] at hR;obtain⟨r,er⟩:=hok;rw[er] at hR;cases hR
  | false=>
   rw[hxd,if_neg (by decide)] at hR;rw[hxd] at cF Na HRW HLn;cases hY:uy c S H x.sum with
   | error l=>
    rw[hY] at hR;obtain⟨r,er⟩:=hok;rw[er] at hR;cases hR
   | ok t=>
    rw[hY] at hR cC;have HRR:Hid (yF c S H I n ns=.ok t):=hR;clear hR hY;generalize au x.name false x.sum=CX at *;generalize bytes (af x.sum)=CS at *;go_enter func171,ntmps171;go_wp2_with(first
     | (go_at_call 229;refine Calls.mono cF.out ?_;rintro e w1 ⟨⟨rfl,hxs⟩,hd1,hf1⟩;obtain⟨i1,i2,i3,i4⟩:=Na.out hxs;have r8:=HRW.out w1;obtain⟨k1,k2⟩:=HLn.out _ _ r8;have fa:Fr w1 (w1.alloc (.cells CX.toArray 353)) []:=(Fr.refl _ _).alloc _;have cC2:=cC.out _ (hd1.fr fa (by simp)) (hf1.trans fa (by simp)) hxs)
     | (refine aJ rfl 353 _ _ rfl w1.heap.size _ CX.toArray rfl rfl rfl i1 i2 i3 ?_)
     | (refine wpList_load_mid rfl 121 _ rfl w1.heap.size 2 rfl CS _ k2 underlying121 rfl i4 ?_)
     | (go_at_call 239;refine Calls.mono cC2 ?_;rintro e w3 ⟨rfl,hd3,hf3⟩))
    refine bodyPost_ret (results_tmp2 rfl _ _ _) rfl ?_;rw[HRR.out];exact⟨rfl,hd3,(hf1.trans fa (by simp)).trans hf3 (fun x hx _=>hx)⟩
def FI(c:dz)(S:Dk)(H:List Ob)(I:List (Zy × Zy))(n:Int)(s:Zy):Except KE Zy:=if(ax s).2=true then yF c S H I n (ax s).1 else .error (.err 4)
theorem UM(h:mO a c w q d S ms H I ao co)(n:Int)(hn:n≠0)(s:Zy)(hs:s.size<=1000000)(hok:∃r,FI c S H I n s=.ok r):
  Zc 97 #[Zp q,.int .i64 n,.string s] w fun e w'=>NS a (FI c S H I n s) e w'/\aB w' d S/\Fr w w' [d.p]:=by
 have HK:Hid _:=h;have hG:=h.rd.G;have hd0:=h.rd.at_.dev;have hn0:(n==0)=false:=by simpa using hn
 cases h0:(ax s).2 with
 | false=>
  have HR:FI c S H I n s=.error (.err 4):=if_neg (by rw[h0];decide);obtain⟨r,er⟩:=hok;rw[HR] at er;cases er
 | true=>
  have HR:Hid (FI c S H I n s=yF c S H I n (ax s).1):=if_pos h0;have hok2:∃r,yF c S H I n (ax s).1=.ok r:=by rw[<-HR.out];exact hok
  have cS:=lF hG s hs h0;have gV:=gJ s h0;clear h;have cR:Hid (∀w1 v,iF w1 v (ax s).1->Below w.heap.size w w1->Zc 171 #[Zp q,.int .i64 n,v] w1 fun e w'=>NS a (yF c S H I n (ax s).1) e w'/\aB w' d S/\Fr w1 w' [d.p]):=fun w1 v h1 hb=>KT (HK.out.below hb) n _ v (wV.of h1 (hd0.below hb)) (by omega) hok2;generalize yF c S H I n (ax s).1=R at *;cases R with
  | error k=>
   obtain⟨r,er⟩:=hok2;cases er
  | ok t=>
   go_enter func97,ntmps97;go_wp2_with(first
    | (go_at_call 159;refine cS.mono ?_;rintro e w1 ⟨v,rfl,h1,hb⟩)
    | (go_at_call 171;refine(cR.out _ _ h1 hb).mono ?_;rintro e w2 ⟨rfl,hd2,hf2⟩))
   refine bodyPost_ret (results_tmp2 rfl _ _ _) rfl ?_;rw[HR.out];exact⟨rfl,hd2,(Fr.of_below hb _).trans hf2 (fun x hx _=>hx)⟩
end
end Go.Proofs.YtdidjdoifpfmmaaGreatDoor
