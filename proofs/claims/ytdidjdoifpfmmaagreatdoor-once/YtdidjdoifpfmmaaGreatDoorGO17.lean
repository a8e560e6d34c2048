import Derived.Test.YtdidjdoifpfmmaaGreatDoorGO16
import Derived.Stop.BytesEq
import Derived.Shelf.Strings.Builder1
set_option maxRecDepth 100000
set_option maxHeartbeats 16000000
namespace Go.Proofs.YtdidjdoifpfmmaaGreatDoor
open Go.Proofs.Tryz List
variable{w w' w5 w6:World}{g blk mblk mr f qi:Zy->Nat}{l:List Ln}{bs ms ds:List Nat}{p t z:Zy}{s:Sc}{k n i num crc q b B mb M nb B1 j:Nat}{seen:List Zy}{d:DP}{S:Dk}{H:List Ob}{D:DataW Unit}{a:Nat->Addr}{L:List It}{P Q:Zy->Prop}{y:It}
section
open Go.RowKit
theorem pQ(r:Zy):af (r.extract 64 r.size)=(af r).drop 64:=by
 have h:(r.extract 64 r.size).data.toList=r.data.toList.drop 64:=by
  rw[ByteArray.data_extract,Array.toList_extract];simp;exact take_of_length_le (by simp)
 unfold af;rw[h,map_drop]
theorem wL(K:List Nat)(s:St)(r:List Nat)(n:Nat):(ofList (nN K s r n)).list=nN K s r n:=by
 unfold nN;split<;>rfl
theorem Uf(K:List Nat)(s:St)(r:List Nat)(n:Nat):(ofList (nN K s r n)).Ok:=by
 unfold nN;split<;>exact L9 _ _ _
theorem Ki(r:List Nat)(h:r.length<56):(gG r).take 56=r++[128]++replicate (55-r.length) 0:=by
 unfold gG;rw[take_append,take_of_length_le (by simp;omega),take_replicate];congr 2;simp;omega
theorem aa2(K:List Nat)(s:St)(T r:List Nat)(q:Nat)(hr:r=T.drop (64*q))(hq:64*q+r.length=T.length)(h:r.length<64):
  iO K s (pad T) (iw T.length)=ofList (nN K (iO K s T q) r T.length):=by
 have hc:iO K s (pad T) q=iO K s T q:=AX K s _ _ q fun k hk=>I5 T k (by omega);unfold nN;by_cases h56:r.length<56
 ·have hb:iw T.length=q+1:=by unfold iw;omega
  rw[if_pos h56,hb,iO,hc,FZ T r q hr hq h56,BO _ _ (wK r h),Ki r h56]
 ·have hb:iw T.length=q+1+1:=by unfold iw;omega
  obtain⟨e1,e2⟩:=F8 T r q hr hq (by omega) h;rw[if_neg h56,hb,iO,iO,hc,e1,e2,BO _ _ (by simp)];rfl
def pR(w:World)(g:Nat)(l:List Nat):Prop:=∃t fz,w.heap[g]? =some (.cells (aQ l).toArray t fz)
theorem pR.lt{g:Nat}{l:List Nat}(h:pR w g l):g<w.heap.size:=by
 obtain⟨t,fz,h⟩:=h;rcases Nat.lt_or_ge g w.heap.size with h'|h'
 ·exact h'
 ·rw[Array.getElem?_eq_none h'] at h;cases h
theorem pR.tab{g:Nat}{l:List Nat}(h:pR w g l):BM w g l:=fun j hj=>by
 obtain⟨t,fz,h⟩:=h;rw[cell_of_row w g j _ t fz h];simpa using kg l j hj
theorem Ug(K:List Nat)(hK:K.length=64)(dK:∀x∈K,x<4294967296)(s0:St)(ok0:s0.Ok)(t:Zy)(ht:t.size<=1000000)(w:World)(hR:pR w 14 K)(hS:pR w 13 s0.list):
  Zc 109 #[.string t] w fun e w'=>e=.returned (.agg (bytes (outs (iO K s0 (pad (af t)) (iw t.size)).list)).toArray)/\Below w.heap.size w w':=by
 have hg1:=hR.lt;have hg2:=hS.lt;have hT:=hR.tab;have hlT:=aM t;obtain⟨tS,fS,hS⟩:=hS;have hsz0:(prog.info? 293).map (·.size)=some (aQ s0.list).toArray.size:=by rw[size_toArray,bI];kernel_rfl
 have hz0:Hid ((8:Nat)=(aQ s0.list).toArray.size):=by show _=_;rw[size_toArray,bI];rfl
 have Yt:=oP s0.list;go_enter func109,ntmps109;refine dM ?_;go_wp2;show Code.wp _ _ _ _ (w.alloc (.cells (bytes (replicate 32 0)).toArray 121));have hA:=ai.new w 121 (bytes (replicate 32 0));have Iy:Below w.heap.size w (w.alloc (.cells (bytes (replicate 32 0)).toArray 121)):=(Zr).alloc (Zn) _;have hzA:Hid ((w.alloc (.cells (bytes (replicate 32 0)).toArray 121)).heap.size=w.heap.size+1):=by show _=_;simp
 generalize w.alloc (.cells (bytes (replicate 32 0)).toArray 121)=WA at hA Iy hzA⊢;have hSA:WA.heap[13]? =some (.cells (aQ s0.list).toArray tS fS):=by rw[Iy.block _ hg2];exact hS
 refine dM ?_;go_wp2_with(first|(refine wpList_load_row rfl 293 _ rfl 13 rfl _ _ _ _ hSA underlying293 rfl hsz0 ?_)|(refine wpList_store_row rfl 293 _ _ rfl WA.heap.size _ rfl rfl _ _ (heap_alloc_new WA _) hsz0 hz0.out Yt ?_));show Code.wp _ _ _ _ ((WA.alloc (.cells (aQ (replicate 8 0)).toArray 293)).setRow WA.heap.size (aQ s0.list).toArray);have r1:ai ((WA.alloc (.cells (aQ (replicate 8 0)).toArray 293)).setRow WA.heap.size (aQ s0.list).toArray) WA.heap.size 293 (aQ s0.list):=(ai.new WA 293 (aQ (replicate 8 0))).setRow _;have hb1:Below WA.heap.size WA ((WA.alloc (.cells (aQ (replicate 8 0)).toArray 293)).setRow WA.heap.size (aQ s0.list).toArray):=((Zr).alloc (Zn) _).setRow _ (Zn);have r0:=hA.below hb1 hA.lt;have hb2:=Iy.trans (hb1.mono Iy.size);generalize(WA.alloc (.cells (aQ (replicate 8 0)).toArray 293)).setRow WA.heap.size (aQ s0.list).toArray=W0 at r1 r0 hb2⊢;have hgs:Hid (WA.heap.size=w.heap.size+1):=hzA.out;generalize WA.heap.size=gs at r1 hgs⊢;clear hA Iy hzA hSA hS hsz0 hz0 Yt hb1;refine dM ?_;go_wp2;show Code.wp _ _ _ _ _;refine wp_seq_k ?_;intro KK Qi;have HK:Hid _:=Qi;clear Qi;refine wp_block ?_;go_loopw [4] (fun rr wr=>∃(k:Nat) (r:Zy),rr=.string r/\af r=(af t).drop (64*k)/\64*k+r.size=t.size/\ai wr gs 293 (aQ (iO K s0 (af t) k).list)/\ai wr w.heap.size 121 (bytes (replicate 32 0))/\Below w.heap.size w wr) (fun rr _=>match rr with | .string r=>r.size|_=>0)
 case atStart=>exact⟨0,t,rfl,rfl,by omega,r1,r0,hb2⟩
 case round=>
  clear r1 r0 hb2;obtain⟨k,r,rfl,htr,hkr,r1,r0,hb⟩:=hrel;have ok:=VT K s0 (af t) ok0 k;have hlr:=aM r;by_cases h64:64<=r.size
  ·have hblk:bytes ((af r).take 64)++(bytes (replicate 64 0)).drop 64=bytes (fw (af t) k):=by
    have e:(bytes (replicate 64 0)).drop 64=[]:=drop_eq_nil_of_le (by rw[aF];simp);rw[e,append_nil,htr];rfl
   have h3:=ai.new wr 189 (bytes (replicate 64 0));have hcp:=oh (P:=prog) (wr.alloc (.cells (bytes (replicate 64 0)).toArray 189)) 124 9 3 5 wr.heap.size 64 64 64 r _ _ underlying124 (by kernel_rfl) h3 (Nat.min_eq_right h64) (by rw[aF];simp);have k3:=h3.setRow (bytes ((af r).take 64)++(bytes (replicate 64 0)).drop 64);have kb:Below wr.heap.size wr ((wr.alloc (.cells (bytes (replicate 64 0)).toArray 189)).setRow wr.heap.size (bytes ((af r).take 64)++(bytes (replicate 64 0)).drop 64).toArray):=((Zr).alloc (Zn) _).setRow _ (Zn);generalize(wr.alloc (.cells (bytes (replicate 64 0)).toArray 189)).setRow wr.heap.size (bytes ((af r).take 64)++(bytes (replicate 64 0)).drop 64).toArray=W1 at hcp k3 kb;rw[hblk] at k3;have q1:=r1.below kb r1.lt;have q0:=r0.below kb r0.lt;have qb:=hb.trans (kb.mono hb.size);have lb:=I4 (af t) k (by omega);have db:=Ma (af t) k (jP t);have hm:=zm K hK dK _ ok (fw (af t) k) lb db W1 (hT.below qb hg1) (Nat.lt_of_lt_of_le hg1 qb.size);have hst:Hid ((iO K s0 (af t) (k+1)).list=Dl K (iO K s0 (af t) k) (fw (af t) k)):=rfl;have AY:(Dl K (iO K s0 (af t) k) (fw (af t) k)).length=8:=rfl;have GQ:(prog.info? 293).map (·.size)=some (aQ (iO K s0 (af t) k).list).toArray.size:=by rw[size_toArray,bI];kernel_rfl
   have Kg:(prog.info? 189).map (·.size)=some (bytes (fw (af t) k)).toArray.size:=by rw[size_toArray,aF,lb];kernel_rfl
   have hz:(aQ (iO K s0 (af t) k).list).toArray.size=8:=by rw[size_toArray,bI];rfl
   generalize Dl K (iO K s0 (af t) k) (fw (af t) k)=M at hm hst AY;generalize iO K s0 (af t) k=st at r1 q1 hm GQ hz;generalize fw (af t) k=bk at k3 hm Kg;have hsz:(prog.info? 293).map (·.size)=some (aQ M).toArray.size:=by rw[size_toArray,bI,AY];kernel_rfl
   have hz2:(aQ st.list).toArray.size=(aQ M).toArray.size:=by rw[hz,size_toArray,bI,AY]
   have hone:=oP M;have hkr2:Hid (64*(k+1)+(r.extract 64 r.size).size=t.size):=by
    show _=_;rw[<-aM (r.extract 64 r.size),pQ,length_drop];omega
   have htr2:Hid (af (r.extract 64 r.size)=(af t).drop (64*(k+1))):=by
    show _=_;rw[pQ,htr,drop_drop];congr 1
   have h64i:(64:Int)<=(r.size:Int):=by omega
   clear r1 r0 h3 htr hkr;go_upto_region 6 with fail
   show Code.wp _ _ _ _ (wr.alloc (.cells (bytes (replicate 64 0)).toArray 189));generalize wr.alloc (.cells (bytes (replicate 64 0)).toArray 189)=WB at hcp⊢;go_wp2_with(first|(at_builtin;refine p9 _ rfl _ _ 124 9 rfl _ _ rfl rfl hcp ?_)|(refine wpList_load_row rfl 293 _ rfl gs rfl _ _ _ _ q1.heap underlying293 rfl GQ ?_)|(refine wpList_load_row rfl 189 _ rfl wr.heap.size rfl _ _ _ _ k3.heap underlying189 rfl Kg ?_)|(go_at_call 183;refine hm.mono ?_;rintro e w2 ⟨rfl,hb2⟩;have i1:=q1.below hb2 q1.lt;have i0:=q0.below hb2 q0.lt;have ib:=qb.trans (hb2.mono qb.size))|(refine wpList_store_row rfl 293 _ _ rfl gs _ rfl rfl _ _ i1.heap hsz hz2 hone ?_;have m1:=i1.setRow (aQ M);have m0:=i0.otherRow (g2:=gs) (aQ M).toArray (by rw[hgs.out];omega);have mb:=ib.setRow (g:=gs) (aQ M).toArray (by rw[hgs.out];omega);generalize w2.setRow gs (aQ M).toArray=W3 at m1 m0 mb⊢));refine⟨⟨k+1,r.extract 64 r.size,rfl,htr2.out,hkr2.out,by rw[hst.out];exact m1,m0,mb⟩,?_⟩;show(r.extract 64 r.size).size<r.size;rw[<-aM (r.extract 64 r.size),pQ,length_drop];omega
  ·have h64i:¬(64:Int)<=(r.size:Int):=by omega
   have hE:Hid (∀v:Int,v=8*(t.size:Int)->Zc 185 #[.agg (aQ (iO K s0 (af t) k).list).toArray,.string r,.int .u64 v] wr fun e w'=>e=.returned (.agg (aQ (nN K (iO K s0 (af t) k) (af r) t.size)).toArray)/\Below wr.heap.size wr w'):=by
    intro v hv;rw[hv];exact QS K hK dK _ ok r (by omega) t.size ht wr (hT.below hb hg1) (Nat.lt_of_lt_of_le hg1 hb.size)
   have hEnd:Hid (iO K s0 (pad (af t)) (iw t.size)=ofList (nN K (iO K s0 (af t) k) (af r) t.size)):=by
    have h:=aa2 K s0 (af t) (af r) k htr (by omega) (by omega);rw[hlT] at h;exact h
   have hTo:Hid (∀w1,Zc 184 #[.agg (aQ (nN K (iO K s0 (af t) k) (af r) t.size)).toArray] w1 fun e w'=>e=.returned (.agg (bytes (outs (nN K (iO K s0 (af t) k) (af r) t.size))).toArray)/\Below w1.heap.size w1 w'):=by
    intro w1;have h:=SN (ofList (nN K (iO K s0 (af t) k) (af r) t.size)) (Uf _ _ _ _) w1;rw[wL] at h;exact h
   have hOut:Hid ((iO K s0 (pad (af t)) (iw t.size)).list=nN K (iO K s0 (af t) k) (af r) t.size):=by
    show _=_;rw[hEnd.out,wL]
   have GQ:(prog.info? 293).map (·.size)=some (aQ (iO K s0 (af t) k).list).toArray.size:=by rw[size_toArray,bI];kernel_rfl
   have Vu:(outs (nN K (iO K s0 (af t) k) (af r) t.size)).length=32:=by
    rw[<-wL];rfl
   clear hEnd htr;generalize nN K (iO K s0 (af t) k) (af r) t.size=E at hE hTo hOut Vu;generalize iO K s0 (af t) k=st at r1 hE GQ ok;obtain⟨O,HO⟩:∃O,Hid (outs E=O):=⟨_,rfl⟩;rw[HO.out] at Vu hTo;have Uh:(prog.info? 121).map (·.size)=some (bytes O).toArray.size:=by rw[size_toArray,aF,Vu];kernel_rfl
   have hzO:(bytes (replicate 32 0)).toArray.size=(bytes O).toArray.size:=by rw[size_toArray,size_toArray,aF,aF,Vu];simp
   have Ph:=bY O;go_wp2;refine HK.out _ _ ?_;clear HK;go_wp2_with(first|(refine wpList_load_row rfl 293 _ rfl gs rfl _ _ _ _ r1.heap underlying293 rfl GQ ?_)|(go_at_call 185;refine(hE.out _ (by omega)).mono ?_;rintro e w2 ⟨rfl,hb2⟩;have i0:=r0.below hb2 r0.lt;have ib:=hb.trans (hb2.mono hb.size))|(go_at_call 184;refine(hTo.out w2).mono ?_;rintro e w3 ⟨rfl,hb3⟩;have j0:=i0.below hb3 i0.lt;have jb:=ib.trans (hb3.mono ib.size))|(refine wpList_store_row rfl 121 _ _ rfl w.heap.size _ rfl rfl _ _ j0.heap Uh hzO Ph ?_));have hB2:Below w.heap.size w (w3.setRow w.heap.size (bytes O).toArray):=jb.setRow _ (Zn);have hg3:=setRow_heap w3 w.heap.size _ (bytes O).toArray _ _ j0.heap;refine bodyPost_ret (v:=.agg (bytes O).toArray) ?_ rfl ⟨by rw[hOut.out,HO.out],hB2⟩;exact results_cell_row (P:=prog) results109 _ _ w.heap.size _ _ _ _ rfl hg3 underlying121 rfl Uh
end
section
open Go.RowKit Go.Maps
structure dz where
 K:List Nat
 s0:St
 hK:K.length=64
 dK:∀x∈K,x<4294967296
 ok0:s0.Ok
def dz.of(c:dz)(t:Zy):Zy:=text (outs (iO c.K c.s0 (pad (af t)) (iw t.size)).list)
structure dI(c:dz)(w:World):Prop where
 rounds:pR w 14 c.K
 start:pR w 13 c.s0.list
theorem Ns(s:St):(outs s.list).length=32:=by
 cases s;rfl
theorem dz.size(c:dz)(t:Zy):(c.of t).size=32:=by
 unfold dz.of;rw[aZ,Ns]
theorem Ui(l:List Nat):∀x∈outs l,x<256:=by
 intro x hx;simp only[outs,mem_flatMap] at hx;obtain⟨y,_,hy⟩:=hx;exact uN y x hy
theorem devOf(c:dz)(t:Zy)(ht:t.size<=1000000)(h:dI c w):
  Zc 109 #[.string t] w fun e w'=>e=.returned (dA (c.of t))/\Below w.heap.size w w':=by
 have:=Ug c.K c.hK c.dK c.s0 c.ok0 t ht w h.rounds h.start;unfold dA dz.of;rw[ug _ (Ui _)];exact this
theorem dI.fr{c:dz}(h:dI c w)(f:Fr w w' bs)(hb:∀b∈bs,18<=b):dI c w':=by
 have h1:=h.rounds.lt;have h2:=h.start.lt;obtain⟨⟨t1,z1,e1⟩,⟨t2,z2,e2⟩⟩:=h;exact⟨⟨t1,z1,(f.block _ h1 (fun hm=>absurd (hb _ hm) (by decide))).trans e1⟩,⟨t2,z2,(f.block _ h2 (fun hm=>absurd (hb _ hm) (by decide))).trans e2⟩⟩
theorem dI.below{c:dz}(h:dI c w)(f:Below w.heap.size w w'):dI c w':=h.fr (Fr.of_below f []) (by simp)
def jY(c:dz)(s:Sc)(k at_:Nat)(t:Zy):Bool × Sc:=if k=4 then((fo s t).isSome,s.withI (fo s t)) else kC s k (c.of t) at_ t
def uw(w:World)(p:lH)(R:Bool × Sc)(e:Ending)(w':World):Prop:=∃p',lH.Turn w p p'/\e=.returned (.bool R.1)/\aR w' p' R.2/\Fr w w' p.blocks
theorem Uj{c:dz}(hC:dI c w){p:lH}(h:aR w p s)(hE:J4 s.E)(hEl:s.E.length<=4900)(hHl:s.H.length<=4900)(at_:Nat)(t:Zy)(ht:t.size<=1000000)(hk:k=1\/k=2\/k=3)(hok:(jY c s k at_ t).1=true):
  Zc 87 #[Zp p.q,Am at_ k t] w (uw w p (jY c s k at_ t)):=by
 have hk4:¬(k:Int)=4:=by omega
 have e:jY c s k at_ t=kC s k (c.of t) at_ t:=if_neg (by omega);rw[e] at hok⊢;have cT:Hid (∀w',aR w' p s->Zc 153 #[Zp p.q,dA (c.of t),Am at_ k t] w' fun e w2=>e=.returned (.bool (kC s k (c.of t) at_ t).1)/\aR w2 p (kC s k (c.of t) at_ t).2/\Fr w' w2 p.blocks):=fun w' hw=>J8 hw hE hEl hHl (c.of t) (c.size t) at_ t ht hk hok;clear hok e hk;generalize kC s k (c.of t) at_ t=R at *;unfold dA Am at *;have Vs:Hid (∀b∈p.blocks,b<w.heap.size):=h.lt;have hiR:(prog.info? 257).map (·.size)=some [Zi at_,.int .u8 (k:Nat),.string t].length:=by kernel_rfl
 go_enter func87,ntmps87;go_upto_region 1 with fail
 have r3:=ai.new w 257 [Zi at_,.int .u8 (k:Nat),.string t];have hbW:Below w.heap.size w (w.alloc (.cells #[Zi at_,.int .u8 (k:Nat),.string t] 257)):=(Zr).alloc (Zn) _;have cO:Hid (∀w',Below (w.alloc (.cells #[Zi at_,.int .u8 (k:Nat),.string t] 257)).heap.size (w.alloc (.cells #[Zi at_,.int .u8 (k:Nat),.string t] 257)) w'->Zc 109 #[.string t] w' fun e w2=>e=.returned (.agg (bytes (af (c.of t))).toArray)/\Below w'.heap.size w' w2):=fun w' hb=>devOf c t ht ((hC.below hbW).below hb);have Ng:=h.below hbW;generalize bytes (af (c.of t))=CK at *;have Fw:Fr w (w.alloc (.cells #[Zi at_,.int .u8 (k:Nat),.string t] 257)) p.blocks:=Fr.of_below hbW _;generalize(w.alloc (.cells #[Zi at_,.int .u8 (k:Nat),.string t] 257))=W at *;have nb3:w.heap.size∉p.blocks:=fun hm=>by have:=Vs.out _ hm;omega
 generalize hB3:w.heap.size=B3 at *;have c1:W.cell? (Za B3 1)=some (.int .u8 (k:Nat)):=r3.cell 1;have c2:W.cell? (Za B3 2)=some (.string t):=r3.cell 2;have l3:=r3.lt;have g3:W.rangeAt B3 0 [Zi at_,.int .u8 (k:Nat),.string t]:=fun i v hv=>by rw[Nat.zero_add];exact(r3.cell i).trans hv
 go_wp2;refine bF ?_;refine wp_region_held_drew (S:=fun w'=>Fr W w' p.blocks) (by kernel_rfl) (Fr.refl _ _).drew (fun ah=>?_);refine Zt 0 (Zp p.q) ?_;refine Zt 1 (.pointer (some (Za B3 2))) ?_;refine wpAnyH_take (i:=2) (oi:=⟨some 14,.load 9 (.tmp 13),_,_,_,none⟩) (v:=.string t) rfl (by kernel_rfl) (by kernel_rfl) (by kernel_rfl) (fun _ _ _ h=>h) (Or.inl ⟨by rfl,by intro w hSw;have h1:=(World.cell?_of_block (hSw.block B3 l3 nb3)).trans c2;go_simp⟩) ah ?_;simp only[Act.put,lA,lZ,lS];refine Zt 4 (.agg ([Zi at_,.int .u8 (k:Nat),.string t]).toArray) ?_ (hy:=yieldsIf_load_mid (by rfl) _ _ rfl (B3) (0) rfl [Zi at_,.int .u8 (k:Nat),.string t] _ (fun w h=>iC g3 l3 h nb3) underlying257 rfl hiR);refine Zh 3 fun K hK=>?_;go_simp;go_at_call 109;refine Calls.mono (cO.out _ (Zr).drew) ?_;rintro e w5 ⟨rfl,hb5⟩;refine hK.out _ _ (ah.trans (Fr.of_below hb5 p.blocks) (fun x hx _=>hx)) (fun ah=>?_);clear hK K;(try simp only[Act.put,lA,lZ,lS]);refine Zh 5 fun K hK=>?_;go_simp;go_at_call 153;refine Calls.mono (cT.out _ (Ng.below (Zr).drew |>.below hb5)) ?_;rintro e w6 ⟨rfl,BI,f6⟩;refine hK.out _ _ (ah.trans f6 (fun x hx _=>hx)) (fun ah=>?_);clear hK K;(try simp only[Act.put,lA,lZ,lS]);refine Zh 6 fun K hK=>?_;go_simp;refine hK.out _ _ (ah) (fun ah=>?_);clear hK K;(try simp only[Act.put,lA,lZ,lS]);refine Zx ?_;simp only[At];go_wp2;go_ret;exact⟨p,lH.Turn.refl _ _,rfl,BI.below (Zr),Fw.trans ah (fun x hx _=>hx)⟩
theorem Uk{c:dz}{p:lH}(h:aR w p s)(hI:s.I.length<=4900)(at_:Nat)(t:Zy)(_:t.size<=1000000)(hok:(jY c s 4 at_ t).1=true):
  Zc 87 #[Zp p.q,Am at_ 4 t] w (uw w p (jY c s 4 at_ t)):=by
 have cT:Hid (∀w',aR w' p s->Zc 152 #[Zp p.q,.string t] w' (xX w' p s (fo s t))):=fun w' hw=>by
  by_cases hs:Gj t=true
  ·exact BK hw hI t hs hok
  ·have:fo s t=none:=by simp[fo,hs]
   have h2:(fo s t).isSome=true:=hok;rw[this] at h2;cases h2
 have HR:Hid (jY c s 4 at_ t=((fo s t).isSome,s.withI (fo s t))):=rfl;rw[HR.out];generalize fo s t=X at *;unfold Am;go_enter func87,ntmps87;go_upto_region 1 with fail
 have r3:=ai.new w 257 [Zi at_,.int .u8 4,.string t];have hbW:Below w.heap.size w (w.alloc (.cells #[Zi at_,.int .u8 4,.string t] 257)):=(Zr).alloc (Zn) _;have Ng:=h.below hbW;have Fw:Fr w (w.alloc (.cells #[Zi at_,.int .u8 4,.string t] 257)) p.blocks:=Fr.of_below hbW _;have hsz:=hbW.size;generalize(w.alloc (.cells #[Zi at_,.int .u8 4,.string t] 257))=W at *;generalize hB3:w.heap.size=B3 at *;have c1:W.cell? (Za B3 1)=some (.int .u8 4):=r3.cell 1;have c2:W.cell? (Za B3 2)=some (.string t):=r3.cell 2;go_wp2_with(go_at_call 152;refine Calls.mono (cT.out _ Ng) ?_;rintro e w6 ⟨p',hT,rfl,BI,f6⟩);go_ret;exact⟨p',⟨hT.q,hT.em,hT.ms,fun b hb=>(hT.sub b hb).imp id (fun h=>by omega)⟩,rfl,BI,Fw.trans f6 (fun x hx _=>hx)⟩
end
section
open Go.RowKit
end
section
open Go.RowKit Go.Maps
def qO(c:dz)(seen:List Zy):Nat->Nat->Nat->Nat->Sc->(Nat × Nat × Nat) × Sc
 | 0,i,num,crc,s=>((i,num,crc),s)
 | f+1,i,num,crc,s=>match qj seen i num crc with
  | none=>((i,num,crc),s)
  | some (k,t)=>if(jY c s k i t).1=true then qO c seen f (i+fU t.size) (num+1) (gB k num crc t) (jY c s k i t).2 else((i,num,crc),(jY c s k i t).2)
def nU(c:dz)(seen:List Zy):Nat->Nat->Nat->Nat->Sc->Bool
 | 0,_,_,_,_=>false
 | f+1,i,num,crc,s=>match qj seen i num crc with
  | none=>decide (i<seen.length)&&decide (eT (seen.getD i ByteArray.empty)=0)
  | some (k,t)=>(jY c s k i t).1&&nU c seen f (i+fU t.size) (num+1) (gB k num crc t) (jY c s k i t).2
structure xZ(s:Sc)(n:Nat):Prop where
 ext:J4 s.E
 h:s.H.length<=n
 e:s.E.length<=n
 i:s.I.length<=n
theorem xZ.withH(h:xZ s n)(o:Ob):xZ (s.withH o) (n+1):=
 ⟨h.ext,Nat.le_trans (nM _ _) (by have:=h.h;show s.H.length+1<=n+1;omega),Nat.le_succ_of_le h.e,Nat.le_succ_of_le h.i⟩
theorem xZ.up(h:xZ s n):xZ s (n+1):=⟨h.ext,Nat.le_succ_of_le h.h,Nat.le_succ_of_le h.e,Nat.le_succ_of_le h.i⟩
theorem xZ.take(h:xZ s n)(c:dz)(k i:Nat)(t:Zy):xZ (jY c s k i t).2 (n+1):=by
 unfold jY;split
 ·cases fo s t with
  | none=>exact h.up
  | some x=>exact⟨h.ext,Nat.le_succ_of_le h.h,Nat.le_succ_of_le h.e,by show(s.I++[x]).length<=n+1;simp;exact h.i⟩
 ·unfold kC;split
  ·have hE:xZ (s.withE (fA s (c.of t) t).2) (n+1)/\(s.withE (fA s (c.of t) t).2).H.length<=n:=by
    refine⟨?_,h.h⟩;unfold fA;cases vw t with
    | none=>exact h.up
    | some l=>
     simp only;split
     ·split
      ·exact h.up
      ·exact⟨Uc h.ext _ _,Nat.le_succ_of_le h.h,by show(s.E++[(c.of t,sZ s.E l)]).length<=n+1;simp;exact h.e,Nat.le_succ_of_le h.i⟩
     ·exact h.up
   simp only;split
   ·refine⟨hE.1.ext,Nat.le_trans (nM _ _) (by have:=hE.2;omega),hE.1.e,hE.1.i⟩
   ·exact hE.1
  ·split
   ·simp only;split
    ·exact h.withH _
    ·exact h.up
   ·simp only;split
    ·exact h.withH _
    ·exact h.up
theorem Kj{c:dz}(hC:dI c w){p:lH}(h:aR w p s)(hs:xZ s n)(hn:n<=4900)(k:Nat)(hk1:1<=k)(hk4:k<=4)(at_:Nat)(t:Zy)(ht:t.size<=1000000)(hok:(jY c s k at_ t).1=true):
  Calls prog 87 #[.pointer (some ⟨p.q,0,none⟩),Am at_ k t] w (uw w p (jY c s k at_ t)):=by
 have h1:=hs.h;have h2:=hs.e;have h3:=hs.i;have:k=1\/k=2\/k=3\/k=4:=by omega
 rcases this with h0|h0|h0|rfl
 iterate 3 exact Uj hC h hs.ext (by omega) (by omega) at_ t ht (by omega) hok
 exact Uk h (by omega) at_ t ht hok
theorem Kk(hs:∀x∈seen,x.size=64)(h:qj seen i num crc=some (k,t)):i<seen.length/\1<=k/\k<=4/\t.size<=1000/\i+fU t.size<=seen.length:=by
 unfold qj at h;split at h
 ·rename_i hc;cases h
  have e:=nG seen i _ hc.2.2.2.2.1 hs;exact⟨hc.1,hc.2.2.1,hc.2.2.2.1,by omega,by rw[e];exact hc.2.2.2.2.1⟩
 ·cases h
def qP(seen:List Zy)(i num crc:Nat)(e:Ending):Prop:=match qj seen i num crc with
 | none=>∃(x k y n m:Nat) (t:Zy),e=.returned (.tuple #[Am x k t,iZ y n m,.bool false])
 | some (k,t)=>e=.returned (.tuple #[Am i k t,iZ (i+fU t.size) (num+1) (gB k num crc t),.bool true])
theorem Kl(h:aB w d S)(ok:S.Ok)(i num crc:Nat)(JY:num+1<4294967296)(T9:crc<4294967296)(hb:qj S.seen i num crc=none->i<S.seen.length/\eT (S.seen.getD i ByteArray.empty)=0):
  Calls prog 151 #[iZ i num crc,.pointer (some ⟨d.p,0,none⟩)] w fun e w'=>qP S.seen i num crc e/\aB w' d S/\Fr w w' [d.p]:=by
 have hl:=S.seen_length;have hz2:i<S.seen.length->(S.seen.getD i ByteArray.empty).size=64:=fun h0=>by
  rw[getD_eq_getElem?_getD,getElem?_eq_getElem h0];exact Dk.seen_size ok _ (getElem_mem _)
 cases hnx:qj S.seen i num crc with
 | none=>
  obtain⟨h0,h1⟩:=hb hnx;refine(JW h ok i num crc (by omega) _ rfl (hz2 h0) (by omega)).mono ?_;rintro e w' ⟨rfl,hd,hf⟩;refine⟨?_,hd,hf⟩;unfold qP;rw[hnx];exact⟨0,0,i,num,crc,⟨#[]⟩,rfl⟩
 | some kt=>
  have hx:=hnx;unfold qj at hx;split at hx
  ·rename_i hc;cases hx
   refine(JX h ok i num crc (by omega) _ rfl (hz2 hc.1) hc.2.1 hc.2.2.1 hc.2.2.2.1 (by omega) JY T9).mono ?_;rintro e w' ⟨rfl,hd,hf⟩;refine⟨?_,hd,hf⟩;unfold qP;rw[hnx];simp only;rw[nG S.seen i _ hc.2.2.2.2.1 (Dk.seen_size ok),decide_eq_true hc.2.2.2.2.2]
  ·cases hx
theorem Km{c:dz}:∀{f:Nat},nU c seen f i num crc s=true->qj seen i num crc=none->i<seen.length/\eT (seen.getD i ByteArray.empty)=0
 | 0,h,_=>by cases h
 | f+1,h,hn=>by
  rw[nU,hn] at h;simpa using h
theorem Nt{c:dz}(h:qj seen i num crc=none):∀f,qO c seen f i num crc s=((i,num,crc),s)
 | 0=>rfl
 | f+1=>by rw[qO,h]
def BS(w:World)(d:DP)(S:Dk)(p:lH)(R:(Nat × Nat × Nat) × Sc)(e:Ending)(w':World):Prop:=
 ∃p',lH.Turn w p p'/\e=.returned (iZ R.1.1 R.1.2.1 R.1.2.2)/\aR w' p' R.2/\aB w' d S/\Fr w w' (d.p::p.blocks)
def Kn(w:World)(b:Nat):Nat:=match w.cell? ⟨b,0,none⟩ with
 | some (.int _ n)=>n.toNat
 | _=>0
theorem Nu{c:dz}(hC:dI c w)(h:aB w d S)(hF:wY d)(ok:S.Ok)(h4:1<=S.safe.length)(_hG:18<=w.heap.size){p:lH}(WJ:aR w p ⟨[],[],[]⟩)(sI:∀b∈d.blocks,b∉p.blocks)(Sd:∀b∈p.blocks,18<=b)(hok:nU c S.seen S.safe.length 1 1 (bQ S.safe.length) ⟨[],[],[]⟩=true):
  Calls prog 86 #[.pointer (some ⟨d.p,0,none⟩),.func (.func 87) #[.pointer (some ⟨p.q,0,none⟩)] #[]] w (BS w d S p (qO c S.seen S.safe.length 1 1 (bQ S.safe.length) ⟨[],[],[]⟩)):=by
 have jD:=ok.most;have hpl:d.p<w.heap.size:=h.row.lt;have HS:Hid (∀w1,Below w.heap.size w w1->Calls prog 62 #[.pointer (some ⟨d.p,0,none⟩)] w1 fun e w'=>e=.returned (.int .i64 (S.safe.length:Nat))/\w1=w'):=fun w1 hb=>fK (h.below hb) ok;have HT:Hid (∀w1,Calls prog 150 #[.int .i64 (S.safe.length:Nat)] w1 fun e w'=>e=.returned (iZ 1 1 (bQ S.safe.length))/\Below w1.heap.size w1 w'):=fun w1=>SX S.safe.length jD w1;have hss:bQ S.safe.length<4294967296:=yO _;obtain⟨R,HR⟩:∃R,Hid (qO c S.seen S.safe.length 1 1 (bQ S.safe.length) ⟨[],[],[]⟩=R):=⟨_,rfl⟩;rw[HR.out];have HNx:Hid (∀w1 (i num crc:Nat),aB w1 d S->num+1<4294967296->crc<4294967296->(qj S.seen i num crc=none->i<S.seen.length/\eT (S.seen.getD i ByteArray.empty)=0)->Calls prog 151 #[iZ i num crc,.pointer (some ⟨d.p,0,none⟩)] w1 fun e w'=>qP S.seen i num crc e/\aB w' d S/\Fr w1 w' [d.p]):=fun w1 i num crc hd hn hc hb=>Kl hd ok i num crc hn hc hb;have HTk:Hid (∀(w1:World) (bs:List Nat) (p1:lH) (s:Sc) (n k i:Nat) (t:Zy),Fr w w1 bs->(∀b∈bs,18<=b)->p1.q=p.q->aR w1 p1 s->xZ s n->n<=4900->1<=k->k<=4->t.size<=1000->(jY c s k i t).1=true->Calls prog 87 #[.pointer (some ⟨p.q,0,none⟩),Am i k t] w1 (uw w1 p1 (jY c s k i t))):=fun w1 bs p1 s n k i t f hb hq hw hs hn hk1 hk4 ht hok=>by rw[<-hq];exact Kj (hC.fr f hb) hw hs hn k hk1 hk4 i t (by omega) hok
 have HK:Hid _:=hok;have HFd:Hid _:=hF;have HDL:Hid (∀b∈d.blocks,b<w.heap.size):=h.lt;have Vs:Hid (∀b∈p.blocks,b<w.heap.size):=WJ.lt;have HD0:Hid (∀w1,Below w.heap.size w w1->aB w1 d S):=fun w1 hb=>h.below hb;have HS0:Hid (∀w1,Below w.heap.size w w1->aR w1 p ⟨[],[],[]⟩):=fun w1 hb=>WJ.below hb;have Hdis:Hid _:=sI;have HpG:Hid _:=Sd;have HdG:Hid (18<=d.p):=hF.p;generalize hsc:bQ S.safe.length=sc at *;clear hsc;have r0:=ai.new w 117 [.int .i64 0,.int .u32 0,.int .u32 0];have b0:Below w.heap.size w (w.alloc (.cells #[.int .i64 0,.int .u32 0,.int .u32 0] 117)):=(Below.refl _ _).alloc (Nat.le_refl _) _;have hS:=HS.out _ b0;clear h WJ hC hF sI Sd hok;unfold iZ at HT;go_enter func86,ntmps86;go_wp2_with(first
  | (go_at_call 62;refine hS.mono ?_;rintro e w1 ⟨rfl,rfl⟩)
  | (go_at_call 150;refine(HT.out _).mono ?_;rintro e w2 ⟨rfl,hb2⟩))
 have b2:Below w.heap.size w w2:=b0.trans (hb2.mono b0.size);have r2:=(r0.below hb2 r0.lt).below ((Below.refl _ _).alloc (Nat.le_refl _) (.cells #[.int .i64 1,.int .u32 1,.int .u32 (sc:Nat)] 117)) (Nat.lt_of_lt_of_le r0.lt hb2.size);have r3:=ai.new w2 117 [.int .i64 1,.int .u32 1,.int .u32 (sc:Nat)];have b3:Below w.heap.size w (w2.alloc (.cells #[.int .i64 1,.int .u32 1,.int .u32 (sc:Nat)] 117)):=b2.alloc b2.size _;have hlt2:w.heap.size<w2.heap.size:=Nat.lt_of_lt_of_le (by simp) hb2.size;have h23:w2.heap.size<(w2.alloc (.cells #[.int .i64 1,.int .u32 1,.int .u32 (sc:Nat)] 117)).heap.size:=by simp
 generalize w2.alloc (.cells #[.int .i64 1,.int .u32 1,.int .u32 (sc:Nat)] 117)=WA at *;generalize w2.heap.size=B5 at *;have RB4:Hid _:=r2;have RB5:Hid _:=r3;have HB3:Hid _:=b3;clear r0 r2 r3 b0 b2 b3 hb2 hS HS HT;go_loopw [6,7,8] (fun _ _ _ wr=>∃(i num crc f:Nat) (s1:Sc) (p1:lH),Hid (ai wr B5 117 [.int .i64 (i:Nat),.int .u32 (num:Nat),.int .u32 (crc:Nat)])/\Hid (ai wr w.heap.size 117 [.int .i64 0,.int .u32 0,.int .u32 0])/\Hid (aR wr p1 s1)/\Hid (p1.q=p.q/\p1.em=p.em/\p1.ms=p.ms/\∀b∈p1.blocks,b∈p.blocks\/B5<b)/\Hid (aB wr d S)/\Hid (Fr w wr (d.p::p.blocks))/\Hid (xZ s1 (num-1))/\(1<=num/\num<=i/\i<=S.safe.length/\crc<4294967296/\S.safe.length<=i+f)/\Hid (qO c S.seen f i num crc s1=R/\nU c S.seen f i num crc s1=true)/\B5<wr.heap.size) (fun _ _ _ wr=>S.safe.length-Kn wr B5)
 case atStart=>exact⟨1,1,sc,S.safe.length,⟨[],[],[]⟩,p,RB5.out,RB4.out,HS0.out _ HB3.out,⟨rfl,rfl,rfl,fun b hb=>.inl hb⟩,HD0.out _ HB3.out,Fr.of_below HB3.out _,⟨(fun x hx=>by cases hx),Nat.zero_le _,Nat.zero_le _,Nat.zero_le _⟩,by omega,⟨HR.out,HK.out⟩,h23⟩
 case round=>
  obtain⟨i,num,crc,f,s1,p1,R5,R4,HSc,Pj,HD,Pk,AB,⟨hn1,hni,his,hcr,hsf⟩,HRf,Ya⟩:=hrel;have Qm:=HNx.out wr i num crc HD.out (by omega) hcr (Km HRf.out.2);have nd1:Hid (d.p∉p1.blocks):=fun hm=>by
   rcases Pj.out.2.2.2 _ hm with h|h
   ·exact Hdis.out d.p (by simp[DP.blocks]) h
   ·omega
  have nb5:Hid (B5∉p1.blocks):=fun hm=>by
   rcases Pj.out.2.2.2 _ hm with h|h
   ·have:=Vs.out _ h;omega
   ·omega
  have nb4:Hid (w.heap.size∉p1.blocks):=fun hm=>by
   rcases Pj.out.2.2.2 _ hm with h|h
   ·have:=Vs.out _ h;omega
   ·omega
  have nbd:Hid (∀b∈d.blocks,b∉p1.blocks):=fun b hb hm=>by
   rcases Pj.out.2.2.2 _ hm with h|h
   ·exact Hdis.out b hb h
   ·have:=HDL.out b hb;omega
  have z0:wr.cell? ⟨B5,0,none⟩=some (.int .i64 (i:Nat)):=R5.out.cell 0;have z1:wr.cell? ⟨B5,1,none⟩=some (.int .u32 (num:Nat)):=R5.out.cell 1;have z2:wr.cell? ⟨B5,2,none⟩=some (.int .u32 (crc:Nat)):=R5.out.cell 2;cases hnx:qj S.seen i num crc with
  | none=>
   have cN:Hid (Calls prog 151 #[.agg #[.int .i64 (i:Nat),.int .u32 (num:Nat),.int .u32 (crc:Nat)],.pointer (some ⟨d.p,0,none⟩)] wr fun e w'=>(∃(x k y n m:Nat) (t:Zy),e=.returned (.tuple #[.agg #[.int .i64 (x:Nat),.int .u8 (k:Nat),.string t],.agg #[.int .i64 (y:Nat),.int .u32 (n:Nat),.int .u32 (m:Nat)],.bool false]))/\aB w' d S/\Fr wr w' [d.p]):=Qm.mono (fun e w' h=>⟨by have h1:=h.1;unfold qP at h1;rw[hnx] at h1;exact h1,h.2⟩);clear Qm;go_wp2_with(go_at_call 151;refine Calls.mono cN.out ?_;rintro e w3 ⟨⟨x,k,y,n,m,t,rfl⟩,hd3,f3⟩;have F3:Fr w w3 (d.p::p.blocks):=(Pk.out.trans f3 (fun x hx _=>by simp at hx;simp[hx]));have S3:aR w3 p1 s1:=(HSc.out.fr f3 (fun b hb hm=>nd1.out (by rw[<-mem_singleton.1 hm];exact hb)));have Y5:=f3.row R5.out (by simp;omega);have Y4:=f3.row R4.out (by simp;omega);have hl3:B5<w3.heap.size:=(Nat.lt_of_lt_of_le Ya f3.size);have y0:w3.cell? ⟨B5,0,none⟩=some (.int .i64 (i:Nat)):=(Y5.cell 0);have y1:w3.cell? ⟨B5,1,none⟩=some (.int .u32 (num:Nat)):=(Y5.cell 1);have y2:w3.cell? ⟨B5,2,none⟩=some (.int .u32 (crc:Nat)):=(Y5.cell 2);have x0:w3.cell? ⟨w.heap.size,0,none⟩=some (.int .i64 0):=(Y4.cell 0);have x1:w3.cell? ⟨w.heap.size,1,none⟩=some (.int .u32 0):=(Y4.cell 1);have x2:w3.cell? ⟨w.heap.size,2,none⟩=some (.int .u32 0):=(Y4.cell 2);have v0:=Y4.frozen 0;have v1:=Y4.frozen 1;have v2:=Y4.frozen 2;have u0:=Y5.frozen 0;have u1:=Y5.frozen 1;have u2:=Y5.frozen 2;have l43:w.heap.size<w3.heap.size:=(by omega));have hfin:Hid (R=((i,num,crc),s1)):=HRf.out.1.symm.trans (Nt hnx f);have fs:Fr w3 (((w3.setCell ⟨w.heap.size,0,none⟩ (.int .i64 (i:Nat))).setCell ⟨w.heap.size,1,none⟩ (.int .u32 (num:Nat))).setCell ⟨w.heap.size,2,none⟩ (.int .u32 (crc:Nat))) [w.heap.size]:=(((Fr.refl _ _).setCell _ _ (.inl (by simp))).setCell _ _ (.inl (by simp))).setCell _ _ (.inl (by simp));have WI:=(((Y4.set 0 (.int .i64 (i:Nat))).set 1 (.int .u32 (num:Nat))).set 2 (.int .u32 (crc:Nat)));have D6:=hd3.fr fs (fun b hb hm=>by have:=HDL.out b hb;rw[mem_singleton.1 hm] at this;omega);have S6:=S3.fr fs (fun b hb hm=>nb4.out (by rw[<-mem_singleton.1 hm];exact hb));have F6:=F3.trans fs (fun x hx hlx=>by rw[mem_singleton.1 hx] at hlx;omega);generalize(((w3.setCell ⟨w.heap.size,0,none⟩ (.int .i64 (i:Nat))).setCell ⟨w.heap.size,1,none⟩ (.int .u32 (num:Nat))).setCell ⟨w.heap.size,2,none⟩ (.int .u32 (crc:Nat)))=w6 at *;have bA:Below w6.heap.size w6 ((w6.alloc (.cells #[.int .i64 (x:Nat),.int .u8 (k:Nat),.string t] 257)).alloc (.cells #[.int .i64 (y:Nat),.int .u32 (n:Nat),.int .u32 (m:Nat)] 117)):=(((Below.refl _ _).alloc (Nat.le_refl _) _).alloc (by simp) _);have r4:=WI.below bA WI.lt;refine bodyPost_ret (results_cell_row (P:=prog) results86 _ _ w.heap.size _ _ _ _ rfl r4.heap underlying117 rfl (by kernel_rfl)) rfl ?_;refine⟨p1,⟨Pj.out.1,Pj.out.2.1,Pj.out.2.2.1,fun b hb=>(Pj.out.2.2.2 b hb).imp id (fun hh=>by omega)⟩,by rw[hfin.out];rfl,by rw[hfin.out];exact S6.below bA,D6.below bA,(F6.alloc _).alloc _⟩
  | some kt=>
   obtain⟨k,t⟩:=kt;have hfx:=Kk (Dk.seen_size ok) hnx;rw[S.seen_length] at hfx;have cN:Hid (Calls prog 151 #[.agg #[.int .i64 (i:Nat),.int .u32 (num:Nat),.int .u32 (crc:Nat)],.pointer (some ⟨d.p,0,none⟩)] wr fun e w'=>e=.returned (.tuple #[.agg #[.int .i64 (i:Nat),.int .u8 (k:Nat),.string t],.agg #[.int .i64 (i+fU t.size:Nat),.int .u32 (num+1:Nat),.int .u32 (gB k num crc t:Nat)],.bool true])/\aB w' d S/\Fr wr w' [d.p]):=Qm.mono (fun e w' h=>⟨by have h1:=h.1;unfold qP at h1;rw[hnx] at h1;exact h1,h.2⟩);clear Qm;generalize hAN:i+fU t.size=AN at *;generalize hNN:num+1=NN at *;generalize hRC:gB k num crc t=RC at *;obtain⟨f',rfl⟩:∃f',f=f'+1:=⟨f-1,by omega⟩;have hst:=HRf.out;rw[qO,nU,hnx] at hst;simp only[Bool.and_eq_true,hAN,hNN,hRC] at hst;have htk:=hst.2.1;rw[if_pos htk] at hst;have hnext:Hid (qO c S.seen f' AN NN RC (jY c s1 k i t).2=R/\nU c S.seen f' AN NN RC (jY c s1 k i t).2=true):=⟨hst.1,hst.2.2⟩;clear hst;have HOk2:Hid (xZ (jY c s1 k i t).2 (NN-1)):=by
    have:=AB.out.take c k i t;rw[<-hNN];rw[show num-1+1=num+1-1 by omega] at this;exact this
   have cT:Hid (∀W5,Fr w W5 (d.p::p.blocks)->aR W5 p1 s1->Calls prog 87 #[.pointer (some ⟨p.q,0,none⟩),.agg #[.int .i64 (i:Nat),.int .u8 (k:Nat),.string t]] W5 (uw W5 p1 (jY c s1 k i t))):=fun W5 hf hw=>HTk.out W5 _ p1 s1 (num-1) k i t hf (by intro b hb;rcases mem_cons.1 hb with rfl|hb;exact HdG.out;exact HpG.out b hb) Pj.out.1 hw AB.out (by omega) hfx.2.1 hfx.2.2.1 hfx.2.2.2.1 htk;have hRCl:RC<4294967296:=by rw[<-hRC];exact yO _
   generalize hTR:jY c s1 k i t=TR at *;obtain⟨tb,ts⟩:=TR;cases(show tb=true from htk)
   clear htk;go_wp2_with(first
    | (go_at_call 151;refine Calls.mono cN.out ?_;rintro e w3 ⟨rfl,hd3,f3⟩;have F3:Fr w w3 (d.p::p.blocks):=(Pk.out.trans f3 (fun x hx _=>by simp at hx;simp[hx]));have S3:aR w3 p1 s1:=(HSc.out.fr f3 (fun b hb hm=>nd1.out (by rw[<-mem_singleton.1 hm];exact hb)));have Y5:=f3.row R5.out (by simp;omega);have Y4:=f3.row R4.out (by simp;omega);have hl3:B5<w3.heap.size:=(Nat.lt_of_lt_of_le Ya f3.size);have y0:w3.cell? ⟨B5,0,none⟩=some (.int .i64 (i:Nat)):=(Y5.cell 0);have y1:w3.cell? ⟨B5,1,none⟩=some (.int .u32 (num:Nat)):=(Y5.cell 1);have y2:w3.cell? ⟨B5,2,none⟩=some (.int .u32 (crc:Nat)):=(Y5.cell 2);have x0:w3.cell? ⟨w.heap.size,0,none⟩=some (.int .i64 0):=(Y4.cell 0);have x1:w3.cell? ⟨w.heap.size,1,none⟩=some (.int .u32 0):=(Y4.cell 1);have x2:w3.cell? ⟨w.heap.size,2,none⟩=some (.int .u32 0):=(Y4.cell 2);have v0:=Y4.frozen 0;have v1:=Y4.frozen 1;have v2:=Y4.frozen 2;have u0:=Y5.frozen 0;have u1:=Y5.frozen 1;have u2:=Y5.frozen 2;have l43:w.heap.size<w3.heap.size:=(by omega))
    | (go_at_call 87;refine Calls.mono (cT.out _ ((F3.alloc _).alloc _) (S3.fr (((Fr.refl _ []).alloc _).alloc _) (by simp))) ?_;rintro e w6 ⟨p2,VS,rfl,BI,f6⟩;have bA:Below w3.heap.size w3 ((w3.alloc (.cells #[.int .i64 (i:Nat),.int .u8 (k:Nat),.string t] 257)).alloc (.cells #[.int .i64 (AN:Nat),.int .u32 (NN:Nat),.int .u32 (RC:Nat)] 117)):=(((Below.refl _ _).alloc (Nat.le_refl _) _).alloc (by simp) _);have Z5:=f6.row (Y5.below bA hl3) nb5.out;have Z4:=f6.row (Y4.below bA l43) nb4.out;have r7:=ai.new (w3.alloc (.cells #[.int .i64 (i:Nat),.int .u8 (k:Nat),.string t] 257)) 117 [.int .i64 (AN:Nat),.int .u32 (NN:Nat),.int .u32 (RC:Nat)];rw[show(w3.alloc (.cells #[.int .i64 (i:Nat),.int .u8 (k:Nat),.string t] 257)).heap.size=w3.heap.size+1 by simp] at r7;have Z7:=f6.row r7 (fun hm=>by have:=S3.lt _ hm;omega);have F6:Fr w w6 (d.p::p.blocks):=(((F3.alloc _).alloc _).trans f6 (fun x hx hlx=>by rcases Pj.out.2.2.2 x hx with hh|hh;exact mem_cons_of_mem _ hh;omega));have D6:aB w6 d S:=((hd3.below bA).fr f6 nbd.out);have l6:=f6.size;have l65:w3.heap.size+2<=w6.heap.size:=(by have hh:=l6;simp at hh;omega);have k0:w6.cell? ⟨B5,0,none⟩=some (.int .i64 (i:Nat)):=(Z5.cell 0);have k1:w6.cell? ⟨B5,1,none⟩=some (.int .u32 (num:Nat)):=(Z5.cell 1);have k2:w6.cell? ⟨B5,2,none⟩=some (.int .u32 (crc:Nat)):=(Z5.cell 2);have k3:w6.cell? ⟨w.heap.size,0,none⟩=some (.int .i64 0):=(Z4.cell 0);have k4:w6.cell? ⟨w.heap.size,1,none⟩=some (.int .u32 0):=(Z4.cell 1);have k5:w6.cell? ⟨w.heap.size,2,none⟩=some (.int .u32 0):=(Z4.cell 2);have k6:w6.cell? ⟨w3.heap.size+1,0,none⟩=some (.int .i64 (AN:Nat)):=(Z7.cell 0);have k7:w6.cell? ⟨w3.heap.size+1,1,none⟩=some (.int .u32 (NN:Nat)):=(Z7.cell 1);have k8:w6.cell? ⟨w3.heap.size+1,2,none⟩=some (.int .u32 (RC:Nat)):=(Z7.cell 2);have g0:=Z4.frozen 0;have g1:=Z4.frozen 1;have g2:=Z4.frozen 2;have g3:=Z5.frozen 0;have g4:=Z5.frozen 1;have g5:=Z5.frozen 2))
   have fs:Fr w6 (((w6.setCell ⟨B5,0,none⟩ (.int .i64 (AN:Nat))).setCell ⟨B5,1,none⟩ (.int .u32 (NN:Nat))).setCell ⟨B5,2,none⟩ (.int .u32 (RC:Nat))) [B5]:=(((Fr.refl _ _).setCell _ _ (.inl (by simp))).setCell _ _ (.inl (by simp))).setCell _ _ (.inl (by simp));have r5:=(((Z5.set 0 (.int .i64 (AN:Nat))).set 1 (.int .u32 (NN:Nat))).set 2 (.int .u32 (RC:Nat)));have hsub:∀b∈p2.blocks,b∈p.blocks\/B5<b:=fun b hb=>by
    rcases VS.sub b hb with hh|hh
    ·exact Pj.out.2.2.2 b hh
    ·have:=hh;simp at this;exact .inr (by omega)
   have hNs:1<=fU t.size:=by unfold fU;omega
   refine⟨⟨AN,NN,RC,f',ts,p2,r5,fs.row Z4 (by simp;omega),BI.fr fs (fun b hb hm=>?_),⟨VS.q.trans Pj.out.1,VS.em.trans Pj.out.2.1,VS.ms.trans Pj.out.2.2.1,hsub⟩,D6.fr fs (fun b hb hm=>?_),F6.trans fs (fun x hx hlx=>by rw[mem_singleton.1 hx] at hlx;omega),HOk2.out,by omega,hnext.out,by have:=fs.size;omega⟩,?_⟩
   ·rw[mem_singleton.1 hm] at hb;rcases hsub _ hb with hh|hh
    ·have:=Vs.out _ hh;omega
    ·omega
   ·have:=HDL.out b hb;rw[mem_singleton.1 hm] at this;omega
   ·have e1:Kn wr B5=i:=by unfold Kn;rw[z0];simp
    have e2:Kn (((w6.setCell ⟨B5,0,none⟩ (.int .i64 (AN:Nat))).setCell ⟨B5,1,none⟩ (.int .u32 (NN:Nat))).setCell ⟨B5,2,none⟩ (.int .u32 (RC:Nat))) B5=AN:=by
     unfold Kn;rw[r5.cell 0];simp
    rw[e1,e2];omega
structure iW(w:World)(q:Nat)(d:DP)(S:Dk)(ms:List Nat)(H:List Ob):Prop where
 disk:w.cell? (Za q 1)=some (Zp d.p)
 maps:w.rangeAt q 2 (aG ms)
 objs:fF w ms H
 dev:aB w d S
 lt:q<w.heap.size
 apart:q≠d.p/\d.p∉ms
theorem iW.fr(h:iW w q d S ms H)(f:Fr w w' bs)(hq:q∉bs)(hm:∀b∈ms,b∉bs)(hd:∀b∈d.blocks,b∉bs):iW w' q d S ms H:=
 ⟨(World.cell?_of_block (f.block q h.lt hq)).trans h.disk,iC h.maps h.lt f hq,h.objs.fr f hm,h.dev.fr f hd,Nat.lt_of_lt_of_le h.lt f.size,h.apart⟩
theorem iW.below(h:iW w q d S ms H)(f:Below w.heap.size w w'):iW w' q d S ms H:=h.fr (Fr.of_below f []) (by simp) (by simp) (by simp)
theorem iW.read(h:iW w q d S ms H)(hd:aB w' d S)(f:Fr w w' [d.p]):iW w' q d S ms H:=
 ⟨(World.cell?_of_block (f.block q h.lt (by simp;exact h.apart.1))).trans h.disk,iC h.maps h.lt f (by simp;exact h.apart.1),h.objs.fr f (fun b hb hm=>h.apart.2 (by rw[<-Zm.1 hm];exact hb)),hd,Nat.lt_of_lt_of_le h.lt f.size,h.apart⟩
theorem iW.map(h:iW w q d S ms H)(k:Nat)(hk:k<4):w.cell? (Za q (2+k))=some (.map (some (ms[k]'(by have:=h.objs.len;omega)))):=by
 have hl:=h.objs.len;exact h.maps k _ (by simp[aG,hl,hk])
def pX(H:List Ob)(k:Nat)(s:Zy):Nat:=(gH H k s).elim 0 Ob.loc
def oz(H:List Ob)(k:Nat)(s:Zy):Nat:=(gH H k s).elim 0 Ob.n
theorem QT(h:cu w b (Maps.size D) D)(hR:Dn D H k)(s:Zy)(hs:s.size=32):(Instr.lookup 112 (.map (some b)) (dA s) false).run prog w=.ok (kU (pX H k s) (oz H k s)) w:=by
 obtain⟨hz,_⟩:=zero_of_info O9;obtain⟨v,ps,hrun,hv⟩:=World.ownsMap.lookup h (t:=112) (e:=290) iJ underlying112 (hz w) (uR 0 0) (jW s hs);obtain⟨a,m,rfl,hd⟩:=pK hv;rw[hrun];unfold pX oz;cases hx:gH H k s with
 | none=>
  simp only at hd;rw[Maps.atKey_of_not_has (by rw[hR.has,hasO,hx];rfl)] at hd;obtain⟨rfl,rfl⟩:=lV hd;rfl
 | some x=>
  simp only at hd;rw[hR.get s x hx] at hd;obtain⟨rfl,rfl⟩:=lV hd;rfl
theorem BU(s:Zy):bytes (af s)=s.data.toList.map Extern.Stop.cell:=by
 unfold bytes af;rw[map_map];rfl
theorem QU(x y:Zy)(hx:x.size=32)(hy:y.size=32)(w:World):(Op.equalIn 10000 121 (.agg (bytes (af x)).toArray) (.agg (bytes (af y)).toArray)).run prog w=.ok (decide (x=y)) w:=by
 rw[BU,BU,run_equalIn_bytes (P:=prog) w 9998 121 5 32 underlying121 underlying5 sizeOf5 _ _ (by rw[Array.length_toList];exact hx) (by rw[Array.length_toList];exact hy)];congr 1;rw[Bool.eq_iff_iff,beq_iff_eq,decide_eq_true_eq];exact⟨fun e=>ji e,fun e=>by rw[e]⟩
def nO(S:Dk)(H:List Ob)(k:Nat)(s:Zy):Zy:=mJ S.seen (pX H k s) (oz H k s)
def BV(a:Nat->Addr)(c:dz)(S:Dk)(H:List Ob)(k:Nat)(s:Zy)(e:Ending)(w':World):Prop:=
 if c.of (nO S H k s)=s then e=.returned (.tuple #[.string (nO S H k s),.nilIface])
 else∃b,e=.returned (.tuple #[.string ⟨#[]⟩,.iface 152 (Zp b)])/\ai w' b 156 [(Zi (pX H k s)),eF a 3]
theorem WN{c:dz}(G:eO a w)(hC:dI c w)(hF:wY d)(ok:S.Ok)(h:iW w q d S ms H)(k:Nat)(hk:k<4)(s:Zy)(hs:s.size=32)(hfit:pX H k s+fU (oz H k s)<=S.safe.length)(hn:oz H k s<=1000):
  Zc 180 #[Zp q,.int .u8 (k:Nat),dA s] w fun e w'=>BV a c S H k s e w'/\aB w' d S/\Fr w w' [d.p]:=by
 have jD:=ok.most;have hk4:(k:Int)<4:=by omega
 have hk0:(0:Int)<=(k:Int):=by omega
 have hms:=h.objs.len;have hsv:dA s=.agg (bytes (af s)).toArray:=rfl;have mM:(prog.info? 121).map (·.size)=some (bytes (af s)).length:=by rw[dh _ hs];kernel_rfl
 obtain⟨m,hm⟩:∃m,ms[k]'(by omega)=m:=⟨_,rfl⟩;have hlk:Hid (∀w',iW w' q d S ms H->(Instr.lookup 112 (.map (some m)) (.agg (bytes (af s)).toArray) false).run prog w'=.ok (.agg #[(Zi (pX H k s)),(Zi (oz H k s))]) w'):=fun w' hw=>by
  obtain⟨D,h1,h2⟩:=hw.objs.at_ k hk;rw[<-hm];exact QT h1 h2 s hs
 have hck:Hid (∀w',iW w' q d S ms H->w'.cell? (Za q (2+k))=some (.map (some m))):=fun w' hw=>by rw[<-hm];exact hw.map k hk
 have HT:Hid (BV a c S H k s=fun e w'=>if c.of (nO S H k s)=s then e=.returned (.tuple #[.string (nO S H k s),.nilIface]) else∃b,e=.returned (.tuple #[.string ⟨#[]⟩,.iface 152 (Zp b)])/\ai w' b 156 [(Zi (pX H k s)),eF a 3]):=rfl;rw[HT.out];have hsa:Hid (nO S H k s=mJ S.seen (pX H k s) (oz H k s)):=rfl;have hts:(nO S H k s).size=oz H k s:=nG _ _ _ (by rw[S.seen_length];exact hfit) (Dk.seen_size ok);have hrs:(jS S.seen (pX H k s) (fU (oz H k s))).size=64*fU (oz H k s):=qK _ _ _ (by rw[S.seen_length];exact hfit) (Dk.seen_size ok);have hte:Hid ((jS S.seen (pX H k s) (fU (oz H k s))).extract 11 (11+oz H k s)=nO S H k s):=rfl;have hb64:11+oz H k s<=64*fU (oz H k s):=by unfold fU;omega
 have hN:1<=fU (oz H k s)/\fU (oz H k s)<=20:=by unfold fU;omega
 have cS:Hid (∀w,Zc 217 #[(Zi (oz H k s))] w fun e w'=>e=.returned (.int .i64 (fU (oz H k s):Nat))/\w=w'):=fun w=>xD _ (by omega) w;have cT:Hid (∀w,aB w d S->Zc 216 #[Zp d.p,(Zi (pX H k s)),.int .i64 (fU (oz H k s):Nat)] w fun e w'=>e=.returned (.tuple #[.string (jS S.seen (pX H k s) (fU (oz H k s))),.nilIface])/\aB w' d S/\Fr w w' [d.p]):=fun w hw=>BF hw ok _ _ hN.1 hfit;have cO:Hid (∀w' (bs:List Nat),Fr w w' bs->(∀b∈bs,18<=b)->Zc 109 #[.string (nO S H k s)] w' fun e w2=>e=.returned (.agg (bytes (af (c.of (nO S H k s)))).toArray)/\Below w'.heap.size w' w2):=fun w' bs hf hb=>devOf c _ (by omega) (hC.fr hf hb);have hEq:Hid (∀w,(Op.equalIn 10000 121 (.agg (bytes (af (c.of (nO S H k s)))).toArray) (.agg (bytes (af s)).toArray)).run prog w=.ok (decide (c.of (nO S H k s)=s)) w):=fun w=>QU _ _ (c.size _) hs w;have hGd:prog.eqGuardType prog.depth 121=false:=by kernel_rfl
 have ab7:(bytes (af (c.of (nO S H k s)))).length=32:=dh _ (c.size _);have aay:(bytes (af s)).length=32:=dh _ hs;have HE:Hid (∀w' (bs:List Nat),Fr w w' bs->(∀b∈bs,18<=b)->w'.cell? (Za 3 0)=some (eF a 3)):=fun w' bs hf hb=>(G.fr hf hb).err 3 (by omega);have HdG:Hid (18<=d.p):=hF.p;rw[hsv];generalize hol:pX H k s=ol at *;generalize hon:oz H k s=on at *;generalize hsd:nO S H k s=T at *;generalize hCO:bytes (af (c.of T))=CO at *;generalize Yh:bytes (af s)=CK at *;generalize hRR:jS S.seen ol (fU on)=R at *;generalize hNN:fU on=N at *;have HRW:Hid (∀w',Below w.heap.size w w'->iW w' q d S ms H):=fun w' hb=>h.below hb;have tH:=h.lt;clear h hC G hol hon hsd hCO Yh hRR hNN hsv hm;go_enter func180,ntmps180;go_upto_region 1 with fail
 have r5:=ai.new w 121 CK;have hbW:Below w.heap.size w (w.alloc (.cells CK.toArray 121)):=(Zr).alloc (Zn) _;generalize(w.alloc (.cells CK.toArray 121))=W at *;have hWl:=hbW.size;generalize Ya:w.heap.size=B5 at *;have hRW:iW W q d S ms H:=HRW.out _ hbW;have lqW:=hRW.lt;have ckm:=hck.out _ hRW;have g5:W.rangeAt B5 0 CK:=fun i v hv=>by rw[Nat.zero_add];exact(r5.cell i).trans hv
 have l5:=r5.lt;refine bF ?_;refine wp_region_held_drew (S:=fun w'=>Below W.heap.size W w') (by kernel_rfl) (Zr).drew (fun ah=>?_);refine Zt 0 (Zp q) ?_;refine Zt 1 (.int .u8 (k:Nat)) ?_;refine Zt 2 (Zp q) ?_;refine Zt 3 (.pointer (some (Za q 2))) ?_;refine Zt 4 (.pointer (some (Za q (2+k)))) ?_;refine wpAnyH_take (i:=5) (oi:=⟨some 17,.load 112 (.tmp 16),_,_,_,none⟩) (v:=.map (some m)) rfl (by kernel_rfl) (by kernel_rfl) (by kernel_rfl) (fun _ _ _ h=>h) (Or.inl ⟨by rfl,by intro w hSw;have h1:=(World.cell?_of_block (hSw.block q lqW)).trans ckm;go_simp⟩) ah ?_;simp only[Act.put,lA,lZ,lS];refine Zt 6 (.agg (CK).toArray) ?_ (hy:=yieldsIf_load_mid (by rfl) _ _ rfl (B5) (0) rfl CK _ (fun w h=>aU g5 l5 h) underlying121 rfl mM);refine Zt 7 (.agg #[Zi ol,Zi on]) ?_ (hy:=Or.inl ⟨by rfl,by intro w hSw;unfold execOp;simp only[Sem.run_bind];erw[hlk.out _ (hRW.below hSw)];rfl⟩);refine Zh 8 fun K hK=>?_;refine aD rfl (v:=(Zp W.drew.heap.size)) (w':=W.drew.alloc (.cells #[.int .i64 0,.int .i64 0] 290)) (by go_simp) ?_;refine hK.out _ _ (ah.alloc ah.size _) (fun ah=>?_);clear hK K;(try simp only[Act.put,lA,lZ,lS]);refine Zh 9 fun K hK=>?_;refine step_skip rfl (w':=W.drew.alloc (.cells #[Zi ol,Zi on] 290)) (by go_simp) ?_;refine hK.out _ _ (((Zr).drew).alloc (Zn) _) (fun ah=>?_);clear hK K
 try simp only[Act.put]
 refine Zx ?_;simp only[At];have hb2:Below W.heap.size W (W.drew.alloc (.cells #[Zi ol,Zi on] 290)):=((Zr).drew).alloc (Zn) _;have r8:ai (W.drew.alloc (.cells #[Zi ol,Zi on] 290)) W.heap.size 290 [Zi ol,Zi on]:=ai.new W.drew 290 [Zi ol,Zi on];have hR2:=hRW.below hb2;have F2:Fr w (W.drew.alloc (.cells #[Zi ol,Zi on] 290)) [d.p]:=Fr.of_below (by rw[Ya];exact hbW.trans (hb2.mono hWl)) _;have r52:=r5.below hb2 l5;have hs2:=hb2.size;show Exit.then _ _ _ _ (W.drew.alloc (.cells #[Zi ol,Zi on] 290));generalize(W.drew.alloc (.cells #[Zi ol,Zi on] 290))=W2 at *;clear ah g5 ckm;show Exit.then _ _ _ {tmps:=_,defers:=_} _;have e0:W2.cell? (Za W.heap.size 0)=some (Zi ol):=r8.cell 0;have e1:W2.cell? (Za W.heap.size 1)=some (Zi on):=r8.cell 1;have eq1:=hR2.disk;have dl:=hR2.dev.row.lt;have n8:W.heap.size≠d.p:=fun e=>by have:=hRW.dev.row.lt;omega
 have nq:=hR2.apart.1;generalize hB8:W.heap.size=B8 at *;go_wp2;go_region_held3 (fun w'=>w'.cell? (Za q 1)=some (Zp d.p)/\w'.cell? (Za B8 0)=some (Zi ol)/\w'.cell? (Za B8 1)=some (Zi on)) ((first|exact⟨eq1,e0,e1⟩|assumption|exact⟨(World.cell?_of_block (O8.block q hR2.lt (by simp;exact nq))).trans eq1,(World.cell?_of_block (O8.block B8 r8.lt (by simp;exact n8))).trans e0,(World.cell?_of_block (O8.block B8 r8.lt (by simp;exact n8))).trans e1⟩)) ((first|(go_at_call 217;refine Calls.mono (cS.out _) ?_;rintro e w3 ⟨rfl,rfl⟩)|(go_at_call 216;refine Calls.mono (cT.out _ (hR2.dev.below (Zr).drew)) ?_;rintro e w4 ⟨rfl,hd4,O8⟩)));have F4:Fr w w4 [d.p]:=(F2.drew).trans O8 (fun x hx _=>hx);have r84:=O8.row r8.drew (by simp;exact n8);have n5:B5≠d.p:=fun e=>by have:=hRW.dev.row.lt;have:=(HRW.out w (Zr)).dev.row.lt;omega
 have r54:=O8.row r52.drew (by simp;exact n5);have l54:=r54.lt;have g54:w4.rangeAt B5 0 CK:=fun i v hv=>by rw[Nat.zero_add];exact(r54.cell i).trans hv
 have k0:w4.cell? (Za B8 0)=some (Zi ol):=r84.cell 0;have k1:w4.cell? (Za B8 1)=some (Zi on):=r84.cell 1;have x1:(11:Int)+(on:Int)<=(R.size:Int):=by rw[hrs];omega
 have x3:((11:Int)+(on:Int)).toNat=11+on:=by omega
 have HE4:=HE.out w4 [d.p] F4 (by intro b hb;rw[Zm.1 hb];exact HdG.out);clear O8 r52 r5 e0 e1;generalize hW4:w4=W4 at *;generalize hbb:decide (c.of T=s)=bb at *;go_wp2;rw[hte.out];refine bF ?_;refine wp_region_held_drew (S:=fun w'=>Below W4.heap.size W4 w') (by kernel_rfl) (Zr).drew (fun ah=>?_);refine Zt 0 (.string T) ?_;refine Zt 2 (.agg (CK).toArray) ?_ (hy:=yieldsIf_load_mid (by rfl) _ _ rfl (B5) (0) rfl CK _ (fun w h=>aU g54 l54 h) underlying121 rfl mM);refine Zh 1 fun K hK=>?_;go_simp;go_at_call 109;refine Calls.mono (cO.out _ [d.p] (F4.trans (Fr.refl _ _).drew (fun x hx _=>hx)) (by intro b hb;rw[Zm.1 hb];exact HdG.out)) ?_;rintro e w5 ⟨rfl,hb5⟩;refine hK.out _ _ (ah.trans (hb5.mono ah.size)) (fun ah=>?_);clear hK K;(try simp only[Act.put,lA,lZ,lS]);refine Zt 3 (.bool (!bb)) ?_ (hy:=Or.inl ⟨by rfl,by intro w hSw;have h1:=hEq.out w;go_simp⟩);refine Zx ?_;simp only[At];have hb6:Below W4.heap.size W4 w5:=ah;have F5:Fr w w5 [d.p]:=F4.trans (Fr.of_below hb6 [d.p]) (fun x hx _=>hx);have D5:=hd4.below hb6;have m0:w5.cell? (Za B8 0)=some (Zi ol):=(r84.below hb6 r84.lt).cell 0;have m3:w5.cell? (Za 3 0)=some (eF a 3):=HE.out w5 [d.p] F5 (by intro b hb;rw[Zm.1 hb];exact HdG.out);have Lx:Hid _:=F5;have HD5:Hid _:=D5;clear ah hb6 hb5 F4 F2 F5 D5 g54 hd4;cases bb with
 | true=>
  have hc:c.of T=s:=of_decide_eq_true hbb;go_wp2;refine bodyPost_ret (results_tmp2 rfl _ _ _) rfl ?_
  first|exact⟨rfl,HD5.out,Lx.out⟩|exact⟨by rw[if_pos hc];rfl,HD5.out,Lx.out⟩
 | false=>
  have hc:¬c.of T=s:=of_decide_eq_false hbb;unfold eF at m3;go_wp2;go_region;go_wp2;refine bodyPost_ret (results_tmp2 rfl _ _ _) rfl ?_;refine⟨⟨_,rfl,?_⟩,?_,?_⟩
  ·first|exact(ai.new w5 156 [Zi ol,eF a 3]).drew|exact ai.new w5.drew 156 [Zi ol,eF a 3]|exact ai.new w5 156 [Zi ol,eF a 3]
  ·first|exact HD5.out.below (((Zr).alloc (Zn) _).drew)|exact HD5.out.below (((Zr).drew).alloc (Zn) _)|exact HD5.out.below ((Zr).alloc (Zn) _)
  ·first|exact(Lx.out.alloc _).drew|exact(Lx.out.drew).alloc _|exact Lx.out.alloc _
def fu(c:dz)(S:Dk)(H:List Ob)(k:Nat)(s:Zy):Except Nat Zy:=if c.of (nO S H k s)=s then .ok (nO S H k s) else .error (pX H k s)
def sJ(b:Nat):Value:=.iface 152 (Zp b)
def wM(H:List Ob)(n:Nat):Prop:=∀o∈H,o.loc+fU o.n<=n/\o.n<=1000
theorem wM.at_(h:wM H n)(h1:1<=n)(k:Nat)(s:Zy):pX H k s+fU (oz H k s)<=n/\oz H k s<=1000:=by
 unfold pX oz;cases hx:gH H k s with
 | none=>exact⟨by show 0+fU 0<=n;unfold fU;omega,Nat.zero_le _⟩
 | some o=>exact h o (Fb hx).1
structure kD(a:Nat->Addr)(c:dz)(w:World)(q:Nat)(d:DP)(S:Dk)(ms:List Nat)(H:List Ob):Prop where
 G:eO a w
 C:dI c w
 F:wY d
 ok:S.Ok
 at_:iW w q d S ms H
 fit:wM H S.safe.length
theorem kD.read{c:dz}(h:kD a c w q d S ms H)(hd:aB w' d S)(f:Fr w w' [d.p]):kD a c w' q d S ms H:=
 ⟨h.G.fr f (by intro b hb;rw[Zm.1 hb];exact h.F.p),h.C.fr f (by intro b hb;rw[Zm.1 hb];exact h.F.p),h.F,h.ok,h.at_.read hd f,h.fit⟩
theorem kD.below{c:dz}(h:kD a c w q d S ms H)(f:Below w.heap.size w w'):kD a c w' q d S ms H:=
 h.read (h.at_.dev.below f) (Fr.of_below f _)
def yc(a:Nat->Addr)(w:World)(b loc:Nat):Prop:=ai w b 156 [Zi loc,eF a 3]
def mX(a:Nat->Addr)(R:Except Nat Zy)(_B:Nat)(e:Ending)(w':World):Prop:=match R with
 | .ok t=>e=.returned (.tuple #[.string t,.nilIface])
 | .error loc=>∃b,e=.returned (.tuple #[.string ⟨#[]⟩,sJ b])/\yc a w' b loc
theorem yg{c:dz}(h:kD a c w q d S ms H)(k:Nat)(hk:k<4)(s:Zy)(hs:s.size=32):
  Zc 180 #[Zp q,.int .u8 (k:Nat),dA s] w fun e w'=>mX a (fu c S H k s) w.heap.size e w'/\aB w' d S/\Fr w w' [d.p]:=by
 have hf:=h.fit.at_ h.ok.pos k s;refine(WN h.G h.C h.F h.ok h.at_ k hk s hs hf.1 hf.2).mono ?_;rintro e w' ⟨h1,h2,h3⟩;refine⟨?_,h2,h3⟩;unfold BV at h1;unfold mX fu;split at h1
 ·rename_i hc;rw[if_pos hc];exact h1
 ·rename_i hc;rw[if_neg hc];exact h1
theorem wN{c:dz}{s:Zy}(ok:S.Ok)(hf:wM H S.safe.length)(h:fu c S H k s=.ok t):t.size<=1000/\t=nO S H k s/\c.of t=s:=by
 unfold fu at h;split at h
 ·rename_i hc;cases h
  have h1:=hf.at_ ok.pos k s;refine⟨?_,rfl,hc⟩;unfold nO;rw[nG _ _ _ (by rw[S.seen_length];exact h1.1) (Dk.seen_size ok)];exact h1.2
 ·cases h
def wO(c:dz)(S:Dk)(H:List Ob)(s:Zy):Except Nat (List Ln):=match fu c S H 3 s with
 | .ok t=>.ok ((vw t).getD [])
 | .error loc=>.error loc
def BX(a:Nat->Addr)(R:Except Nat (List Ln))(B:Nat)(e:Ending)(w':World):Prop:=match R with
 | .ok l=>∃ao co,e=.returned (.tuple #[.slice ao l.length co,.nilIface])/\w'.ownsRow B 353 34 (.slice ao l.length co) l.length (fO l)
 | .error loc=>∃b,e=.returned (.tuple #[.slice none 0 0,sJ b])/\yc a w' b loc
theorem sK{c:dz}(h:kD a c w q d S ms H)(s:Zy)(hs:s.size=32):
  Zc 224 #[Zp q,dA s] w fun e w'=>BX a (wO c S H s) w.heap.size e w'/\aB w' d S/\Fr w w' [d.p]:=by
 have hsv:dA s=.agg (bytes (af s)).toArray:=rfl;have mM:(prog.info? 121).map (·.size)=some (bytes (af s)).toArray.size:=by rw[size_toArray,dh _ hs];kernel_rfl
 have cT:Hid (∀w',Below w.heap.size w w'->Zc 180 #[Zp q,.int .u8 3,.agg (bytes (af s)).toArray] w' fun e w2=>mX a (fu c S H 3 s) w'.heap.size e w2/\aB w2 d S/\Fr w' w2 [d.p]):=fun w' hb=>yg (h.below hb) 3 (by omega) s hs;have HR:Hid (wO c S H s=match fu c S H 3 s with | .ok t=>.ok ((vw t).getD []) | .error loc=>.error loc):=rfl;have hsz:∀t,fu c S H 3 s=.ok t->t.size<=1000:=fun t ht=>(wN h.ok h.fit ht).1;rw[HR.out,hsv];generalize bytes (af s)=CK at *;generalize fu c S H 3 s=X at *;have hdp:d.p<w.heap.size:=h.at_.dev.row.lt;clear h hsv HR;cases X with
 | error loc=>
  go_enter func224,ntmps224;go_upto_region 1 with fail
  have r3:=ai.new w 121 CK;have hbW:Below w.heap.size w (w.alloc (.cells CK.toArray 121)):=(Zr).alloc (Zn) _;have Vk:=cT.out _ hbW;generalize(w.alloc (.cells CK.toArray 121))=W at *;go_wp2_with(first
   | (refine wpList_load_row rfl 121 _ rfl w.heap.size rfl _ _ _ _ r3.heap underlying121 rfl mM ?_)
   | (go_at_call 180;refine Calls.mono Vk ?_;rintro e w2 ⟨⟨b,rfl,hb⟩,hd2,hf2⟩;unfold sJ))
  refine bodyPost_ret (results_tmp2 rfl _ _ _) rfl ?_;exact⟨⟨b,rfl,hb⟩,hd2,(Fr.of_below hbW _).trans hf2 (fun x hx _=>hx)⟩
 | ok t=>
  have Lv:=Fh t (by have:=hsz t rfl;omega);have cD:Hid _:=Lv;clear Lv;go_enter func224,ntmps224;go_upto_region 1 with fail
  have r3:=ai.new w 121 CK;have hbW:Below w.heap.size w (w.alloc (.cells CK.toArray 121)):=(Zr).alloc (Zn) _;have Vk:=cT.out _ hbW;have hWl:=hbW.size;generalize(w.alloc (.cells CK.toArray 121))=W at *;go_wp2_with(first
   | (refine wpList_load_row rfl 121 _ rfl w.heap.size rfl _ _ _ _ r3.heap underlying121 rfl mM ?_)
   | (go_at_call 180;refine Calls.mono Vk ?_;rintro e w2 ⟨rfl,hd2,hf2⟩)
   | (go_at_call 266;refine Calls.mono (cD.out _) ?_;rintro e w4 ⟨⟨l,ok,ao,co,rfl,hO4,hl,hll,hor⟩,hb4⟩))
  refine bodyPost_ret (results_tmp2 rfl _ _ _) rfl ?_;have hl2:=hf2.size;have hlist:(vw t).getD []=l:=by
   rcases hor with⟨h1,_,h3⟩|⟨h1,_⟩
   ·rw[h1,h3];rfl
   ·rw[h1];rfl
  refine⟨?_,hd2.below hb4,((Fr.of_below hbW _).trans hf2 (fun x hx _=>hx)).trans (Fr.of_below hb4 _) (fun x hx _=>hx)⟩;show BX a (.ok ((vw t).getD [])) _ _ _;rw[hlist];exact⟨ao,co,rfl,pz hO4 (by omega)⟩
def qQ(c:dz)(S:Dk)(H:List Ob)(s:Zy):Except Nat (Nat × List Zy):=match fu c S H 2 s with
 | .ok t=>.ok ((pu t).getD (0,[]))
 | .error loc=>.error loc
def uU(a:Nat->Addr)(R:Except Nat (Nat × List Zy))(B:Nat)(e:Ending)(w':World):Prop:=match R with
 | .ok x=>∃ao co,e=.returned (.tuple #[.agg #[Zi x.1,.slice ao x.2.length co],.nilIface])/\w'.ownsRow B 121 32 (.slice ao x.2.length co) x.2.length (dY x.2)
 | .error loc=>∃b,e=.returned (.tuple #[.agg #[.int .i64 0,.slice none 0 0],sJ b])/\yc a w' b loc
theorem Nv(t:Zy)(ht:t.size<=1000000)(w:World):
  Zc 264 #[.string t] w fun e w'=>(∃(n:Nat) (l:List Zy) (ok:Bool) (ao:Option Addr) (co:Nat),e=.returned (.tuple #[.agg #[Zi n,.slice ao l.length co],.bool ok])/\w'.ownsRow w.heap.size 121 32 (.slice ao l.length co) l.length (dY l)/\(pu t).getD (0,[])=(n,l))/\Below w.heap.size w w':=by
 refine(ER t ht w).mono ?_;rintro e w' ⟨h,hb⟩;refine⟨?_,hb⟩;cases hf:pu t with
 | none=>
  rw[hf] at h;exact⟨0,[],false,none,0,h,World.ownsRow_nil _ _ _ _,rfl⟩
 | some nl=>
  obtain⟨n,l⟩:=nl;rw[hf] at h;obtain⟨ao,co,he,hO⟩:=h;exact⟨n,l,true,ao,co,he,hO,rfl⟩
theorem Ko{c:dz}(h:kD a c w q d S ms H)(s:Zy)(hs:s.size=32):
  Zc 230 #[Zp q,dA s] w fun e w'=>uU a (qQ c S H s) w.heap.size e w'/\aB w' d S/\Fr w w' [d.p]:=by
 have hsv:dA s=.agg (bytes (af s)).toArray:=rfl;have mM:(prog.info? 121).map (·.size)=some (bytes (af s)).toArray.size:=by rw[size_toArray,dh _ hs];kernel_rfl
 have cT:Hid (∀w',Below w.heap.size w w'->Zc 180 #[Zp q,.int .u8 2,.agg (bytes (af s)).toArray] w' fun e w2=>mX a (fu c S H 2 s) w'.heap.size e w2/\aB w2 d S/\Fr w' w2 [d.p]):=fun w' hb=>yg (h.below hb) 2 (by omega) s hs;have HR:Hid (qQ c S H s=match fu c S H 2 s with | .ok t=>.ok ((pu t).getD (0,[])) | .error loc=>.error loc):=rfl;have hsz:∀t,fu c S H 2 s=.ok t->t.size<=1000:=fun t ht=>(wN h.ok h.fit ht).1;rw[HR.out,hsv];generalize bytes (af s)=CK at *;generalize fu c S H 2 s=X at *;have hdp:d.p<w.heap.size:=h.at_.dev.row.lt;have GR:Hid (∀b∈d.blocks,b<w.heap.size):=h.at_.dev.lt;clear h hsv HR;cases X with
 | error loc=>
  go_enter func230,ntmps230;go_upto_region 1 with fail
  have r3:=(ai.new w 121 CK).below ((Zr).alloc (Zn) (.cells #[.int .i64 0,.slice none 0 0] 360)) (by simp);have r4:=ai.new (w.alloc (.cells CK.toArray 121)) 360 [.int .i64 0,.slice none 0 0];rw[show(w.alloc (.cells CK.toArray 121)).heap.size=w.heap.size+1 by simp] at r4;have hbW:Below w.heap.size w ((w.alloc (.cells CK.toArray 121)).alloc (.cells #[.int .i64 0,.slice none 0 0] 360)):=((Zr).alloc (Zn) _).alloc (by simp) _;have Vk:=cT.out _ hbW;generalize((w.alloc (.cells CK.toArray 121)).alloc (.cells #[.int .i64 0,.slice none 0 0] 360))=W at *;go_wp2_with(first
   | (refine wpList_load_row rfl 121 _ rfl w.heap.size rfl _ _ _ _ r3.heap underlying121 rfl mM ?_)
   | (go_at_call 180;refine Calls.mono Vk ?_;rintro e w2 ⟨⟨b,rfl,hb⟩,hd2,hf2⟩;unfold sJ;have q4:=hf2.row r4 (by simp;omega);have k0:w2.cell? (Za (w.heap.size+1) 0)=some (.int .i64 0):=(q4.cell 0);have k1:w2.cell? (Za (w.heap.size+1) 1)=some (.slice none 0 0):=(q4.cell 1);have k2:=q4.frozen 0;have k3:=q4.frozen 1))
  have q4':=(q4.set 0 (.int .i64 0)).set 1 (.slice none 0 0);refine bodyPost_ret (jC results230 _ _ rfl (run_loadVar_row _ _ _ _ _ _ _ q4'.heap underlying360 rfl (by kernel_rfl))) rfl ?_;have fs:Fr w2 ((w2.setCell (Za (w.heap.size+1) 0) (.int .i64 0)).setCell (Za (w.heap.size+1) 1) (.slice none 0 0)) [w.heap.size+1]:=((Fr.refl _ _).setCell _ _ (.inl (by simp))).setCell _ _ (.inl (by simp));have hbn:b≠w.heap.size+1:=fun e=>by
   have h1:=hb.heap;rw[e,q4.heap] at h1;exact absurd (Obj.cells.inj (Option.some.inj h1)).2.1 (by decide)
  refine⟨⟨b,rfl,fs.row hb (by simp;exact hbn)⟩,hd2.fr fs (fun x hx hm=>?_),((Fr.of_below hbW _).trans hf2 (fun x hx _=>hx)).trans fs (fun x hx hlx=>by rw[Zm.1 hx] at hlx;omega)⟩;have h1:=GR.out x hx;rw[Zm.1 hm] at h1;omega
 | ok t=>
  have Lv:=Nv t (by have:=hsz t rfl;omega);have cD:Hid _:=Lv;clear Lv;go_enter func230,ntmps230;go_upto_region 1 with fail
  have r3:=(ai.new w 121 CK).below ((Zr).alloc (Zn) (.cells #[.int .i64 0,.slice none 0 0] 360)) (by simp);have r4:=ai.new (w.alloc (.cells CK.toArray 121)) 360 [.int .i64 0,.slice none 0 0];rw[show(w.alloc (.cells CK.toArray 121)).heap.size=w.heap.size+1 by simp] at r4;have hbW:Below w.heap.size w ((w.alloc (.cells CK.toArray 121)).alloc (.cells #[.int .i64 0,.slice none 0 0] 360)):=((Zr).alloc (Zn) _).alloc (by simp) _;have Vk:=cT.out _ hbW;have hWl:w.heap.size+1<((w.alloc (.cells CK.toArray 121)).alloc (.cells #[.int .i64 0,.slice none 0 0] 360)).heap.size:=by simp
  generalize((w.alloc (.cells CK.toArray 121)).alloc (.cells #[.int .i64 0,.slice none 0 0] 360))=W at *;go_wp2_with(first
   | (refine wpList_load_row rfl 121 _ rfl w.heap.size rfl _ _ _ _ r3.heap underlying121 rfl mM ?_)
   | (go_at_call 180;refine Calls.mono Vk ?_;rintro e w2 ⟨rfl,hd2,hf2⟩;have q4:=hf2.row r4 (by simp;omega))
   | (go_at_call 264;refine Calls.mono (cD.out _) ?_;rintro e w4 ⟨⟨n,l,ok,ao,co,rfl,hO4,hor⟩,hb4⟩;have p4:=q4.below hb4 q4.lt;have k0:w4.cell? (Za (w.heap.size+1) 0)=some (.int .i64 0):=(p4.cell 0);have k1:w4.cell? (Za (w.heap.size+1) 1)=some (.slice none 0 0):=(p4.cell 1);have k2:=p4.frozen 0;have k3:=p4.frozen 1;have k4:=p4.lt))
  have fs:Fr w4 ((w4.setCell (Za (w.heap.size+1) 0) (Zi n)).setCell (Za (w.heap.size+1) 1) (.slice ao l.length co)) [w.heap.size+1]:=((Fr.refl _ _).setCell _ _ (.inl (by simp))).setCell _ _ (.inl (by simp));have p4':=(p4.set 0 (Zi n)).set 1 (.slice ao l.length co);have hl2:=hf2.size;have Sg:=aT hO4 fs (fun g hg hm=>by have:=(hO4.lt g hg).1;rw[Zm.1 hm] at this;omega);have D5:aB _ d S:=(hd2.below hb4).fr fs (fun x hx hm=>by have h1:=GR.out x hx;rw[Zm.1 hm] at h1;omega);have F5:=(((Fr.of_below hbW _).trans hf2 (fun x hx _=>hx)).trans (Fr.of_below hb4 _) (fun x hx _=>hx)).trans fs (fun x hx hlx=>by rw[Zm.1 hx] at hlx;omega);generalize((w4.setCell (Za (w.heap.size+1) 0) (Zi n)).setCell (Za (w.heap.size+1) 1) (.slice ao l.length co))=W5 at *;have bA:Below W5.heap.size W5 (W5.alloc (.cells #[Zi n,.slice ao l.length co] 360)):=(Zr).alloc (Zn) _;have p5:=p4'.below bA p4'.lt;refine bodyPost_ret (jC results230 _ _ rfl (run_loadVar_row _ _ _ _ _ _ _ p5.heap underlying360 rfl (by kernel_rfl))) rfl ?_;refine⟨?_,D5.below bA,F5.alloc _⟩;rw[hor];exact⟨ao,co,rfl,pz (World.ownsRow.alloc Sg _) (by omega)⟩
end
section
open Go.RowKit Go.Maps Go.Lib
def ql(c:dz)(S:Dk)(H:List Ob):List Zy->Zy->Except Nat Zy
 |[],acc=>.ok acc
 | x::l,acc=>match fu c S H 1 x with
  | .ok t=>ql c S H l (acc++t)
  | .error loc=>.error loc
def uy(c:dz)(S:Dk)(H:List Ob)(s:Zy):Except Nat Zy:=match qQ c S H s with
 | .ok x=>ql c S H x.2 ⟨#[]⟩
 | .error loc=>.error loc
theorem QV{bs:List Value}(h:IsBuilder 275 5 B b bs w)(t:Zy)(hl:bs.length+t.size<=1000000)(hB:B<=w.heap.size):
  Zc 213 #[Zp b,.string t] w fun e w'=>e=.returned (.tuple #[Zi t.size,.nilIface])/\IsBuilder 275 5 B b (bs++strCells t) w'/\Below B w w':=by
 have:=Any.Builder_WriteString (ρ:=Tryz.lays105_ren) {Tryz.lays105 with} Ba B b bs t w h (by omega) hB;exact this.mono (fun e w' h=>⟨h.1,.inr h.2.1,h.2.2⟩)
theorem QW(h:IsBuilder 275 5 B b (strCells t) w)(hB:B<=w.heap.size):
  Zc 215 #[Zp b] w fun e w'=>e=.returned (.string t)/\Below B w w':=by
 have:=Any.Builder_String_any (ρ:=Tryz.lays105_ren) {Tryz.lays105 with} Ba B b t.data.toList w h hB;exact this
theorem yh{bs:List Value}(h:IsBuilder 275 5 B b bs w)(f:Fr w w' ds)(hd:∀x∈ds,x<B):IsBuilder 275 5 B b bs w':=by
 have go:∀p,BuilderAt 275 5 B b p bs w->BuilderAt 275 5 B b p bs w':=by
  rintro p ⟨h1,v,h2,h3,h4⟩;have hlt:b<w.heap.size:=(Array.getElem?_eq_some_iff.1 h2).1;refine⟨h1,v,(f.block b hlt (fun hm=>by have:=hd b hm;omega)).trans h2,aT h3 f (fun g hg hm=>by have:=hd g hm;have:=(h3.lt g hg).1;omega),h4⟩
 exact h.imp (go _) (go _)
def upB(B n:Nat):List Nat:=(List.range n).filter fun k=>decide (B<=k)
theorem yj:k∈upB B n↔k<n/\B<=k:=by simp[upB]
theorem uV(h:Below B w w'):Fr w w' (upB B w.heap.size):=
 ⟨h.os,h.tape,h.output,h.size,fun k hk hm=>h.block k (by
  rcases Nat.lt_or_ge k B with h1|h1
  ·exact h1
  ·exact absurd (yj.2 ⟨hk,h1⟩) hm)⟩
theorem Ul{c:dz}{s:Zy}(ok:S.Ok)(hf:wM H S.safe.length)(h:fu c S H k s=.ok t):t.size<=1000:=(wN ok hf h).1
theorem Kq{c:dz}{s:Zy}{x:Nat × List Zy}(h:qQ c S H s=.ok x):x.1<=1536/\x.2.length<=16/\∀y∈x.2,y.size=32:=by
 unfold qQ at h;cases ht:fu c S H 2 s with
 | error loc=>rw[ht] at h;cases h
 | ok t=>
  rw[ht] at h;cases hf:pu t with
  | none=>
   simp only[hf] at h;cases h
   exact⟨by decide,by decide,fun y hy=>by cases hy⟩
  | some nl=>
   obtain⟨n,l⟩:=nl;simp only[hf] at h;cases h
   obtain⟨h1,h2,h3⟩:=zU hf;exact⟨h1,by show l.length<=16;omega,h3⟩
theorem Pm{c:dz}(h:kD a c w q d S ms H)(s:Zy)(hs:s.size=32):
  Zc 239 #[Zp q,dA s] w fun e w'=>mX a (uy c S H s) w.heap.size e w'/\aB w' d S/\Fr w w' [d.p]:=by
 have hsv:dA s=.agg (bytes (af s)).toArray:=rfl;have mM:(prog.info? 121).map (·.size)=some (bytes (af s)).toArray.size:=by rw[size_toArray,dh _ hs];kernel_rfl
 have cF:Hid (∀w',Below w.heap.size w w'->Zc 230 #[Zp q,.agg (bytes (af s)).toArray] w' fun e w2=>uU a (qQ c S H s) w'.heap.size e w2/\aB w2 d S/\Fr w' w2 [d.p]):=fun w' hb=>Ko (h.below hb) s hs;have HR:Hid (uy c S H s=match qQ c S H s with | .ok x=>ql c S H x.2 ⟨#[]⟩ | .error loc=>.error loc):=rfl;have hfx:∀x,qQ c S H s=.ok x->x.1<=1536/\x.2.length<=16/\∀y∈x.2,y.size=32:=fun x hx=>Kq hx;have cT:Hid (∀(x:Zy) w',x.size=32->aB w' d S->Fr w w' [d.p]->Zc 180 #[Zp q,.int .u8 1,.agg (bytes (af x)).toArray] w' fun e w2=>mX a (fu c S H 1 x) w'.heap.size e w2/\aB w2 d S/\Fr w' w2 [d.p]):=fun x w' hx hd hf=>yg (h.read hd hf) 1 (by omega) x hx;have hsz:Hid (∀x t,fu c S H 1 x=.ok t->t.size<=1000):=fun x t ht=>Ul h.ok h.fit ht;rw[HR.out,hsv];generalize bytes (af s)=CK at *;generalize qQ c S H s=X at *;have hdp:d.p<w.heap.size:=h.at_.dev.row.lt;have GR:Hid (∀b∈d.blocks,b<w.heap.size):=h.at_.dev.lt;clear h hsv HR;cases X with
 | error loc=>
  go_enter func239,ntmps239;go_upto_region 1 with fail
  have r3:=ai.new w 121 CK;have hbW:Below w.heap.size w (w.alloc (.cells CK.toArray 121)):=(Zr).alloc (Zn) _;have M6:=cF.out _ hbW;generalize(w.alloc (.cells CK.toArray 121))=W at *;go_wp2_with(first
   | (refine wpList_load_row rfl 121 _ rfl w.heap.size rfl _ _ _ _ r3.heap underlying121 rfl mM ?_)
   | (go_at_call 230;refine Calls.mono M6 ?_;rintro e w2 ⟨⟨b,rfl,hb⟩,hd2,hf2⟩;unfold sJ))
  refine bodyPost_ret (results_tmp2 rfl _ _ _) rfl ?_;have bA:Below w2.heap.size w2 (w2.alloc (.cells #[.int .i64 0,.slice none 0 0] 360)):=(Zr).alloc (Zn) _;exact⟨⟨b,rfl,hb.below bA hb.lt⟩,hd2.below bA,((Fr.of_below hbW _).trans hf2 (fun x hx _=>hx)).alloc _⟩
 | ok x=>
  obtain⟨n,l⟩:=x;obtain⟨hn,hll,hl⟩:=hfx _ rfl;simp only at hn hll hl;obtain⟨R,HR⟩:∃R,Hid (ql c S H l ⟨#[]⟩=R):=⟨_,rfl⟩;show Calls _ _ _ _ fun e w'=>mX a (ql c S H l ⟨#[]⟩) w.heap.size e w'/\aB w' d S/\Fr w w' [d.p];rw[HR.out];go_enter func239,ntmps239;go_upto_region 1 with fail
  have r3:=ai.new w 121 CK;have hbW:Below w.heap.size w (w.alloc (.cells CK.toArray 121)):=(Zr).alloc (Zn) _;have M6:=cF.out _ hbW;have hWl:=hbW.size;generalize(w.alloc (.cells CK.toArray 121))=W at *;go_wp2_with(first
   | (refine wpList_load_row rfl 121 _ rfl w.heap.size rfl _ _ _ _ r3.heap underlying121 rfl mM ?_)
   | (go_at_call 230;refine Calls.mono M6 ?_;rintro e w2 ⟨⟨ao,co,rfl,hO2⟩,hd2,hf2⟩))
  have bA:Below w2.heap.size w2 ((w2.alloc (.cells #[Zi n,.slice ao l.length co] 360)).alloc (.cells #[.pointer none,.slice none 0 0] 275)):=((Zr).alloc (Zn) _).alloc (by simp) _;have hO3:=fB hO2 bA;have hd3:=hd2.below bA;have F3:Fr w ((w2.alloc (.cells #[Zi n,.slice ao l.length co] 360)).alloc (.cells #[.pointer none,.slice none 0 0] 275)) [d.p]:=(((Fr.of_below hbW _).trans hf2 (fun x hx _=>hx)).alloc _).alloc _;have r8:=ai.new (w2.alloc (.cells #[Zi n,.slice ao l.length co] 360)) 275 [.pointer none,.slice none 0 0];rw[show(w2.alloc (.cells #[Zi n,.slice ao l.length co] 360)).heap.size=w2.heap.size+1 by simp] at r8;have hOg:∀g,(Value.slice ao l.length co).ownBlock=some g->W.heap.size<=g/\g<w2.heap.size+1:=fun g hg=>⟨(hO2.lt g hg).1,by have:=(hO2.lt g hg).2;omega⟩;have hl2:=hf2.size;have h28:w2.heap.size+1<((w2.alloc (.cells #[Zi n,.slice ao l.length co] 360)).alloc (.cells #[.pointer none,.slice none 0 0] 275)).heap.size:=by simp
  generalize((w2.alloc (.cells #[Zi n,.slice ao l.length co] 360)).alloc (.cells #[.pointer none,.slice none 0 0] 275))=W3 at *;generalize hB8:w2.heap.size+1=B8 at *;have hbu:IsBuilder 275 5 B8 B8 (strCells ⟨#[]⟩) W3:=.inl ⟨Zn,.slice none 0 0,r8.heap,World.ownsRow_nil _ _ _ _,by simp[Value.ownBlock]⟩;have HO:Hid _:=hO3;have HOg:Hid _:=hOg;have HL:Hid _:=hl;have vv:Hid (∀x:Zy,x.size=32->(bytes (replicate 32 0)).toArray.size=(bytes (af x)).toArray.size):=fun x hx=>by rw[size_toArray,size_toArray,dh x hx];rfl
  have hiCx:Hid (∀x:Zy,x.size=32->(prog.info? 121).map (·.size)=some (bytes (af x)).length):=fun x hx=>by rw[dh x hx];kernel_rfl
  clear bA hO2 hO3 hd2 hf2 r8 cF M6 hOg hl;have Hb0:Hid _:=hbu;have Hd0:Hid _:=hd3;have HF0:Hid _:=F3;clear hbu hd3 F3;go_loopw [25] (fun iv wr=>∃(j:Nat) (acc:Zy),j<=l.length/\iv=.int .i64 j/\acc.size<=1000*j/\Hid (IsBuilder 275 5 B8 B8 (strCells acc) wr)/\Hid (aB wr d S)/\Hid (Fr w wr [d.p])/\Hid (∀g,g<B8->g≠d.p->g<W3.heap.size->wr.heap[g]? =W3.heap[g]?)/\Hid (ql c S H (l.drop j) acc=R)/\B8<wr.heap.size) (fun iv _=>l.length-(Go.RowKit.intOf iv).toNat)
  case atStart=>exact⟨0,⟨#[]⟩,by omega,rfl,by decide,Hb0.out,Hd0.out,HF0.out,(fun _ _ _ _=>rfl),HR.out,h28⟩
  case round=>
   obtain⟨j,acc,hj,rfl,hacc,HBu,HD,HF,HK,HRj,hB8r⟩:=hrel;by_cases hlt:j<l.length
   ·have i0:(0:Int)<=(j:Int):=by omega
    have i1:(j:Int)<(l.length:Int):=by omega
    obtain⟨g,rfl,hbg,hgl,hrg⟩:=dH HO.out (by omega);have hgp:g≠d.p:=by have:=(HOg.out g rfl).1;omega
    have hx:=HL.out l[j] (Zg hlt);have hdrop:l.drop j=l[j]::l.drop (j+1):=drop_eq_getElem_cons hlt;have hRj:=HRj.out;rw[hdrop,ql] at hRj;have Mw:Hid (wr.rangeAt g (j*32) (bytes (af l[j]))):=fun k v hv=>by
     rw[<-iB _ 32 (fun x hx=>dh x (HL.out x hx)) hrg j hlt k v hv];exact World.cell?_of_block (HK.out g (HOg.out g rfl).2 hgp hgl)
    have jR:=hiCx.out l[j] hx;have hsCj:=vv.out l[j] hx;have om:=bY (af l[j]);have QX:(prog.info? 121).map (·.size)=some (bytes (af l[j])).toArray.size:=jR;have cTj:Hid (∀w',aB w' d S->Fr w w' [d.p]->Zc 180 #[Zp q,.int .u8 1,.agg (bytes (af l[j])).toArray] w' fun e w2=>mX a (fu c S H 1 l[j]) w'.heap.size e w2/\aB w2 d S/\Fr w' w2 [d.p]):=fun w' h1 h2=>cT.out l[j] w' hx h1 h2;have hszj:∀t,fu c S H 1 l[j]=.ok t->t.size<=1000:=fun t ht=>hsz.out _ t ht;generalize fu c S H 1 l[j]=Y at *;generalize bytes (af l[j])=C at *;have bB:Below wr.heap.size wr (wr.alloc (.cells C.toArray 121)):=(Zr).alloc (Zn) _;have cT2:=cTj.out _ (HD.out.below bB) (HF.out.alloc _);have rC:=ai.new wr 121 C;have hal:wr.heap.size<(wr.alloc (.cells C.toArray 121)).heap.size:=by simp
    cases Y with
    | error loc=>
     have hfin:Hid (R=.error loc):=hRj.symm;go_wp2_with(first
      | (refine wpList_load_mid rfl 121 _ rfl g (j*32) rfl C _ Mw.out underlying121 rfl jR ?_)
      | (refine aJ rfl 121 _ _ rfl wr.heap.size _ C.toArray rfl rfl rfl jR hsCj om ?_)
      | (refine wpList_load_row rfl 121 _ rfl wr.heap.size rfl _ _ _ _ rC.heap underlying121 rfl QX ?_)
      | (go_at_call 180;refine Calls.mono cT2 ?_;rintro e w5 ⟨⟨b,rfl,hb⟩,hd5,qR⟩;unfold sJ))
     refine bodyPost_ret (results_tmp2 rfl _ _ _) rfl ?_;rw[hfin.out];exact⟨⟨b,rfl,hb⟩,hd5,(HF.out.alloc _).trans qR (fun x hx _=>hx)⟩
    | ok t=>
     have ht:=hszj t rfl;have hnext:Hid (ql c S H (l.drop (j+1)) (acc++t)=R):=hRj;go_wp2_with(first
      | (refine wpList_load_mid rfl 121 _ rfl g (j*32) rfl C _ Mw.out underlying121 rfl jR ?_)
      | (refine aJ rfl 121 _ _ rfl wr.heap.size _ C.toArray rfl rfl rfl jR hsCj om ?_)
      | (refine wpList_load_row rfl 121 _ rfl wr.heap.size rfl _ _ _ _ rC.heap underlying121 rfl QX ?_)
      | (go_at_call 180;refine Calls.mono cT2 ?_;rintro e w5 ⟨rfl,hd5,qR⟩)
      | (go_at_call 213;refine Calls.mono (QV (yh (yh HBu.out (Fr.of_below bB []) (by simp)) qR (by intro x hx;rw[Zm.1 hx];omega)) t (by rw[strCells_length];omega) (by have:=qR.size;omega)) ?_;rintro e w6 ⟨rfl,hbu6,hb6⟩))
     have hl5:=qR.size;refine⟨⟨j+1,acc++t,by omega,rfl,by rw[ByteArray.size_append];omega,?_,?_,?_,?_,hnext.out,by have:=hb6.size;omega⟩,?_⟩
     ·rw[kK];exact hbu6
     ·exact hd5.fr (uV hb6) (fun b hb hm=>by have:=GR.out b hb;have:=(yj.1 hm).2;omega)
     ·exact((HF.out.alloc _).trans qR (fun x hx _=>hx)).trans (uV hb6) (fun x hx hlx=>by have:=(yj.1 hx).2;omega)
     ·intro x hx1 hx2 hx3;have hxr:x<wr.heap.size:=by omega
      exact((hb6.block x hx1).trans ((qR.block x (by omega) (by simp;exact hx2)).trans (heap_alloc_old wr _ hxr))).trans (HK.out x hx1 hx2 hx3)
     ·show l.length-((j+1:Nat):Int).toNat<l.length-(j:Int).toNat;omega
   ·have i1:¬(j:Int)<(l.length:Int):=by omega
    have hfin:Hid (R=.ok acc):=by
     have:=HRj.out;rw[drop_of_length_le (by omega)] at this;exact this.symm
    go_wp2_with(go_at_call 215;refine Calls.mono (QW HBu.out (by omega)) ?_;rintro e w6 ⟨rfl,hb6⟩);refine bodyPost_ret (results_tmp2 rfl _ _ _) rfl ?_;rw[hfin.out];exact⟨rfl,HD.out.fr (uV hb6) (fun b hb hm=>by have:=GR.out b hb;have:=(yj.1 hm).2;omega),HF.out.trans (uV hb6) (fun x hx hlx=>by have:=(yj.1 hx).2;omega)⟩
end
section
open Go.RowKit Go.Maps
structure qA(w:World)(L:List It)(P:Zy->Prop)(blk mblk:Zy->Nat)(B:Nat):Prop where
 dir:∀z,P z->bC L z->w.cell? (Za (blk z) 0)=some (.map (some (mblk z)))/\w.cell? (Za (blk z) 1)=some (.string ⟨#[]⟩)/\lC w L z (mblk z) blk/\B<=mblk z
 file:∀y∈L,P y.path->y.dir=false->w.cell? (Za (blk y.path) 0)=some (.map none)/\w.cell? (Za (blk y.path) 1)=some (.string y.data)
 apart:∀x y,P x->P y->bC L x->bC L y->mblk x=mblk y->x=y
 low:∀z,P z->(bC L z\/∃y∈L,y.path=z)->B<=blk z
def Kept(w w':World)(B:Nat):Prop:=∀k,B<=k->k<w.heap.size->w'.heap[k]? =w.heap[k]?
theorem qA.keep(h:qA w L P blk mblk B)(hk:Kept w w' B):qA w' L P blk mblk B:=by
 refine⟨fun z hz hd=>?_,fun y hy hp hd=>?_,h.apart,h.low⟩
 ·obtain⟨h1,h2,h3,h4⟩:=h.dir z hz hd;have hb:=h.low z hz (.inl hd);have e:=hk _ hb (Zd h1);exact⟨ay h1 e,ay h2 e,h3.kept (hk _ h4 h3.lt),h4⟩
 ·obtain⟨h1,h2⟩:=h.file y hy hp hd;have e:=hk _ (h.low y.path hp (.inr ⟨y,hy,rfl⟩)) (Zd h1);exact⟨ay h1 e,ay h2 e⟩
theorem lC.other(h:lC w L p mb blk)(he:∀k∈aj p L,mr (aA p k)=blk (aA p k)):lC w L p mb mr:=by
 obtain⟨D,h1,h2,h3⟩:=h;exact⟨D,h1,h2,fun k hk z=>by rw[he k hk];exact h3 k hk z⟩
open Classical in
noncomputable def merge(P:Zy->Prop)(f g:Zy->Nat):Zy->Nat:=fun z=>if P z then f z else g z
theorem iK(h:P z):merge P f g z=f z:=by unfold merge;rw[if_pos h]
theorem iL(h:¬P z):merge P f g z=g z:=by unfold merge;rw[if_neg h]
theorem qA.join(h:qA w L P blk mblk B)(h':qA w L Q mr qi M)(hBM:B<=M)(hlow:∀z,P z->bC L z->mblk z<M)(sI:∀z,P z->¬Q z)
  (hP:∀z k,P z->k∈aj z L->P (aA z k)) (hQ:∀z k,Q z->k∈aj z L->Q (aA z k)):qA w L (fun z=>P z\/Q z) (merge Q mr blk) (merge Q qi mblk) B:=by
 refine⟨fun z hz hd=>?_,fun y hy hp hd=>?_,fun x y hx hy Pn hdy he=>?_,fun z hz hzz=>?_⟩
 ·by_cases hq:Q z
  ·obtain⟨h1,h2,h3,h4⟩:=h'.dir z hq hd;rw[iK hq,iK hq];exact⟨h1,h2,h3.other (fun k hk=>iK (hQ z k hq hk)),Nat.le_trans hBM h4⟩
  ·have hpz:=hz.resolve_right hq;obtain⟨h1,h2,h3,h4⟩:=h.dir z hpz hd;rw[iL hq,iL hq];exact⟨h1,h2,h3.other (fun k hk=>iL (sI _ (hP z k hpz hk))),h4⟩
 ·by_cases hq:Q y.path
  ·rw[iK hq];exact h'.file y hy hq hd
  ·rw[iL hq];exact h.file y hy (hp.resolve_right hq) hd
 ·by_cases hqx:Q x
  ·by_cases WO:Q y
   ·rw[iK hqx,iK WO] at he;exact h'.apart x y hqx WO Pn hdy he
   ·have hpy:=hy.resolve_right WO;rw[iK hqx,iL WO] at he;have h1:=(h'.dir x hqx Pn).2.2.2;have h2:=hlow y hpy hdy;omega
  ·have hpx:=hx.resolve_right hqx;by_cases WO:Q y
   ·rw[iL hqx,iK WO] at he;have h1:=(h'.dir y WO hdy).2.2.2;have h2:=hlow x hpx Pn;omega
   ·rw[iL hqx,iL WO] at he;exact h.apart x y hpx (hy.resolve_right WO) Pn hdy he
 ·by_cases hq:Q z
  ·rw[iK hq];exact Nat.le_trans hBM (h'.low z hq hzz)
  ·rw[iL hq];exact h.low z (hz.resolve_right hq) hzz
theorem wP(ok:aC L)(hy:y∈L)(hd:y.dir=false):¬bC L y.path:=by
 rintro(h|⟨x,hx,he,hxd⟩)
 ·obtain⟨p,k,h1,h2,_⟩:=ok.up y hy;exact ja p k h2 (h1.symm.trans h)
 ·have:=yX x y he L ok.apart hx hy;rw[this,hd] at hxd;cases hxd
theorem Fq(ok:aC L)(h:fZ p z):(∃y∈L,y.path=z)->bC L p:=by
 induction h with
 | one k hk=>
  rintro⟨y,hy,he⟩;obtain⟨p',k',h1,h2,h3⟩:=ok.up y hy;rw[he] at h1;rw[(ig hk h2 h1).1];exact h3
 | more q k hq hk ih=>
  rintro⟨y,hy,he⟩;obtain⟨p',k',h1,h2,h3⟩:=ok.up y hy;rw[he] at h1;have e:=(ig hk h2 h1).1;rw[<-e] at h3;rcases h3 with h3|⟨x,hx,hxe,_⟩
  ·exact absurd h3 hq.ne
  ·exact ih ⟨x,hx,hxe⟩
theorem BZ(h:bC L z\/∃y∈L,y.path=z)(hz:z≠⟨#[]⟩):∃y∈L,y.path=z:=by
 rcases h with(h|⟨y,hy,he,_⟩)|h
 ·exact absurd h hz
 ·exact⟨y,hy,he⟩
 ·exact h
theorem QY(ok:aC L){k:Zy}(hk:aO (af k)=true)(h:UE (aA p k) z)(hz:bC L z\/∃y∈L,y.path=z):k∈aj p L:=by
 have hne:z≠⟨#[]⟩:=(UE.under hk h).ne;have hin:∃y∈L,y.path=aA p k:=by
  rcases h with h|h
  ·rw[h];exact BZ hz hne
  ·exact BZ (.inl (Fq ok h (BZ hz hne))) (ja p k hk)
 obtain⟨y,hy,he⟩:=hin;exact(bD ok p k).2 ⟨hk,y,hy,he⟩
def jJ(w:World)(L:List It)(p:Zy)(d:DP)(S:Dk)(e:Ending)(w':World):Prop:=
 ∃b blk mblk,e=.returned (.tuple #[Zp b,.nilIface])/\blk p=b/\qA w' L (UE p) blk mblk w.heap.size/\aB w' d S/\Fr w w' [d.p]
theorem WQ(ok:aC L)(hy:y∈L)(hd:y.dir=false)(h0:w.cell? (Za nb 0)=some (.map none))(h1:w.cell? (Za nb 1)=some (.string y.data))(hB:B<=nb):qA w L (UE y.path) (fun _=>nb) (fun _=>nb) B:=by
 have hno:∀z,UE y.path z->(bC L z\/∃x∈L,x.path=z)->z=y.path/\¬bC L z:=by
  intro z hz hzz;rcases hz with rfl|hz
  ·exact⟨rfl,wP ok hy hd⟩
  ·exact absurd (Fq ok hz (BZ hzz hz.ne)) (wP ok hy hd)
 refine⟨fun z hz hdz=>absurd hdz (hno z hz (.inl hdz)).2,fun x hx hp hxd=>?_,fun x z hx _ Pn _ _=>absurd Pn (hno x hx (.inl Pn)).2,fun _ _ _=>hB⟩;have:=yX x y (hno x.path hp (.inr ⟨x,hx,rfl⟩)).1 L ok.apart hx hy;rw[this];exact⟨h0,h1⟩
theorem wQ{x:Ln}(r:ai w b 353 x.cells):w.cell? (Za b 0)=some (.string x.name)/\w.cell? (Za b 1)=some (.bool x.dir)/\w.rangeAt b 2 (bytes (af x.sum)):=
 ⟨r.cell 0,r.cell 1,fun k v hv=>by rw[r.cell (2+k)];unfold Ln.cells au;rw[show 2+k=k+1+1 by omega,getElem?_cons_succ,getElem?_cons_succ];exact hv⟩
theorem Ca{c:dz}(h:kD a c w q d S ms H)(QZ:aC L)(x:Ln)(hxs:x.sum.size=32)(hxd:x.dir=false)(hy:y∈L)(MP:y.dir=false)(hc:uy c S H x.sum=.ok y.data):
  Zc 225 #[Zp q,.agg x.cells.toArray] w (jJ w L y.path d S):=by
 have jR:(prog.info? 121).map (·.size)=some (bytes (af x.sum)).length:=by rw[dh _ hxs];kernel_rfl
 have cC:Hid (∀w',Below w.heap.size w w'->Zc 239 #[Zp q,.agg (bytes (af x.sum)).toArray] w' fun e w2=>e=.returned (.tuple #[.string y.data,.nilIface])/\aB w2 d S/\Fr w' w2 [d.p]):=fun w' hb=>by
  have:=Pm (h.below hb) x.sum hxs;rw[hc] at this;exact this
 have hds:=QZ.data y hy;have cN:Hid (∀w',Zc 164 #[.string y.data] w' fun e w2=>∃v,e=.returned v/\Aw w' w2 v none y.data/\Below w'.heap.size w' w2):=fun w'=>wo y.data w' (by omega);have aaD:Hid (∀(w':World) (nb:Nat),w'.cell? (Za nb 0)=some (.map none)->w'.cell? (Za nb 1)=some (.string y.data)->w.heap.size<=nb->qA w' L (UE y.path) (fun _=>nb) (fun _=>nb) w.heap.size):=fun w' nb h0 h1 hB=>WQ QZ hy MP h0 h1 hB;have hdp:d.p<w.heap.size:=h.at_.dev.row.lt;have r3:=ai.new w 353 x.cells;have hbW:Below w.heap.size w (w.alloc (.cells x.cells.toArray 353)):=(Zr).alloc (Zn) _;obtain⟨_,c1,cR⟩:=wQ r3;rw[hxd] at c1;have cC':=cC.out _ hbW;generalize bytes (af x.sum)=CS at *;generalize x.cells=C at *;go_enter func225,ntmps225;go_upto_region 1 with fail
 generalize(w.alloc (.cells C.toArray 353))=W at *;go_wp2_with(first
  | (refine wpList_load_mid rfl 121 _ rfl w.heap.size 2 rfl CS _ cR underlying121 rfl jR ?_)
  | (go_at_call 239;refine Calls.mono cC' ?_;rintro e w2 ⟨rfl,hd2,hf2⟩)
  | (go_at_call 164;refine Calls.mono (cN.out _) ?_;rintro e w3 ⟨v,rfl,⟨nb,rfl,hn1,hn2,hn3,Q5⟩,hb3⟩))
 refine bodyPost_ret (results_tmp2 rfl _ _ _) rfl ?_;have hs2:=hf2.size;have hsW:=hbW.size;exact⟨nb,fun _=>nb,fun _=>nb,rfl,rfl,aaD.out w3 nb hn3 Q5 (by omega),hd2.below hb3,((Fr.of_below hbW _).trans hf2 (fun x hx _=>hx)).trans (Fr.of_below hb3 _) (fun x hx _=>hx)⟩
theorem Ed(x:Ln)(hxs:x.sum.size=32)(hxd:x.dir=true)(p:Zy)(cG:∀w',Below w.heap.size w w'->Zc 154 #[Zp q,dA x.sum] w' (jJ w' L p d S)):
  Zc 225 #[Zp q,.agg x.cells.toArray] w (jJ w L p d S):=by
 have jR:(prog.info? 121).map (·.size)=some (bytes (af x.sum)).length:=by rw[dh _ hxs];kernel_rfl
 have cG':Hid (∀w',Below w.heap.size w w'->Zc 154 #[Zp q,.agg (bytes (af x.sum)).toArray] w' (jJ w' L p d S)):=cG;clear cG;have r3:=ai.new w 353 x.cells;have hbW:Below w.heap.size w (w.alloc (.cells x.cells.toArray 353)):=(Zr).alloc (Zn) _;obtain⟨_,c1,cR⟩:=wQ r3;rw[hxd] at c1;have cC':=cG'.out _ hbW;generalize bytes (af x.sum)=CS at *;generalize x.cells=C at *;go_enter func225,ntmps225;go_upto_region 1 with fail
 generalize(w.alloc (.cells C.toArray 353))=W at *;go_wp2_with(first
  | (refine wpList_load_mid rfl 121 _ rfl w.heap.size 2 rfl CS _ cR underlying121 rfl jR ?_)
  | (go_at_call 154;refine Calls.mono cC' ?_;rintro e w2 ⟨b,blk,mblk,rfl,hbp,hsub,hd2,hf2⟩))
 refine bodyPost_ret (results_tmp2 rfl _ _ _) rfl ?_;have hsW:=hbW.size;exact⟨b,blk,mblk,rfl,hbp,⟨fun z hz hd=>by obtain⟨h1,h2,h3,h4⟩:=hsub.dir z hz hd;exact⟨h1,h2,h3,by omega⟩,hsub.file,hsub.apart,fun z hz hzz=>by have:=hsub.low z hz hzz;omega⟩,hd2,(Fr.of_below hbW _).trans hf2 (fun x hx _=>hx)⟩
def Po(c:dz)(S:Dk)(H:List Ob)(L:List It):Nat->Zy->Zy->Prop
 | 0,_,_=>False
 | f+1,s,p=>s.size=32/\bC L p/\∃l,wO c S H s=.ok l/\(∀x∈l,x.sum.size=32/\aO (af x.name)=true)/\(l.map Ln.name).Nodup/\(∀k,k∈aj p L↔k∈l.map Ln.name)/\l.length<=16/\
   ∀x∈l,(x.dir=true->Po c S H L f x.sum (aA p x.name))/\(x.dir=false->∃y∈L,y.path=aA p x.name/\y.dir=false/\uy c S H x.sum=.ok y.data)
theorem qA.congr(h:qA w L P blk mblk B)(e:∀z,Q z->P z):qA w L Q blk mblk B:=
 ⟨fun z hz=>h.dir z (e z hz),fun y hy hp=>h.file y hy (e _ hp),fun x y hx hy=>h.apart x y (e _ hx) (e _ hy),fun z hz=>h.low z (e z hz)⟩
theorem UE.kid{k:Zy}(h:UE p z)(hk:aO (af k)=true):UE p (aA z k):=by
 rcases h with rfl|h
 ·exact .inr (.one k hk)
 ·exact .inr (.more z k h hk)
theorem uz(ok:aC L){k:Zy}(h:k∈aj p L):aO (af k)=true:=((bD ok p k).1 h).1
def Cov(l:List Ln)(p:Zy)(j:Nat)(z:Zy):Prop:=∃x∈l.take j,UE (aA p x.name) z
theorem Nw(h:w.ownsMap prog 9 eD b n D)(f:Fr w w' bs)(hb:b∉bs):w'.ownsMap prog 9 eD b n D:=by
 have hlt:=World.ownsMap.lt h;obtain⟨es,clock,h1,F,hs,hD⟩:=h;exact⟨es,clock,(f.block b hlt hb).trans h1,F,hs,hD⟩
structure jq(w:World)(L:List It)(l:List Ln)(p:Zy)(nb mb B1 j:Nat)(D:DataW Unit)(blk mblk:Zy->Nat):Prop where
 own:w.ownsMap prog 9 eD mb j D
 has:∀k:Zy,Maps.has D (.string k.data.toList)=true↔k∈(l.take j).map Ln.name
 get:∀x∈l.take j,∀z,D.atKey (.string x.name.data.toList) z=.lit (.int .i64 (blk (aA p x.name):Nat))
 map:IsMap D
 c0:w.cell? (Za nb 0)=some (.map (some mb))
 c1:w.cell? (Za nb 1)=some (.string ⟨#[]⟩)
 sub:qA w L (Cov l p j) blk mblk B1
 lt:nb<B1/\mb<B1/\B1<=w.heap.size
theorem jq.keep(h:jq w L l p nb mb B1 j D blk mblk)(f:Fr w w' bs)(hb:∀b∈bs,b<B1/\b≠nb/\b≠mb):jq w' L l p nb mb B1 j D blk mblk:=
 ⟨Nw h.own f (fun hm=>(hb _ hm).2.2 rfl),h.has,h.get,h.map,ay h.c0 (f.block nb (Nat.lt_of_lt_of_le h.lt.1 h.lt.2.2) (fun hm=>(hb _ hm).2.1 rfl)),ay h.c1 (f.block nb (Nat.lt_of_lt_of_le h.lt.1 h.lt.2.2) (fun hm=>(hb _ hm).2.1 rfl)),
  h.sub.keep (fun k hk1 hk2=>f.block k hk2 (fun hm=>by have:=(hb _ hm).1;omega)),⟨h.lt.1,h.lt.2.1,Nat.le_trans h.lt.2.2 f.size⟩⟩
theorem yo(hn:(l.map Ln.name).Nodup)(hj:j<l.length){x:Ln}(hx:x∈l.take j):x.name≠l[j].name:=by
 obtain⟨i,hi,rfl⟩:=mem_iff_getElem.1 hx;rw[length_take] at hi;rw[getElem_take];have h1:i<(l.map Ln.name).length:=by simp;omega
 have h2:j<(l.map Ln.name).length:=by simp;omega
 have:=pairwise_iff_getElem.1 hn i j h1 h2 (by omega);simpa using this
theorem jq.step(ok:aC L)(hj:j<l.length)(hnd:(l.map Ln.name).Nodup)(hnm:∀x∈l,aO (af x.name)=true)(h:jq w5 L l p nb mb B1 j D blk mblk)
  (hlow:∀z,Cov l p j z->bC L z->mblk z<M) (hM:B1<=M) (hch:qA w5 L (UE (aA p l[j].name)) mr qi M) (ho:w6.ownsMap prog 9 eD mb (j+1) (D.put (.string l[j].name.data.toList) (.lit (.int .i64 (mr (aA p l[j].name):Nat))))) (f:Fr w5 w6 [mb]) (hne:nb≠mb):
  ∃D' Ee yt,jq w6 L l p nb mb B1 (j+1) D' Ee yt:=by
 have hxn:=hnm l[j] (Zg hj);have sI:∀z,Cov l p j z->¬UE (aA p l[j].name) z:=by
  rintro z ⟨x,hx,hu⟩ hu2;exact yo hnd hj hx (UE.unique (hnm x (mem_of_mem_take hx)) hxn z.size z (Zn) hu hu2)
 have hk5:Kept w5 w6 B1:=fun k h1 h2=>f.block k h2 (by simp;have:=h.lt.2.1;omega);have s1:=h.sub.keep hk5;have s2:=hch.keep (fun k h1 h2=>hk5 k (by omega) h2);have sj:=s1.join s2 hM hlow sI (fun z k ⟨x,hx,hu⟩ hk=>⟨x,hx,hu.kid (uz ok hk)⟩) (fun z k hu hk=>hu.kid (uz ok hk));have htk:l.take (j+1)=l.take j++[l[j]]:=(take_append_getElem hj).symm;refine⟨_,_,_,⟨ho,fun k=>?_,fun x hx z=>?_,h.map.put _ _,ay h.c0 (f.block nb (Nat.lt_of_lt_of_le h.lt.1 h.lt.2.2) (by simp;exact hne)),ay h.c1 (f.block nb (Nat.lt_of_lt_of_le h.lt.1 h.lt.2.2) (by simp;exact hne)),sj.congr ?_,⟨h.lt.1,h.lt.2.1,Nat.le_trans h.lt.2.2 f.size⟩⟩⟩
 ·rw[htk,map_append,map_singleton,mem_append,Zm,<-h.has k];by_cases e:k=l[j].name
  ·rw[e,Maps.has_put_same h.map (isKey _)];simp
  ·rw[Maps.has_put_other (ze e)];simp[e]
 ·rw[htk] at hx;rcases mem_append.1 hx with hx|hx
  ·have hne2:=yo hnd hj hx;rw[Maps.atKey_put_other (ze hne2),h.get x hx,iL (sI _ ⟨x,hx,.inl rfl⟩)]
  ·rw[Zm.1 hx,Maps.atKey_put_same h.map (isKey _),iK (.inl rfl)]
 ·rintro z ⟨x,hx,hu⟩;rw[htk] at hx;rcases mem_append.1 hx with hx|hx
  ·exact .inl ⟨x,hx,hu⟩
  ·rw[Zm.1 hx] at hu;exact .inr hu
def isP(p z:Zy):Prop:=z=p
theorem uW:merge (isP p) f g p=f p:=iK rfl
theorem mY(h:z≠p):merge (isP p) f g z=g z:=iL h
theorem jq.done(ok:aC L)(Um:bC L p)(hk:∀k,k∈aj p L↔k∈l.map Ln.name)(h:jq w L l p nb mb B1 l.length D blk mblk)(hB:B<=nb/\B<=mb):
  ∃Ee yt,Ee p=nb/\qA w L (UE p) Ee yt B:=by
 have hhas:=h.has;have hget:=h.get;have hsub:=h.sub;rw[take_length] at hhas hget;have Ny:∀z,UE p z->(bC L z\/∃y∈L,y.path=z)->z≠p->Cov l p l.length z:=by
  intro z hz hzz hne;rcases hz with rfl|hz
  ·exact absurd rfl hne
  ·obtain⟨k,hkn,hu⟩:=hz.first;have:=(hk k).1 (QY ok hkn hu hzz);obtain⟨x,hx,rfl⟩:=mem_map.1 this;exact⟨x,by rw[take_length];exact hx,hu⟩
 have hgt:∀z k,k∈aj z L->aA z k≠z:=fun z k hkk e=>by
  have:=gN z k (uz ok hkk);rw[e] at this;omega
 refine⟨merge (isP p) (fun _=>nb) blk,merge (isP p) (fun _=>mb) mblk,uW,?_,?_,?_,?_⟩
 ·intro z hz hd;by_cases e:z=p
  ·subst e;rw[uW,uW];refine⟨h.c0,h.c1,⟨D,mU h.own,fun k=>(hhas k).trans (hk k).symm,fun k hkk y=>?_⟩,hB.2⟩;obtain⟨x,hx,rfl⟩:=mem_map.1 ((hk k).1 hkk);rw[hget x hx,mY (hgt _ _ hkk)]
  ·rw[mY e,mY e];obtain⟨h1,h2,h3,h4⟩:=hsub.dir z (Ny z hz (.inl hd) e) hd;refine⟨h1,h2,h3.other (fun k hkk=>mY (fun e2=>?_)),by have:=h.lt.2.1;omega⟩;have hu:=hz.kid (uz ok hkk);rcases hz with e3|hz
   ·exact e e3.symm
   ·have h5:=hz.gt;have h6:=gN z k (uz ok hkk);rw[e2] at h6;omega
 ·intro y hy hp hd;by_cases e:y.path=p
  ·exfalso;exact wP ok hy hd (by rw[e];exact Um)
  ·rw[mY e];exact hsub.file y hy (Ny _ hp (.inr ⟨y,hy,rfl⟩) e) hd
 ·intro x y hx hy Pn hdy he;by_cases ex:x=p
  ·by_cases ey:y=p
   ·rw[ex,ey]
   ·rw[ex,uW,mY ey] at he;have:=(hsub.dir y (Ny y hy (.inl hdy) ey) hdy).2.2.2;have:=h.lt.2.1;omega
  ·by_cases ey:y=p
   ·rw[ey,mY ex,uW] at he;have:=(hsub.dir x (Ny x hx (.inl Pn) ex) Pn).2.2.2;have:=h.lt.2.1;omega
   ·rw[mY ex,mY ey] at he;exact hsub.apart x y (Ny x hx (.inl Pn) ex) (Ny y hy (.inl hdy) ey) Pn hdy he
 ·intro z hz hzz;by_cases e:z=p
  ·rw[e,uW];exact hB.1
  ·rw[mY e];have:=hsub.low z (Ny z hz hzz e) hzz;have:=h.lt.1;omega
theorem Ef{c:dz}(h:kD a c w q d S ms H)(QZ:aC L)(s p:Zy)(hs:s.size=32)(Um:bC L p)(l:List Ln)(vZ:wO c S H s=.ok l)(hl:∀x∈l,x.sum.size=32/\aO (af x.name)=true)(hnd:(l.map Ln.name).Nodup)(Yu:∀k,k∈aj p L↔k∈l.map Ln.name)(hll:l.length<=16)
  (cB:∀x∈l,∀w',kD a c w' q d S ms H->Zc 225 #[Zp q,.agg x.cells.toArray] w' (jJ w' L (aA p x.name) d S)):
  Zc 154 #[Zp q,dA s] w (jJ w L p d S):=by
 have hsv:dA s=.agg (bytes (af s)).toArray:=rfl;have mM:(prog.info? 121).map (·.size)=some (bytes (af s)).toArray.size:=by rw[size_toArray,dh _ hs];kernel_rfl
 have cD:Hid (∀w',Below w.heap.size w w'->Zc 224 #[Zp q,.agg (bytes (af s)).toArray] w' fun e w2=>(∃ao co,e=.returned (.tuple #[.slice ao l.length co,.nilIface])/\w2.ownsRow w'.heap.size 353 34 (.slice ao l.length co) l.length (fO l))/\aB w2 d S/\Fr w' w2 [d.p]):=fun w' hb=>by
  have:=sK (h.below hb) s hs;rw[vZ] at this;exact this
 have cN:Hid (∀w',Zc 92 #[] w' fun e w2=>∃v mb,e=.returned v/\Aw w' w2 v (some mb) ⟨#[]⟩/\w'.heap.size<=mb/\w2.ownsMap (H:=Unit) prog 9 eD mb 0 (.map [])/\Below w'.heap.size w' w2):=fun w'=>zb w';have cBB:Hid (∀x∈l,∀w',aB w' d S->Fr w w' [d.p]->Zc 225 #[Zp q,.agg x.cells.toArray] w' (jJ w' L (aA p x.name) d S)):=fun x hx w' h1 h2=>cB x hx w' (h.read h1 h2);rw[hsv];generalize bytes (af s)=CK at *;have hdp:d.p<w.heap.size:=h.at_.dev.row.lt;have GR:Hid (∀b∈d.blocks,b<w.heap.size):=h.at_.dev.lt;have HL:Hid _:=hl;have HK:Hid _:=Yu;have HN:Hid _:=hnd;have HPD:Hid _:=Um;clear h hsv cB hl Yu hnd vZ Um;go_enter func154,ntmps154;go_upto_region 1 with fail
 have r3:=ai.new w 121 CK;have hbW:Below w.heap.size w (w.alloc (.cells CK.toArray 121)):=(Zr).alloc (Zn) _;have Lv:=cD.out _ hbW;have hWl:=hbW.size;generalize(w.alloc (.cells CK.toArray 121))=W at *;go_wp2_with(first
  | (refine wpList_load_row rfl 121 _ rfl w.heap.size rfl _ _ _ _ r3.heap underlying121 rfl mM ?_)
  | (go_at_call 224;refine Calls.mono Lv ?_;rintro e w2 ⟨⟨ao,co,rfl,hO2⟩,hd2,hf2⟩)
  | (go_at_call 92;refine Calls.mono (cN.out _) ?_;rintro e w3 ⟨v,mb,rfl,⟨nb,rfl,hn1,hn2,hn3,Q5⟩,hmb,hom,hb3⟩))
 have hl2:=hf2.size;have hl3:=hb3.size;have hmlt:mb<w3.heap.size:=World.ownsMap.lt hom;have hnm:nb≠mb:=fun e=>by
  obtain⟨es,clock,h1,_⟩:=hom;rw[<-e] at h1;simp[World.cell?,h1] at hn3
 have hG0:jq w3 L l p nb mb w3.heap.size 0 (.map []) (fun _=>0) (fun _=>0):=⟨hom,fun k=>by simp[Maps.has],fun x hx=>by simp at hx,Maps.isMap_empty,hn3,Q5,⟨fun z ⟨x,hx,_⟩=>by simp at hx,fun y _ ⟨x,hx,_⟩=>by simp at hx,fun x y ⟨x',hx,_⟩=>by simp at hx,fun z ⟨x,hx,_⟩=>by simp at hx⟩,⟨hn2,hmlt,Zn⟩⟩;have HO:Hid (w3.ownsRow W.heap.size 353 34 (.slice ao l.length co) l.length (fO l)):=fB hO2 hb3;have HOg:Hid (∀g,(Value.slice ao l.length co).ownBlock=some g->W.heap.size<=g/\g<w2.heap.size):=fun g hg=>hO2.lt g hg;have hd3:Hid _:=hd2.below hb3;have F3:Hid (Fr w w3 [d.p]):=((Fr.of_below hbW _).trans hf2 (fun x hx _=>hx)).trans (Fr.of_below hb3 _) (fun x hx _=>hx);have HG0:Hid _:=hG0;clear hG0 hom hn3 Q5 hb3 hf2 hO2 hd2 cD Lv cN r3 hbW;go_loopw [25] (fun iv wr=>∃(j:Nat) (D:DataW Unit) (blk mblk:Zy->Nat),j<=l.length/\iv=.int .i64 j/\Hid (jq wr L l p nb mb w3.heap.size j D blk mblk)/\Hid (aB wr d S)/\Hid (Fr w wr [d.p])/\Hid (∀g,g<w2.heap.size->g≠d.p->wr.heap[g]? =w3.heap[g]?)) (fun iv _=>l.length-(Go.RowKit.intOf iv).toNat)
 case atStart=>exact⟨0,_,_,_,by omega,rfl,HG0.out,hd3.out,F3.out,fun _ _ _=>rfl⟩
 case round=>
  obtain⟨j,D,blk,mblk,hj,rfl,HG,HD,HF,WR⟩:=hrel;have hlr:=HG.out.lt.2.2;by_cases hlt:j<l.length
  ·have i0:(0:Int)<=(j:Int):=by omega
   have i1:(j:Int)<(l.length:Int):=by omega
   obtain⟨g,rfl,hbg,hgl,hrg⟩:=dH HO.out (by omega);have hgo:=HOg.out g rfl;have hgp:g≠d.p:=by omega
   have hx:=(HL.out l[j] (Zg hlt)).1;have Mw:Hid (wr.rangeAt g (j*34) l[j].cells):=fun k v hv=>by
    rw[<-iB _ 34 (fun x hx=>j5 x (HL.out x hx).1) hrg j hlt k v hv];exact World.cell?_of_block (WR.out g hgo.2 hgp)
   have jR:(prog.info? 353).map (·.size)=some l[j].cells.length:=by rw[j5 _ hx];kernel_rfl
   have QX:(prog.info? 353).map (·.size)=some l[j].cells.toArray.size:=jR;have vv:(au ⟨#[]⟩ false (aI 32)).toArray.size=l[j].cells.toArray.size:=(Eq.trans (b:=34) rfl (j5 _ hx).symm);have om:=vI l[j];have bB:Below wr.heap.size wr (wr.alloc (.cells l[j].cells.toArray 353)):=(Zr).alloc (Zn) _;have cB2:=cBB.out l[j] (Zg hlt) _ (HD.out.below bB) (HF.out.alloc _);have rC:=ai.new wr 353 l[j].cells;have hnz:l[j].name.size<=1000:=Nat.le_trans (ic (HL.out l[j] (Zg hlt)).2) (by omega);have hCN:Hid (∀w',ai w' wr.heap.size 353 l[j].cells->w'.cell? (Za wr.heap.size 0)=some (.string l[j].name)):=fun w' hr=>(wQ hr).1;have aaE:Hid (∀(w5 w6:World) (M b':Nat) (mr qi:Zy->Nat),jq w5 L l p nb mb w3.heap.size j D blk mblk->(∀z,Cov l p j z->bC L z->mblk z<M)->w3.heap.size<=M->qA w5 L (UE (aA p l[j].name)) mr qi M->mr (aA p l[j].name)=b'->w6.ownsMap prog 9 eD mb (j+1) (D.put (.string l[j].name.data.toList) (.lit (.int .i64 (b':Nat))))->Fr w5 w6 [mb]->∃D' Ee yt,jq w6 L l p nb mb w3.heap.size (j+1) D' Ee yt):=fun w5 w6 M b' mr qi h1 h2 h3 h4 h5 h6 h7=>h1.step QZ hlt HN.out (fun x hx=>(HL.out x hx).2) h2 h3 h4 (by rw[h5];exact h6) h7 hnm;have Hm:Hid (∀z,Cov l p j z->bC L z->mblk z<wr.heap.size+1):=fun z hz hdz=>by have:=(HG.out.sub.dir z hz hdz).2.2.1.lt;omega
   have hal:(wr.alloc (.cells l[j].cells.toArray 353)).heap.size=wr.heap.size+1:=by simp
   have HGa:Hid (jq (wr.alloc (.cells l[j].cells.toArray 353)) L l p nb mb w3.heap.size j D blk mblk):=HG.out.keep (Fr.of_below bB []) (by simp);have HFa:Hid (Fr w (wr.alloc (.cells l[j].cells.toArray 353)) [d.p]):=HF.out.alloc _;have HKa:Hid (∀g,g<w2.heap.size->g≠d.p->(wr.alloc (.cells l[j].cells.toArray 353)).heap[g]? =w3.heap[g]?):=fun g h1 h2=>(heap_alloc_old wr _ (by omega)).trans (WR.out g h1 h2);generalize l[j].name=nm at *;generalize l[j].cells=C at *;go_wp2_with(first
    | (refine wpList_load_mid rfl 353 _ rfl g (j*34) rfl C _ Mw.out underlying353 rfl jR ?_)
    | (refine aJ rfl 353 _ _ rfl wr.heap.size _ C.toArray rfl rfl rfl jR vv om ?_;generalize(wr.alloc (.cells C.toArray 353))=W4 at *)
    | (refine wpList_load_row rfl 353 _ rfl wr.heap.size rfl _ _ _ _ rC.heap underlying353 rfl QX ?_)
    | (go_at_call 225;refine Calls.mono cB2 ?_;rintro e w5 ⟨b',mr,qi,rfl,hbp,zV,hd5,qR⟩;have rC5:=qR.row rC (by simp;omega);have c5:=hCN.out w5 rC5;have G5:=HGa.out.keep qR (by intro b hb;rw[Zm.1 hb];have:=HGa.out.lt;exact⟨by omega,by omega,by omega⟩);have cP:=rV G5.own (by omega) G5.c0 nm hnz b')
    | (go_at_call 91;refine Calls.mono cP ?_;rintro e w6 ⟨rfl,Yv,Q6⟩))
   have hl5:=qR.size;rw[hal] at zV;obtain⟨D',Ee,yt,hG6⟩:=aaE.out w5 w6 (wr.heap.size+1) b' mr qi G5 Hm.out (by omega) zV hbp Yv Q6;refine⟨⟨j+1,D',Ee,yt,by omega,rfl,hG6,hd5.fr Q6 (fun b hb hm=>by have:=GR.out b hb;rw[Zm.1 hm] at this;omega),(HFa.out.trans qR (fun x hx _=>hx)).trans Q6 (fun x hx hlx=>by rw[Zm.1 hx] at hlx;omega),fun g h1 h2=>?_⟩,?_⟩
   ·exact((Q6.block g (by omega) (by simp;omega)).trans (qR.block g (by omega) (by simp;exact h2))).trans (HKa.out g h1 h2)
   ·show l.length-((j+1:Nat):Int).toNat<l.length-(j:Int).toNat;omega
  ·have i1:¬(j:Int)<(l.length:Int):=by omega
   obtain rfl:j=l.length:=by omega
   go_wp2;refine bodyPost_ret (results_tmp2 rfl _ _ _) rfl ?_;obtain⟨Ee,yt,hb2,hs2⟩:=HG.out.done QZ HPD.out HK.out (B:=w.heap.size) ⟨by omega,by omega⟩;exact⟨nb,Ee,yt,rfl,hb2,hs2,HD.out,HF.out⟩
theorem Un{c:dz}(QZ:aC L):∀(f:Nat) (s p:Zy),Po c S H L f s p->∀w:World,kD a c w q d S ms H->Zc 154 #[Zp q,dA s] w (jJ w L p d S):=by
 intro f;induction f with
 | zero=>intro s p h;exact h.elim
 | succ f ih=>
  rintro s p ⟨hs,Um,l,vZ,hl,hnd,hk,hll,hx⟩ w h;refine Ef h QZ s p hs Um l vZ hl hnd hk hll (fun x hxl w' hw=>?_);cases hd:x.dir with
  | true=>exact Ed x (hl x hxl).1 hd _ (fun w2 hb=>ih x.sum _ ((hx x hxl).1 hd) w2 (hw.below hb))
  | false=>
   obtain⟨y,hy,he,MP,hc⟩:=(hx x hxl).2 hd;rw[<-he];exact Ca hw QZ x (hl x hxl).1 hd hy MP hc
end
end Go.Proofs.YtdidjdoifpfmmaaGreatDoor
