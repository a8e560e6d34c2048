import Derived.Test.YtdidjdoifpfmmaaGreatDoorGO18
import Derived.Sort.Walk0
set_option maxRecDepth 100000
set_option maxHeartbeats 16000000
namespace Go.Proofs.YtdidjdoifpfmmaaGreatDoor
open Go.Proofs.Tryz List
variable{x s y p:Zy}
section
open Go.RowKit
section
variable {a:Nat->Addr}{w:World}{q:Nat}{L:List It}{blk mblk:Zy->Nat}
theorem Rh(ok:aC L){x:It}(hx:x∈L)(hd:x.dir=false):aj x.path L=[]:=by
 have:=wm ok x.path (Perm.refl _);rw[JG ok x hx hd] at this;exact length_eq_zero_iff.1 (by omega)
theorem eH.lenOf(h:eH w q L blk mblk){i:Nat}(hi:i<L.length):∃o,w.cell? (Za (blk L[i].path) 0)=some (.map o)/\∀ty,(Builtin.len_ #[175] ty #[.map o]).run prog w=.ok (.int .i64 (aj L[i].path L).length) w:=by
 cases hd:L[i].dir
 ·refine⟨none,(h.tree.file _ (Zg hi) hd).1,fun ty=>?_⟩;rw[Rh h.ok (Zg hi) hd];exact Maps.len_nil underlying175 ty
 ·obtain⟨c0,_,hdr⟩:=h.tree.dir L[i].path (.inr ⟨_,Zg hi,rfl,hd⟩);exact⟨_,c0,hdr.len h.ok⟩
theorem Ce(G:eO a w)(h:eH w q L blk mblk)(s:Zy)(hs:s.size<=1000000)(h0:bS L s≠0):
  Zc 101 #[Zp q,.string s] w fun e w'=>e=.returned (eF a (bS L s-1))/\Below w.heap.size w w':=by
 have c:=xM G h s hs h0;generalize bS L s-1=j at c;unfold eF at c;go_enter func101,ntmps101;go_wp2_with(go_at_call 89;refine c.mono ?_;rintro e w1 ⟨rfl,hb⟩);go_ret;exact⟨rfl,hb⟩
theorem Cg(G:eO a w)(h:eH w q L blk mblk)(s:Zy)(hs:s.size<=1000000)(h0:bS L s=0)(p n:Zy)(hp:gy (ax s).1=p)(hnn:(ax s).1=(ax s).1.take ((ax s).1.length-1)++[n])(hn:aO (af n)=true)(hd:bC L p)(hno:n∉aj p L):
  Zc 101 #[Zp q,.string s] w fun e w'=>e=.returned (eF a 5)/\Below w.heap.size w w':=by
 have c:=lD G h s hs h0 n hnn;rw[hp] at c;have HL:Hid _:=h.look hn hd;clear hnn;go_enter func101,ntmps101;go_wp2_with(go_at_call 89;refine c.mono ?_;rintro e w1 ⟨rfl,hb⟩;obtain⟨e0,_,ey⟩:=HL.out w1 hb;have ey:=ey hno;have e5:=(G.up hb).err 5 (by decide));go_ret;exact⟨rfl,hb⟩
theorem Ch(G:eO a w)(h:eH w q L blk mblk)(s:Zy)(hs:s.size<=1000000)(h0:bS L s=0)(p n:Zy)(hp:gy (ax s).1=p)(hnn:(ax s).1=(ax s).1.take ((ax s).1.length-1)++[n])(hn:aO (af n)=true)(hd:bC L p)(i:Nat)(hi:i<L.length)(uo:L[i].path=aA p n)(ab9:0<(aj (aA p n) L).length):
  Zc 101 #[Zp q,.string s] w fun e w'=>e=.returned (eF a 8)/\Below w.heap.size w w':=by
 have c:=lD G h s hs h0 n hnn;rw[hp] at c;have hmem:n∈aj p L:=(bD h.ok p n).2 ⟨hn,L[i],Zg hi,uo⟩;have HL:Hid _:=h.look hn hd;have HM:Hid (∀w1,Below w.heap.size w w1->∃o,w1.cell? (Za (blk (aA p n)) 0)=some (.map o)/\∀ty,(Builtin.len_ #[175] ty #[.map o]).run prog w1=.ok (.int .i64 (aj (aA p n) L).length) w1):=fun w1 hb=>by
  have:=(h.below hb).lenOf hi;rw[uo] at this;exact this
 have ip:(0:Int)<((aj (aA p n) L).length:Int):=by omega
 clear hnn uo;go_enter func101,ntmps101;go_wp2_with(go_at_call 89;refine c.mono ?_;rintro e w1 ⟨rfl,hb⟩;obtain⟨e0,ey,_⟩:=HL.out w1 hb;have ey:=ey hmem;have e8:=(G.up hb).err 8 (by decide);obtain⟨o,f0,f1⟩:=HM.out w1 hb);go_ret;exact⟨rfl,hb⟩
theorem Ci(G:eO a w)(h:eH w q L blk mblk)(s:Zy)(hs:s.size<=1000000)(h0:bS L s=0)(p n:Zy)(hp:gy (ax s).1=p)(hnn:(ax s).1=(ax s).1.take ((ax s).1.length-1)++[n])(hn:aO (af n)=true)(hd:bC L p)(i:Nat)(hi:i<L.length)(uo:L[i].path=aA p n)(hfree:aj (aA p n) L=[]):
  Zc 101 #[Zp q,.string s] w fun e w'=>e=.returned .nilIface/\jU w w' q L (L.eraseIdx i) blk mblk:=by
 have c:=lD G h s hs h0 n hnn;rw[hp] at c;have hmem:n∈aj p L:=(bD h.ok p n).2 ⟨hn,L[i],Zg hi,uo⟩;have HL:Hid _:=h.look hn hd;have HM:Hid (∀w1,Below w.heap.size w w1->∃o,w1.cell? (Za (blk (aA p n)) 0)=some (.map o)/\∀ty,(Builtin.len_ #[175] ty #[.map o]).run prog w1=.ok (.int .i64 0) w1):=fun w1 hb=>by
  have:=(h.below hb).lenOf hi;rw[uo,hfree] at this;exact this
 have HD:Hid (∀w1,Below w.heap.size w w1->∃w2,(∀ty,(Builtin.delete_ #[175,9] ty #[.map (some (mblk p)),.string n]).run prog w1=.ok (.tuple #[]) w2)/\jU w w2 q L (L.eraseIdx i) blk mblk):=fun w1 hb=>by
  have h1:=h.below hb;obtain⟨c0,_,D,ho,hh,ha⟩:=h1.tree.dir p hd;have hkey:=rQ n (by have:=ic hn;omega);obtain⟨w2,hrun,ho2,ht⟩:=ho.drop (t:=175) (e:=111) nI underlying175 hkey 0;refine⟨w2,fun ty=>?_,blk,mblk,⟨?_,?_,h1.ok.erase hi uo hn hfree⟩,fun b hb=>.inl (Gz blk mblk b hb),?_⟩
  ·exact hrun
  ·exact ay h1.root (ht.grown.block _ (Zd h1.root) (by simpa using sM h1.tree hd h1.root))
  ·exact h1.tree.erase h1.ok hi uo hn hd (h1.ok.erase hi uo hn hfree) ((Fr.refl w1 [mblk p]).grown ht.grown (fun k hk=>.inl (by simp at hk;simp[hk]))) D hh ha _ ho2
  ·exact(Fr.of_below hb _).grown ht.grown (fun k hk=>.inl (by simp at hk;rw[<-hk];exact(Av blk mblk hd).2))
 clear hnn uo hfree;go_enter func101,ntmps101;go_wp2_with(go_at_call 89;refine c.mono ?_;rintro e w1 ⟨rfl,hb⟩;obtain⟨e0,ey,_⟩:=HL.out w1 hb;have ey:=ey hmem;obtain⟨o,f0,f1⟩:=HM.out w1 hb;obtain⟨w2,hdel,hdone⟩:=HD.out w1 hb);go_ret;exact⟨rfl,hdone⟩
theorem Cj(G:eO a w)(h:eH w q L blk mblk)(s:Zy)(hs:s.size<=262144):
  Zc 101 #[Zp q,.string s] w fun e w'=>e=.returned (dx a (eY L s).2)/\jU w w' q L (eY L s).1 blk mblk:=by
 unfold eY;by_cases h0:bS L s=0
 ·rw[if_neg (by simp[h0])];obtain⟨n,hnn,hn,hsj,hd⟩:=Ay h.ok h0;generalize hp:gy (ax s).1=p at hsj hd;rcases pJ h.ok (p:=p) hn with⟨hneg,hno⟩|⟨i,hi,hfi,uo,hmem⟩
  ·rw[<-hsj] at hneg;rw[if_pos hneg];exact(Cg G h s (by omega) h0 p n hp hnn hn hd hno).mono fun e w' he=>⟨lY a 6 (by decide) he.1,h.same he.2⟩
  ·rw[<-hsj] at hfi;rw[if_neg (by omega)];by_cases hk:0<(aj s L).length
   ·rw[if_pos hk];exact(Ch G h s (by omega) h0 p n hp hnn hn hd i hi uo (by rw[<-hsj];exact hk)).mono fun e w' he=>⟨lY a 9 (by decide) he.1,h.same he.2⟩
   ·rw[if_neg hk,hfi,Int.toNat_natCast];exact Ci G h s (by omega) h0 p n hp hnn hn hd i hi uo (by rw[<-hsj];exact length_eq_zero_iff.1 (by omega))
 ·rw[if_pos h0];exact(Ce G h s (by omega) h0).mono fun e w' he=>⟨lY a _ h0 he.1,h.same he.2⟩
end
def vP(L:List It)(a:Int):Zy:=(L[a.toNat]?.map It.data).getD ⟨#[]⟩
def GZ(L:List It)(s:Zy):Zy × Nat:=
 if(ax s).2=false then(⟨#[]⟩,5)
 else if(dw L ⟨#[]⟩ (-1) (ax s).1).2≠0 then(⟨#[]⟩,(dw L ⟨#[]⟩ (-1) (ax s).1).2)
 else if(dw L ⟨#[]⟩ (-1) (ax s).1).1<0\/iY L (dw L ⟨#[]⟩ (-1) (ax s).1).1=true then(⟨#[]⟩,7)
 else(vP L (dw L ⟨#[]⟩ (-1) (ax s).1).1,0)
section
variable {a:Nat->Addr}{w:World}{q:Nat}{L:List It}{blk mblk:Zy->Nat}
theorem lF(G:eO a w)(s:Zy)(hs:s.size<=1000000)(h:(ax s).2=true):
  Zc 159 #[.string s] w fun e w'=>∃v,e=.returned (.tuple #[v,.nilIface])/\iF w' v (ax s).1/\Below w.heap.size w w':=by
 obtain⟨m,hm⟩:=G.maxl;refine(oo s m a w hs hm (G.err 4 (by decide))).mono ?_;rintro e w' ⟨v,rfl,⟨_,v1,rfl,h1⟩|⟨hf,_⟩,hb⟩
 ·exact⟨v1,rfl,h1,hb⟩
 ·rw[h] at hf;cases hf
theorem G6(G:eO a w)(s:Zy)(hs:s.size<=1000000)(h:(ax s).2=false):
  Zc 159 #[.string s] w fun e w'=>e=.returned (.tuple #[.slice none 0 0,eF a 4])/\Below w.heap.size w w':=by
 obtain⟨m,hm⟩:=G.maxl;refine(oo s m a w hs hm (G.err 4 (by decide))).mono ?_;rintro e w' ⟨v,rfl,⟨ht,v1,rfl,h1⟩|⟨_,rfl⟩,hb⟩
 ·rw[h] at ht;cases ht
 ·exact⟨rfl,hb⟩
theorem G7(G:eO a w)(s:Zy)(hs:s.size<=1000000)(h0:(ax s).2=false):
  Zc 97 #[Zp q,.int .i64 0,.string s] w fun e w'=>e=.returned (.tuple #[.string ⟨#[]⟩,eF a 4])/\Below w.heap.size w w':=by
 have c:=G6 G s hs h0;unfold eF at c;go_enter func97,ntmps97;go_wp2_with(go_at_call 159;refine c.mono ?_;rintro e w1 ⟨rfl,hb⟩);refine bodyPost_ret (results_tmp2 rfl _ _ _) rfl ?_;exact⟨rfl,hb⟩
theorem G9(G:eO a w)(h:eH w q L blk mblk)(s:Zy)(hs:s.size<=1000000)(h0:(ax s).2=true)(hf:(dw L ⟨#[]⟩ (-1) (ax s).1).2≠0):
  Zc 97 #[Zp q,.int .i64 0,.string s] w fun e w'=>e=.returned (.tuple #[.string ⟨#[]⟩,eF a ((dw L ⟨#[]⟩ (-1) (ax s).1).2-1)])/\Below w.heap.size w w':=by
 have c:=lF G s hs h0;have gV:=gJ s h0;generalize hj:(dw L ⟨#[]⟩ (-1) (ax s).1).2-1=j;have HJ:Hid _:=hj;clear hj;go_enter func97,ntmps97;go_wp2_with(go_at_call 159;refine c.mono ?_;rintro e w1 ⟨v,rfl,h1,hb⟩;have hr':=(h.below hb).root);have h':=h.below hb;have G':=G.up hb;have cF:=zN h'.tree h'.ok a _ v h1 (iq s) (by omega) (G'.err 5 (by decide)) (G'.err 6 (by decide)) hf;rw[HJ.out] at cF;unfold eF at cF;go_wp2_with(go_at_call 161;refine cF.mono ?_;rintro e w2 ⟨rfl,hb2⟩);refine bodyPost_ret (results_tmp2 rfl _ _ _) rfl ?_;exact⟨rfl,hb.trans (hb2.mono hb.size)⟩
theorem He(G:eO a w)(h:eH w q L blk mblk)(s:Zy)(hs:s.size<=1000000)(h0:(ax s).2=true)(hf:(dw L ⟨#[]⟩ (-1) (ax s).1).2=0)(hd:bC L s):
  Zc 97 #[Zp q,.int .i64 0,.string s] w fun e w'=>e=.returned (.tuple #[.string ⟨#[]⟩,eF a 6])/\Below w.heap.size w w':=by
 have c:=lF G s hs h0;have gV:=gJ s h0;have HJ:Hid _:=mH s h0;go_enter func97,ntmps97;go_wp2_with(go_at_call 159;refine c.mono ?_;rintro e w1 ⟨v,rfl,h1,hb⟩;have hr':=(h.below hb).root);have h':=h.below hb;have G':=G.up hb;have cF:=pI h'.tree h'.ok a _ v h1 (iq s) (by omega) (G'.err 5 (by decide)) (G'.err 6 (by decide)) hf;rw[HJ.out] at cF;go_wp2_with(go_at_call 161;refine cF.mono ?_;rintro e w2 ⟨rfl,hb2⟩);have h'':=h'.below hb2;have e6:=(G'.up hb2).err 6 (by decide);have cD:=eX _ _ w2 (h''.tree.dir s hd).1;go_wp2_with(go_at_call 162;refine cD.mono ?_;rintro e w' ⟨rfl,rfl⟩);go_region;go_wp2;refine bodyPost_ret (results_tmp2 rfl _ _ _) rfl ?_;exact⟨rfl,(hb.trans (hb2.mono hb.size)).drew⟩
theorem Hg(G:eO a w)(h:eH w q L blk mblk)(s:Zy)(hs:s.size<=1000000)(h0:(ax s).2=true)(hf:(dw L ⟨#[]⟩ (-1) (ax s).1).2=0)(x:It)(hx:x∈L)(hxp:x.path=s)(hd:x.dir=false):
  Zc 97 #[Zp q,.int .i64 0,.string s] w fun e w'=>e=.returned (.tuple #[.string x.data,.nilIface])/\Below w.heap.size w w':=by
 have c:=lF G s hs h0;have gV:=gJ s h0;have HJ:Hid _:=mH s h0;have HC:Hid (∀w2,eH w2 q L blk mblk->w2.cell? (Za (blk s) 0)=some (.map none)/\w2.cell? (Za (blk s) 1)=some (.string x.data)):=fun w2 h2=>by
  have:=h2.tree.file x hx hd;rw[hxp] at this;exact this
 clear hxp;go_enter func97,ntmps97;go_wp2_with(go_at_call 159;refine c.mono ?_;rintro e w1 ⟨v,rfl,h1,hb⟩;have hr':=(h.below hb).root);have h':=h.below hb;have G':=G.up hb;have cF:=pI h'.tree h'.ok a _ v h1 (iq s) (by omega) (G'.err 5 (by decide)) (G'.err 6 (by decide)) hf;rw[HJ.out] at cF;go_wp2_with(go_at_call 161;refine cF.mono ?_;rintro e w2 ⟨rfl,hb2⟩);obtain⟨e0,e1⟩:=HC.out w2 (h'.below hb2);have cD:=eX _ _ w2 e0;go_wp2_with(go_at_call 162;refine cD.mono ?_;rintro e w' ⟨rfl,rfl⟩);refine bodyPost_ret (results_tmp2 rfl _ _ _) rfl ?_;exact⟨rfl,hb.trans (hb2.mono hb.size)⟩
theorem Kz(_ok:aC L)(h0:(ax s).2=true)(hf:(dw L ⟨#[]⟩ (-1) (ax s).1).2=0):
  (bC L s/\((dw L ⟨#[]⟩ (-1) (ax s).1).1<0\/iY L (dw L ⟨#[]⟩ (-1) (ax s).1).1=true))\/
  ∃x∈L,x.path=s/\x.dir=false/\¬((dw L ⟨#[]⟩ (-1) (ax s).1).1<0\/iY L (dw L ⟨#[]⟩ (-1) (ax s).1).1=true)/\vP L (dw L ⟨#[]⟩ (-1) (ax s).1).1=x.data:=by
 have hst:=rT (L:=L) (ax s).1 ⟨#[]⟩ (-1) (.inl ⟨rfl,rfl⟩) hf;have hj:(ax s).1.foldl aA ⟨#[]⟩=s:=mH s h0;rw[hj] at hst;rcases hst with⟨rfl,e⟩|⟨i,hi,e,hp⟩
 ·exact .inl ⟨.inl rfl,.inl (by omega)⟩
 ·have hd:iY L (dw L ⟨#[]⟩ (-1) (ax s).1).1=L[i].dir:=by
   unfold iY;rw[e,Int.toNat_natCast,getElem?_eq_getElem hi];rfl
  cases hx:L[i].dir
  ·refine .inr ⟨L[i],Zg hi,hp,hx,?_,?_⟩
   ·rw[hd,hx,e];simp
   ·unfold vP;rw[e,Int.toNat_natCast,getElem?_eq_getElem hi];rfl
  ·exact .inl ⟨.inr ⟨L[i],Zg hi,hp,hx⟩,.inr (by rw[hd,hx])⟩
theorem Hl(G:eO a w)(h:eH w q L blk mblk)(s:Zy)(hs:s.size<=1000000):
  Zc 97 #[Zp q,.int .i64 0,.string s] w fun e w'=>e=.returned (.tuple #[.string (GZ L s).1,dx a (GZ L s).2])/\Below w.heap.size w w':=by
 unfold GZ;cases h0:(ax s).2
 ·rw[if_pos rfl];exact G7 G s hs h0
 ·rw[if_neg (by simp)];by_cases hf:(dw L ⟨#[]⟩ (-1) (ax s).1).2=0
  ·rw[if_neg (by simp[hf])];rcases Kz h.ok h0 hf with⟨hd,hc⟩|⟨x,hx,hxp,hxd,hc,hdat⟩
   ·rw[if_pos hc];exact He G h s hs h0 hf hd
   ·rw[if_neg hc,hdat];exact Hg G h s hs h0 hf x hx hxp hxd
  ·rw[if_pos hf];refine(G9 G h s hs h0 hf).mono fun e w' he=>⟨?_,he.2⟩;rw[jT a hf];exact he.1
end
theorem Fz(x y:Zy):qG x y=true↔x.data.toList<y.data.toList:=by
 unfold qG;rw[bytesLess_eq,ByteArray.toList_eq,ByteArray.toList_eq,decide_eq_true_eq]
def WZ(x y:Zy):Prop:=x.data.toList<=y.data.toList
theorem KA(h:qG x y=true):WZ x y:=by
 rw[Fz] at h;rcases List.le_total x.data.toList y.data.toList with h1|h1
 ·exact h1
 ·exact absurd h (List.not_lt.2 h1)
theorem Ck(h:qG x y=false):WZ y x:=by
 have:¬x.data.toList<y.data.toList:=fun h1=>by rw[(Fz x y).2 h1] at h;cases h
 exact List.not_lt.1 this
theorem KC(gI:List Zy)(x:Zy):∀n,n<=gI.length->kQ gI x n<=n/\(∀j (h:j<gI.length),kQ gI x n<=j->j<n->qG x gI[j]=true)/\∀j (h:j<gI.length),kQ gI x n=j+1->qG x gI[j]=false:=by
 intro n;induction n with
 | zero=>intro _;exact⟨Zn,fun j _ _ h=>by omega,fun j _ h=>by simp[kQ] at h⟩
 | succ n ih=>
  intro hn;have hg:gI.getD n ByteArray.empty=gI[n]:=by rw[getD_eq_getElem?_getD,getElem?_eq_getElem (by omega)];rfl
  unfold kQ;rw[hg];cases hl:qG x gI[n]
  ·rw[if_neg (by simp)];refine⟨Zn,fun j _ h1 h2=>by omega,fun j hj e=>?_⟩;have:j=n:=by omega
   subst this;exact hl
  ·rw[if_pos rfl];obtain⟨h1,h2,h3⟩:=ih (by omega);refine⟨by omega,fun j hj h4 h5=>?_,h3⟩;by_cases e:j=n
   ·subst e;exact hl
   ·exact h2 j hj h4 (by omega)
theorem KD{gI:List Zy}(h:gI.Pairwise WZ)(x:Zy):(rG gI x).Pairwise WZ:=by
 obtain⟨h1,h2,h3⟩:=KC gI x gI.length (Zn);unfold rG;generalize kQ gI x gI.length=r at *;have hpw:=pairwise_iff_getElem.1 h;rw[pairwise_append];refine⟨h.sublist (take_sublist _ _),?_,?_⟩
 ·rw[pairwise_cons];refine⟨fun y hy=>?_,h.sublist (drop_sublist _ _)⟩;obtain⟨j,hj,rfl⟩:=mem_iff_getElem.1 hy;rw[getElem_drop];rw[length_drop] at hj;exact KA (h2 _ (by omega) (by omega) (by omega))
 ·intro y hy z hz;obtain⟨j,hj,rfl⟩:=mem_iff_getElem.1 hy;rw[length_take] at hj;rw[getElem_take];have hlast:WZ gI[j] x:=by
   have hr:qG x gI[r-1]=false:=h3 (r-1) (by omega) (by omega);by_cases e:j=r-1
   ·subst e;exact Ck hr
   ·exact List.le_trans (hpw j (r-1) (by omega) (by omega) (by omega)) (Ck hr)
  rcases mem_cons.1 hz with rfl|hz
  ·exact hlast
  ·obtain⟨i,hi,rfl⟩:=mem_iff_getElem.1 hz;rw[length_drop] at hi;rw[getElem_drop];exact hpw j (r+i) (by omega) (by omega) (by omega)
theorem uF(p:Zy)(L:List It):(aj p L).Pairwise WZ:=by
 have:∀(L:List It) (acc:List Zy),acc.Pairwise WZ->(L.foldl (fun l x=>if nZ x.path=p then rG l (oV x.path) else l) acc).Pairwise WZ:=by
  intro L;induction L with
  | nil=>intro acc h;exact h
  | cons y L ih=>
   intro acc h;rw[foldl_cons];apply ih;split
   ·exact KD h _
   ·exact h
 exact this L [] Pairwise.nil
theorem Cm{L:List It}{ss:List (List UInt8)}(h:ss.Perm ((aj p L).map fun k=>k.data.toList)):ss.mergeSort (fun x y=>decide (x<=y))=(aj p L).map fun k=>k.data.toList:=by
 have tr:∀a b c:List UInt8,leB a b=true->leB b c=true->leB a c=true:=fun a b c h1 h2=>by simp only[leB,decide_eq_true_eq] at *;exact List.le_trans h1 h2
 have tot:∀a b:List UInt8,(leB a b||leB b a)=true:=fun a b=>by simp only[leB,Bool.or_eq_true,decide_eq_true_eq];exact List.le_total a b
 refine Perm.eq_of_pairwise (le:=fun a b=>leB a b=true) (fun a b _ _ h1 h2=>?_) (pairwise_mergeSort tr tot ss) ?_ ((mergeSort_perm ss leB).trans h)
 ·simp only[leB,decide_eq_true_eq] at h1 h2;exact List.le_antisymm h1 h2
 ·rw[pairwise_map];refine(uF p L).imp ?_;intro a b h;have h2:a.data.toList<=b.data.toList:=h;exact decide_eq_true h2
end
end Go.Proofs.YtdidjdoifpfmmaaGreatDoor
