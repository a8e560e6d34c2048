import Derived.Test.YtdidjdoifpfmmaaGreatDoorGO24
set_option maxRecDepth 100000
set_option maxHeartbeats 16000000
namespace Go.Proofs.YtdidjdoifpfmmaaGreatDoor
open Go.Proofs.Tryz List
variable{w1 w2 w4 w w':World}{A' A:jc}{p' p:aS}{tv' v tv:Value}{T' T:List It}{q B n b b' z g cap:Nat}{d:DP}{S:Dk}{ps Y:List Part}{r1 xs:List Value}{t e:TypeId}
section
open Go.RowKit Go.Maps Go.Lib
section
variable {a:Nat->Addr}{w0 w:World}{q:Nat}{r:List Value}{tv:Value}{T:List It}{p:aS}{A:jc}
def fQ(q:Nat)(r:List Value)(tv:Value)(T:List It)(p:aS)(A:jc):List Part:=[bU q 37 r,bn 109 3 tv T.length (aK T),bf p A]
def mo(a:Nat->Addr)(w0 w:World)(q:Nat)(r:List Value)(tv:Value)(T:List It)(p:aS)(A:jc)(e:Ending)(w':World):Prop:=
 e=.returned (.bool true)/\∃tv' p' T',Step w0.heap.size w w' (fQ q r tv T p A) (fQ q (r.set 3 tv') tv' T' p' {A with L:=T'})/\p'.q=p.q/\p'.d.p=p.d.p/\aC T'/\fP T'/\gU a w0 w'
structure qD(a:Nat->Addr)(w0 w:World)(q:Nat)(r:List Value)(tv:Value)(T:List It)(p:aS)(A:jc):Prop where
 bs:gU a w0 w
 hold:dF w0.heap.size w (fQ q r tv T p A)
 r2:r[2]? =some (Zp p.q)
 r3:r[3]? =some tv
 tree:A.L=T
 ok:aC T
 few:fP T
theorem qD.below(h:qD a w0 w q r tv T p A)(f:Below w.heap.size w w1):qD a w0 w1 q r tv T p A:=⟨h.bs.below f,h.hold.below f,h.r2,h.r3,h.tree,h.ok,h.few⟩
theorem qD.row(h:qD a w0 w q r tv T p A):ai w q 37 r:=h.hold.at_ (bU q 37 r) (by simp[fQ])
theorem qD.own(h:qD a w0 w q r tv T p A):w.ownsRow 0 109 3 tv T.length (aK T):=h.hold.at_ (bn 109 3 tv T.length (aK T)) (by simp[fQ])
theorem qD.arc(h:qD a w0 w q r tv T p A):dF w0.heap.size w [bf p A]:=dF.right (ps:=[bU q 37 r,bn 109 3 tv T.length (aK T)]) (qs:=[bf p A]) h.hold
structure kI(a:Nat->Addr)(w0 w:World)(q:Nat)(r:List Value)(tv:Value)(T:List It)(p:aS)(A A':jc)(p':aS)(w':World):Prop where
 step:Step w0.heap.size w w' (fQ q r tv T p A) (fQ q r tv T p' A')
 q:p'.q=p.q
 d:p'.d.p=p.d.p
 bs:gU a w0 w'
theorem qD.mid(h:qD a w0 w q r tv T p A)(f:Below w.heap.size w w1)(k:pW a w0 w1 p A A' w2):∃p',kI a w0 w q r tv T p A A' p' w2:=by
 obtain⟨p',h1,h2,h3,h4⟩:=k;have hp:(fQ q r tv T p A).Perm ([bf p A]++[bU q 37 r,bn 109 3 tv T.length (aK T)]):=(perm_append_comm (l₁:=[bU q 37 r,bn 109 3 tv T.length (aK T)]) (l₂:=[bf p A]));have hp':(fQ q r tv T p' A').Perm ([bf p' A']++[bU q 37 r,bn 109 3 tv T.length (aK T)]):=(perm_append_comm (l₁:=[bU q 37 r,bn 109 3 tv T.length (aK T)]) (l₂:=[bf p' A']));have s1:=((h1.frame (((h.hold.below f).perm hp))).perm hp.symm hp'.symm);exact⟨p',((Step.refl h.hold).below f).trans s1,h2,h3,h4⟩
theorem kI.row(h:kI a w0 w q r tv T p A A' p' w1):ai w1 q 37 r:=h.step.hold.at_ (bU q 37 r) (by simp[fQ])
theorem kI.own(h:kI a w0 w q r tv T p A A' p' w1):w1.ownsRow 0 109 3 tv T.length (aK T):=h.step.hold.at_ (bn 109 3 tv T.length (aK T)) (by simp[fQ])
theorem kI.same(h:kI a w0 w q r tv T p A {A with L:=T} p' w1)(hr:r[3]? =some tv)(ok:aC T)(few:fP T):mo a w0 w q r tv T p A (.returned (.bool true)) w1:=by
 refine⟨rfl,tv,p',T,?_,h.q,h.d,ok,few,h.bs⟩;have e:r.set 3 tv=r:=by
  obtain⟨hl,e⟩:=List.getElem?_eq_some_iff.1 hr;rw[<-e,set_getElem_self]
 rw[e];exact h.step
theorem kI.set(h:kI a w0 w q r tv T p A A' p' w1)(eA:A'={A with L:=T'})(fg:Fr w1 w4 tv.ownBlock.toList)(aY:w4.ownsRow 0 109 3 tv' T'.length (aK T'))(hs:∀b,tv'.ownBlock=some b->tv.ownBlock=some b\/w1.heap.size<=b)(ok:aC T')(few:fP T')(hr:r[3]? =some tv):
  mo a w0 w q r tv T p A (.returned (.bool true)) (w4.setCell (Za q 3) tv')/\w4.cell? (Za q 3)=some tv/\w4.frozen? (Za q 3)=false:=by
 have hh:dF w0.heap.size w1 ([bU q 37 r,bn 109 3 tv T.length (aK T)]++[bf p' A']):=h.step.hold;obtain⟨s1,c1,z1⟩:=Step.put (k:=3) h.bs.size hh.left fg aY hs;have s2:=h.step.trans (s1.frame hh);rw[hr] at c1;subst eA;refine⟨⟨rfl,tv',p',T',s2,h.q,h.d,ok,few,h.bs.fr (s1.frame hh).fr (fun b hb=>h.step.hold.far b hb)⟩,c1,z1⟩
end
def pY(n:Nat):jc:=⟨headD n,[],[],[],1,1,bQ n,false⟩
theorem FM:eT aX=0:=by decide +kernel
theorem RF(c:dz)(n:Nat)(h:4<=n):qO c (headD n).seen (headD n).safe.length 1 1 (bQ (headD n).safe.length) ⟨[],[],[]⟩=((1,1,bQ n),⟨[],[],[]⟩)/\nU c (headD n).seen (headD n).safe.length 1 1 (bQ (headD n).safe.length) ⟨[],[],[]⟩=true:=by
 rw[nL n (by omega)];obtain⟨m,rfl⟩:∃m,n=m+1:=⟨n-1,by omega⟩;have h1:qj (headD (m+1)).seen 1 1 (bQ (m+1))=none:=by
  unfold qj;rw[Az (m+1) 1 (Zn) (by omega),FM,if_neg (fun e=>absurd e.2.2.1 (by decide))]
 rw[qO,nU,h1];refine⟨rfl,?_⟩;simp only;rw[Az (m+1) 1 (Zn) (by omega),FM,Dk.seen_length,nL (m+1) (by omega)];simp;omega
theorem AO(n:Nat)(h:4<=n)(h2:n<=4000):vS (pY n)/\(pY n).Fit:=by
 have hl:=nL n (by omega);refine⟨⟨rfl,rfl,rfl,rfl,fun i h1 h3=>?_,⟨0,by show 0<1;omega,by show 1<=0+2;omega,?_⟩,Zn,Nat.zero_le _,Nat.zero_le _⟩,⟨GK n (by omega) (by omega),Nat.zero_le _,Nat.zero_le _,aC.nil,fun p=>by show(aj p []).length<=16;simp[aj],?_,by show 1<=5000;omega,VX _,Nat.zero_le _,Nat.zero_le _⟩⟩
 ·have h1':1<=i:=h1;have h3':i<(headD n).safe.length:=h3;have:=Az n i h1' (by omega);rw[zf] at this;exact this
 ·show(headD n).safe.getD 0 ByteArray.empty≠aX;exact fun e=>QE n e.symm
 ·show 1<=(headD n).safe.length;omega
def nQ(c:Int)(n:Nat):Nat:=(if c<0 then -(c+1) else c).toNat % n
theorem Y0(c:Int)(n:Nat)(h0: -9223372036854775808<=c)(h1:c<=9223372036854775807)(hn:0<n)(hn2:n<=1000)(w:World):
  Zc 33 #[.int .i64 c,Zi n] w fun e w'=>e=.returned ((Zi (nQ c n)))/\w=w':=by
 have hn0:¬(n:Int)=0:=by omega
 unfold nQ;by_cases hc:c<0
 ·rw[if_pos hc];obtain⟨m,hm⟩:∃m:Nat, -(c+1)=(m:Nat):=⟨(-(c+1)).toNat,by omega⟩;have hm2:(m:Int)<=9223372036854775807:=by omega
  have e1:IntKind.i64.wrap (c+1)=c+1:=by rw[IntKind.wrap_i64];omega
  have e2:IntKind.i64.wrap (-(c+1))=(m:Nat):=by rw[IntKind.wrap_i64,hm];omega
  have e3:Int.tmod (m:Nat) (n:Nat)=((m % n:Nat):Int):=by rw[Int.ofNat_tmod]
  rw[hm];clear hm;go_enter func33,ntmps33;go_wp2;go_ret;exact⟨rfl,rfl⟩
 ·rw[if_neg hc];obtain⟨m,rfl⟩:=Int.eq_ofNat_of_zero_le (show 0<=c by omega);have e3:Int.tmod (m:Nat) (n:Nat)=((m % n:Nat):Int):=by rw[Int.ofNat_tmod]
  go_enter func33,ntmps33;go_wp2;go_ret;exact⟨rfl,rfl⟩
theorem oH{x:Addr}(c1:w.cell? (Za q 1)=some (.pointer (some x))):
  Zc 20 #[Zp q] w fun e w'=>e=.returned (.bool true)/\w=w':=by
 go_enter func20,ntmps20;go_wp2;go_ret;exact⟨rfl,rfl⟩
section
variable {a:Nat->Addr}{c:dz}{w0 w:World}{q:Nat}{r:List Value}
theorem gU.sha{c:dz}(bs:gU a w0 w)(hC:dI c w0):dI c w:=hC.fr (Fr.of_below bs.low []) (by simp)
theorem PG(bs:gU a w0 w)(h:dF w0.heap.size w (oG d S::ps)):wY d:=fun b hb=>by
 have:=h.far b (by rw[bL];exact mem_append_left _ hb);have:=bs.g;omega
def Le(a:Nat->Addr)(w0 w:World)(q:Nat)(r:List Value)(d:DP)(S:Dk)(r1:List Value)(w':World):Prop:=Step w0.heap.size w w' [bU q 37 r] [oG d S,bU q 37 r1]/\gU a w0 w'
def Sl(a:Nat->Addr)(w0 w:World)(q:Nat)(r:List Value)(p:aS)(A:jc)(r1:List Value)(w':World):Prop:=Step w0.heap.size w w' [bU q 37 r] [bf p A,bU q 37 r1]/\gU a w0 w'
theorem Le.below(h:Le a w0 w q r d S r1 w1)(hb:Below w1.heap.size w1 w2):Le a w0 w q r d S r1 w2:=⟨h.1.below hb,h.2.below hb⟩
theorem Sl.below(h:Sl a w0 w q r p A r1 w1)(hb:Below w1.heap.size w1 w2):Sl a w0 w q r p A r1 w2:=⟨h.1.below hb,h.2.below hb⟩
theorem Le.row(h:Le a w0 w q r d S r1 w1):ai w1 q 37 r1:=h.1.hold.at_ (bU q 37 r1) (by simp)
theorem Sl.row(h:Sl a w0 w q r p A r1 w1):ai w1 q 37 r1:=h.1.hold.at_ (bU q 37 r1) (by simp)
theorem Step.rowSet{P:Part}(hB:B<=w1.heap.size)(h:dF B w1 [P,bU q t r1])(k:Nat)(v:Value):Step B w1 (w1.setCell (Za q k) v) [P,bU q t r1] [P,bU q t (r1.set k v)]:=by
 have hr:ai w1 q t r1:=h.at_ (bU q t r1) (by simp);exact Step.at (ps:=[P]) (qs:=[]) (P:=bU q t r1) (Q:=bU q t (r1.set k v)) hB h (hr.set k v) ((Fr.refl _ _).setCell _ _ (.inl (by simp[bU]))) (fun b hb=>.inl hb)
theorem Le.set(h:Le a w0 w q r d S r1 w1)(k:Nat)(v:Value):Le a w0 w q r d S (r1.set k v) (w1.setCell (Za q k) v):=by
 have s:=Step.rowSet h.2.size h.1.hold k v;exact⟨h.1.trans s,h.2.fr s.fr (fun b hb=>h.1.hold.far b hb)⟩
theorem Sl.set(h:Sl a w0 w q r p A r1 w1)(k:Nat)(v:Value):Sl a w0 w q r p A (r1.set k v) (w1.setCell (Za q k) v):=by
 have s:=Step.rowSet h.2.size h.1.hold k v;exact⟨h.1.trans s,h.2.fr s.fr (fun b hb=>h.1.hold.far b hb)⟩
theorem XG(Q5:4<=n)(hn:n<=4000)(h:Le a w0 w q r d (gX n) r1 w1):
  Zc 25 #[Zp d.p] w1 fun e w'=>e=.returned (.int .i64 0)/\∃d',DP.p d'=d.p/\Le a w0 w q r d' (headD n) r1 w':=by
 have hd:aB w1 d (gX n):=h.1.hold.at_ (oG d (gX n)) (by simp);have:=Ig (a:=a) (c:=(kz (gX n)).2) (N:=fun w'=>∃d',DP.p d'=d.p/\Le a w0 w q r d' (headD n) r1 w') (by rw[sD n Q5];exact Nat.zero_le _) (fun w2 ⟨_,_,h2⟩=>h2.2.at.1) (fun w2 w3 ⟨d',e,h2⟩ hb=>⟨d',e,h2.below hb⟩)
  ((D9 h.2.at.2 hd (PG h.2 h.1.hold) (TT n (by omega) (by omega)) (Nat.zero_le _) (Nat.zero_le _) (Nat.le_trans h.2.g h.2.size)).mono (by
   rintro e w' ⟨rfl,d',h1,h2,h3,h4⟩;rw[sD n Q5] at h1;have s:=Step.at (ps:=[]) (qs:=[bU q 37 r1]) (P:=oG d (gX n)) (Q:=oG d' (headD n)) h.2.size h.1.hold h1 h4 h3;exact⟨rfl,d',h2,h.1.trans s,h.2.fr s.fr (fun b hb=>h.1.hold.far b hb)⟩))
 rw[sD n Q5] at this;exact this
theorem XH(hC:dI c w0)(Q5:4<=n)(hn:n<=4000)(h:Le a w0 w q r d (headD n) r1 w1):
  Zc 26 #[Zp d.p] w1 fun e w'=>∃x,e=.returned (.tuple #[.pointer x,.int .i64 0])/\∃p,x=some (Za p.q 0)/\p.d.p=d.p/\Sl a w0 w q r p (pY n) r1 w':=by
 have hd:aB w1 d (headD n):=h.1.hold.at_ (oG d (headD n)) (by simp);have hl:=nL n (by omega);have hw1:=QC n (by omega);refine Ab (a:=a) (c:=0) (N:=fun x w'=>∃p,x=some (Za p.q 0)/\p.d.p=d.p/\Sl a w0 w q r p (pY n) r1 w') (by decide) (fun x w2 ⟨_,_,_,h2⟩=>h2.2.at.1) (fun x w2 w3 ⟨d',e,e2,h2⟩ hb=>⟨d',e,e2,h2.below hb⟩) ?_;have:=Fu (c:=c) h.2.at.2 (h.2.sha hC) hd (PG h.2 h.1.hold) (GK n (by omega) (by omega)) (Nat.zero_le _) (Nat.zero_le _) (Nat.le_trans h.2.g h.2.size) (by rw[hl];exact Q5) (by rw[hl,zf];rfl) 1 1 (bQ n) ⟨[],[],[]⟩ (RF c n Q5) (by rw[hl];omega) (by rw[hw1]) (by rw[hw1];exact GK n (by omega) (by omega)) [] aC.nil (fun o ho=>by cases ho) (fun x hx=>by cases hx) rfl;refine this.mono ?_;rintro e w' ⟨q',rfl,hm⟩;rw[hw1] at hm;obtain⟨p,g1,g2,g3,g4,g5,g6⟩:=hm.arc;refine⟨_,rfl,p,by rw[g2],g3,?_⟩;have s:=Step.at (ps:=[]) (qs:=[bU q 37 r1]) (P:=oG d (headD n)) (Q:=bf p (pY n)) h.2.size h.1.hold g1 g6 (fun b hb=>by
  rcases mem_append.1 hb with h1|h1
  ·exact g4 b h1
  ·exact .inr (g5 b h1))
 exact⟨h.1.trans s,h.2.fr s.fr (fun b hb=>h.1.hold.far b hb)⟩
theorem Dc(bs:gU a w0 w)(hC:dI c w0)(h:dF w0.heap.size w [bU q 37 r])(z:Int)(hz: -9223372036854775808<=z)(hz2:z<=9223372036854775807)(r0:r[0]? =some (.int .i64 z))(r1:r[1]? =some (.pointer none))(hl:r.length=11):
  Zc 20 #[Zp q] w fun e w'=>e=.returned (.bool true)/\∃p,Sl a w0 w q r p (pY (4+nQ z 512)) ((r.set 1 (Zp p.d.p)).set 2 (Zp p.q)) w':=by
 have hrow:ai w q 37 r:=h.at_ (bU q 37 r) (by simp);have c0:=(hrow.cell 0).trans r0;have c1:=(hrow.cell 1).trans r1;have z1:=hrow.frozen 1;have cP:=Y0 z 512 hz hz2 (by decide) (by decide) w;have hk:nQ z 512<512:=Nat.mod_lt _ (by decide);generalize nQ z 512=k at *;have cN:=Mf (4+(k:Int)) w;have HN:Hid (∀e w',Me w w' (4+(k:Int)) e->∃d,e=.returned ((Zp (DP.p d)))/\Le a w0 w q r d (gX (4+k)) r w'/\w'.cell? (Za q 1)=some (.pointer none)/\w'.frozen? (Za q 1)=false):=fun e w' hN=>by
  obtain⟨m,d,rfl,rfl,hd,hbl,hb'⟩:=hN;have em:(max 1 (min (4+(k:Int)) 4096)).toNat=4+k:=by omega
  rw[em] at hd;have s:=(Step.new (Q:=oG d (gX (4+k))) bs.size hd hb' hbl).frame (rs:=[bU q 37 r]) h;have hg:Le a w0 w q r d (gX (4+k)) r w':=⟨s,bs.below hb'⟩;exact⟨d,rfl,hg,(hg.row.cell 1).trans r1,hg.row.frozen 1⟩
 have HC:Hid _:=hC;have hw4:IntKind.i64.wrap (4+(k:Int))=4+(k:Int):=by rw[IntKind.wrap_i64];omega
 clear bs hC h hrow;go_enter func20,ntmps20;obtain⟨v2,hv2⟩:∃v2,r[2]? =some v2:=⟨_,getElem?_eq_getElem (by omega)⟩;have HF:Hid (∀w1 d,Le a w0 w q r d (gX (4+k)) r w1->Zc 25 #[Zp d.p] (w1.setCell (Za q 1) (Zp d.p)) fun e w'=>e=.returned (.int .i64 0)/\w'.cell? (Za q 1)=some (Zp d.p)/\Hid (∃d',DP.p d'=d.p/\Le a w0 w q r d' (headD (4+k)) (r.set 1 (Zp d.p)) w')):=fun w1 d hg=>(XG (by omega) (by omega) (hg.set 1 _)).mono fun e w' ⟨e1,d',e2,h2⟩=>⟨e1,(h2.row.cell 1).trans (getElem?_set_self (by omega)),d',e2,h2⟩;have HM:Hid (∀w1 dp,(∃d',DP.p d'=dp/\Le a w0 w q r d' (headD (4+k)) (r.set 1 (Zp dp)) w1)->Zc 26 #[Zp dp] w1 fun e w'=>∃p:aS,e=.returned (.tuple #[Zp p.q,.int .i64 0])/\w'.cell? (Za q 2)=some v2/\w'.frozen? (Za q 2)=false/\Hid (Sl a w0 w q r p (pY (4+k)) ((r.set 1 (Zp p.d.p)).set 2 (Zp p.q)) (w'.setCell (Za q 2) (Zp p.q)))):=fun w1 dp ⟨d',e1,h1⟩=>by
  subst e1;refine(XH HC.out (by omega) (by omega) h1).mono ?_;rintro e w' ⟨x,rfl,p,rfl,e3,h3⟩;refine⟨p,rfl,?_,h3.row.frozen 2,?_⟩
  ·rw[h3.row.cell 2,getElem?_set_ne (by decide)];exact hv2
  ·have:=h3.set 2 (Zp p.q);rw[<-e3] at this;exact this
 clear HC;go_wp2_with(first
  | (go_at_call 33;refine cP.mono ?_;rintro e w1 ⟨rfl,rfl⟩)
  | (go_at_call 24;refine cN.mono ?_;intro e w1 hN;obtain⟨d,rfl,hg,q1,y1⟩:=HN.out e w1 hN;have cF:=HF.out w1 d hg;clear hN hg)
  | (go_at_call 25;refine cF.mono ?_;rintro e w2 ⟨rfl,q2,H2⟩;have cM:=HM.out w2 d.p H2.out;clear cF)
  | (go_at_call 26;refine cM.mono ?_;rintro e w3 ⟨p,rfl,q3,y3,H3⟩;clear cM))
 go_ret;exact⟨rfl,p,H3.out⟩
end
section
variable {a:Nat->Addr}{w0 w:World}{q:Nat}{r:List Value}{tv:Value}{T:List It}{p:aS}{A:jc}
theorem XI(h:qD a w0 w q r tv T p A)(x:Int)(s t:Zy)(hs:s.size<=65536)(hn:(iI T s t).2≠0)(hT:(iI T s t).1.Perm T):
  Zc 31 #[Zp q,lG.agg ⟨2,x,s,t⟩] w (mo a w0 w q r tv T p A):=by
 have c2:w.cell? (Za q 2)=some (Zp p.q):=(h.row.cell 2).trans h.r2;have c3:w.cell? (Za q 3)=some tv:=(h.row.cell 3).trans h.r3;have tH:=h.row.lt;have zA:Hid (∀b∈(bf p A).blocks,b<w.heap.size):=fun b hb=>(bf p A).lt (h.hold.at_ (bf p A) (by simp[fQ])) b hb;have RG:Hid (q∉(bf p A).blocks):=fun hm=>by
  have:=h.hold.cons q (by simp[bU]);exact this (by rw[bL,bL,jN];simp;exact .inr hm)
 have NG:Hid (∀w1 w2:World,(w1.cell? (Za q 2)=some (Zp p.q)/\w1.cell? (Za q 3)=some tv/\w1.cell? (Za w.heap.size 0)=some (.int .i64 2)/\w1.cell? (Za w.heap.size 2)=some (.string s)/\w1.cell? (Za w.heap.size 3)=some (.string t))->Fr w1 w2 (bf p A).blocks->w2.cell? (Za q 2)=some (Zp p.q)/\w2.cell? (Za q 3)=some tv/\w2.cell? (Za w.heap.size 0)=some (.int .i64 2)/\w2.cell? (Za w.heap.size 2)=some (.string s)/\w2.cell? (Za w.heap.size 3)=some (.string t)):=fun w1 w2 ⟨k1,k2,k3,k4,k5⟩ f=>by
  have hB:w.heap.size∉(bf p A).blocks:=fun hm=>by have:=zA.out _ hm;omega
  have e1:=f.block q (Zd k1) RG.out;have e2:=f.block w.heap.size (Zd k3) hB;exact⟨ay k1 e1,ay k2 e1,ay k3 e2,ay k4 e2,ay k5 e2⟩
 have hF:Hid (∀w1,Below w.heap.size w w1->Zc 54 #[tv,.string s] w1 fun e w'=>e=.returned (.int .i64 (bJ T s))/\w1=w'):=fun w1 hb=>qY T s tv w1 (fG (h.below hb).own) (by have:=h.ok.few;omega);have hN:Hid (∀w1,Below w.heap.size w w1->Zc 49 #[Zp p.q,.string s,.string t] w1 fun e w'=>e=.returned (.int .i64 ((iI T s t).2:Nat))/\(∃p',kI a w0 w q r tv T p A {A with L:=T} p' w'/\aC (T))/\Fr w1 w' (bf p A).blocks):=fun w1 hb=>by
  have h1:=h.below hb;have:=Da h1.bs h1.arc (by rw[h1.tree];exact h1.ok) s t (by omega) (T) (by rw[h.tree];exact hT);rw[h.tree] at this;refine this.mono ?_;rintro e w' ⟨rfl,k1,yN⟩;obtain⟨p',hm⟩:=h.mid hb k1;obtain⟨_,ks,_⟩:=k1;exact⟨rfl,⟨p',hm,yN⟩,by have:=ks.fr;rwa [kH] at this⟩
 have hn0:¬((iI T s t).2:Int)=0:=by omega
 have H:Hid _:=h;generalize(iI T s t).2=n at *;generalize bJ T s=at_ at *;clear h hT hn;unfold lG.agg;go_enter func31,ntmps31;go_upto_region 1 with fail
 have g6:Below w.heap.size w (w.alloc (.cells #[.int .i64 2,.int .i64 x,.string s,.string t] 40)):=(Zr).alloc (Zn) _;have g1:(w.alloc (.cells #[.int .i64 2,.int .i64 x,.string s,.string t] 40)).cell? (Za q 2)=some (Zp p.q):=by rw[g6.cell tH];exact c2
 have g2:(w.alloc (.cells #[.int .i64 2,.int .i64 x,.string s,.string t] 40)).cell? (Za q 3)=some tv:=by rw[g6.cell tH];exact c3
 have r0:=ai.new w 40 [.int .i64 2,.int .i64 x,.string s,.string t];have g3:=r0.cell 0;have g4:=r0.cell 2;have g5:=r0.cell 3;simp only[getElem?_cons_zero,getElem?_cons_succ] at g3 g4 g5;clear r0 c2 c3;generalize(w.alloc (.cells #[.int .i64 2,.int .i64 x,.string s,.string t] 40))=V at *;generalize hB0:w.heap.size=B0 at *;refine bF ?_;refine wp_region_held_drew (S:=fun w'=>w'.cell? (Za q 2)=some (Zp p.q)/\w'.cell? (Za q 3)=some tv/\w'.cell? (Za B0 0)=some (.int .i64 2)/\w'.cell? (Za B0 2)=some (.string s)/\w'.cell? (Za B0 3)=some (.string t)) (by kernel_rfl) ⟨g1,g2,g3,g4,g5⟩ (fun ah=>?_);refine Zt 0 (Zp q) ?_;refine Zt 1 (Zp q) ?_;refine Zt 2 (.pointer (some (Za q 3))) ?_;refine Zt 3 tv ?_;refine Zt 4 (.pointer (some (Za B0 2))) ?_;refine Zt 5 (.string s) ?_;refine Zh 6 fun K hK=>?_;go_simp;go_at_call 54;refine(hF.out _ g6.drew).mono ?_;rintro e w1 ⟨rfl,rfl⟩;refine hK.out _ _ (ah) (fun ah=>?_);clear hK K;(try simp only[Act.put,lA,lZ,lS]);refine Zt 7 (.int .i64 at_) ?_;refine Zx ?_;simp only[At];obtain⟨g1,g2,g3,g4,g5⟩:=ah;have g7:Below B0 w V.drew:=g6.drew;go_upto_region 4 with fail
 refine bF ?_;refine wp_region_held_drew (S:=fun w'=>w'.cell? (Za q 2)=some (Zp p.q)/\w'.cell? (Za q 3)=some tv/\w'.cell? (Za B0 0)=some (.int .i64 2)/\w'.cell? (Za B0 2)=some (.string s)/\w'.cell? (Za B0 3)=some (.string t)) (by kernel_rfl) ⟨g1,g2,g3,g4,g5⟩ (fun ah=>?_);refine Zt 0 (Zp q) ?_;refine Zt 1 (Zp q) ?_;refine Zt 2 (.pointer (some (Za q 2))) ?_;refine Zt 3 (Zp p.q) ?_;refine Zt 4 (.pointer (some (Za B0 2))) ?_;refine Zt 5 (.string s) ?_;refine Zt 6 (.pointer (some (Za B0 3))) ?_;refine Zt 7 (.string t) ?_;refine Zh 8 fun K hK=>?_;go_simp;go_at_call 49;refine(hN.out _ g7.drew).mono ?_;rintro e w2 ⟨rfl,h2,f2⟩;have Lf:Hid _:=h2;have HS2:Hid _:=f2;clear h2 f2;refine hK.out _ _ (NG.out _ _ ah HS2.out) (fun ah=>?_);clear hK K;(try simp only[Act.put,lA,lZ,lS]);refine Zt 9 (Zi n) ?_;refine Zx ?_;simp only[At];obtain⟨g1,g2,g3,g4,g5⟩:=ah;go_wp2;go_ret;obtain⟨⟨p',hm,yN⟩,_⟩:=(⟨Lf.out,trivial⟩:(∃p',kI a w0 w q r tv T p A {A with L:=T} p' w2/\aC T)/\True);exact hm.same H.out.r3 H.out.ok H.out.few
theorem RH(h:qD a w0 w q r tv T p A)(x:Int)(s t:Zy)(hs:s.size<=65536)(hn:(gD T s).2≠0)(hT:(gD T s).1.Perm T):
  Zc 31 #[Zp q,lG.agg ⟨3,x,s,t⟩] w (mo a w0 w q r tv T p A):=by
 have c2:w.cell? (Za q 2)=some (Zp p.q):=(h.row.cell 2).trans h.r2;have c3:w.cell? (Za q 3)=some tv:=(h.row.cell 3).trans h.r3;have tH:=h.row.lt;have zA:Hid (∀b∈(bf p A).blocks,b<w.heap.size):=fun b hb=>(bf p A).lt (h.hold.at_ (bf p A) (by simp[fQ])) b hb;have RG:Hid (q∉(bf p A).blocks):=fun hm=>by
  have:=h.hold.cons q (by simp[bU]);exact this (by rw[bL,bL,jN];simp;exact .inr hm)
 have NG:Hid (∀w1 w2:World,(w1.cell? (Za q 2)=some (Zp p.q)/\w1.cell? (Za q 3)=some tv/\w1.cell? (Za w.heap.size 0)=some (.int .i64 3)/\w1.cell? (Za w.heap.size 2)=some (.string s)/\w1.cell? (Za w.heap.size 3)=some (.string t))->Fr w1 w2 (bf p A).blocks->w2.cell? (Za q 2)=some (Zp p.q)/\w2.cell? (Za q 3)=some tv/\w2.cell? (Za w.heap.size 0)=some (.int .i64 3)/\w2.cell? (Za w.heap.size 2)=some (.string s)/\w2.cell? (Za w.heap.size 3)=some (.string t)):=fun w1 w2 ⟨k1,k2,k3,k4,k5⟩ f=>by
  have hB:w.heap.size∉(bf p A).blocks:=fun hm=>by have:=zA.out _ hm;omega
  have e1:=f.block q (Zd k1) RG.out;have e2:=f.block w.heap.size (Zd k3) hB;exact⟨ay k1 e1,ay k2 e1,ay k3 e2,ay k4 e2,ay k5 e2⟩
 have hF:Hid (∀w1,Below w.heap.size w w1->Zc 54 #[tv,.string s] w1 fun e w'=>e=.returned (.int .i64 (bJ T s))/\w1=w'):=fun w1 hb=>qY T s tv w1 (fG (h.below hb).own) (by have:=h.ok.few;omega);have hN:Hid (∀w1,Below w.heap.size w w1->Zc 27 #[Zp p.q,.string s] w1 fun e w'=>e=.returned (.int .i64 ((gD T s).2:Nat))/\(∃p',kI a w0 w q r tv T p A {A with L:=T} p' w'/\aC (T))/\Fr w1 w' (bf p A).blocks):=fun w1 hb=>by
  have h1:=h.below hb;have:=Db h1.bs h1.arc (by rw[h1.tree];exact h1.ok) s (by omega) (T) (by rw[h.tree];exact hT);rw[h.tree] at this;refine this.mono ?_;rintro e w' ⟨rfl,k1,yN⟩;obtain⟨p',hm⟩:=h.mid hb k1;obtain⟨_,ks,_⟩:=k1;exact⟨rfl,⟨p',hm,yN⟩,by have:=ks.fr;rwa [kH] at this⟩
 have hn0:¬((gD T s).2:Int)=0:=by omega
 have H:Hid _:=h;generalize(gD T s).2=n at *;generalize bJ T s=at_ at *;clear h hT hn;unfold lG.agg;go_enter func31,ntmps31;go_upto_region 1 with fail
 have g6:Below w.heap.size w (w.alloc (.cells #[.int .i64 3,.int .i64 x,.string s,.string t] 40)):=(Zr).alloc (Zn) _;have g1:(w.alloc (.cells #[.int .i64 3,.int .i64 x,.string s,.string t] 40)).cell? (Za q 2)=some (Zp p.q):=by rw[g6.cell tH];exact c2
 have g2:(w.alloc (.cells #[.int .i64 3,.int .i64 x,.string s,.string t] 40)).cell? (Za q 3)=some tv:=by rw[g6.cell tH];exact c3
 have r0:=ai.new w 40 [.int .i64 3,.int .i64 x,.string s,.string t];have g3:=r0.cell 0;have g4:=r0.cell 2;have g5:=r0.cell 3;simp only[getElem?_cons_zero,getElem?_cons_succ] at g3 g4 g5;clear r0 c2 c3;generalize(w.alloc (.cells #[.int .i64 3,.int .i64 x,.string s,.string t] 40))=V at *;generalize hB0:w.heap.size=B0 at *;refine bF ?_;refine wp_region_held_drew (S:=fun w'=>w'.cell? (Za q 2)=some (Zp p.q)/\w'.cell? (Za q 3)=some tv/\w'.cell? (Za B0 0)=some (.int .i64 3)/\w'.cell? (Za B0 2)=some (.string s)/\w'.cell? (Za B0 3)=some (.string t)) (by kernel_rfl) ⟨g1,g2,g3,g4,g5⟩ (fun ah=>?_);refine Zt 0 (Zp q) ?_;refine Zt 1 (Zp q) ?_;refine Zt 2 (.pointer (some (Za q 3))) ?_;refine Zt 3 tv ?_;refine Zt 4 (.pointer (some (Za B0 2))) ?_;refine Zt 5 (.string s) ?_;refine Zh 6 fun K hK=>?_;go_simp;go_at_call 54;refine(hF.out _ g6.drew).mono ?_;rintro e w1 ⟨rfl,rfl⟩;refine hK.out _ _ (ah) (fun ah=>?_);clear hK K;(try simp only[Act.put,lA,lZ,lS]);refine Zt 7 (.int .i64 at_) ?_;refine Zx ?_;simp only[At];obtain⟨g1,g2,g3,g4,g5⟩:=ah;have g7:Below B0 w V.drew:=g6.drew;go_upto_region 11 with fail
 refine bF ?_;refine wp_region_held_drew (S:=fun w'=>w'.cell? (Za q 2)=some (Zp p.q)/\w'.cell? (Za q 3)=some tv/\w'.cell? (Za B0 0)=some (.int .i64 3)/\w'.cell? (Za B0 2)=some (.string s)/\w'.cell? (Za B0 3)=some (.string t)) (by kernel_rfl) ⟨g1,g2,g3,g4,g5⟩ (fun ah=>?_);refine Zt 0 (Zp q) ?_;refine Zt 1 (Zp q) ?_;refine Zt 2 (.pointer (some (Za q 2))) ?_;refine Zt 3 (Zp p.q) ?_;refine Zt 4 (.pointer (some (Za B0 2))) ?_;refine Zt 5 (.string s) ?_;refine Zh 6 fun K hK=>?_;go_simp;go_at_call 27;refine(hN.out _ g7.drew).mono ?_;rintro e w2 ⟨rfl,h2,f2⟩;have Lf:Hid _:=h2;have HS2:Hid _:=f2;clear h2 f2;refine hK.out _ _ (NG.out _ _ ah HS2.out) (fun ah=>?_);clear hK K;(try simp only[Act.put,lA,lZ,lS]);refine Zt 7 (Zi n) ?_;refine Zx ?_;simp only[At];obtain⟨g1,g2,g3,g4,g5⟩:=ah;go_wp2;go_ret;obtain⟨⟨p',hm,yN⟩,_⟩:=(⟨Lf.out,trivial⟩:(∃p',kI a w0 w q r tv T p A {A with L:=T} p' w2/\aC T)/\True);exact hm.same H.out.r3 H.out.ok H.out.few
theorem Om(h:qD a w0 w q r tv T p A)(x:Int)(s t:Zy)(hs:s.size<=65536)(hn:(eY T s).2≠0)(hT:(eY T s).1.Perm T):
  Zc 31 #[Zp q,lG.agg ⟨4,x,s,t⟩] w (mo a w0 w q r tv T p A):=by
 have c2:w.cell? (Za q 2)=some (Zp p.q):=(h.row.cell 2).trans h.r2;have c3:w.cell? (Za q 3)=some tv:=(h.row.cell 3).trans h.r3;have tH:=h.row.lt;have zA:Hid (∀b∈(bf p A).blocks,b<w.heap.size):=fun b hb=>(bf p A).lt (h.hold.at_ (bf p A) (by simp[fQ])) b hb;have RG:Hid (q∉(bf p A).blocks):=fun hm=>by
  have:=h.hold.cons q (by simp[bU]);exact this (by rw[bL,bL,jN];simp;exact .inr hm)
 have NG:Hid (∀w1 w2:World,(w1.cell? (Za q 2)=some (Zp p.q)/\w1.cell? (Za q 3)=some tv/\w1.cell? (Za w.heap.size 0)=some (.int .i64 4)/\w1.cell? (Za w.heap.size 2)=some (.string s)/\w1.cell? (Za w.heap.size 3)=some (.string t))->Fr w1 w2 (bf p A).blocks->w2.cell? (Za q 2)=some (Zp p.q)/\w2.cell? (Za q 3)=some tv/\w2.cell? (Za w.heap.size 0)=some (.int .i64 4)/\w2.cell? (Za w.heap.size 2)=some (.string s)/\w2.cell? (Za w.heap.size 3)=some (.string t)):=fun w1 w2 ⟨k1,k2,k3,k4,k5⟩ f=>by
  have hB:w.heap.size∉(bf p A).blocks:=fun hm=>by have:=zA.out _ hm;omega
  have e1:=f.block q (Zd k1) RG.out;have e2:=f.block w.heap.size (Zd k3) hB;exact⟨ay k1 e1,ay k2 e1,ay k3 e2,ay k4 e2,ay k5 e2⟩
 have hF:Hid (∀w1,Below w.heap.size w w1->Zc 54 #[tv,.string s] w1 fun e w'=>e=.returned (.int .i64 (bJ T s))/\w1=w'):=fun w1 hb=>qY T s tv w1 (fG (h.below hb).own) (by have:=h.ok.few;omega);have hN:Hid (∀w1,Below w.heap.size w w1->Zc 56 #[Zp p.q,.string s] w1 fun e w'=>e=.returned (.int .i64 ((eY T s).2:Nat))/\(∃p',kI a w0 w q r tv T p A {A with L:=T} p' w'/\aC (T))/\Fr w1 w' (bf p A).blocks):=fun w1 hb=>by
  have h1:=h.below hb;have:=Ai h1.bs h1.arc (by rw[h1.tree];exact h1.ok) s (by omega) (T) (by rw[h.tree];exact hT);rw[h.tree] at this;refine this.mono ?_;rintro e w' ⟨rfl,k1,yN⟩;obtain⟨p',hm⟩:=h.mid hb k1;obtain⟨_,ks,_⟩:=k1;exact⟨rfl,⟨p',hm,yN⟩,by have:=ks.fr;rwa [kH] at this⟩
 have hn0:¬((eY T s).2:Int)=0:=by omega
 have H:Hid _:=h;generalize(eY T s).2=n at *;generalize bJ T s=at_ at *;clear h hT hn;unfold lG.agg;go_enter func31,ntmps31;go_upto_region 1 with fail
 have g6:Below w.heap.size w (w.alloc (.cells #[.int .i64 4,.int .i64 x,.string s,.string t] 40)):=(Zr).alloc (Zn) _;have g1:(w.alloc (.cells #[.int .i64 4,.int .i64 x,.string s,.string t] 40)).cell? (Za q 2)=some (Zp p.q):=by rw[g6.cell tH];exact c2
 have g2:(w.alloc (.cells #[.int .i64 4,.int .i64 x,.string s,.string t] 40)).cell? (Za q 3)=some tv:=by rw[g6.cell tH];exact c3
 have r0:=ai.new w 40 [.int .i64 4,.int .i64 x,.string s,.string t];have g3:=r0.cell 0;have g4:=r0.cell 2;have g5:=r0.cell 3;simp only[getElem?_cons_zero,getElem?_cons_succ] at g3 g4 g5;clear r0 c2 c3;generalize(w.alloc (.cells #[.int .i64 4,.int .i64 x,.string s,.string t] 40))=V at *;generalize hB0:w.heap.size=B0 at *;refine bF ?_;refine wp_region_held_drew (S:=fun w'=>w'.cell? (Za q 2)=some (Zp p.q)/\w'.cell? (Za q 3)=some tv/\w'.cell? (Za B0 0)=some (.int .i64 4)/\w'.cell? (Za B0 2)=some (.string s)/\w'.cell? (Za B0 3)=some (.string t)) (by kernel_rfl) ⟨g1,g2,g3,g4,g5⟩ (fun ah=>?_);refine Zt 0 (Zp q) ?_;refine Zt 1 (Zp q) ?_;refine Zt 2 (.pointer (some (Za q 3))) ?_;refine Zt 3 tv ?_;refine Zt 4 (.pointer (some (Za B0 2))) ?_;refine Zt 5 (.string s) ?_;refine Zh 6 fun K hK=>?_;go_simp;go_at_call 54;refine(hF.out _ g6.drew).mono ?_;rintro e w1 ⟨rfl,rfl⟩;refine hK.out _ _ (ah) (fun ah=>?_);clear hK K;(try simp only[Act.put,lA,lZ,lS]);refine Zt 7 (.int .i64 at_) ?_;refine Zx ?_;simp only[At];obtain⟨g1,g2,g3,g4,g5⟩:=ah;have g7:Below B0 w V.drew:=g6.drew;go_upto_region 16 with fail
 refine bF ?_;refine wp_region_held_drew (S:=fun w'=>w'.cell? (Za q 2)=some (Zp p.q)/\w'.cell? (Za q 3)=some tv/\w'.cell? (Za B0 0)=some (.int .i64 4)/\w'.cell? (Za B0 2)=some (.string s)/\w'.cell? (Za B0 3)=some (.string t)) (by kernel_rfl) ⟨g1,g2,g3,g4,g5⟩ (fun ah=>?_);refine Zt 0 (Zp q) ?_;refine Zt 1 (Zp q) ?_;refine Zt 2 (.pointer (some (Za q 2))) ?_;refine Zt 3 (Zp p.q) ?_;refine Zt 4 (.pointer (some (Za B0 2))) ?_;refine Zt 5 (.string s) ?_;refine Zh 6 fun K hK=>?_;go_simp;go_at_call 56;refine(hN.out _ g7.drew).mono ?_;rintro e w2 ⟨rfl,h2,f2⟩;have Lf:Hid _:=h2;have HS2:Hid _:=f2;clear h2 f2;refine hK.out _ _ (NG.out _ _ ah HS2.out) (fun ah=>?_);clear hK K;(try simp only[Act.put,lA,lZ,lS]);refine Zt 7 (Zi n) ?_;refine Zx ?_;simp only[At];obtain⟨g1,g2,g3,g4,g5⟩:=ah;go_wp2;go_ret;obtain⟨⟨p',hm,yN⟩,_⟩:=(⟨Lf.out,trivial⟩:(∃p',kI a w0 w q r tv T p A {A with L:=T} p' w2/\aC T)/\True);exact hm.same H.out.r3 H.out.ok H.out.few
end
section
variable {a:Nat->Addr}{w0 w:World}{q:Nat}{r:List Value}{tv:Value}{T:List It}{p:aS}{A:jc}
theorem Oo(h:qD a w0 w q r tv T p A)(x:Int)(s t:Zy)(hs:s.size<=65536)(hn:(gD T s).2=0)(Il:bJ T s= -1)(hT:(gD T s).1.Perm (T++[⟨s,true,⟨#[]⟩⟩]))(gV:fP (T++[⟨s,true,⟨#[]⟩⟩])):
  Zc 31 #[Zp q,lG.agg ⟨3,x,s,t⟩] w (mo a w0 w q r tv T p A):=by
 obtain⟨ta,tc,rfl⟩:∃ta tc,tv=.slice ta T.length tc:=aV h.own;have c2:w.cell? (Za q 2)=some (Zp p.q):=(h.row.cell 2).trans h.r2;have c3:w.cell? (Za q 3)=some (.slice ta T.length tc):=(h.row.cell 3).trans h.r3;have tH:=h.row.lt;have zA:Hid (∀b∈(bf p A).blocks,b<w.heap.size):=fun b hb=>(bf p A).lt (h.hold.at_ (bf p A) (by simp[fQ])) b hb;have RG:Hid (q∉(bf p A).blocks):=fun hm=>by
  have:=h.hold.cons q (by simp[bU]);exact this (by rw[bL,bL,jN];simp;exact .inr hm)
 have NG:Hid (∀w1 w2:World,(w1.cell? (Za q 2)=some (Zp p.q)/\w1.cell? (Za q 3)=some (.slice ta T.length tc)/\w1.cell? (Za w.heap.size 0)=some (.int .i64 3)/\w1.cell? (Za w.heap.size 2)=some (.string s)/\w1.cell? (Za w.heap.size 3)=some (.string t))->Fr w1 w2 (bf p A).blocks->w2.cell? (Za q 2)=some (Zp p.q)/\w2.cell? (Za q 3)=some (.slice ta T.length tc)/\w2.cell? (Za w.heap.size 0)=some (.int .i64 3)/\w2.cell? (Za w.heap.size 2)=some (.string s)/\w2.cell? (Za w.heap.size 3)=some (.string t)):=fun w1 w2 ⟨k1,k2,k3,k4,k5⟩ f=>by
  have hB:w.heap.size∉(bf p A).blocks:=fun hm=>by have:=zA.out _ hm;omega
  have e1:=f.block q (Zd k1) RG.out;have e2:=f.block w.heap.size (Zd k3) hB;exact⟨ay k1 e1,ay k2 e1,ay k3 e2,ay k4 e2,ay k5 e2⟩
 have hF:Hid (∀w1,Below w.heap.size w w1->Zc 54 #[.slice ta T.length tc,.string s] w1 fun e w'=>e=.returned (.int .i64 (bJ T s))/\w1=w'):=fun w1 hb=>qY T s _ w1 (fG (h.below hb).own) (by have:=h.ok.few;omega);have hN:Hid (∀w1,Below w.heap.size w w1->Zc 27 #[Zp p.q,.string s] w1 fun e w'=>e=.returned (.int .i64 0)/\(∃p',kI a w0 w q r (.slice ta T.length tc) T p A {A with L:=T++[⟨s,true,⟨#[]⟩⟩]} p' w'/\aC (T++[⟨s,true,⟨#[]⟩⟩]))/\Fr w1 w' (bf p A).blocks):=fun w1 hb=>by
  have h1:=h.below hb;have:=Db h1.bs h1.arc (by rw[h1.tree];exact h1.ok) s (by omega) (T++[⟨s,true,⟨#[]⟩⟩]) (by rw[h.tree];exact hT);rw[h.tree] at this;refine this.mono ?_;rintro e w' ⟨rfl,k1,yN⟩;obtain⟨p',hm⟩:=h.mid hb k1;obtain⟨_,ks,_⟩:=k1;exact⟨by rw[hn];rfl,⟨p',hm,yN⟩,by have:=ks.fr;rwa [kH] at this⟩
 have H:Hid _:=h;rw[Il] at hF;obtain⟨i0,hi0,hz0,hz1,hz2⟩:=info_parts oN;have hTl:=h.ok.few;have Oq:Hid _:=gV;have HBt:Hid (∀g,(Value.slice ta T.length tc).ownBlock=some g->g≠q/\g<w.heap.size):=fun g hg=>⟨fun e=>by
  have:=h.hold.cons q (by simp[bU]);exact this (by rw[bL];refine mem_append_left _ ?_;rw[<-e];exact Zo.2 hg),(World.ownsRow.lt h.own g hg).2⟩
 clear h hT hn gV;unfold lG.agg;go_enter func31,ntmps31;go_upto_region 1 with fail
 have g6:Below w.heap.size w (w.alloc (.cells #[.int .i64 3,.int .i64 x,.string s,.string t] 40)):=(Zr).alloc (Zn) _;have g1:(w.alloc (.cells #[.int .i64 3,.int .i64 x,.string s,.string t] 40)).cell? (Za q 2)=some (Zp p.q):=by rw[g6.cell tH];exact c2
 have g2:(w.alloc (.cells #[.int .i64 3,.int .i64 x,.string s,.string t] 40)).cell? (Za q 3)=some (.slice ta T.length tc):=by rw[g6.cell tH];exact c3
 have r0:=ai.new w 40 [.int .i64 3,.int .i64 x,.string s,.string t];have g3:=r0.cell 0;have g4:=r0.cell 2;have g5:=r0.cell 3;simp only[getElem?_cons_zero,getElem?_cons_succ] at g3 g4 g5;clear r0 c2 c3;generalize(w.alloc (.cells #[.int .i64 3,.int .i64 x,.string s,.string t] 40))=V at *;generalize hB0:w.heap.size=B0 at *;refine bF ?_;refine wp_region_held_drew (S:=fun w'=>w'.cell? (Za q 2)=some (Zp p.q)/\w'.cell? (Za q 3)=some (.slice ta T.length tc)/\w'.cell? (Za B0 0)=some (.int .i64 3)/\w'.cell? (Za B0 2)=some (.string s)/\w'.cell? (Za B0 3)=some (.string t)) (by kernel_rfl) ⟨g1,g2,g3,g4,g5⟩ (fun ah=>?_);refine Zt 0 (Zp q) ?_;refine Zt 1 (Zp q) ?_;refine Zt 2 (.pointer (some (Za q 3))) ?_;refine Zt 3 (.slice ta T.length tc) ?_;refine Zt 4 (.pointer (some (Za B0 2))) ?_;refine Zt 5 (.string s) ?_;refine Zh 6 fun K hK=>?_;go_simp;go_at_call 54;refine(hF.out _ g6.drew).mono ?_;rintro e w1 ⟨rfl,rfl⟩;refine hK.out _ _ (ah) (fun ah=>?_);clear hK K;(try simp only[Act.put,lA,lZ,lS]);refine Zt 7 (.int .i64 (-1)) ?_;refine Zx ?_;simp only[At];obtain⟨g1,g2,g3,g4,g5⟩:=ah;have g7:Below B0 w V.drew:=g6.drew;go_upto_region 11 with fail
 refine bF ?_;refine wp_region_held_drew (S:=fun w'=>w'.cell? (Za q 2)=some (Zp p.q)/\w'.cell? (Za q 3)=some (.slice ta T.length tc)/\w'.cell? (Za B0 0)=some (.int .i64 3)/\w'.cell? (Za B0 2)=some (.string s)/\w'.cell? (Za B0 3)=some (.string t)) (by kernel_rfl) ⟨g1,g2,g3,g4,g5⟩ (fun ah=>?_);refine Zt 0 (Zp q) ?_;refine Zt 1 (Zp q) ?_;refine Zt 2 (.pointer (some (Za q 2))) ?_;refine Zt 3 (Zp p.q) ?_;refine Zt 4 (.pointer (some (Za B0 2))) ?_;refine Zt 5 (.string s) ?_;refine Zh 6 fun K hK=>?_;go_simp;go_at_call 27;refine(hN.out _ g7.drew).mono ?_;rintro e w2 ⟨rfl,h2,f2⟩;have Lf:Hid _:=h2;have HS2:Hid _:=f2;clear h2 f2;refine hK.out _ _ (NG.out _ _ ah HS2.out) (fun ah=>?_);clear hK K;(try simp only[Act.put,lA,lZ,lS]);refine Zt 7 (.int .i64 0) ?_;refine Zx ?_;simp only[At];obtain⟨g1,g2,g3,g4,g5⟩:=ah;go_upto_region 13 with fail
 obtain⟨p',hm,yN⟩:=Lf.out;have HM:Hid _:=hm;have U2:=fB hm.own (Zr).drew;have XE:Hid (w2.drew.ownsRow 0 109 3 (.slice ta T.length tc) T.length (aK T)):=U2;have hbs:Hid (∀W:World,(Instr.buildSlice 32 1 #[(0,.agg #[.string s,.bool true,.string ⟨#[]⟩])]).run prog W=.ok (.slice (Zs W.heap.size) 1 1) (W.alloc (.cells #[.string s,.bool true,.string ⟨#[]⟩] 109))):=fun W=>bH (P:=prog) W 32 109 underlying32 [.string s,.bool true,.string ⟨#[]⟩] i0 _ hi0 hz0 hz1 (by simp) (by simp);have Iy:Below w2.drew.heap.size w2.drew (w2.drew.alloc (.cells #[.string s,.bool true,.string ⟨#[]⟩] 109)):=(Zr).alloc (Zn) _;have Sm:w2.drew.cell? (Za q 3)=some (.slice ta T.length tc):=g2;have k2a:(w2.alloc (.cells #[.string s,.bool true,.string ⟨#[]⟩] 109)).cell? (Za q 3)=some (.slice ta T.length tc):=by rw[((Below.refl w2.heap.size w2).alloc (Zn) _).cell (Zd Sm)];exact Sm
 have HB2:Hid (∀w':World,Fr w2 w' (Value.slice ta T.length tc).ownBlock.toList->w'.cell? (Za B0 0)=some (.int .i64 3)/\w'.cell? (Za B0 2)=some (.string s)/\w'.cell? (Za B0 3)=some (.string t)):=fun w' f=>by
  have e2:=f.block B0 (Zd g3) (fun hm=>by have:=(HBt.out _ (Zo.1 hm)).2;omega);exact⟨ay g3 e2,ay g4 e2,ay g5 e2⟩
 have FA:Hid (Fr w2 (w2.drew.alloc (.cells #[.string s,.bool true,.string ⟨#[]⟩] 109)) (Value.slice ta T.length tc).ownBlock.toList):=((Fr.refl w2 _).drew).alloc _;have HB3:Hid (∀(w':World) (v:Value),(w'.cell? (Za B0 0)=some (.int .i64 3)/\w'.cell? (Za B0 2)=some (.string s)/\w'.cell? (Za B0 3)=some (.string t))->(w'.setCell (Za q 3) v).cell? (Za B0 0)=some (.int .i64 3)/\(w'.setCell (Za q 3) v).cell? (Za B0 2)=some (.string s)/\(w'.setCell (Za q 3) v).cell? (Za B0 3)=some (.string t)):=fun w' v ⟨e3,e4,e5⟩=>by
  have fq:Fr w' (w'.setCell (Za q 3) v) [q]:=(Fr.refl _ _).setCell _ _ (.inl (by simp));have e2:=fq.block B0 (Zd e3) (by simp;omega);exact⟨ay e3 e2,ay e4 e2,ay e5 e2⟩
 have rA:Hid (∀(g cap:Nat) (w4:World),w4.ownsRow 0 109 3 (.slice (Zs g) (T.length+1) cap) (T.length+1) (aK T++[.string s,.bool true,.string ⟨#[]⟩])->(w2.drew.alloc (.cells #[.string s,.bool true,.string ⟨#[]⟩] 109)).grownBy w4 (Value.slice ta T.length tc).ownBlock->((Value.slice ta T.length tc).ownBlock=some g\/g=(w2.drew.alloc (.cells #[.string s,.bool true,.string ⟨#[]⟩] 109)).heap.size)->
   mo a w0 w q r (.slice ta T.length tc) T p A (.returned (.bool true)) (w4.setCell (Za q 3) (.slice (Zs g) (T.length+1) cap))/\w4.cell? (Za q 3)=some (.slice ta T.length tc)/\w4.frozen? (Za q 3)=false/\Fr w2 w4 (Value.slice ta T.length tc).ownBlock.toList):=fun g cap w4 aY aN hat=>by
  have f4:Fr w2 w4 (Value.slice ta T.length tc).ownBlock.toList:=FA.out.grown aN (fun k e=>.inl (Zo.2 e));have hown':w4.ownsRow 0 109 3 (.slice (Zs g) (T.length+1) cap) (T++[(⟨s,true,⟨#[]⟩⟩:It)]).length (aK (T++[⟨s,true,⟨#[]⟩⟩])):=by
   rw[oC,length_append,length_singleton];exact aY
  have:=HM.out.set rfl f4 hown' (fun b hb=>by
   have e1:g=b:=by simpa [Value.ownBlock] using hb
   rw[<-e1];rcases hat with e|e
   ·exact .inl e
   ·exact .inr (by rw[e];simp)) yN Oq.out H.out.r3
  exact⟨this.1,this.2.1,this.2.2,f4⟩
 clear g1 g2 U2 hm Lf HS2;refine bF ?_;refine wp_region_held_drew (S:=fun w'=>w'.cell? (Za B0 0)=some (.int .i64 3)/\w'.cell? (Za B0 2)=some (.string s)/\w'.cell? (Za B0 3)=some (.string t)) (by kernel_rfl) ⟨g3,g4,g5⟩ (fun ah=>?_);refine Zt 0 (Zp q) ?_;refine Zt 1 (Zp q) ?_;refine Zt 2 (Zp q) ?_;refine Zt 3 (.pointer (some (Za q 3))) ?_;refine Zt 5 (.pointer (some (Za B0 2))) ?_;refine Zt 6 (.string s) ?_;refine Zt 7 (.agg #[.string s,.bool true,.string ⟨#[]⟩]) ?_;refine Zw [4,8] ?_;refine Zb (fun K hK=>?_) (Ze fun K hK=>?_);refine aD rfl (v:=.slice ta T.length tc) (w':=w2.drew) (by have kk:=Sm;go_simp) ?_;refine hK.out _ _ (by exact ah) (fun ah=>?_);clear hK K;(try simp only[Act.put,lA,lZ,lS]);refine Zh 8 fun K hK=>?_;refine aD rfl (v:=.slice (Zs w2.drew.heap.size) 1 1) (w':=w2.drew.alloc (.cells #[.string s,.bool true,.string ⟨#[]⟩] 109)) (by exact aL 32 (.tmp 99) (by rfl) (.agg #[.string s,.bool true,.string ⟨#[]⟩]) _ _ _ (by rfl) (hbs.out _)) ?_;refine hK.out _ _ (HB2.out _ (by exact FA.out)) (fun ah=>?_);rotate_left;refine aD rfl (v:=.slice (Zs w2.drew.heap.size) 1 1) (w':=w2.drew.alloc (.cells #[.string s,.bool true,.string ⟨#[]⟩] 109)) (by exact aL 32 (.tmp 99) (by rfl) (.agg #[.string s,.bool true,.string ⟨#[]⟩]) _ _ _ (by rfl) (hbs.out _)) ?_;refine hK.out _ _ (HB2.out _ (by exact FA.out)) (fun ah=>?_);clear hK K;(try simp only[Act.put,lA,lZ,lS]);refine Zh 4 fun K hK=>?_;refine aD rfl (v:=.slice ta T.length tc) (w':=w2.drew.alloc (.cells #[.string s,.bool true,.string ⟨#[]⟩] 109)) (by have kk:=k2a;go_simp) ?_;refine hK.out _ _ (by exact ah) (fun ah=>?_);rotate_left
 all_goals
  clear hK K;(try simp only[Act.put,lA,lZ,lS]);refine Zh 9 fun K hK=>?_;refine step_append_lies _ (by rfl) (.tmp 96) (.tmp 100) 32 (by rfl) 0 109 i0 _ 3 40 underlying32 hi0 hz0 hz1 hz2 (by rfl) (by decide) (.slice ta T.length tc) T.length (aK T) (by rfl) (World.ownsRow.alloc XE.out _) (Za w2.drew.heap.size 0) 1 1 [.string s,.bool true,.string ⟨#[]⟩] (by rfl) (by rfl) (World.news_of_block (cs:=#[.string s,.bool true,.string ⟨#[]⟩]) (t:=109) (fr:=(0,0)) (heap_alloc_new w2.drew _)) (by intro u hu;simp at hu;rcases hu with rfl|rfl|rfl<;>rfl) (by decide) (by unfold maxLen;omega) (by omega) (Nat.zero_le _) _ rfl ?_;intro g cap w4 aY aN hat tJ;obtain⟨hE,hc3,hz3,hB4⟩:=rA.out g cap w4 aY aN hat;have HE:Hid (mo a w0 w q r (.slice ta T.length tc) T p A (.returned (.bool true)) (w4.setCell (Za q 3) (.slice (Zs g) (T.length+1) cap))):=hE;clear hE aY aN hat;refine hK.out _ _ (HB2.out _ hB4) (fun ah=>?_);clear hK K;(try simp only[Act.put,lA,lZ,lS]);refine Zt 10 (Zp q) ?_;refine Zt 11 (.pointer (some (Za q 3))) ?_;refine Zh 12 fun K hK=>?_;refine step_skip rfl (w':=w4.setCell (Za q 3) (.slice (Zs g) (T.length+1) cap)) (by go_simp) ?_;refine hK.out _ _ (HB3.out _ _ ah) (fun ah=>?_);clear hK K
  try simp only[Act.put]
  refine Zx ?_;simp only[At];clear hc3 hz3 ah;go_wp2;go_ret;exact HE.out
end
section
variable {a:Nat->Addr}{w0 w:World}{q:Nat}{r:List Value}{tv:Value}{T:List It}{p:aS}{A:jc}
theorem yK(h:w.ownsRow b e z v n xs)(hb:b'<=b):w.ownsRow b' e z v n xs:=⟨h.1,h.2.imp id fun⟨g,cap,cur,hv,hB,r⟩=>⟨g,cap,cur,hv,Nat.le_trans hb hB,r⟩⟩
theorem mo.drewK{e:Ending}(h:mo a w0 w q r tv T p A e w1):mo a w0 w q r tv T p A e w1.drew:=by
 obtain⟨h1,tv',p',T',s1,h2,h3,h4,h5,h6⟩:=h;exact⟨h1,tv',p',T',s1.drew,h2,h3,h4,h5,h6.below (Zr).drew⟩
theorem Im(h:qD a w0 w q r tv T p A)(x:Int)(s t:Zy)(hs:s.size<=65536)(i:Nat)(_hi:i<T.length)(hn:(eY T s).2=0)(Il:bJ T s=(i:Nat))(hT:(eY T s).1.Perm (T.eraseIdx i))(gV:fP (T.eraseIdx i)):
  Zc 31 #[Zp q,lG.agg ⟨4,x,s,t⟩] w (mo a w0 w q r tv T p A):=by
 have c2:w.cell? (Za q 2)=some (Zp p.q):=(h.row.cell 2).trans h.r2;have c3:w.cell? (Za q 3)=some tv:=(h.row.cell 3).trans h.r3;have tH:=h.row.lt;have zA:Hid (∀b∈(bf p A).blocks,b<w.heap.size):=fun b hb=>(bf p A).lt (h.hold.at_ (bf p A) (by simp[fQ])) b hb;have RG:Hid (q∉(bf p A).blocks):=fun hm=>by
  have:=h.hold.cons q (by simp[bU]);exact this (by rw[bL,bL,jN];simp;exact .inr hm)
 have NG:Hid (∀w1 w2:World,(w1.cell? (Za q 2)=some (Zp p.q)/\w1.cell? (Za q 3)=some tv/\w1.cell? (Za w.heap.size 0)=some (.int .i64 4)/\w1.cell? (Za w.heap.size 2)=some (.string s)/\w1.cell? (Za w.heap.size 3)=some (.string t))->Fr w1 w2 (bf p A).blocks->w2.cell? (Za q 2)=some (Zp p.q)/\w2.cell? (Za q 3)=some tv/\w2.cell? (Za w.heap.size 0)=some (.int .i64 4)/\w2.cell? (Za w.heap.size 2)=some (.string s)/\w2.cell? (Za w.heap.size 3)=some (.string t)):=fun w1 w2 ⟨k1,k2,k3,k4,k5⟩ f=>by
  have hB:w.heap.size∉(bf p A).blocks:=fun hm=>by have:=zA.out _ hm;omega
  have e1:=f.block q (Zd k1) RG.out;have e2:=f.block w.heap.size (Zd k3) hB;exact⟨ay k1 e1,ay k2 e1,ay k3 e2,ay k4 e2,ay k5 e2⟩
 have hF:Hid (∀w1,Below w.heap.size w w1->Zc 54 #[tv,.string s] w1 fun e w'=>e=.returned (.int .i64 (bJ T s))/\w1=w'):=fun w1 hb=>qY T s tv w1 (fG (h.below hb).own) (by have:=h.ok.few;omega);have hN:Hid (∀w1,Below w.heap.size w w1->Zc 56 #[Zp p.q,.string s] w1 fun e w'=>e=.returned (.int .i64 0)/\(∃p',kI a w0 w q r tv T p A {A with L:=T.eraseIdx i} p' w'/\aC (T.eraseIdx i))/\Fr w1 w' (bf p A).blocks):=fun w1 hb=>by
  have h1:=h.below hb;have:=Ai h1.bs h1.arc (by rw[h1.tree];exact h1.ok) s (by omega) (T.eraseIdx i) (by rw[h.tree];exact hT);rw[h.tree] at this;refine this.mono ?_;rintro e w' ⟨rfl,k1,yN⟩;obtain⟨p',hm⟩:=h.mid hb k1;obtain⟨_,ks,_⟩:=k1;exact⟨by rw[hn];rfl,⟨p',hm,yN⟩,by have:=ks.fr;rwa [kH] at this⟩
 have H:Hid _:=h;rw[Il] at hF;have hTl:=h.ok.few;have Oq:Hid _:=gV;have kk0:(0:Int)<=(i:Int):=by omega
 have kk1:¬(i:Int)<0:=by omega
 clear h hT hn gV;unfold lG.agg;go_enter func31,ntmps31;go_upto_region 1 with fail
 have g6:Below w.heap.size w (w.alloc (.cells #[.int .i64 4,.int .i64 x,.string s,.string t] 40)):=(Zr).alloc (Zn) _;have g1:(w.alloc (.cells #[.int .i64 4,.int .i64 x,.string s,.string t] 40)).cell? (Za q 2)=some (Zp p.q):=by rw[g6.cell tH];exact c2
 have g2:(w.alloc (.cells #[.int .i64 4,.int .i64 x,.string s,.string t] 40)).cell? (Za q 3)=some tv:=by rw[g6.cell tH];exact c3
 have r0:=ai.new w 40 [.int .i64 4,.int .i64 x,.string s,.string t];have g3:=r0.cell 0;have g4:=r0.cell 2;have g5:=r0.cell 3;simp only[getElem?_cons_zero,getElem?_cons_succ] at g3 g4 g5;clear r0 c2 c3;generalize(w.alloc (.cells #[.int .i64 4,.int .i64 x,.string s,.string t] 40))=V at *;generalize hB0:w.heap.size=B0 at *;refine bF ?_;refine wp_region_held_drew (S:=fun w'=>w'.cell? (Za q 2)=some (Zp p.q)/\w'.cell? (Za q 3)=some tv/\w'.cell? (Za B0 0)=some (.int .i64 4)/\w'.cell? (Za B0 2)=some (.string s)/\w'.cell? (Za B0 3)=some (.string t)) (by kernel_rfl) ⟨g1,g2,g3,g4,g5⟩ (fun ah=>?_);refine Zt 0 (Zp q) ?_;refine Zt 1 (Zp q) ?_;refine Zt 2 (.pointer (some (Za q 3))) ?_;refine Zt 3 tv ?_;refine Zt 4 (.pointer (some (Za B0 2))) ?_;refine Zt 5 (.string s) ?_;refine Zh 6 fun K hK=>?_;go_simp;go_at_call 54;refine(hF.out _ g6.drew).mono ?_;rintro e w1 ⟨rfl,rfl⟩;refine hK.out _ _ (ah) (fun ah=>?_);clear hK K;(try simp only[Act.put,lA,lZ,lS]);refine Zt 7 (Zi i) ?_;refine Zx ?_;simp only[At];obtain⟨g1,g2,g3,g4,g5⟩:=ah;have g7:Below B0 w V.drew:=g6.drew;go_upto_region 16 with fail
 refine bF ?_;refine wp_region_held_drew (S:=fun w'=>w'.cell? (Za q 2)=some (Zp p.q)/\w'.cell? (Za q 3)=some tv/\w'.cell? (Za B0 0)=some (.int .i64 4)/\w'.cell? (Za B0 2)=some (.string s)/\w'.cell? (Za B0 3)=some (.string t)) (by kernel_rfl) ⟨g1,g2,g3,g4,g5⟩ (fun ah=>?_);refine Zt 0 (Zp q) ?_;refine Zt 1 (Zp q) ?_;refine Zt 2 (.pointer (some (Za q 2))) ?_;refine Zt 3 (Zp p.q) ?_;refine Zt 4 (.pointer (some (Za B0 2))) ?_;refine Zt 5 (.string s) ?_;refine Zh 6 fun K hK=>?_;go_simp;go_at_call 56;refine(hN.out _ g7.drew).mono ?_;rintro e w2 ⟨rfl,h2,f2⟩;have Lf:Hid _:=h2;have HS2:Hid _:=f2;clear h2 f2;refine hK.out _ _ (NG.out _ _ ah HS2.out) (fun ah=>?_);clear hK K;(try simp only[Act.put,lA,lZ,lS]);refine Zt 7 (.int .i64 0) ?_;refine Zx ?_;simp only[At];obtain⟨g1,g2,g3,g4,g5⟩:=ah;obtain⟨p',hm,yN⟩:=Lf.out;have cW:=K4 T i tv w2 (fG hm.own) (by omega);have HM:Hid _:=hm;have HSet:Hid (∀(w3:World) (v:Value),w3.ownsRow w2.heap.size 109 3 v (T.eraseIdx i).length (aK (T.eraseIdx i))->Below w2.heap.size w2 w3->mo a w0 w q r tv T p A (.returned (.bool true)) (w3.setCell (Za q 3) v)/\w3.cell? (Za q 3)=some tv/\w3.frozen? (Za q 3)=false):=fun w3 v ho hb=>HM.out.set rfl (Fr.of_below hb _) (yK ho (Nat.zero_le _)) (fun b hb=>.inr (World.ownsRow.lt ho b hb).1) yN Oq.out H.out.r3;clear hm Lf HS2;go_wp2_with(go_at_call 55;refine cW.mono ?_;rintro e w3 ⟨v3,rfl,ho3,hb3⟩;obtain⟨va,vc,rfl⟩:∃va vc,v3=.slice va (T.eraseIdx i).length vc:=aV ho3;obtain⟨hE,hc3,hz3⟩:=HSet.out w3 _ ho3 hb3;have HE:Hid (mo a w0 w q r tv T p A (.returned (.bool true)) (w3.setCell (Za q 3) (.slice va (T.eraseIdx i).length vc))):=hE;clear hE ho3);go_ret;exact HE.out
theorem U3(h:qD a w0 w q r tv T p A)(x:Int)(s t:Zy)(hs:s.size<=65536)(i:Nat)(_hi:i<T.length)(hn:(iI T s t).2=0)(Il:bJ T s=(i:Nat))(hT:(iI T s t).1.Perm (T.eraseIdx i++[⟨s,false,t⟩]))(gV:fP (T.eraseIdx i++[⟨s,false,t⟩])):
  Zc 31 #[Zp q,lG.agg ⟨2,x,s,t⟩] w (mo a w0 w q r tv T p A):=by
 have c2:w.cell? (Za q 2)=some (Zp p.q):=(h.row.cell 2).trans h.r2;have c3:w.cell? (Za q 3)=some tv:=(h.row.cell 3).trans h.r3;have tH:=h.row.lt;have zA:Hid (∀b∈(bf p A).blocks,b<w.heap.size):=fun b hb=>(bf p A).lt (h.hold.at_ (bf p A) (by simp[fQ])) b hb;have RG:Hid (q∉(bf p A).blocks):=fun hm=>by
  have:=h.hold.cons q (by simp[bU]);exact this (by rw[bL,bL,jN];simp;exact .inr hm)
 have NG:Hid (∀w1 w2:World,(w1.cell? (Za q 2)=some (Zp p.q)/\w1.cell? (Za q 3)=some tv/\w1.cell? (Za w.heap.size 0)=some (.int .i64 2)/\w1.cell? (Za w.heap.size 2)=some (.string s)/\w1.cell? (Za w.heap.size 3)=some (.string t))->Fr w1 w2 (bf p A).blocks->w2.cell? (Za q 2)=some (Zp p.q)/\w2.cell? (Za q 3)=some tv/\w2.cell? (Za w.heap.size 0)=some (.int .i64 2)/\w2.cell? (Za w.heap.size 2)=some (.string s)/\w2.cell? (Za w.heap.size 3)=some (.string t)):=fun w1 w2 ⟨k1,k2,k3,k4,k5⟩ f=>by
  have hB:w.heap.size∉(bf p A).blocks:=fun hm=>by have:=zA.out _ hm;omega
  have e1:=f.block q (Zd k1) RG.out;have e2:=f.block w.heap.size (Zd k3) hB;exact⟨ay k1 e1,ay k2 e1,ay k3 e2,ay k4 e2,ay k5 e2⟩
 have hF:Hid (∀w1,Below w.heap.size w w1->Zc 54 #[tv,.string s] w1 fun e w'=>e=.returned (.int .i64 (bJ T s))/\w1=w'):=fun w1 hb=>qY T s tv w1 (fG (h.below hb).own) (by have:=h.ok.few;omega);have hN:Hid (∀w1,Below w.heap.size w w1->Zc 49 #[Zp p.q,.string s,.string t] w1 fun e w'=>e=.returned (.int .i64 0)/\(∃p',kI a w0 w q r tv T p A {A with L:=T.eraseIdx i++[⟨s,false,t⟩]} p' w'/\aC (T.eraseIdx i++[⟨s,false,t⟩]))/\Fr w1 w' (bf p A).blocks):=fun w1 hb=>by
  have h1:=h.below hb;have:=Da h1.bs h1.arc (by rw[h1.tree];exact h1.ok) s t (by omega) (T.eraseIdx i++[⟨s,false,t⟩]) (by rw[h.tree];exact hT);rw[h.tree] at this;refine this.mono ?_;rintro e w' ⟨rfl,k1,yN⟩;obtain⟨p',hm⟩:=h.mid hb k1;obtain⟨_,ks,_⟩:=k1;exact⟨by rw[hn];rfl,⟨p',hm,yN⟩,by have:=ks.fr;rwa [kH] at this⟩
 have H:Hid _:=h;rw[Il] at hF;have hTl:=h.ok.few;have Oq:Hid _:=gV;have kk0:(0:Int)<=(i:Int):=by omega
 have kk1:¬(i:Int)<0:=by omega
 clear h hT hn gV;unfold lG.agg;go_enter func31,ntmps31;go_upto_region 1 with fail
 have g6:Below w.heap.size w (w.alloc (.cells #[.int .i64 2,.int .i64 x,.string s,.string t] 40)):=(Zr).alloc (Zn) _;have g1:(w.alloc (.cells #[.int .i64 2,.int .i64 x,.string s,.string t] 40)).cell? (Za q 2)=some (Zp p.q):=by rw[g6.cell tH];exact c2
 have g2:(w.alloc (.cells #[.int .i64 2,.int .i64 x,.string s,.string t] 40)).cell? (Za q 3)=some tv:=by rw[g6.cell tH];exact c3
 have r0:=ai.new w 40 [.int .i64 2,.int .i64 x,.string s,.string t];have g3:=r0.cell 0;have g4:=r0.cell 2;have g5:=r0.cell 3;simp only[getElem?_cons_zero,getElem?_cons_succ] at g3 g4 g5;clear r0 c2 c3;generalize(w.alloc (.cells #[.int .i64 2,.int .i64 x,.string s,.string t] 40))=V at *;generalize hB0:w.heap.size=B0 at *;refine bF ?_;refine wp_region_held_drew (S:=fun w'=>w'.cell? (Za q 2)=some (Zp p.q)/\w'.cell? (Za q 3)=some tv/\w'.cell? (Za B0 0)=some (.int .i64 2)/\w'.cell? (Za B0 2)=some (.string s)/\w'.cell? (Za B0 3)=some (.string t)) (by kernel_rfl) ⟨g1,g2,g3,g4,g5⟩ (fun ah=>?_);refine Zt 0 (Zp q) ?_;refine Zt 1 (Zp q) ?_;refine Zt 2 (.pointer (some (Za q 3))) ?_;refine Zt 3 tv ?_;refine Zt 4 (.pointer (some (Za B0 2))) ?_;refine Zt 5 (.string s) ?_;refine Zh 6 fun K hK=>?_;go_simp;go_at_call 54;refine(hF.out _ g6.drew).mono ?_;rintro e w1 ⟨rfl,rfl⟩;refine hK.out _ _ (ah) (fun ah=>?_);clear hK K;(try simp only[Act.put,lA,lZ,lS]);refine Zt 7 (Zi i) ?_;refine Zx ?_;simp only[At];obtain⟨g1,g2,g3,g4,g5⟩:=ah;have g7:Below B0 w V.drew:=g6.drew;go_upto_region 4 with fail
 refine bF ?_;refine wp_region_held_drew (S:=fun w'=>w'.cell? (Za q 2)=some (Zp p.q)/\w'.cell? (Za q 3)=some tv/\w'.cell? (Za B0 0)=some (.int .i64 2)/\w'.cell? (Za B0 2)=some (.string s)/\w'.cell? (Za B0 3)=some (.string t)) (by kernel_rfl) ⟨g1,g2,g3,g4,g5⟩ (fun ah=>?_);refine Zt 0 (Zp q) ?_;refine Zt 1 (Zp q) ?_;refine Zt 2 (.pointer (some (Za q 2))) ?_;refine Zt 3 (Zp p.q) ?_;refine Zt 4 (.pointer (some (Za B0 2))) ?_;refine Zt 5 (.string s) ?_;refine Zt 6 (.pointer (some (Za B0 3))) ?_;refine Zt 7 (.string t) ?_;refine Zh 8 fun K hK=>?_;go_simp;go_at_call 49;refine(hN.out _ g7.drew).mono ?_;rintro e w2 ⟨rfl,h2,f2⟩;have Lf:Hid _:=h2;have HS2:Hid _:=f2;clear h2 f2;refine hK.out _ _ (NG.out _ _ ah HS2.out) (fun ah=>?_);clear hK K;(try simp only[Act.put,lA,lZ,lS]);refine Zt 9 (.int .i64 0) ?_;refine Zx ?_;simp only[At];obtain⟨g1,g2,g3,g4,g5⟩:=ah;go_upto_region 6 with fail
 obtain⟨p',hm,yN⟩:=Lf.out;have HM:Hid _:=hm;obtain⟨i0,hi0,hz0,hz1,hz2⟩:=info_parts oN;have hml:(T.eraseIdx i).length<=256:=Nat.le_trans (length_eraseIdx_le _ _) hTl;have hix:¬((T.eraseIdx i).length:Int)+1<=((T.eraseIdx i).length:Int):=by omega
 have hbs:Hid (∀W:World,(Instr.buildSlice 32 1 #[(0,.agg #[.string s,.bool false,.string t])]).run prog W=.ok (.slice (Zs W.heap.size) 1 1) (W.alloc (.cells #[.string s,.bool false,.string t] 109))):=fun W=>bH (P:=prog) W 32 109 underlying32 [.string s,.bool false,.string t] i0 _ hi0 hz0 hz1 (by simp) (by simp);have F2:Fr w2 w2.drew []:=(Fr.refl w2 _).drew;have F2a:Fr w2 (w2.drew.alloc (.cells #[.string s,.bool false,.string t] 109)) []:=F2.alloc _;have Sm:w2.drew.cell? (Za q 3)=some tv:=g2;have k2a:(w2.alloc (.cells #[.string s,.bool false,.string t] 109)).cell? (Za q 3)=some tv:=by rw[((Below.refl w2.heap.size w2).alloc (Zn) _).cell (Zd Sm)];exact Sm
 have hq2:=Zd Sm;have HW:Hid (∀w1:World,Fr w2 w1 []->Zc 55 #[tv,Zi i] w1 fun e w'=>∃v',e=.returned v'/\w'.ownsRow w2.heap.size 109 3 v' (T.eraseIdx i).length (aK (T.eraseIdx i))/\Below w1.heap.size w1 w'):=fun w1 f=>(K4 T i tv w1 (fG (aT HM.out.own f (fun _ _=>by simp))) (by omega)).mono fun e w' ⟨v',e1,h1,h2⟩=>⟨v',e1,yK h1 f.size,h2⟩;have HB2:Hid (∀w':World,Fr w2 w' []->w'.cell? (Za B0 0)=some (.int .i64 2)/\w'.cell? (Za B0 2)=some (.string s)/\w'.cell? (Za B0 3)=some (.string t)):=fun w' f=>by
  have e2:=f.block B0 (Zd g3) (by simp);exact⟨ay g3 e2,ay g4 e2,ay g5 e2⟩
 have HB3:Hid (∀(w':World) (v:Value),(w'.cell? (Za B0 0)=some (.int .i64 2)/\w'.cell? (Za B0 2)=some (.string s)/\w'.cell? (Za B0 3)=some (.string t))->(w'.setCell (Za q 3) v).cell? (Za B0 0)=some (.int .i64 2)/\(w'.setCell (Za q 3) v).cell? (Za B0 2)=some (.string s)/\(w'.setCell (Za q 3) v).cell? (Za B0 3)=some (.string t)):=fun w' v ⟨e3,e4,e5⟩=>by
  have fq:Fr w' (w'.setCell (Za q 3) v) [q]:=(Fr.refl _ _).setCell _ _ (.inl (by simp));have e2:=fq.block B0 (Zd e3) (by simp;omega);exact⟨ay e3 e2,ay e4 e2,ay e5 e2⟩
 have rA:Hid (∀(Wx:World) (va:Option Addr) (vc g cap:Nat) (w4:World),Fr w2 Wx []->(∀b,(Value.slice va (T.eraseIdx i).length vc).ownBlock=some b->w2.heap.size<=b)->w4.ownsRow w2.heap.size 109 3 (.slice (Zs g) ((T.eraseIdx i).length+1) cap) ((T.eraseIdx i).length+1) (aK (T.eraseIdx i)++[.string s,.bool false,.string t])->Wx.grownBy w4 (Value.slice va (T.eraseIdx i).length vc).ownBlock->((Value.slice va (T.eraseIdx i).length vc).ownBlock=some g\/g=Wx.heap.size)->
   mo a w0 w q r tv T p A (.returned (.bool true)) (w4.setCell (Za q 3) (.slice (Zs g) ((T.eraseIdx i).length+1) cap))/\w4.cell? (Za q 3)=some tv/\w4.frozen? (Za q 3)=false/\Fr w2 w4 []/\(w4.setCell (Za q 3) (.slice (Zs g) ((T.eraseIdx i).length+1) cap)).cell? (Za q 3)=some (.slice (Zs g) ((T.eraseIdx i).length+1) cap)/\(w4.setCell (Za q 3) (.slice (Zs g) ((T.eraseIdx i).length+1) cap)).cell? (Za g ((T.eraseIdx i).length*3+1))=some (.bool false)/\g≠q):=fun Wx va vc g cap w4 fx hva aY aN hat=>by
  have f4:Fr w2 w4 []:=fx.grown aN (fun k e=>.inr (hva k e));have hg2:w2.heap.size<=g:=by
   rcases hat with e|e
   ·exact hva g e
   ·rw[e];exact fx.size
  have hown':w4.ownsRow w2.heap.size 109 3 (.slice (Zs g) ((T.eraseIdx i).length+1) cap) ((T.eraseIdx i)++[(⟨s,false,t⟩:It)]).length (aK ((T.eraseIdx i)++[⟨s,false,t⟩])):=by
   rw[oC,length_append,length_singleton];exact aY
  have Ls:g≠q:=fun e=>by have:q<w2.heap.size:=hq2;omega
  have:=HM.out.set rfl (f4.wider (fun x hx=>nomatch hx)) (yK hown' (Nat.zero_le _)) (fun b hb=>.inr (by
   have e1:g=b:=by simpa [Value.ownBlock] using hb
   omega)) yN Oq.out H.out.r3
  have hrow4:=(f4.row HM.out.row (by simp)).set 3 (.slice (Zs g) ((T.eraseIdx i).length+1) cap);refine⟨this.1,this.2.1,this.2.2,f4,?_,?_,Ls⟩
  ·rw[hrow4.cell 3,getElem?_set_self (by have:=(List.getElem?_eq_some_iff.1 H.out.r3).1;exact this)]
  ·have hc:=World.ownsRow.cellAt aY ((T.eraseIdx i).length*3+1) (by omega);rw[getElem?_append_right (by rw[fJ];omega),fJ,show(T.eraseIdx i).length*3+1-(T.eraseIdx i).length*3=1 by omega] at hc;have fq:Fr w4 (w4.setCell (Za q 3) (.slice (Zs g) ((T.eraseIdx i).length+1) cap)) [q]:=(Fr.refl _ _).setCell _ _ (.inl (by simp));exact ay hc (fq.block g (Zd hc) (by simp;exact Ls))
 clear g1 g2 hm Lf HS2;refine bF ?_;refine wp_region_held_drew (S:=fun w'=>w'.cell? (Za B0 0)=some (.int .i64 2)/\w'.cell? (Za B0 2)=some (.string s)/\w'.cell? (Za B0 3)=some (.string t)) (by kernel_rfl) ⟨g3,g4,g5⟩ (fun ah=>?_);refine Zt 0 (Zp q) ?_;refine Zt 1 (Zp q) ?_;refine Zt 2 (Zp q) ?_;refine Zt 3 (.pointer (some (Za q 3))) ?_;refine Zt 5 (Zi i) ?_;refine Zt 7 (.pointer (some (Za B0 2))) ?_;refine Zt 8 (.string s) ?_;refine Zt 9 (.pointer (some (Za B0 3))) ?_;refine Zt 10 (.string t) ?_;refine Zt 11 (.agg #[.string s,.bool false,.string t]) ?_;refine Zw [4,12] ?_;refine Zb (fun K hK=>?_) (Ze fun K hK=>?_);refine aD rfl (v:=tv) (w':=w2.drew) (by have kk:=Sm;go_simp) ?_;refine hK.out _ _ (by exact ah) (fun ah=>?_);clear hK K;(try simp only[Act.put,lA,lZ,lS]);refine Zw [6,12] ?_;refine Zb (fun K hK=>?_) (Ze fun K hK=>?_);go_simp;go_at_call 55;refine(HW.out _ F2).mono ?_;rintro e w3 ⟨v3,rfl,ho3,hb3⟩;obtain⟨va,vc,rfl⟩:∃va vc,v3=.slice va (T.eraseIdx i).length vc:=aV ho3;have QG:Hid (w3.ownsRow w2.heap.size 109 3 (.slice va (T.eraseIdx i).length vc) (T.eraseIdx i).length (aK (T.eraseIdx i))):=ho3;have F3:Fr w2 w3 []:=F2.trans (Fr.of_below hb3 []) (fun x hx=>nomatch hx);clear ho3;refine hK.out _ _ (HB2.out _ F3) (fun ah=>?_);clear hK K;(try simp only[Act.put,lA,lZ,lS]);refine Zh 12 fun K hK=>?_;refine aD rfl (v:=.slice (Zs w3.heap.size) 1 1) (w':=w3.alloc (.cells #[.string s,.bool false,.string t] 109)) (by exact aL 32 (.tmp 46) (by rfl) (.agg #[.string s,.bool false,.string t]) _ _ _ (by rfl) (hbs.out _)) ?_;refine hK.out _ _ (HB2.out _ (by exact F3.alloc _)) (fun ah=>?_);clear hK K;(try simp only[Act.put,lA,lZ,lS]);refine Zh 13 fun K hK=>?_;refine step_append_lies _ (by rfl) (.tmp 41) (.tmp 47) 32 (by rfl) w2.heap.size 109 i0 _ 3 40 underlying32 hi0 hz0 hz1 hz2 (by rfl) (by decide) (.slice va (T.eraseIdx i).length vc) (T.eraseIdx i).length (aK (T.eraseIdx i)) (by rfl) (World.ownsRow.alloc QG.out _) (Za w3.heap.size 0) 1 1 [.string s,.bool false,.string t] (by rfl) (by rfl) (World.news_of_block (cs:=#[.string s,.bool false,.string t]) (t:=109) (fr:=(0,0)) (heap_alloc_new w3 _)) (by intro u hu;simp at hu;rcases hu with rfl|rfl|rfl<;>rfl) (by decide) (by unfold maxLen;omega) (by omega) (by have hfz:=F3.size;simp;omega) _ rfl ?_;intro g cap w4 aY aN hat tJ;obtain⟨hE,hc3,hz3,hB4,hq4,hd4,Ls⟩:=rA.out (w3.alloc (.cells #[.string s,.bool false,.string t] 109)) va vc g cap w4 (F3.alloc _) (fun b hb=>(World.ownsRow.lt QG.out b hb).1) aY aN hat;rotate_left;refine aD rfl (v:=.slice (Zs w2.drew.heap.size) 1 1) (w':=w2.drew.alloc (.cells #[.string s,.bool false,.string t] 109)) (by exact aL 32 (.tmp 46) (by rfl) (.agg #[.string s,.bool false,.string t]) _ _ _ (by rfl) (hbs.out _)) ?_;refine hK.out _ _ (HB2.out _ (by exact F2a)) (fun ah=>?_);clear hK K;(try simp only[Act.put,lA,lZ,lS]);refine Zh 6 fun K hK=>?_;go_simp;go_at_call 55;refine(HW.out _ F2a).mono ?_;rintro e w3 ⟨v3,rfl,ho3,hb3⟩;obtain⟨va,vc,rfl⟩:∃va vc,v3=.slice va (T.eraseIdx i).length vc:=aV ho3;have QG:Hid (w3.ownsRow w2.heap.size 109 3 (.slice va (T.eraseIdx i).length vc) (T.eraseIdx i).length (aK (T.eraseIdx i))):=ho3;have F3:Fr w2 w3 []:=F2a.trans (Fr.of_below hb3 []) (fun x hx=>nomatch hx);clear ho3;refine hK.out _ _ (HB2.out _ F3) (fun ah=>?_);clear hK K;(try simp only[Act.put,lA,lZ,lS]);refine Zh 13 fun K hK=>?_;refine step_append_lies _ (by rfl) (.tmp 41) (.tmp 47) 32 (by rfl) w2.heap.size 109 i0 _ 3 40 underlying32 hi0 hz0 hz1 hz2 (by rfl) (by decide) (.slice va (T.eraseIdx i).length vc) (T.eraseIdx i).length (aK (T.eraseIdx i)) (by rfl) (QG.out) (Za w2.drew.heap.size 0) 1 1 [.string s,.bool false,.string t] (by rfl) (by rfl) (World.news_of_block (cs:=#[.string s,.bool false,.string t]) (t:=109) (fr:=(0,0)) (by rw[hb3.block _ (by simp)];exact heap_alloc_new w2.drew _)) (by intro u hu;simp at hu;rcases hu with rfl|rfl|rfl<;>rfl) (by decide) (by unfold maxLen;omega) (by omega) (by have hfz:=F3.size;simp;omega) _ rfl ?_;intro g cap w4 aY aN hat tJ;obtain⟨hE,hc3,hz3,hB4,hq4,hd4,Ls⟩:=rA.out (w3) va vc g cap w4 (F3) (fun b hb=>(World.ownsRow.lt QG.out b hb).1) aY aN hat;rotate_left;refine aD rfl (v:=.slice (Zs w2.drew.heap.size) 1 1) (w':=w2.drew.alloc (.cells #[.string s,.bool false,.string t] 109)) (by exact aL 32 (.tmp 46) (by rfl) (.agg #[.string s,.bool false,.string t]) _ _ _ (by rfl) (hbs.out _)) ?_;refine hK.out _ _ (HB2.out _ (by exact F2a)) (fun ah=>?_);clear hK K;(try simp only[Act.put,lA,lZ,lS]);refine Zh 4 fun K hK=>?_;refine aD rfl (v:=tv) (w':=w2.drew.alloc (.cells #[.string s,.bool false,.string t] 109)) (by have kk:=k2a;go_simp) ?_;refine hK.out _ _ (by exact ah) (fun ah=>?_);clear hK K;(try simp only[Act.put,lA,lZ,lS]);refine Zh 6 fun K hK=>?_;go_simp;go_at_call 55;refine(HW.out _ F2a).mono ?_;rintro e w3 ⟨v3,rfl,ho3,hb3⟩;obtain⟨va,vc,rfl⟩:∃va vc,v3=.slice va (T.eraseIdx i).length vc:=aV ho3;have QG:Hid (w3.ownsRow w2.heap.size 109 3 (.slice va (T.eraseIdx i).length vc) (T.eraseIdx i).length (aK (T.eraseIdx i))):=ho3;have F3:Fr w2 w3 []:=F2a.trans (Fr.of_below hb3 []) (fun x hx=>nomatch hx);clear ho3;refine hK.out _ _ (HB2.out _ F3) (fun ah=>?_);clear hK K;(try simp only[Act.put,lA,lZ,lS]);refine Zh 13 fun K hK=>?_;refine step_append_lies _ (by rfl) (.tmp 41) (.tmp 47) 32 (by rfl) w2.heap.size 109 i0 _ 3 40 underlying32 hi0 hz0 hz1 hz2 (by rfl) (by decide) (.slice va (T.eraseIdx i).length vc) (T.eraseIdx i).length (aK (T.eraseIdx i)) (by rfl) (QG.out) (Za w2.drew.heap.size 0) 1 1 [.string s,.bool false,.string t] (by rfl) (by rfl) (World.news_of_block (cs:=#[.string s,.bool false,.string t]) (t:=109) (fr:=(0,0)) (by rw[hb3.block _ (by simp)];exact heap_alloc_new w2.drew _)) (by intro u hu;simp at hu;rcases hu with rfl|rfl|rfl<;>rfl) (by decide) (by unfold maxLen;omega) (by omega) (by have hfz:=F3.size;simp;omega) _ rfl ?_;intro g cap w4 aY aN hat tJ;obtain⟨hE,hc3,hz3,hB4,hq4,hd4,Ls⟩:=rA.out (w3) va vc g cap w4 (F3) (fun b hb=>(World.ownsRow.lt QG.out b hb).1) aY aN hat;rotate_left
 all_goals
  have HE:Hid (mo a w0 w q r tv T p A (.returned (.bool true)) (w4.setCell (Za q 3) (.slice (Zs g) ((T.eraseIdx i).length+1) cap))):=hE;clear hE aY aN hat;refine hK.out _ _ (HB2.out _ hB4) (fun ah=>?_);clear hK K;(try simp only[Act.put,lA,lZ,lS]);refine Zt 14 (Zp q) ?_;refine Zt 15 (.pointer (some (Za q 3))) ?_;refine Zh 16 fun K hK=>?_;refine step_skip rfl (w':=w4.setCell (Za q 3) (.slice (Zs g) ((T.eraseIdx i).length+1) cap)) (by go_simp) ?_;refine hK.out _ _ (HB3.out _ _ ah) (fun ah=>?_);clear hK K
  try simp only[Act.put]
  refine Zx ?_;simp only[At];clear hc3 hz3 ah;generalize w4.setCell (Za q 3) (.slice (Zs g) ((T.eraseIdx i).length+1) cap)=w5 at *;go_upto_region 7 with fail
  refine bF ?_;refine wp_region_held_drew (S:=fun w'=>w'.cell? (Za q 3)=some (.slice (Zs g) ((T.eraseIdx i).length+1) cap)/\w'.cell? (Za g ((T.eraseIdx i).length*3+1))=some (.bool false)) (by kernel_rfl) ⟨by exact hq4,by exact hd4⟩ (fun ah=>?_);refine Zt 0 (Zp q) ?_;refine Zt 1 (Zp q) ?_;refine Zt 2 (.pointer (some (Za q 3))) ?_;refine Zt 3 (.slice (Zs g) ((T.eraseIdx i).length+1) cap) ?_;refine Zt 4 (Zp q) ?_;refine Zt 5 (Zp q) ?_;refine Zt 6 (.pointer (some (Za q 3))) ?_;refine Zt 7 (.slice (Zs g) ((T.eraseIdx i).length+1) cap) ?_;refine Zt 8 (.int .i64 (((T.eraseIdx i).length:Int)+1)) ?_;refine Zt 9 (.int .i64 ((T.eraseIdx i).length:Nat)) ?_ (hy:=Or.inl ⟨by rfl,by intro w hSw;go_simp;try(rw[IntKind.wrap_i64];omega)⟩);refine Zt 10 (.pointer (some (Za g ((T.eraseIdx i).length*3)))) ?_;refine Zt 11 (.pointer (some (Za g ((T.eraseIdx i).length*3+1)))) ?_;refine Zt 12 (.bool false) ?_;refine Zt 13 (.bool true) ?_;refine Zt 14 (.bool true) ?_;refine Zx ?_;simp only[At];go_wp2;go_ret;exact HE.out.drewK
end
section
variable {a:Nat->Addr}{w0 w:World}{q:Nat}{r:List Value}{tv:Value}{T:List It}{p:aS}{A:jc}
def Io(a:Nat->Addr)(w0 w:World)(q:Nat)(r:List Value)(tv:Value)(T:List It)(p:aS)(A:jc)(T':List It)(e:Ending)(w':World):Prop:=
 e=.returned (.bool true)/\∃tv' p',Step w0.heap.size w w' (fQ q r tv T p A) (fQ q (r.set 3 tv') tv' T' p' {A with L:=T'})/\p'.q=p.q/\p'.d.p=p.d.p/\aC T'/\fP T'/\gU a w0 w'
theorem kI.setX(h:kI a w0 w q r tv T p A A' p' w1)(eA:A'={A with L:=T'})(fg:Fr w1 w4 tv.ownBlock.toList)(aY:w4.ownsRow 0 109 3 tv' T'.length (aK T'))(hs:∀b,tv'.ownBlock=some b->tv.ownBlock=some b\/w1.heap.size<=b)(ok:aC T')(few:fP T')(hr:r[3]? =some tv):
  Io a w0 w q r tv T p A T' (.returned (.bool true)) (w4.setCell (Za q 3) tv')/\w4.cell? (Za q 3)=some tv/\w4.frozen? (Za q 3)=false:=by
 have hh:dF w0.heap.size w1 ([bU q 37 r,bn 109 3 tv T.length (aK T)]++[bf p' A']):=h.step.hold;obtain⟨s1,c1,z1⟩:=Step.put (k:=3) h.bs.size hh.left fg aY hs;have s2:=h.step.trans (s1.frame hh);rw[hr] at c1;subst eA;refine⟨⟨rfl,tv',p',s2,h.q,h.d,ok,few,h.bs.fr (s1.frame hh).fr (fun b hb=>h.step.hold.far b hb)⟩,c1,z1⟩
theorem FN(h:qD a w0 w q r tv T p A)(x:Int)(s t:Zy)(hs:s.size<=65536)(hn:(iI T s t).2=0)(Il:bJ T s= -1)(hT:(iI T s t).1.Perm (T++[⟨s,false,t⟩]))(gV:fP (T++[⟨s,false,t⟩])):
  Zc 31 #[Zp q,lG.agg ⟨2,x,s,t⟩] w (Io a w0 w q r tv T p A (T++[⟨s,false,t⟩])):=by
 obtain⟨ta,tc,rfl⟩:∃ta tc,tv=.slice ta T.length tc:=aV h.own;have c2:w.cell? (Za q 2)=some (Zp p.q):=(h.row.cell 2).trans h.r2;have c3:w.cell? (Za q 3)=some (.slice ta T.length tc):=(h.row.cell 3).trans h.r3;have tH:=h.row.lt;have zA:Hid (∀b∈(bf p A).blocks,b<w.heap.size):=fun b hb=>(bf p A).lt (h.hold.at_ (bf p A) (by simp[fQ])) b hb;have RG:Hid (q∉(bf p A).blocks):=fun hm=>by
  have:=h.hold.cons q (by simp[bU]);exact this (by rw[bL,bL,jN];simp;exact .inr hm)
 have NG:Hid (∀w1 w2:World,(w1.cell? (Za q 2)=some (Zp p.q)/\w1.cell? (Za q 3)=some (.slice ta T.length tc)/\w1.cell? (Za w.heap.size 0)=some (.int .i64 2)/\w1.cell? (Za w.heap.size 2)=some (.string s)/\w1.cell? (Za w.heap.size 3)=some (.string t))->Fr w1 w2 (bf p A).blocks->w2.cell? (Za q 2)=some (Zp p.q)/\w2.cell? (Za q 3)=some (.slice ta T.length tc)/\w2.cell? (Za w.heap.size 0)=some (.int .i64 2)/\w2.cell? (Za w.heap.size 2)=some (.string s)/\w2.cell? (Za w.heap.size 3)=some (.string t)):=fun w1 w2 ⟨k1,k2,k3,k4,k5⟩ f=>by
  have hB:w.heap.size∉(bf p A).blocks:=fun hm=>by have:=zA.out _ hm;omega
  have e1:=f.block q (Zd k1) RG.out;have e2:=f.block w.heap.size (Zd k3) hB;exact⟨ay k1 e1,ay k2 e1,ay k3 e2,ay k4 e2,ay k5 e2⟩
 have hF:Hid (∀w1,Below w.heap.size w w1->Zc 54 #[.slice ta T.length tc,.string s] w1 fun e w'=>e=.returned (.int .i64 (bJ T s))/\w1=w'):=fun w1 hb=>qY T s _ w1 (fG (h.below hb).own) (by have:=h.ok.few;omega);have hN:Hid (∀w1,Below w.heap.size w w1->Zc 49 #[Zp p.q,.string s,.string t] w1 fun e w'=>e=.returned (.int .i64 0)/\(∃p',kI a w0 w q r (.slice ta T.length tc) T p A {A with L:=T++[⟨s,false,t⟩]} p' w'/\aC (T++[⟨s,false,t⟩]))/\Fr w1 w' (bf p A).blocks):=fun w1 hb=>by
  have h1:=h.below hb;have:=Da h1.bs h1.arc (by rw[h1.tree];exact h1.ok) s t (by omega) (T++[⟨s,false,t⟩]) (by rw[h.tree];exact hT);rw[h.tree] at this;refine this.mono ?_;rintro e w' ⟨rfl,k1,yN⟩;obtain⟨p',hm⟩:=h.mid hb k1;obtain⟨_,ks,_⟩:=k1;exact⟨by rw[hn];rfl,⟨p',hm,yN⟩,by have:=ks.fr;rwa [kH] at this⟩
 have H:Hid _:=h;rw[Il] at hF;obtain⟨i0,hi0,hz0,hz1,hz2⟩:=info_parts oN;have hTl:=h.ok.few;have Oq:Hid _:=gV;have HBt:Hid (∀g,(Value.slice ta T.length tc).ownBlock=some g->g≠q/\g<w.heap.size):=fun g hg=>⟨fun e=>by
  have:=h.hold.cons q (by simp[bU]);exact this (by rw[bL];refine mem_append_left _ ?_;rw[<-e];exact Zo.2 hg),(World.ownsRow.lt h.own g hg).2⟩
 clear h hT hn gV;unfold lG.agg;go_enter func31,ntmps31;go_upto_region 1 with fail
 have g6:Below w.heap.size w (w.alloc (.cells #[.int .i64 2,.int .i64 x,.string s,.string t] 40)):=(Zr).alloc (Zn) _;have g1:(w.alloc (.cells #[.int .i64 2,.int .i64 x,.string s,.string t] 40)).cell? (Za q 2)=some (Zp p.q):=by rw[g6.cell tH];exact c2
 have g2:(w.alloc (.cells #[.int .i64 2,.int .i64 x,.string s,.string t] 40)).cell? (Za q 3)=some (.slice ta T.length tc):=by rw[g6.cell tH];exact c3
 have r0:=ai.new w 40 [.int .i64 2,.int .i64 x,.string s,.string t];have g3:=r0.cell 0;have g4:=r0.cell 2;have g5:=r0.cell 3;simp only[getElem?_cons_zero,getElem?_cons_succ] at g3 g4 g5;clear r0 c2 c3;generalize(w.alloc (.cells #[.int .i64 2,.int .i64 x,.string s,.string t] 40))=V at *;generalize hB0:w.heap.size=B0 at *;refine bF ?_;refine wp_region_held_drew (S:=fun w'=>w'.cell? (Za q 2)=some (Zp p.q)/\w'.cell? (Za q 3)=some (.slice ta T.length tc)/\w'.cell? (Za B0 0)=some (.int .i64 2)/\w'.cell? (Za B0 2)=some (.string s)/\w'.cell? (Za B0 3)=some (.string t)) (by kernel_rfl) ⟨g1,g2,g3,g4,g5⟩ (fun ah=>?_);refine Zt 0 (Zp q) ?_;refine Zt 1 (Zp q) ?_;refine Zt 2 (.pointer (some (Za q 3))) ?_;refine Zt 3 (.slice ta T.length tc) ?_;refine Zt 4 (.pointer (some (Za B0 2))) ?_;refine Zt 5 (.string s) ?_;refine Zh 6 fun K hK=>?_;go_simp;go_at_call 54;refine(hF.out _ g6.drew).mono ?_;rintro e w1 ⟨rfl,rfl⟩;refine hK.out _ _ (ah) (fun ah=>?_);clear hK K;(try simp only[Act.put,lA,lZ,lS]);refine Zt 7 (.int .i64 (-1)) ?_;refine Zx ?_;simp only[At];obtain⟨g1,g2,g3,g4,g5⟩:=ah;have g7:Below B0 w V.drew:=g6.drew;go_upto_region 4 with fail
 refine bF ?_;refine wp_region_held_drew (S:=fun w'=>w'.cell? (Za q 2)=some (Zp p.q)/\w'.cell? (Za q 3)=some (.slice ta T.length tc)/\w'.cell? (Za B0 0)=some (.int .i64 2)/\w'.cell? (Za B0 2)=some (.string s)/\w'.cell? (Za B0 3)=some (.string t)) (by kernel_rfl) ⟨g1,g2,g3,g4,g5⟩ (fun ah=>?_);refine Zt 0 (Zp q) ?_;refine Zt 1 (Zp q) ?_;refine Zt 2 (.pointer (some (Za q 2))) ?_;refine Zt 3 (Zp p.q) ?_;refine Zt 4 (.pointer (some (Za B0 2))) ?_;refine Zt 5 (.string s) ?_;refine Zt 6 (.pointer (some (Za B0 3))) ?_;refine Zt 7 (.string t) ?_;refine Zh 8 fun K hK=>?_;go_simp;go_at_call 49;refine(hN.out _ g7.drew).mono ?_;rintro e w2 ⟨rfl,h2,f2⟩;have Lf:Hid _:=h2;have HS2:Hid _:=f2;clear h2 f2;refine hK.out _ _ (NG.out _ _ ah HS2.out) (fun ah=>?_);clear hK K;(try simp only[Act.put,lA,lZ,lS]);refine Zt 9 (.int .i64 0) ?_;refine Zx ?_;simp only[At];obtain⟨g1,g2,g3,g4,g5⟩:=ah;go_upto_region 9 with fail
 obtain⟨p',hm,yN⟩:=Lf.out;have HM:Hid _:=hm;have U2:=fB hm.own (Zr).drew;have XE:Hid (w2.drew.ownsRow 0 109 3 (.slice ta T.length tc) T.length (aK T)):=U2;have hbs:Hid (∀W:World,(Instr.buildSlice 32 1 #[(0,.agg #[.string s,.bool false,.string t])]).run prog W=.ok (.slice (Zs W.heap.size) 1 1) (W.alloc (.cells #[.string s,.bool false,.string t] 109))):=fun W=>bH (P:=prog) W 32 109 underlying32 [.string s,.bool false,.string t] i0 _ hi0 hz0 hz1 (by simp) (by simp);have Iy:Below w2.drew.heap.size w2.drew (w2.drew.alloc (.cells #[.string s,.bool false,.string t] 109)):=(Zr).alloc (Zn) _;have Sm:w2.drew.cell? (Za q 3)=some (.slice ta T.length tc):=g2;have k2a:(w2.alloc (.cells #[.string s,.bool false,.string t] 109)).cell? (Za q 3)=some (.slice ta T.length tc):=by rw[((Below.refl w2.heap.size w2).alloc (Zn) _).cell (Zd Sm)];exact Sm
 have HB2:Hid (∀w':World,Fr w2 w' (Value.slice ta T.length tc).ownBlock.toList->w'.cell? (Za B0 0)=some (.int .i64 2)/\w'.cell? (Za B0 2)=some (.string s)/\w'.cell? (Za B0 3)=some (.string t)):=fun w' f=>by
  have e2:=f.block B0 (Zd g3) (fun hm=>by have:=(HBt.out _ (Zo.1 hm)).2;omega);exact⟨ay g3 e2,ay g4 e2,ay g5 e2⟩
 have FA:Hid (Fr w2 (w2.drew.alloc (.cells #[.string s,.bool false,.string t] 109)) (Value.slice ta T.length tc).ownBlock.toList):=((Fr.refl w2 _).drew).alloc _;have HB3:Hid (∀(w':World) (v:Value),(w'.cell? (Za B0 0)=some (.int .i64 2)/\w'.cell? (Za B0 2)=some (.string s)/\w'.cell? (Za B0 3)=some (.string t))->(w'.setCell (Za q 3) v).cell? (Za B0 0)=some (.int .i64 2)/\(w'.setCell (Za q 3) v).cell? (Za B0 2)=some (.string s)/\(w'.setCell (Za q 3) v).cell? (Za B0 3)=some (.string t)):=fun w' v ⟨e3,e4,e5⟩=>by
  have fq:Fr w' (w'.setCell (Za q 3) v) [q]:=(Fr.refl _ _).setCell _ _ (.inl (by simp));have e2:=fq.block B0 (Zd e3) (by simp;omega);exact⟨ay e3 e2,ay e4 e2,ay e5 e2⟩
 have rA:Hid (∀(g cap:Nat) (w4:World),w4.ownsRow 0 109 3 (.slice (Zs g) (T.length+1) cap) (T.length+1) (aK T++[.string s,.bool false,.string t])->(w2.drew.alloc (.cells #[.string s,.bool false,.string t] 109)).grownBy w4 (Value.slice ta T.length tc).ownBlock->((Value.slice ta T.length tc).ownBlock=some g\/g=(w2.drew.alloc (.cells #[.string s,.bool false,.string t] 109)).heap.size)->
   Io a w0 w q r (.slice ta T.length tc) T p A (T++[⟨s,false,t⟩]) (.returned (.bool true)) (w4.setCell (Za q 3) (.slice (Zs g) (T.length+1) cap))/\w4.cell? (Za q 3)=some (.slice ta T.length tc)/\w4.frozen? (Za q 3)=false/\Fr w2 w4 (Value.slice ta T.length tc).ownBlock.toList):=fun g cap w4 aY aN hat=>by
  have f4:Fr w2 w4 (Value.slice ta T.length tc).ownBlock.toList:=FA.out.grown aN (fun k e=>.inl (Zo.2 e));have hown':w4.ownsRow 0 109 3 (.slice (Zs g) (T.length+1) cap) (T++[(⟨s,false,t⟩:It)]).length (aK (T++[⟨s,false,t⟩])):=by
   rw[oC,length_append,length_singleton];exact aY
  have:=HM.out.setX rfl f4 hown' (fun b hb=>by
   have e1:g=b:=by simpa [Value.ownBlock] using hb
   rw[<-e1];rcases hat with e|e
   ·exact .inl e
   ·exact .inr (by rw[e];simp)) yN Oq.out H.out.r3
  exact⟨this.1,this.2.1,this.2.2,f4⟩
 clear g1 g2 U2 hm Lf HS2;refine bF ?_;refine wp_region_held_drew (S:=fun w'=>w'.cell? (Za B0 0)=some (.int .i64 2)/\w'.cell? (Za B0 2)=some (.string s)/\w'.cell? (Za B0 3)=some (.string t)) (by kernel_rfl) ⟨g3,g4,g5⟩ (fun ah=>?_);refine Zt 0 (Zp q) ?_;refine Zt 1 (Zp q) ?_;refine Zt 2 (Zp q) ?_;refine Zt 3 (.pointer (some (Za q 3))) ?_;refine Zt 5 (.pointer (some (Za B0 2))) ?_;refine Zt 6 (.string s) ?_;refine Zt 7 (.pointer (some (Za B0 3))) ?_;refine Zt 8 (.string t) ?_;refine Zt 9 (.agg #[.string s,.bool false,.string t]) ?_;refine Zw [4,10] ?_;refine Zb (fun K hK=>?_) (Ze fun K hK=>?_);refine aD rfl (v:=.slice ta T.length tc) (w':=w2.drew) (by have kk:=Sm;go_simp) ?_;refine hK.out _ _ (by exact ah) (fun ah=>?_);clear hK K;(try simp only[Act.put,lA,lZ,lS]);refine Zh 10 fun K hK=>?_;refine aD rfl (v:=.slice (Zs w2.drew.heap.size) 1 1) (w':=w2.drew.alloc (.cells #[.string s,.bool false,.string t] 109)) (by exact aL 32 (.tmp 76) (by rfl) (.agg #[.string s,.bool false,.string t]) _ _ _ (by rfl) (hbs.out _)) ?_;refine hK.out _ _ (HB2.out _ (by exact FA.out)) (fun ah=>?_);rotate_left;refine aD rfl (v:=.slice (Zs w2.drew.heap.size) 1 1) (w':=w2.drew.alloc (.cells #[.string s,.bool false,.string t] 109)) (by exact aL 32 (.tmp 76) (by rfl) (.agg #[.string s,.bool false,.string t]) _ _ _ (by rfl) (hbs.out _)) ?_;refine hK.out _ _ (HB2.out _ (by exact FA.out)) (fun ah=>?_);clear hK K;(try simp only[Act.put,lA,lZ,lS]);refine Zh 4 fun K hK=>?_;refine aD rfl (v:=.slice ta T.length tc) (w':=w2.drew.alloc (.cells #[.string s,.bool false,.string t] 109)) (by have kk:=k2a;go_simp) ?_;refine hK.out _ _ (by exact ah) (fun ah=>?_);rotate_left
 all_goals
  clear hK K;(try simp only[Act.put,lA,lZ,lS]);refine Zh 11 fun K hK=>?_;refine step_append_lies _ (by rfl) (.tmp 71) (.tmp 77) 32 (by rfl) 0 109 i0 _ 3 40 underlying32 hi0 hz0 hz1 hz2 (by rfl) (by decide) (.slice ta T.length tc) T.length (aK T) (by rfl) (World.ownsRow.alloc XE.out _) (Za w2.drew.heap.size 0) 1 1 [.string s,.bool false,.string t] (by rfl) (by rfl) (World.news_of_block (cs:=#[.string s,.bool false,.string t]) (t:=109) (fr:=(0,0)) (heap_alloc_new w2.drew _)) (by intro u hu;simp at hu;rcases hu with rfl|rfl|rfl<;>rfl) (by decide) (by unfold maxLen;omega) (by omega) (Nat.zero_le _) _ rfl ?_;intro g cap w4 aY aN hat tJ;obtain⟨hE,hc3,hz3,hB4⟩:=rA.out g cap w4 aY aN hat;have HE:Hid (Io a w0 w q r (.slice ta T.length tc) T p A (T++[⟨s,false,t⟩]) (.returned (.bool true)) (w4.setCell (Za q 3) (.slice (Zs g) (T.length+1) cap))):=hE;clear hE aY aN hat;refine hK.out _ _ (HB2.out _ hB4) (fun ah=>?_);clear hK K;(try simp only[Act.put,lA,lZ,lS]);refine Zt 12 (Zp q) ?_;refine Zt 13 (.pointer (some (Za q 3))) ?_;refine Zh 14 fun K hK=>?_;refine step_skip rfl (w':=w4.setCell (Za q 3) (.slice (Zs g) (T.length+1) cap)) (by go_simp) ?_;refine hK.out _ _ (HB3.out _ _ ah) (fun ah=>?_);clear hK K
  try simp only[Act.put]
  refine Zx ?_;simp only[At];clear hc3 hz3 ah;go_wp2;go_ret;exact HE.out
theorem U4(h:qD a w0 w q r tv T p A)(x:Int)(s t:Zy)(hs:s.size<=65536)(hn:(iI T s t).2=0)(Il:bJ T s= -1)(hT:(iI T s t).1.Perm (T++[⟨s,false,t⟩]))(gV:fP (T++[⟨s,false,t⟩])):
  Zc 31 #[Zp q,lG.agg ⟨2,x,s,t⟩] w (mo a w0 w q r tv T p A):=
 (FN h x s t hs hn Il hT gV).mono fun _ _ ⟨e1,tv',p',r1,r2,r3,r4,r5,r6⟩=>⟨e1,tv',p',_,r1,r2,r3,r4,r5,r6⟩
end
section
variable {a:Nat->Addr}{w0 w:World}{q:Nat}{r:List Value}{tv:Value}{T:List It}{p:aS}{A:jc}
theorem XJ(h:qD a w0 w q r tv T p A)(o:lG)(hk:o.kind=2\/o.kind=3\/o.kind=4)(hs:o.s.size<=65536):
  Zc 31 #[Zp q,o.agg] w (mo a w0 w q r tv T p A):=by
 obtain⟨k,x,s,t⟩:=o;rcases hk with hk|hk|hk
 ·obtain rfl:k=2:=hk;rcases RA h.ok h.few s t with⟨h1,h2⟩|⟨h1,⟨h2,h3,h4⟩|⟨i,hi,h2,h3,h4⟩⟩
  ·exact XI h x s t hs h1 (by rw[h2])
  ·exact U4 h x s t hs h1 h2 (by rw[h3]) h4
  ·exact U3 h x s t hs i hi h1 h2 h3 h4
 ·obtain rfl:k=3:=hk;rcases Ld h.ok h.few s with⟨h1,h2⟩|⟨h1,h2,h3,h4⟩
  ·exact RH h x s t hs h1 (by rw[h2])
  ·exact Oo h x s t hs h1 h2 (by rw[h3]) h4
 ·obtain rfl:k=4:=hk;rcases Ij h.few s with⟨h1,h2⟩|⟨h1,i,hi,h2,h3,h4⟩
  ·exact Om h x s t hs h1 (by rw[h2])
  ·exact Im h x s t hs i hi h1 h2 (by rw[h3]) h4
end
structure fH where
 v:Value
 T:List It
 label:Zy
 root:Zy
def fH.cells(x:fH):List Value:=[x.v,.string x.label,.string x.root]
def fH.part(x:fH):Part:=bn 109 3 x.v x.T.length (aK x.T)
structure dR where
 z:Int
 p:aS
 A:jc
 tv:Value
 sv:Value
 kv:Value
 xv:Value
 hv:Value
 shots:List fH
 ks:List Int
 xs:List Zy
 ss:List Zy
 vd:Bool
def dR.row8(s:dR):List Value:=[.int .i64 s.z,Zp s.p.d.p,Zp s.p.q,s.tv,s.sv,.slice none 0 0,s.kv,.bool false]
def dR.row(s:dR):List Value:=s.row8++[s.xv,s.hv,.bool s.vd]
def iN(ks:List Int):List Value:=ks.map (Value.int .i64)
def dR.three(q:Nat)(s:dR):List Part:=[bU q 37 s.row,bn 9 1 s.xv s.xs.length (bN s.xs),bn 9 1 s.hv s.ss.length (bN s.ss)]
def dR.tree(s:dR):Part:=bn 109 3 s.tv s.A.L.length (aK s.A.L)
def dR.rest(s:dR):List Part:=s.tree::bf s.p s.A::bn 54 3 s.sv s.shots.length (s.shots.flatMap fH.cells)::bn 3 1 s.kv s.ks.length (iN s.ks)::s.shots.map fH.part
def dR.parts(q:Nat)(s:dR):List Part:=s.three q++s.rest
section
variable {a:Nat->Addr}{c:dz}{w0 w:World}{q:Nat}{s:dR}
theorem dF.kRow(h:dF w0.heap.size w (s.parts q)):ai w q 37 s.row:=h.at_ (bU q 37 s.row) (by simp[dR.parts,dR.three])
theorem dF.kTree(h:dF w0.heap.size w (s.parts q)):w.ownsRow 0 109 3 s.tv s.A.L.length (aK s.A.L):=h.at_ s.tree (by simp[dR.parts,dR.rest])
theorem dF.kArc(h:dF w0.heap.size w (s.parts q)):eP w s.p s.A:=h.at_ (bf s.p s.A) (by simp[dR.parts,dR.rest])
theorem dF.kShots(h:dF w0.heap.size w (s.parts q)):w.ownsRow 0 54 3 s.sv s.shots.length (s.shots.flatMap fH.cells):=h.at_ (bn 54 3 s.sv s.shots.length (s.shots.flatMap fH.cells)) (by simp[dR.parts,dR.rest])
theorem dF.kShot(h:dF w0.heap.size w (s.parts q)){x:fH}(hx:x∈s.shots):w.ownsRow 0 109 3 x.v x.T.length (aK x.T):=h.at_ x.part (by
 simp only[dR.parts,dR.rest,mem_append,mem_cons];exact .inr (.inr (.inr (.inr (.inr (mem_map_of_mem hx))))))
def dR.hashed(s:dR)(xv hv:Value)(xs ss:List Zy)(vd:Bool):dR:={s with xv:=xv,hv:=hv,xs:=xs,ss:=ss,vd:=vd}
theorem aaf(bs:gU a w0 w)(hC:dI c w0)(h:dF w0.heap.size w (s.parts q))(ok:aC s.A.L)(n:Nat)(h1:s.xs.length=s.ss.length)(h2:s.ss.length<=n)(hn:n<=600000000):
  Zc 52 #[Zp q,.string ⟨#[]⟩] w fun e w'=>∃(t:Zy) (xv hv:Value) (xs ss:List Zy) (vd:Bool),e=.returned (.string t)/\xs.length=ss.length/\ss.length<=n+4400/\Step w0.heap.size w w' (s.parts q) ((s.hashed xv hv xs ss vd).parts q)/\gU a w0 w':=by
 have sI:=h.apart;simp only[dR.parts,dR.three,dR.rest,cons_append,nil_append,pairwise_cons,mem_cons] at sI;obtain⟨d0,d1,d2,d3,_⟩:=sI;have e1:∀b∈s.xv.ownBlock.toList,b≠q:=fun b hb e=>d0 _ (.inl rfl) q (by simp[bU]) (by rw[<-e];exact hb);have e2:∀b∈s.hv.ownBlock.toList,b≠q:=fun b hb e=>d0 _ (.inr (.inl rfl)) q (by simp[bU]) (by rw[<-e];exact hb);have e3:∀b∈s.xv.ownBlock.toList,b∉s.hv.ownBlock.toList:=fun b hb hm=>d1 _ (.inl rfl) b hb hm;have e4:∀b∈s.tv.ownBlock.toList,b∉bT.blocks q s.xv s.hv:=fun b hb hm=>by
  simp only[bT.blocks,cons_append,mem_cons,mem_append] at hm;rcases hm with e|e|e
  ·exact d0 _ (.inr (.inr (.inl rfl))) q (by simp[bU]) (by rw[<-e];exact hb)
  ·exact d1 _ (.inr (.inl rfl)) b e hb
  ·exact d2 _ (.inl rfl) b e hb
 have hx:w.ownsRow 0 9 1 s.xv s.xs.length (bN s.xs):=h.at_ (bn 9 1 s.xv s.xs.length (bN s.xs)) (by simp[dR.parts,dR.three]);have hs:w.ownsRow 0 9 1 s.hv s.ss.length (bN s.ss):=h.at_ (bn 9 1 s.hv s.ss.length (bN s.ss)) (by simp[dR.parts,dR.three]);have eB:gZ (s.three q)=bT.blocks q s.xv s.hv:=by simp[dR.three,gZ,bU,bn,bT.blocks]
 have kV:∀b∈bT.blocks q s.xv s.hv,w0.heap.size<=b:=fun b hb=>h.far b (by rw[dR.parts,iR,eB];exact mem_append_left _ hb);have hA:bT w q s.row8 s.xs s.ss s.xv s.hv s.vd:=⟨h.kRow,rfl,hx,hs,fun b hb=>⟨e1 b hb,e3 b hb⟩,e2⟩;have hN:oD c w q s.row8 s.tv s.A.L n s.xv s.hv:=⟨⟨_,_,_,hA,h1,h2⟩,bs.sha hC,fun b hb=>Nat.le_trans bs.g (kV b hb),Nat.le_trans bs.g bs.size,rfl,h.kTree,e4⟩;have hcr:=xH ok;have gV:=ok.few;refine(YZ ok 300 ⟨#[]⟩ (.inl rfl) (by omega) w n s.xv s.hv hN (by omega)).mono ?_;rintro e w' ⟨t,rfl,_,yJ,hv',hN',hsub,f⟩;obtain⟨xs,ss,vd,hA',k1,k2⟩:=hN'.hs;have eB':gZ ((s.hashed yJ hv' xs ss vd).three q)=bT.blocks q yJ hv':=by simp[dR.three,dR.hashed,gZ,bU,bn,bT.blocks]
 have U5:∀b∈bT.blocks q yJ hv',w0.heap.size<=b:=fun b hb=>by
  rcases hsub b hb with h3|h3
  ·exact kV b h3
  ·exact Nat.le_trans bs.size h3
 have hold':dF w0.heap.size w' ((s.hashed yJ hv' xs ss vd).three q):=by
  refine⟨fun P hP=>?_,?_,by rw[eB'];exact U5⟩
  ·simp only[dR.three,mem_cons,not_mem_nil,or_false] at hP;rcases hP with rfl|rfl|rfl
   ·exact hA'.row
   ·exact hA'.xo
   ·exact hA'.so
  ·refine Pairwise.cons (fun Q hQ=>?_) (Pairwise.cons (fun Q hQ=>?_) (pairwise_singleton _ _))
   ·simp only[mem_cons,not_mem_nil,or_false] at hQ;intro b hb hm;rw[Zm.1 hb] at hm;rcases hQ with rfl|rfl
    ·exact(hA'.nx q hm).1 rfl
    ·exact hA'.ns q hm rfl
   ·rw[Zm.1 hQ];exact fun b hb hm=>(hA'.nx b hb).2 hm
 have st:Step w0.heap.size w w' (s.three q) ((s.hashed yJ hv' xs ss vd).three q):=⟨hold',by rw[eB];exact f,by rw[eB',eB];exact hsub⟩;exact⟨t,yJ,hv',xs,ss,vd,rfl,k1,by omega,st.frame (rs:=s.rest) h,bs.fr f kV⟩
theorem U6:(prog.info? 54).map (fun i=>(i.zero,i.size,i.bytes))=some (some (.agg #[.slice none 0 0,.string ByteArray.empty,.string ByteArray.empty]),3,56):=by kernel_rfl
theorem Lg(W:World)(e:Nat)(he:W.heap[e]? =some (.cells #[] 109 (0,0)))(h:W.ownsRow 0 109 3 tv T.length (aK T))(hn:T.length<=1000000):
  ∃a0 ck w',(∀ty,(Builtin.append_ #[32,32] ty #[.slice (Zs e) 0 0,tv]).run prog W=.ok (.slice a0 T.length ck) w')/\w'.ownsRow 0 109 3 (.slice a0 T.length ck) T.length (aK T)/\(∀b,(Value.slice a0 T.length ck).ownBlock=some b->b=e\/W.heap.size<=b)/\Fr W w' [e]:=by
 obtain⟨i0,hi0,hz0,hz1,hz2⟩:=info_parts oN;have aY:W.ownsRow 0 109 3 (.slice (Zs e) 0 0) 0 []:=⟨rfl,.inr ⟨e,0,#[],rfl,Nat.zero_le _,he,Zn,Nat.zero_le _,rfl,rfl⟩⟩;rcases h.2 with⟨hv,h0⟩|⟨g,cap,cur,hv,_,hb,hc,hcm,_,ht⟩
 ·refine⟨some (Za e 0),0,W,fun ty=>?_,?_,fun b hb=>?_,Fr.refl _ _⟩
  ·rw[hv,h0];simp[Builtin.append_,run_underlying underlying32,sizeOf,typeInfo,hi0,Builtin.lenOf,Builtin.firstCells,Addr.add,storeCells]
  ·have:T=[]:=eq_nil_of_length_eq_zero h0;subst this;exact aY
  ·left;simpa [Value.ownBlock] using hb.symm
 ·have hnews:∀j u,(aK T)[j]? =some u->W.cell? (((Za g 0):Addr).add j)=some u:=by
   intro j u hu;have hadd:((Za g 0):Addr).add j=(Za g j):=by unfold Addr.add;split<;>simp_all
   have hj:j<T.length*3:=by have:=(List.getElem?_eq_some_iff.1 hu).1;rw[fJ] at this;omega
   rw[hadd,cell_of_row W g j cur _ _ hb];have:(cur.toList.take (T.length*3))[j]? =(aK T)[j]? :=by rw[ht]
   rw[getElem?_take_of_lt (by omega)] at this;rw[<-Array.getElem?_toList,this,hu]
  have key:=fun ty=>run_append_own_at (P:=prog) W 0 32 ty 109 i0 _ 3 40 underlying32 hi0 hz0 hz1 hz2 rfl (by decide) (.slice (Zs e) 0 0) 0 [] aY (Za g 0) T.length cap (aK T) (by rw[fJ];try omega) hnews (by intro u hu;unfold aK at hu;obtain⟨x,_,hx⟩:=mem_flatMap.1 hu;simp[It.cells] at hx;rcases hx with rfl|rfl|rfl<;>rfl) (by simp[maxLen];omega) (by omega) (Nat.zero_le _);obtain⟨v',w',hr,ho,hg,_,hb'⟩:=key 0;rw[Nat.zero_add,nil_append] at ho;obtain⟨a0,ck,rfl⟩:∃a0 ck,v'=.slice a0 T.length ck:=aV ho;refine⟨a0,ck,w',fun ty=>by rw[hv];exact hr,ho,fun b hb2=>?_,(Fr.refl _ _).grown hg (by intro k hk;left;simpa [Value.ownBlock] using hk.symm)⟩;rcases hb' with hb'|hb'
  ·left;rw[hb'] at hb2;simpa [Value.ownBlock] using hb2.symm
  ·right;rw[hb'] at hb2;have:W.heap.size=b:=by simpa using hb2
   omega
theorem qp{P:Program}{ops:Array Oper}{rest:List Oper}{o:Oper}{a:Act}{Q:Exit->Act->World->Prop}(hg:o.guard=none)(t:TypeId)(x y:Operand)(ho:o.op=.call {callee:=.builtin .append,args:=#[x,y],argTypes:=#[t,t]})(u v r:Value)(hx:a.eval x=u)(hy:a.eval y=v)(hr:∀ty,(Builtin.append_ #[t,t] ty #[u,v]).run P w=.ok r w')
  (h:wpList P ops Q rest (a.put o.dst r) w'):wpList P ops Q (o::rest) a w:=by
 refine wpList_plain hg fun _ hK=>?_;unfold Oper.wp execOp;simp only[ho,resolve,invoke,builtin,Sem.run_bind,Sem.run_pure,Result.andThen_ok,map_toArray,map_cons,map_nil,hx,hy,hr];exact hK _ _ h
end
section
variable {a:Nat->Addr}{c:dz}{w0 w:World}{q:Nat}{s:dR}
structure fI(a:Nat->Addr)(w0 wS:World)(q:Nat)(s0:dR)(X:List Part)(s:dR)(w:World):Prop where
 step:Step w0.heap.size wS w (s0.parts q) (X++s.parts q)
 bs:gU a w0 w
variable {wS:World}{s0:dR}{X:List Part}
theorem fI.below(h:fI a w0 wS q s0 X s w)(f:Below w.heap.size w w1):fI a w0 wS q s0 X s w1:=⟨h.step.below f,h.bs.below f⟩
theorem fI.hold(h:fI a w0 wS q s0 X s w):dF w0.heap.size w (s.parts q):=h.step.hold.right
theorem fI.next{s':dR}(h:fI a w0 wS q s0 X s w)(st:Step w0.heap.size w w1 (X++s.parts q) (Y++s'.parts q)):fI a w0 wS q s0 Y s' w1:=⟨h.step.trans st,h.bs.fr st.fr (fun b hb=>h.step.hold.far b hb)⟩
theorem fI.refl(bs:gU a w0 w)(h:dF w0.heap.size w (s.parts q)):fI a w0 w q s [] s w:=⟨Step.refl h,bs⟩
theorem fI.drop(h:fI a w0 wS q s0 X s w):fI a w0 wS q s0 [] s w:=h.next (Y:=[]) (Step.drop h.step.hold)
theorem fI.copy(h:fI a w0 wS q s0 [] s w)(hb:Below w.heap.size w w1)(ho:w1.ownsRow 0 109 3 v T.length (aK T))(hn:∀b,v.ownBlock=some b->w.heap.size<=b):fI a w0 wS q s0 [bn 109 3 v T.length (aK T)] s w1:=
 h.next ((Step.new (Q:=bn 109 3 v T.length (aK T)) h.bs.size ho hb (fun b hb=>hn b (Zo.1 hb))).frame (rs:=s.parts q) h.step.hold)
theorem fI.arc(h:fI a w0 wS q s0 X s w)(hL:A'.L=s.A.L)(eq:p'.q=s.p.q)(ed:p'.d.p=s.p.d.p)(st:Step w0.heap.size w w1 [bf s.p s.A] [bf p' A']):fI a w0 wS q s0 X {s with p:=p',A:=A'} w1:=by
 have e1:({s with p:=p',A:=A'}:dR).row=s.row:=by simp[dR.row,dR.row8,eq,ed]
 have hp:(X++s.parts q).Perm ([bf s.p s.A]++(X++(s.three q++s.tree::(bn 54 3 s.sv s.shots.length (s.shots.flatMap fH.cells)::bn 3 1 s.kv s.ks.length (iN s.ks)::s.shots.map fH.part)))):=by
  have h1:(X++s.parts q)=(X++(s.three q++[s.tree]))++bf s.p s.A::(bn 54 3 s.sv s.shots.length (s.shots.flatMap fH.cells)::bn 3 1 s.kv s.ks.length (iN s.ks)::s.shots.map fH.part):=by simp[dR.parts,dR.rest]
  rw[h1];refine perm_middle.trans ?_;simp
 have hp':(X++({s with p:=p',A:=A'}:dR).parts q).Perm ([bf p' A']++(X++(s.three q++s.tree::(bn 54 3 s.sv s.shots.length (s.shots.flatMap fH.cells)::bn 3 1 s.kv s.ks.length (iN s.ks)::s.shots.map fH.part)))):=by
  have h1:(X++({s with p:=p',A:=A'}:dR).parts q)=(X++(s.three q++[s.tree]))++bf p' A'::(bn 54 3 s.sv s.shots.length (s.shots.flatMap fH.cells)::bn 3 1 s.kv s.ks.length (iN s.ks)::s.shots.map fH.part):=by
   simp[dR.parts,dR.rest,dR.three,dR.tree,e1,hL]
  rw[h1];refine perm_middle.trans ?_;simp
 exact h.next ((st.frame (h.step.hold.perm hp)).perm hp.symm hp'.symm)
theorem fI.arcHold(h:fI a w0 wS q s0 X s w):dF w0.heap.size w [bf s.p s.A]:=by
 have hh:=h.hold;have h1:s.parts q=(s.three q++[s.tree])++([bf s.p s.A]++(bn 54 3 s.sv s.shots.length (s.shots.flatMap fH.cells)::bn 3 1 s.kv s.ks.length (iN s.ks)::s.shots.map fH.part)):=by simp[dR.parts,dR.rest]
 rw[h1] at hh;exact hh.right.left
theorem fI.read(h:fI a w0 wS q s0 X s w)(hd:aB w1 s.p.d s.A.S)(f:Fr w w1 [s.p.d.p]):fI a w0 wS q s0 X s w1:=by
 have hg:eP w s.p s.A:=h.hold.kArc;have hp:s.p.d.p∈(bf s.p s.A).blocks:=mem_append_left _ (aS.d_in (by simp[DP.blocks]));have f':Fr w w1 (bf s.p s.A).blocks:=f.wider (fun x hx=>by rw[Zm.1 hx];exact hp);exact h.arc rfl rfl rfl (Step.one h.bs.size h.arcHold (Q:=bf s.p s.A) (hg.read hd f) f' (fun b hb=>.inl hb))
theorem Df(h:fI a w0 wS q s0 X s w)(ok:s.A.S.Ok):
  Zc 53 #[Zp s.p.d.p] w fun e w'=>e=.returned (Zi s.A.S.wait.length)/\fI a w0 wS q s0 X s w':=
 (Bb h.hold.kArc.dev ok).mono fun _e _w' ⟨e1,hd,f⟩=>⟨e1,h.read hd f⟩
theorem aag(h:fI a w0 wS q s0 X s w)(ok:s.A.S.Ok):
  Zc 38 #[Zp q] w fun e w'=>∃lv,e=.returned (.tuple #[(Zi (iX s.A.S.seen s.A.S.safe.length)),lv])/\w'.ownsRow w.heap.size 9 1 lv s.A.S.safe.length (bN s.A.S.seen)/\fI a w0 wS q s0 X s w':=by
 have hq:q≠s.p.d.p:=fun e=>by
  have:=h.hold.cons q (by simp[bU]);exact this (eZ.2 ⟨bf s.p s.A,by simp[dR.rest],by rw[e];exact mem_append_left _ (aS.d_in (by simp[DP.blocks]))⟩)
 exact(aaL h.hold.kArc.dev ok hq (h.hold.kRow.cell 1)).mono fun e w' ⟨lv,e1,ho,hd,f⟩=>⟨lv,e1,ho,h.read hd f⟩
theorem U7{label:Zy}(hC:dI c w0)(h:fI a w0 wS q s0 X s w)(hf:s.A.Fit)(hls:label.size<=1000000)(hc:(dJ c s.A label).1.2<=12):
  Zc 50 #[Zp s.p.q,.string label] w fun e w'=>e=.returned (.tuple #[.int .i64 ((dJ c s.A label).1.1:Nat),.int .i64 ((dJ c s.A label).1.2:Nat)])/\∃p',p'.q=s.p.q/\p'.d.p=s.p.d.p/\fI a w0 wS q s0 X {s with p:=p',A:=(dJ c s.A label).2} w':=
 (RB h.bs (h.bs.sha hC) h.arcHold hf label hls hc).mono fun _e _w' ⟨e1,p',st,eq,ed,_⟩=>⟨e1,p',eq,ed,h.arc (PE c s.A label) eq ed st⟩
theorem fI.push{x:fH}(h:fI a w0 wS q s0 [x.part] s w)(fg:Fr w w4 s.sv.ownBlock.toList)(aY:w4.ownsRow 0 54 3 (.slice (Zs g) (s.shots.length+1) cap) (s.shots.length+1) (s.shots.flatMap fH.cells++x.cells))(hs:s.sv.ownBlock=some g\/w.heap.size<=g):
  fI a w0 wS q s0 [] {s with sv:=.slice (Zs g) (s.shots.length+1) cap,shots:=s.shots++[x]} (w4.setCell (Za q 4) (.slice (Zs g) (s.shots.length+1) cap))/\w4.cell? (Za q 4)=some s.sv/\w4.frozen? (Za q 4)=false:=by
 let shP:=bn 54 3 s.sv s.shots.length (s.shots.flatMap fH.cells)
 let others:=[bn 9 1 s.xv s.xs.length (bN s.xs),bn 9 1 s.hv s.ss.length (bN s.ss),s.tree,bf s.p s.A]
 let tail:=bn 3 1 s.kv s.ks.length (iN s.ks)::s.shots.map fH.part
 have hp:([x.part]++s.parts q).Perm ([bU q 37 s.row,shP]++(x.part::(others++tail))):=by
  have h1:[x.part]++s.parts q=[x.part]++(bU q 37 s.row::(others++(shP::tail))):=by simp[dR.parts,dR.rest,dR.three,shP,others,tail]
  rw[h1];refine(Perm.swap _ _ _).trans (Perm.cons _ ?_);have:(x.part::(others++(shP::tail)))=((x.part::others)++shP::tail):=rfl;rw[this];exact perm_middle
 obtain⟨st,c1,z1⟩:=Step.put (k:=4) h.bs.size (h.step.hold.perm hp).left fg aY (fun b hb=>by
  have e1:g=b:=by simpa [Value.ownBlock] using hb
  rw[<-e1];exact hs)
 have e4:s.row[4]? =some s.sv:=rfl;refine⟨h.next (Y:=[]) ((st.frame (h.step.hold.perm hp)).perm hp.symm ?_),c1.trans e4,z1⟩;have hc:(s.shots++[x]).flatMap fH.cells=s.shots.flatMap fH.cells++x.cells:=by simp
 let RI:=bn 54 3 (.slice (Zs g) (s.shots.length+1) cap) (s.shots.length+1) (s.shots.flatMap fH.cells++x.cells)
 have h2:[]++({s with sv:=.slice (Zs g) (s.shots.length+1) cap,shots:=s.shots++[x]}:dR).parts q=bU q 37 (s.row.set 4 (.slice (Zs g) (s.shots.length+1) cap))::(others++(RI::(tail++[x.part]))):=by
  simp only[dR.parts,dR.rest,dR.three,hc,others,tail,RI,length_append,length_singleton,map_append,map_cons,map_nil,nil_append,cons_append];rfl
 rw[h2];refine Perm.cons _ ?_;have h3:others++(RI::(tail++[x.part]))=(others++RI::tail)++[x.part]:=by simp
 rw[h3];refine Perm.trans ?_ (perm_append_comm (l₁:=[x.part]));show(RI::x.part::(others++tail)).Perm (x.part::(others++RI::tail));exact(Perm.swap _ _ _).trans (Perm.cons _ perm_middle.symm)
end
end
end Go.Proofs.YtdidjdoifpfmmaaGreatDoor
