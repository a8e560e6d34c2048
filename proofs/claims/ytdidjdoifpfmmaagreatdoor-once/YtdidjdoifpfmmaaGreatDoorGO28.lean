import Derived.Test.YtdidjdoifpfmmaaGreatDoorGAAliveP
set_option maxRecDepth 100000
set_option maxHeartbeats 16000000
namespace Go.Proofs.YtdidjdoifpfmmaaGreatDoor
open Go.Proofs.Tryz List
variable{w' w1 w4:World}{A A':jc}{k g cap m i n' B:Nat}{s lab root:Zy}{T T':List It}{p p':aS}{tv tv' v:Value}
section
open Go.RowKit Go.Maps Go.Lib
structure XF(c:dz)(S:Dk)(R:(Nat × Nat × Nat) × Sc)(root lab:Zy):Prop where
 ok:S.Ok
 fuse:S.fuse<=9223372036854775807
 wait:S.wait=[]
 crash:(⟨jG S.wait S.safe [],[],0,false⟩:Dk)=S
 len:S.safe.length=54
 super:S.seen.getD 0 ByteArray.empty=dG 54
 scan:qO c S.seen 54 1 1 (bQ 54) ⟨[],[],[]⟩=R/\nU c S.seen 54 1 1 (bQ 54) ⟨[],[],[]⟩=true
 at_:R.1.1<=54
 wipe:dN S R.1.1=(S,0)
 infos:R.2.I=[(root,lab)]
 r32:root.size=32
 fit:wM R.2.H 54
 dir:∃x:Ln,wO c S R.2.H root=.ok [x]/\x.name=⟨#[102]⟩/\x.dir=false/\x.sum.size=32/\uy c S R.2.H x.sum=.ok ⟨#[100,97,116,97]⟩
 list:FJ c S R.2.H [(root,lab)] 1 ⟨#[]⟩=.ok [⟨⟨#[102]⟩,false,4⟩]
 read:FI c S R.2.H [(root,lab)] 1 ⟨#[102]⟩=.ok ⟨#[100,97,116,97]⟩
 texts:∀o∈R.2.H,(match fu c S R.2.H o.kind o.sum with | .ok _=>true | .error _=>false)=true
def oI(S:Dk)(R:(Nat × Nat × Nat) × Sc):jc:=⟨S,T1,R.2.H,R.2.I,R.1.1,R.1.2.1,R.1.2.2,false⟩
section
variable {c:dz}{S:Dk}{R:(Nat × Nat × Nat) × Sc}{root lab:Zy}
theorem XF.grows(x:XF c S R root lab):Po c S R.2.H T1 1 root ⟨#[]⟩:=by
 obtain⟨ln,h1,h2,h3,h4,h5⟩:=x.dir;refine⟨x.r32,.inl rfl,[ln],h1,fun y hy=>?_,by simp,fun k=>?_,by simp,fun y hy=>?_⟩
 ·obtain rfl:=Zm.1 hy;exact⟨h4,by rw[h2];decide +kernel⟩
 ·rw[show aj ⟨#[]⟩ T1=[⟨#[102]⟩] by decide +kernel];simp[h2]
 ·obtain rfl:=Zm.1 hy;exact⟨fun h=>by rw[h3] at h;exact Bool.noConfusion h,fun _=>⟨_,Zm.2 rfl,by rw[h2];decide +kernel,rfl,h5⟩⟩
theorem XF.last(x:XF c S R root lab):qU c S R.2.H R.2.I T1:=by
 unfold qU;rw[x.infos];exact⟨x.r32,1,x.grows⟩
theorem XF.i32(x:XF c S R root lab):∀y∈R.2.I,y.1.size=32:=fun y hy=>by
 rw[x.infos] at hy;rw[Zm.1 hy];exact x.r32
end
section
variable {a:Nat->Addr}{w0 w:World}{c:dz}{S:Dk}{R:(Nat × Nat × Nat) × Sc}{root lab:Zy}
theorem xMnt(x:XF c S R root lab)(hC:dI c w0):Mnt a w0 S (oI S R):=by
 intro w d bs hd kV;have hl:=x.len;have hF:wY d:=fun b hb=>Nat.le_trans bs.g (kV b hb);have hN:∀(y:Option Addr) (w1 w2:World),(∃p:aS,y=some (Za p.q 0)/\p.d.p=d.p/\eP w1 p (oI S R)/\Fr w w1 d.blocks/\(∀b∈(bf p (oI S R)).blocks,b∈d.blocks\/w.heap.size<=b)/\gU a w0 w1)->Below w1.heap.size w1 w2->∃p:aS,y=some (Za p.q 0)/\p.d.p=d.p/\eP w2 p (oI S R)/\Fr w w2 d.blocks/\(∀b∈(bf p (oI S R)).blocks,b∈d.blocks\/w.heap.size<=b)/\gU a w0 w2:=by
  rintro y w1 w2 ⟨p,e1,e2,h1,h2,h3,h4⟩ hb;exact⟨p,e1,e2,(bf p (oI S R)).fr h1 (Fr.of_below hb []) (by simp),h2.trans (Fr.of_below hb []) (by simp),h3,h4.below hb⟩
 have key:=Ab (a:=a) (c:=0) (dp:=d.p) (w:=w) (N:=fun y w1=>∃p:aS,y=some (Za p.q 0)/\p.d.p=d.p/\eP w1 p (oI S R)/\Fr w w1 d.blocks/\(∀b∈(bf p (oI S R)).blocks,b∈d.blocks\/w.heap.size<=b)/\gU a w0 w1) (by decide) (fun y w1 ⟨_,_,_,_,_,_,h2⟩=>h2.at.1) hN ?_
 ·refine key.mono ?_;rintro e w' ⟨y,rfl,p,rfl,e2,h1,h2,h3,_⟩;exact⟨p,rfl,e2,h1,h2,h3⟩
 ·have hm:=Fu (c:=c) bs.at.2 (bs.sha hC) hd hF x.ok x.fuse (by rw[x.wait];exact Nat.zero_le _) (Nat.le_trans bs.g bs.size) (by rw[hl];decide) (by rw[hl];exact x.super) R.1.1 R.1.2.1 R.1.2.2 R.2 (by rw[hl];exact x.scan) (by rw[hl];exact x.at_) (by rw[x.wipe]) (by rw[x.wipe];exact x.ok) T1 PK (by rw[x.wipe];show wM R.2.H S.safe.length;rw[hl];exact x.fit) x.i32 (by rw[x.wipe];exact x.last);rw[x.wipe] at hm;refine hm.mono ?_;rintro e w' ⟨q',rfl,hg⟩;obtain⟨p,g1,g2,g3,g4,g5,g6⟩:=hg.arc;refine⟨_,rfl,p,by rw[g2],g3,g1,g6,fun b hb=>?_,bs.fr g6 kV⟩;rcases mem_append.1 hb with h1|h1
  ·exact g4 b h1
  ·exact .inr (g5 b h1)
theorem XP{d:DP}(h:aB w d S)(h':aB w' d S)(f:Fr w w' [d.p]):Fr w w' []:=
 ⟨f.os,f.tape,f.output,f.size,fun k hk _=>by
  by_cases e:k=d.p
  ·rw[e,h.row.heap,h'.row.heap]
  ·exact f.block k hk (by simpa using e)⟩
variable {p:aS}{tb:Nat}
theorem Ou.keep(h:Ou a w0 p A tb w)(f:Fr w w' [tb])(hn:tb∉(bf p A).blocks)(hs:w0.heap.size<=tb):Ou a w0 p A tb w':=
 ⟨(bf p A).fr h.1 f (fun b hb hm=>hn (by rw[<-Zm.1 hm];exact hb)),h.2.1.fr f (fun b hb=>by rw[Zm.1 hb];exact hs),Nat.lt_of_lt_of_le h.2.2 f.size⟩
theorem Ou.same(h:Ou a w0 p A tb w)(hd:aB w' p.d A.S)(f:Fr w w' [p.d.p]):Fr w w' [tb]:=(XP h.1.dev hd f).wider (fun _x hx=>nomatch hx)
theorem Va(x:XF c S R root lab)(hC:dI c w0)(kV:∀b∈(bf p (oI S R)).blocks,w0.heap.size<=b)(h:Ou a w0 p (oI S R) tb w):mO a c w p.q p.d S p.ms R.2.H [(root,lab)] p.ao p.co:=by
 have hl:=x.len;have:=h.1.keptAt (c:=c) h.2.1.at.2 (h.2.1.sha hC) (fun b hb=>Nat.le_trans h.2.1.g (kV b (mem_append_left _ hb))) (Nat.le_trans h.2.1.g h.2.1.size) x.ok (by show wM R.2.H S.safe.length;rw[hl];exact x.fit) x.i32 (by show R.2.I.length<=5000;rw[x.infos];simp);have e:(oI S R).I=[(root,lab)]:=x.infos;rw[e] at this;exact this
theorem Y6(x:XF c S R root lab){l:Nat}(hh:hasO R.2.H k s=true)(he:fu c S R.2.H k s=.error l):False:=by
 unfold hasO at hh;cases hx:gH R.2.H k s with
 | none=>rw[hx] at hh;cases hh
 | some o=>
  obtain⟨hm,hk,hs⟩:=Fb hx;have:=x.texts o hm;rw[hk,hs,he] at this;cases this
theorem XQ(x:XF c S R root lab)(hh:hasO R.2.H k s=true):∃t,fu c S R.2.H k s=.ok t:=by
 cases e:fu c S R.2.H k s with
 | ok t=>exact⟨t,rfl⟩
 | error l=>exact(Y6 x hh e).elim
theorem xRds(x:XF c S R root lab)(hC:dI c w0)(p:aS)(tb:Nat)(kV:∀b∈(bf p (oI S R)).blocks,w0.heap.size<=b)(hn:tb∉(bf p (oI S R)).blocks)(hs:w0.heap.size<=tb):Rds (Ou a w0 p (oI S R) tb) tb p.q lab root:=by
 have hl:=x.len;have eI:(oI S R).I=[(root,lab)]:=x.infos;refine⟨fun w h=>h.keep (Fr.refl w _).drew hn hs,fun w h=>?_,fun w h=>?_,fun w k hk h=>?_,fun w k hk h=>?_⟩
 ·refine(yE h.1 x.i32 (by rw[eI];simp)).mono ?_;rintro e w' ⟨v,rfl,ho,hb⟩;rw[eI] at ho;obtain⟨vi,ci,rfl⟩:∃vi ci,v=.slice vi 1 ci:=aV ho;obtain⟨gi,rfl,hgl,_,hr⟩:=dH ho (by decide);exact⟨gi,ci,rfl,hgl,hr 0 (.int .i64 1) rfl,hr 1 (.string lab) rfl,hr 2 (.string root) rfl,h.keep (Fr.of_below hb _) hn hs,Fr.of_below hb _⟩
 ·refine Ii (N:=fun w'=>Ou a w0 p (oI S R) tb w'/\Fr w w' [tb]) (M:=fun v w'=>v=.nilIface/\Ou a w0 p (oI S R) tb w'/\Fr w w' [tb]) (n:=0) (pl:= -1) (fun v w1 hv=>?_) ?_
  ·obtain⟨rfl,hv⟩:=hv;refine(rZ w1).mono ?_;rintro e w' ⟨e1,rfl⟩;exact⟨e1,hv⟩
  ·refine(Rs (Va x hC kV h).rd (fun k s hh=>XQ x hh)).mono ?_;rintro e w' ⟨⟨fv,m,rfl,hv⟩,hd,f⟩;have f':=h.same hd f;refine⟨fv,rfl,?_,h.keep f' hn hs,f'⟩;rcases hv with hv|⟨b,_,_,⟨k,s,_,hh,he⟩,_⟩
   ·exact hv.1
   ·exact(Y6 x hh he).elim
 ·rcases hk with rfl|rfl
  ·refine(Ie h.2.1.at.2 ⟨h.1.row.cell 0,h.1.tree,PK⟩ ⟨#[]⟩ (by decide) (show uX T1 ⟨#[]⟩=0 by decide +kernel) 0).mono ?_;rintro e w' ⟨lv,rfl,ho,hb⟩;rw[show mh 0 ((aj ⟨#[]⟩ (oI S R).L).map (vz (oI S R).L ⟨#[]⟩))=[⟨⟨#[102]⟩,false,4⟩] by kernel_rfl] at ho;obtain⟨vi,ci,rfl⟩:∃vi ci,lv=.slice vi 1 ci:=aV ho;obtain⟨ge,rfl,_,_,hr⟩:=dH ho (by decide);exact⟨ge,ci,rfl,hr 0 (.string ⟨#[102]⟩) rfl,hr 1 (.bool false) rfl,hr 2 (.int .i64 4) rfl,h.keep (Fr.of_below hb _) hn hs,Fr.of_below hb _⟩
  ·refine(Et (dp:=tb) (kk:=1) (s:=⟨#[]⟩) (es:=[⟨⟨#[102]⟩,false,4⟩]) (fun w1 hb=>?_) (by decide) h.2.2 0).mono ?_
   ·have h1:=h.keep (Fr.of_below hb _) hn hs;have:=KW (Va x hC kV h1) 1 (by decide) ⟨#[]⟩ (by decide) ⟨_,x.list⟩;rw[x.list] at this;refine this.mono ?_;rintro e w' ⟨⟨ao,co,rfl,ho⟩,hd,f⟩;exact⟨_,rfl,ho,h1.same hd f⟩
   ·rintro e w' ⟨lv,rfl,ho,f⟩;obtain⟨vi,ci,rfl⟩:∃vi ci,lv=.slice vi 1 ci:=aV ho;obtain⟨ge,rfl,_,_,hr⟩:=dH ho (by decide);exact⟨ge,ci,rfl,hr 0 (.string ⟨#[102]⟩) rfl,hr 1 (.bool false) rfl,hr 2 (.int .i64 4) rfl,h.keep f hn hs,f⟩
 ·rcases hk with rfl|rfl
  ·have hW:=Hl h.2.1.at.2 ⟨h.1.row.cell 0,h.1.tree,PK⟩ ⟨#[102]⟩ (by decide);rw[show GZ (oI S R).L ⟨#[102]⟩=(⟨#[100,97,116,97]⟩,0) by kernel_rfl] at hW;refine Rw (a:=a) (c:=0) (N:=fun w'=>Ou a w0 p (oI S R) tb w'/\Fr w w' [tb]) (by decide) (fun w1 h1=>h1.1.2.1.at.1) (fun w1 w2 h1 hb=>⟨h1.1.keep (Fr.of_below hb _) hn hs,h1.2.trans (Fr.of_below hb []) (by simp)⟩) (hW.mono ?_);rintro e w' ⟨e1,hb⟩;exact⟨e1,h.keep (Fr.of_below hb _) hn hs,Fr.of_below hb _⟩
  ·refine NV (N:=fun w'=>Ou a w0 p (oI S R) tb w'/\Fr w w' [tb]) (M:=fun v w'=>v=.nilIface/\Ou a w0 p (oI S R) tb w'/\Fr w w' [tb]) (n:=0) (pl:= -1) (fun v w1 hv=>?_) ?_
   ·obtain⟨rfl,hv⟩:=hv;refine(rZ w1).mono ?_;rintro e w' ⟨e1,rfl⟩;exact⟨e1,hv⟩
   ·have:=UM (Va x hC kV h) 1 (by decide) ⟨#[102]⟩ (by decide) ⟨_,x.read⟩;rw[x.read] at this;refine this.mono ?_;rintro e w' ⟨e1,hd,f⟩;have f':=h.same hd f;exact⟨.nilIface,e1,rfl,h.keep f' hn hs,f'⟩
end
def PN(c:dz)(s:dR)(label:Zy)(s':dR):Prop:=
 (s'.vd=true/\s'.A=s.A/\s'.shots=s.shots)\/(s'.vd=false/\(((dJ c s.A label).1.2≠0/\s'.A=s.A/\s'.shots=s.shots)\/((dJ c s.A label).1.2=0/\s'.A=(dJ c s.A label).2/\∃v,s'.shots=s.shots++[⟨v,s.A.L,label,dQ c s.A⟩])))
def sS(a:Nat->Addr)(c:dz)(w0 w:World)(q:Nat)(s:dR)(label:Zy)(R:List Zy->List Zy->Bool->Prop)(w':World):Prop:=
 ∃s',fI a w0 w q s [] s' w'/\R s'.xs s'.ss s'.vd/\(s'.z=s.z/\s'.kv=s.kv)/\s'.ks=s.ks/\PN c s label s'
def Ir(a:Nat->Addr)(w0 w:World)(q:Nat)(s:dR)(R:List Zy->List Zy->Bool->Prop)(e:Ending)(w':World):Prop:=
 ∃(t:Zy) (xv hv:Value) (xs ss:List Zy) (vd:Bool),e=.returned (.string t)/\R xs ss vd/\fI a w0 w q s [] (s.hashed xv hv xs ss vd) w'
section
variable {a:Nat->Addr}{c:dz}{w0 w:World}{q:Nat}{s:dR}{R:List Zy->List Zy->Bool->Prop}{label:Zy}
theorem Oy(I:List (Zy × Zy))(x:Zy × Zy):(eu (I++[x]))[I.length*3+1]? =some (.string x.2)/\(eu (I++[x]))[I.length*3+2]? =some (.string x.1):=by
 have hl:∀I:List (Zy × Zy),(eu I).length=I.length*3:=fun I=>by
  unfold eu;rw[length_flatMap];have:(I.zipIdx.map fun x=>(zw (x.2+1) x.1).length)=replicate I.length 3:=by
   rw[eq_replicate_iff];exact⟨by simp,fun b hb=>by obtain⟨y,_,rfl⟩:=mem_map.1 hb;rfl⟩
  rw[this];simp
 rw[tu];constructor
 ·rw[getElem?_append_right (by rw[hl];omega),hl,show I.length*3+1-I.length*3=1 by omega];rfl
 ·rw[getElem?_append_right (by rw[hl];omega),hl,show I.length*3+2-I.length*3=2 by omega];rfl
theorem Lj(hC:dI c w0)(_h:dF w0.heap.size w (s.parts q))(hf:s.A.Fit)(hu:vS s.A)(hls:label.size<=1000000)(n:Nat)(hn:n=11\/n=12)(hsn:dJ c s.A label=((0,n),s.A))
  (yL:Zc 52 #[Zp q,.string ⟨#[]⟩] w (Ir a w0 w q s R)):
  Zc 30 #[Zp q,.string label] w fun e w'=>e=.returned (.bool true)/\sS a c w0 w q s label R w':=by
 have HC:Hid _:=hC;have HF:Hid _:=hf;have HU:Hid _:=hu;have LA:Hid _:=hsn;have Hn:Hid _:=hn;have hTl:=hf.tree.few;clear hC hf hu hsn _h;go_enter func30,ntmps30;go_upto_region 2 with(go_at_call 52;refine yL.mono ?_;rintro e w1 ⟨t,xv,hv,xs,ss,vd,rfl,hR,h1⟩;have H1:Hid (fI a w0 w q s [] (s.hashed xv hv xs ss vd) w1):=h1;have HR:Hid (R xs ss vd):=hR;clear h1 hR)
 have c10:w1.cell? (Za q 10)=some (.bool vd):=H1.out.hold.kRow.cell 10;cases vd with
 | true=>
  go_wp2;go_ret;exact⟨rfl,_,H1.out,HR.out,⟨rfl,rfl⟩,rfl,.inl ⟨rfl,rfl,rfl⟩⟩
 | false=>
  have c3':w1.cell? (Za q 3)=some s.tv:=H1.out.hold.kRow.cell 3;have c3:(w1.alloc (.cells #[] 109)).cell? (Za q 3)=some s.tv:=by rw[((Below.refl _ w1).alloc (Zn) _).cell (Zd c3')];exact c3'
  obtain⟨a0,ck,w3,hrun,hown3,hblk,f3⟩:=Lg (T:=s.A.L) (tv:=s.tv) (w1.alloc (.cells #[] 109)) w1.heap.size (heap_alloc_new w1 _) (World.ownsRow.alloc H1.out.hold.kTree _) (by show s.A.L.length<=1000000;omega);have hb3:Below w1.heap.size w1 w3:=BB ((Below.refl _ w1).alloc (Zn) _) f3 (by simp) (by simp);have H3:Hid (fI a w0 w q s [bn 109 3 (.slice a0 s.A.L.length ck) s.A.L.length (aK s.A.L)] (s.hashed xv hv xs ss false) w3):=H1.out.copy hb3 hown3 (fun b hb=>by
   rcases hblk b hb with e|e
   ·omega
   ·simp at e;omega)
  have RJ:Hid _:=hrun;have d1:w3.cell? (Za q 1)=some (Zp s.p.d.p):=H3.out.hold.kRow.cell 1;have cW:Zc 53 #[Zp s.p.d.p] w3 fun e w'=>e=.returned (.int .i64 0)/\fI a w0 w q s [bn 109 3 (.slice a0 s.A.L.length ck) s.A.L.length (aK s.A.L)] (s.hashed xv hv xs ss false) w':=(Df H3.out HF.out.ok).mono fun e w' ⟨e1,h1⟩=>⟨by rw[e1];show _=Ending.returned (Zi 0);rw[show(s.hashed xv hv xs ss false).A.S.wait=[] from HU.out.wait];rfl,h1⟩;have HS:Hid (∀w4,fI a w0 w q s [bn 109 3 (.slice a0 s.A.L.length ck) s.A.L.length (aK s.A.L)] (s.hashed xv hv xs ss false) w4->Zc 50 #[Zp s.p.q,.string label] w4 fun e w'=>e=.returned (.tuple #[.int .i64 0,Zi n])/\∃p',p'.q=s.p.q/\p'.d.p=s.p.d.p/\fI a w0 w q s [bn 109 3 (.slice a0 s.A.L.length ck) s.A.L.length (aK s.A.L)] {s.hashed xv hv xs ss false with p:=p'} w'):=fun w4 h4=>by
   have e0:dJ c (s.hashed xv hv xs ss false).A label=((0,n),s.A):=LA.out;have:=U7 (label:=label) HC.out h4 HF.out hls (by rw[e0];show n<=12;rcases Hn.out with e|e<;>omega);rw[e0] at this;exact this
  have HW2:Hid (∀w5 p',p'.d.p=s.p.d.p->fI a w0 w q s [bn 109 3 (.slice a0 s.A.L.length ck) s.A.L.length (aK s.A.L)] {s.hashed xv hv xs ss false with p:=p'} w5->Zc 53 #[Zp s.p.d.p] w5 fun e w'=>e=.returned (.int .i64 0)/\sS a c w0 w q s label R w'):=fun w5 p' ed h5=>by
   rw[<-ed];refine(Df h5 HF.out.ok).mono fun e w' ⟨e1,h6⟩=>⟨by rw[e1];show _=Ending.returned (Zi 0);rw[show({s.hashed xv hv xs ss false with p:=p'}:dR).A.S.wait=[] from HU.out.wait];rfl,_,h6.drop,HR.out,⟨rfl,rfl⟩,rfl,.inr ⟨rfl,.inl ⟨by rw[LA.out];show n≠0;rcases Hn.out with e|e<;>omega,rfl,rfl⟩⟩⟩
  have n0:¬(n:Int)=0:=by rcases hn with e|e<;>omega
  clear yL hrun hown3 hblk f3 hb3;rcases hn with rfl|rfl
  all_goals
   go_wp2_with(first
    | (at_builtin;refine qp rfl 32 _ _ rfl _ _ _ rfl rfl RJ.out ?_)
    | (go_at_call 53;refine cW.mono ?_;rintro e w4 ⟨rfl,h4⟩;have cS:=HS.out w4 h4;have d2:w4.cell? (Za q 2)=some (Zp s.p.q):=h4.hold.kRow.cell 2;clear h4)
    | (go_at_call 50;refine cS.mono ?_;rintro e w5 ⟨rfl,p',eq,ed,h5⟩;have cW2:=HW2.out w5 p' ed h5;have g1:w5.cell? (Za q 1)=some (Zp s.p.d.p):=(by rw[<-ed];exact h5.hold.kRow.cell 1);clear h5)
    | (go_at_call 53;refine cW2.mono ?_;rintro e w6 ⟨rfl,h6⟩;have H6:Hid (sS a c w0 w q s label R w6):=h6;clear h6))
   go_ret;exact⟨rfl,H6.out⟩
theorem Ll(hC:dI c w0)(h:dF w0.heap.size w (s.parts q))(hf:s.A.Fit)(hu:vS s.A)(hls:label.size<=1000000)(hlen:s.shots.length=s.A.I.length)(hI:∀x∈s.A.I,x.1.size=32)(A':jc)(hsn:dJ c s.A label=((s.A.I.length+1,0),A'))(XR:A'.I=s.A.I++[(dQ c s.A,label)])(_:A'.L=s.A.L)(hA'5:A'.I.length<=5000)
  (yL:Zc 52 #[Zp q,.string ⟨#[]⟩] w (Ir a w0 w q s R)):
  Zc 30 #[Zp q,.string label] w fun e w'=>e=.returned (.bool true)/\sS a c w0 w q s label R w':=by
 have HC:Hid _:=hC;have HF:Hid _:=hf;have HU:Hid _:=hu;have LA:Hid _:=hsn;have hTl:=hf.tree.few;have hil:=hf.i;have hroot:(dQ c s.A).size=32:=c.size _;obtain⟨sa,sc,hsv⟩:∃sa sc,s.sv=.slice sa s.shots.length sc:=aV h.kShots;have Hsv:Hid _:=hsv;have hI':∀x∈A'.I,x.1.size=32:=fun x hx=>by
  rw[XR] at hx;rcases mem_append.1 hx with h1|h1
  ·exact hI x h1
  ·rw[Zm.1 h1];exact hroot
 have hl':A'.I.length=s.A.I.length+1:=by rw[XR];simp
 have HInf:Hid ((eu A'.I)[s.A.I.length*3+1]? =some (.string label)/\(eu A'.I)[s.A.I.length*3+2]? =some (.string (dQ c s.A))):=by rw[XR];exact Oy s.A.I (dQ c s.A,label)
 have Hlen:Hid _:=hlen;clear hC hf hu hsn h hsv hlen;go_enter func30,ntmps30;go_upto_region 2 with(go_at_call 52;refine yL.mono ?_;rintro e w1 ⟨t,xv,hv,xs,ss,vd,rfl,hR,h1⟩;have H1:Hid (fI a w0 w q s [] (s.hashed xv hv xs ss vd) w1):=h1;have HR:Hid (R xs ss vd):=hR;clear h1 hR)
 have c10:w1.cell? (Za q 10)=some (.bool vd):=H1.out.hold.kRow.cell 10;cases vd with
 | true=>
  go_wp2;go_ret;exact⟨rfl,_,H1.out,HR.out,⟨rfl,rfl⟩,rfl,.inl ⟨rfl,rfl,rfl⟩⟩
 | false=>
  have c3':w1.cell? (Za q 3)=some s.tv:=H1.out.hold.kRow.cell 3;have c3:(w1.alloc (.cells #[] 109)).cell? (Za q 3)=some s.tv:=by rw[((Below.refl _ w1).alloc (Zn) _).cell (Zd c3')];exact c3'
  obtain⟨a0,ck,w3,hrun,hown3,hblk,f3⟩:=Lg (T:=s.A.L) (tv:=s.tv) (w1.alloc (.cells #[] 109)) w1.heap.size (heap_alloc_new w1 _) (World.ownsRow.alloc H1.out.hold.kTree _) (by show s.A.L.length<=1000000;omega);have hb3:Below w1.heap.size w1 w3:=BB ((Below.refl _ w1).alloc (Zn) _) f3 (by simp) (by simp);have H3:Hid (fI a w0 w q s [bn 109 3 (.slice a0 s.A.L.length ck) s.A.L.length (aK s.A.L)] (s.hashed xv hv xs ss false) w3):=H1.out.copy hb3 hown3 (fun b hb=>by
   rcases hblk b hb with e|e
   ·omega
   ·simp at e;omega)
  have RJ:Hid _:=hrun;have d1:w3.cell? (Za q 1)=some (Zp s.p.d.p):=H3.out.hold.kRow.cell 1;have cW:Zc 53 #[Zp s.p.d.p] w3 fun e w'=>e=.returned (.int .i64 0)/\fI a w0 w q s [bn 109 3 (.slice a0 s.A.L.length ck) s.A.L.length (aK s.A.L)] (s.hashed xv hv xs ss false) w':=(Df H3.out HF.out.ok).mono fun e w' ⟨e1,h1⟩=>⟨by rw[e1];show _=Ending.returned (Zi 0);rw[show(s.hashed xv hv xs ss false).A.S.wait=[] from HU.out.wait];rfl,h1⟩;have HS:Hid (∀w4,fI a w0 w q s [bn 109 3 (.slice a0 s.A.L.length ck) s.A.L.length (aK s.A.L)] (s.hashed xv hv xs ss false) w4->Zc 50 #[Zp s.p.q,.string label] w4 fun e w'=>e=.returned (.tuple #[.int .i64 ((s.A.I.length:Int)+1),.int .i64 0])/\∃p',p'.q=s.p.q/\p'.d.p=s.p.d.p/\fI a w0 w q s [bn 109 3 (.slice a0 s.A.L.length ck) s.A.L.length (aK s.A.L)] {s.hashed xv hv xs ss false with p:=p',A:=A'} w'):=fun w4 h4=>by
   have e0:dJ c (s.hashed xv hv xs ss false).A label=((s.A.I.length+1,0),A'):=LA.out;have:=U7 (label:=label) HC.out h4 HF.out hls (by rw[e0];exact Nat.zero_le _);rw[e0] at this;exact this
  have HI5:Hid (∀w5 p',p'.q=s.p.q->fI a w0 w q s [bn 109 3 (.slice a0 s.A.L.length ck) s.A.L.length (aK s.A.L)] {s.hashed xv hv xs ss false with p:=p',A:=A'} w5->Zc 35 #[Zp s.p.q] w5 fun e w'=>∃gi ci,e=.returned (.slice (Zs gi) (s.A.I.length+1) ci)/\w'.cell? (Za gi (s.A.I.length*3+1))=some (.string label)/\w'.cell? (Za gi (s.A.I.length*3+2))=some (.string (dQ c s.A))/\w5.heap.size<=gi/\fI a w0 w q s [bn 109 3 (.slice a0 s.A.L.length ck) s.A.L.length (aK s.A.L)] {s.hashed xv hv xs ss false with p:=p',A:=A'} w'):=fun w5 p' eq h5=>by
   have hg:eP w5 p' A':=h5.hold.kArc;have:=yE hg hI' hA'5;rw[eq] at this;refine this.mono ?_;rintro e w' ⟨v,rfl,ho,hb⟩;obtain⟨vi,ci,rfl⟩:∃vi ci,v=.slice vi A'.I.length ci:=aV ho;obtain⟨gi,rfl,hgl,_,hr⟩:=dH ho (by omega);have q1:=hr _ _ HInf.out.1;have q2:=hr _ _ HInf.out.2;rw[Nat.zero_add] at q1 q2;exact⟨gi,ci,by rw[hl'],q1,q2,hgl,h5.below hb⟩
  have aaX:Hid (∀(w6:World) (p':aS) (g cap:Nat) (w7:World),p'.q=s.p.q->p'.d.p=s.p.d.p->fI a w0 w q s [bn 109 3 (.slice a0 s.A.L.length ck) s.A.L.length (aK s.A.L)] {s.hashed xv hv xs ss false with p:=p',A:=A'} w6->w7.ownsRow 0 54 3 (.slice (Zs g) (s.shots.length+1) cap) (s.shots.length+1) (s.shots.flatMap fH.cells++[.slice a0 s.A.L.length ck,.string label,.string (dQ c s.A)])->(w6.drew.alloc (.cells #[.slice a0 s.A.L.length ck,.string label,.string (dQ c s.A)] 54)).grownBy w7 (Value.slice sa s.shots.length sc).ownBlock->((Value.slice sa s.shots.length sc).ownBlock=some g\/g=(w6.drew.alloc (.cells #[.slice a0 s.A.L.length ck,.string label,.string (dQ c s.A)] 54)).heap.size)->
    sS a c w0 w q s label R (w7.setCell (Za q 4) (.slice (Zs g) (s.shots.length+1) cap))/\w7.cell? (Za q 4)=some (.slice sa s.shots.length sc)/\w7.frozen? (Za q 4)=false/\Fr w6 w7 (Value.slice sa s.shots.length sc).ownBlock.toList/\(w7.setCell (Za q 4) (.slice (Zs g) (s.shots.length+1) cap)).cell? (Za q 7)=some (.bool false)):=fun w6 p' g cap w7 eq ed h6 aY aN hat=>by
   have f7:Fr w6 w7 (Value.slice sa s.shots.length sc).ownBlock.toList:=(((Fr.refl w6 _).drew).alloc _).grown aN (fun k e=>.inl (Zo.2 e));have RL:({s.hashed xv hv xs ss false with p:=p',A:=A'}:dR).sv=.slice sa s.shots.length sc:=Hsv.out;have:=fI.push (x:=⟨.slice a0 s.A.L.length ck,s.A.L,label,dQ c s.A⟩) (g:=g) (cap:=cap) h6 (by rw[RL];exact f7) aY (by
    rw[RL];rcases hat with e|e
    ·exact .inl e
    ·exact .inr (by rw[e];simp))
   rw[RL] at this;refine⟨⟨_,this.1,HR.out,⟨rfl,rfl⟩,rfl,.inr ⟨rfl,.inr ⟨by rw[LA.out],by rw[LA.out],_,rfl⟩⟩⟩,this.2.1,this.2.2,f7,this.1.hold.kRow.cell 7⟩
  obtain⟨i0,hi0,hz0,hz1,hz2⟩:=info_parts U6;have HBt:Hid (∀w6 p',fI a w0 w q s [bn 109 3 (.slice a0 s.A.L.length ck) s.A.L.length (aK s.A.L)] {s.hashed xv hv xs ss false with p:=p',A:=A'} w6->w6.ownsRow 0 54 3 (.slice sa s.shots.length sc) s.shots.length (s.shots.flatMap fH.cells)):=fun w6 p' h6=>by
   have:=h6.hold.kShots;rw[show({s.hashed xv hv xs ss false with p:=p',A:=A'}:dR).sv=.slice sa s.shots.length sc from Hsv.out] at this;exact this
  have HNq:Hid (∀g,(Value.slice sa s.shots.length sc).ownBlock=some g->g≠q):=fun g hg e=>by
   have:=H1.out.hold.cons q (by simp[bU]);refine this (eZ.2 ⟨bn 54 3 s.sv s.shots.length (s.shots.flatMap fH.cells),by simp[dR.rest,dR.hashed],?_⟩);rw[Hsv.out,<-e];exact Zo.2 hg
  have hls2:s.shots.length<=5000:=by have:=Hlen.out;omega
  clear yL hrun hown3 hblk f3 hb3 hI hI' hl' XR;have hlb:((label.toList !=label.toList))=false:=by simp
  obtain⟨m,hm⟩:∃m,m=s.A.I.length:=⟨_,rfl⟩;have hm2:s.shots.length=m:=by rw[hm];exact Hlen.out
  rw[<-hm] at HS HI5 hil;have Hmm:Hid _:=hm2;have hb1:(((m:Int)+1) !=((s.shots.length:Int)+1))=false:=by simp;omega
  have hb2:¬((m:Int)+1≠(s.shots.length:Int)+1):=by omega
  have hw1:IntKind.i64.wrap ((s.shots.length:Int)+1)=(s.shots.length:Int)+1:=by rw[IntKind.wrap_i64];omega
  have hw2:IntKind.i64.wrap ((m:Int)+1-1)=(m:Int):=by rw[IntKind.wrap_i64];omega
  have hix:¬(m:Int)+1<=(m:Int):=by omega
  have hix0:(0:Int)<=(m:Int):=by omega
  generalize dQ c s.A=root at *;clear hm hm2;go_upto_region 11 with(first
   | (at_builtin;refine qp rfl 32 _ _ rfl _ _ _ rfl rfl RJ.out ?_)
   | (go_at_call 53;refine cW.mono ?_;rintro e w4 ⟨rfl,h4⟩;have cS:=HS.out w4 h4;have d2:w4.cell? (Za q 2)=some (Zp s.p.q):=h4.hold.kRow.cell 2;clear h4)
   | (go_at_call 50;refine cS.mono ?_;rintro e w5 ⟨rfl,p',eq,ed,h5⟩;have cI:=HI5.out w5 p' eq h5;have g1:w5.cell? (Za q 2)=some (Zp s.p.q):=(by rw[<-eq];exact h5.hold.kRow.cell 2);have Hlt5:Hid (∀g,(Value.slice sa s.shots.length sc).ownBlock=some g->g<w5.heap.size):=(fun g hg=>(World.ownsRow.lt (HBt.out w5 p' h5) g hg).2);have Q8:q<w5.heap.size:=h5.hold.kRow.lt;have Heq:Hid (p'.q=s.p.q):=eq;have Hed:Hid (p'.d.p=s.p.d.p):=ed;clear h5 eq ed)
   | (go_at_call 35;refine cI.mono ?_;rintro e w6 ⟨gi,ci,rfl,i1,i2,hgi,h6⟩;have H6:Hid (fI a w0 w q s [bn 109 3 (.slice a0 s.A.L.length ck) s.A.L.length (aK s.A.L)] {s.hashed xv hv xs ss false with p:=p',A:=A'} w6):=h6;have k4:w6.cell? (Za q 4)=some (.slice sa s.shots.length sc):=(by rw[<-Hsv.out];exact h6.hold.kRow.cell 4);have Xk:=h6.hold.kRow.lt;clear h6))
  have XE:Hid (w6.drew.ownsRow 0 54 3 (.slice sa s.shots.length sc) s.shots.length (s.shots.flatMap fH.cells)):=fB (HBt.out w6 p' H6.out) (Zr).drew;have FA:Hid (Fr w6 (w6.drew.alloc (.cells #[.slice a0 s.A.L.length ck,.string label,.string root] 54)) (Value.slice sa s.shots.length sc).ownBlock.toList):=((Fr.refl w6 _).drew).alloc _;have hbs:Hid (∀W:World,(Instr.buildSlice 33 1 #[(0,.agg #[.slice a0 s.A.L.length ck,.string label,.string root])]).run prog W=.ok (.slice (Zs W.heap.size) 1 1) (W.alloc (.cells #[.slice a0 s.A.L.length ck,.string label,.string root] 54))):=fun W=>bH (P:=prog) W 33 54 underlying33 [.slice a0 s.A.L.length ck,.string label,.string root] i0 _ hi0 hz0 hz1 (by simp) (by simp);have k4a:(w6.alloc (.cells #[.slice a0 s.A.L.length ck,.string label,.string root] 54)).cell? (Za q 4)=some (.slice sa s.shots.length sc):=by rw[((Below.refl w6.heap.size w6).alloc (Zn) _).cell (Zd k4)];exact k4
  have hgiB:gi∉(Value.slice sa s.shots.length sc).ownBlock.toList:=fun hm=>by have:=Hlt5.out gi (Zo.1 hm);omega
  have HB2:Hid (∀w':World,Fr w6 w' (Value.slice sa s.shots.length sc).ownBlock.toList->w'.cell? (Za gi (m*3+2))=some (.string root)):=fun w' f=>ay i2 (f.block gi (Zd i2) hgiB);have HB3:Hid (∀(w':World) (v:Value),w'.cell? (Za gi (m*3+2))=some (.string root)->(w'.setCell (Za q 4) v).cell? (Za gi (m*3+2))=some (.string root)):=fun w' v e2=>by
   have fq:Fr w' (w'.setCell (Za q 4) v) [q]:=(Fr.refl _ _).setCell _ _ (.inl (by simp));exact ay e2 (fq.block gi (Zd e2) (by simp;omega))
  have rA:Hid (∀(g cap:Nat) (w7:World),w7.ownsRow 0 54 3 (.slice (Zs g) (s.shots.length+1) cap) (s.shots.length+1) (s.shots.flatMap fH.cells++[.slice a0 s.A.L.length ck,.string label,.string root])->_):=fun g cap w7=>aaX.out w6 p' g cap w7 Heq.out Hed.out H6.out;refine bF ?_;refine wp_region_held_drew (S:=fun w'=>w'.cell? (Za gi (m*3+2))=some (.string root)) (by kernel_rfl) (by exact i2) (fun ah=>?_);refine Zt 0 (Zp q) ?_;refine Zt 1 (Zp q) ?_;refine Zt 2 (Zp q) ?_;refine Zt 3 (.pointer (some (Za q 4))) ?_;refine Zt 5 (.slice a0 s.A.L.length ck) ?_;refine Zt 6 (.string label) ?_;refine Zt 7 (.slice (Zs gi) (m+1) ci) ?_;refine Zt 8 (.int .i64 ((m:Int)+1)) ?_;refine Zt 9 (Zi m) ?_ (hy:=Or.inl ⟨by rfl,by intro w hSw;go_simp;try(rw[IntKind.wrap_i64];omega)⟩);refine Zt 10 (.pointer (some (Za gi (m*3)))) ?_;refine Zt 11 (.pointer (some (Za gi (m*3+2)))) ?_;refine Zt 12 (.string root) ?_;refine Zt 13 (.agg #[.slice a0 s.A.L.length ck,.string label,.string root]) ?_;refine Zw [4,14] ?_;refine Zb (fun K hK=>?_) (Ze fun K hK=>?_);refine aD rfl (v:=.slice sa s.shots.length sc) (w':=w6.drew) (by have kk:=k4;go_simp) ?_;refine hK.out _ _ (by exact ah) (fun ah=>?_);clear hK K;(try simp only[Act.put,lA,lZ,lS]);refine Zh 14 fun K hK=>?_;refine aD rfl (v:=.slice (Zs w6.drew.heap.size) 1 1) (w':=w6.drew.alloc (.cells #[.slice a0 s.A.L.length ck,.string label,.string root] 54)) (by exact aL 33 (.tmp 80) (by rfl) (.agg #[.slice a0 s.A.L.length ck,.string label,.string root]) _ _ _ (by rfl) (hbs.out _)) ?_;refine hK.out _ _ (HB2.out _ (by exact FA.out)) (fun ah=>?_);rotate_left;refine aD rfl (v:=.slice (Zs w6.drew.heap.size) 1 1) (w':=w6.drew.alloc (.cells #[.slice a0 s.A.L.length ck,.string label,.string root] 54)) (by exact aL 33 (.tmp 80) (by rfl) (.agg #[.slice a0 s.A.L.length ck,.string label,.string root]) _ _ _ (by rfl) (hbs.out _)) ?_;refine hK.out _ _ (HB2.out _ (by exact FA.out)) (fun ah=>?_);clear hK K;(try simp only[Act.put,lA,lZ,lS]);refine Zh 4 fun K hK=>?_;refine aD rfl (v:=.slice sa s.shots.length sc) (w':=w6.drew.alloc (.cells #[.slice a0 s.A.L.length ck,.string label,.string root] 54)) (by have kk:=k4a;go_simp) ?_;refine hK.out _ _ (by exact ah) (fun ah=>?_);rotate_left
  all_goals
   clear hK K;(try simp only[Act.put,lA,lZ,lS]);refine Zh 15 fun K hK=>?_;refine step_append_lies _ (by rfl) (.tmp 71) (.tmp 81) 33 (by rfl) 0 54 i0 _ 3 56 underlying33 hi0 hz0 hz1 hz2 (by rfl) (by decide) (.slice sa s.shots.length sc) s.shots.length (s.shots.flatMap fH.cells) (by rfl) (World.ownsRow.alloc XE.out _) (Za w6.drew.heap.size 0) 1 1 [.slice a0 s.A.L.length ck,.string label,.string root] (by rfl) (by rfl) (World.news_of_block (cs:=#[.slice a0 s.A.L.length ck,.string label,.string root]) (t:=54) (fr:=(0,0)) (heap_alloc_new w6.drew _)) (by intro u hu;simp at hu;rcases hu with rfl|rfl|rfl<;>rfl) (by decide) (by unfold maxLen;omega) (by omega) (Nat.zero_le _) _ rfl ?_;intro g cap w7 aY aN hat tJ;obtain⟨hE,hc4,hz4,hB4,hq7⟩:=rA.out g cap w7 aY aN hat;have HE:Hid (sS a c w0 w q s label R (w7.setCell (Za q 4) (.slice (Zs g) (s.shots.length+1) cap))):=hE;clear hE aY aN hat;refine hK.out _ _ (HB2.out _ hB4) (fun ah=>?_);clear hK K;(try simp only[Act.put,lA,lZ,lS]);refine Zt 16 (Zp q) ?_;refine Zt 17 (.pointer (some (Za q 4))) ?_;refine Zh 18 fun K hK=>?_;refine step_skip rfl (w':=w7.setCell (Za q 4) (.slice (Zs g) (s.shots.length+1) cap)) (by go_simp) ?_;refine hK.out _ _ (HB3.out _ _ ah) (fun ah=>?_);clear hK K
   try simp only[Act.put]
   refine Zx ?_;simp only[At];clear hc4 hz4 ah;generalize w7.setCell (Za q 4) (.slice (Zs g) (s.shots.length+1) cap)=w8 at *;go_wp2;go_ret;exact⟨rfl,HE.out⟩
end
structure Ey(c:dz)(n:Nat)(s:dR):Prop where
 up:vS s.A
 fit:s.A.Fit
 len:s.shots.length=s.A.I.length
 i32:∀x∈s.A.I,x.1.size=32
 xl:s.xs.length=s.ss.length
 sl:s.ss.length<=n
 tr:∀x∈s.shots,aC x.T/\∀y∈iM c x.T 300 ⟨#[]⟩,hasO s.A.H y.1 (c.of y.2)=true
def Lm(s:dR)(b:Bool):Prop:=b=true->∃x∈s.shots,x.T.length=s.A.L.length/\∀y∈x.T,y∈s.A.L
def iE(s:dR):Nat:=iX s.A.S.seen s.A.S.safe.length
structure vk(c:dz)(n:Nat)(s s':dR):Prop where
 ok:Ey c n s'
 safe:s'.A.S.safe.length=s.A.S.safe.length
 same:∀i,i<iE s->s'.A.S.seen.getD i ByteArray.empty=s.A.S.seen.getD i ByteArray.empty
 out:(s'.shots.length=s.shots.length/\iE s=iE s')\/(s'.shots.length=s.shots.length+1/\iE s<iE s'/\∀b,Lm s b->b=true->iE s'<=iE s+3)
theorem PO(h:vS A):A.S.seen=A.S.safe:=by
 unfold Dk.seen;rw[h.wait];rfl
section
variable {a:Nat->Addr}{c:dz}{w0 w wS:World}{q n n':Nat}{s s' s0:dR}{label:Zy}{X:List Part}
theorem FQ(h:Ey c n s)(hA:s'.A=s.A)(hS:s'.shots=s.shots)(hx:s'.xs.length=s'.ss.length)(hn:s'.ss.length<=n'):vk c n' s s':=by
 refine⟨⟨by rw[hA];exact h.up,by rw[hA];exact h.fit,by rw[hA,hS];exact h.len,by rw[hA];exact h.i32,hx,hn,by rw[hA,hS];exact h.tr⟩,by rw[hA],fun i _=>by rw[hA],.inl ⟨by rw[hS],by unfold iE;rw[hA]⟩⟩
theorem RN(h:Ey c n s)(hr:PN c s label s')(hx:s'.xs.length=s'.ss.length)(hn:s'.ss.length<=n'):vk c n' s s':=by
 rcases hr with⟨_,hA,hS⟩|⟨_,⟨_,hA,hS⟩|⟨h0,hA,v,hS⟩⟩
 ·exact FQ h hA hS hx hn
 ·exact FQ h hA hS hx hn
 ·rcases CW (c:=c) h.up h.fit label with(e|e)|⟨A',e,up',fit',eL,eI,el,hH,hT,hlow,hge,hle⟩
  ·rw[e] at h0;simp at h0
  ·rw[e] at h0;simp at h0
  ·rw[e] at hA;have hA:s'.A=A':=hA;have se:=PO h.up;have se':=PO up';have hpos:=h.fit.pos;have hN:iE s<=s.A.pos:=by
    unfold iE;rw[se];exact sP _ _ _ hpos h.up.zeros
   have hM:iE s'=iX A'.S.safe s.A.S.safe.length:=by
    unfold iE;rw[hA,se',el]
   refine⟨⟨by rw[hA];exact up',by rw[hA];exact fit',?_,?_,hx,hn,?_⟩,by rw[hA];exact el,?_,.inr ⟨by rw[hS];simp,by omega,?_⟩⟩
   ·rw[hA,hS,eI];simp[h.len]
   ·rw[hA,eI];intro x hx;rcases mem_append.1 hx with h1|h1
    ·exact h.i32 x h1
    ·rw[Zm.1 h1];exact c.size _
   ·rw[hA,hS];intro x hx;rcases mem_append.1 hx with h1|h1
    ·exact⟨(h.tr x h1).1,fun y hy=>hH _ _ ((h.tr x h1).2 y hy)⟩
    ·rw[Zm.1 h1];exact⟨h.fit.tree,hT⟩
   ·intro i hi;rw[hA,se,se'];exact hlow i (by omega)
   ·intro b hb hbt;obtain⟨x,hx,hl,hs⟩:=hb hbt;obtain⟨okx,hox⟩:=h.tr x hx;have hp:=Eu okx hl hs;rw[Af c hp okx 300 ⟨#[]⟩] at hox;have h2:=hle hox;obtain⟨i,i1,i2,i3⟩:=h.up.near;have h3:i+1<=iE s:=by
     unfold iE;rw[se];exact zy _ i i3 _ (by omega)
    omega
theorem aaY(bs:gU a w0 w)(hC:dI c w0)(h:dF w0.heap.size w (s.parts q))(ok:Ey c n s)(hls:label.size<=1000000)(hn:n<=600000000):
  Zc 30 #[Zp q,.string label] w fun e w'=>e=.returned (.bool true)/\sS a c w0 w q s label (fun xs ss _=>xs.length=ss.length/\ss.length<=n+4400) w':=by
 have yL:Zc 52 #[Zp q,.string ⟨#[]⟩] w (Ir a w0 w q s (fun xs ss _=>xs.length=ss.length/\ss.length<=n+4400)):=
  (aaf bs hC h ok.fit.tree n ok.xl ok.sl hn).mono fun e w' ⟨t,xv,hv,xs,ss,vd,e1,k1,k2,st,b'⟩=>⟨t,xv,hv,xs,ss,vd,e1,⟨k1,k2⟩,⟨st,b'⟩⟩
 rcases CW (c:=c) ok.up ok.fit label with(e|e)|⟨A',e,up',fit',eL,eI,_⟩
 ·exact Lj hC h ok.fit ok.up hls 11 (.inl rfl) e yL
 ·exact Lj hC h ok.fit ok.up hls 12 (.inr rfl) e yL
 ·exact Ll hC h ok.fit ok.up hls ok.len ok.i32 A' e eI eL fit'.i yL
theorem fI.call(h:fI a w0 wS q s0 X s w)(k:fI a w0 w q s [] s' w1):fI a w0 wS q s0 X s' w1:=by
 have hp:(X++s.parts q).Perm (s.parts q++X):=perm_append_comm;have st:Step w0.heap.size w w1 (s.parts q) (s'.parts q):=k.step;exact h.next ((st.frame (h.step.hold.perm hp)).perm hp.symm perm_append_comm)
theorem fI.add{Y:Part}(h:fI a w0 wS q s0 X s w)(k:fI a w0 wS q s0 X s w1)(hY:Y.At w1)(hn:∀b∈Y.blocks,w.heap.size<=b):fI a w0 wS q s0 (Y::X) s w1:=by
 refine⟨⟨⟨fun P hP=>?_,?_,fun b hb=>?_⟩,k.step.fr,fun b hb=>?_⟩,k.bs⟩
 ·rcases mem_cons.1 hP with rfl|h1
  ·exact hY
  ·exact k.step.hold.at_ P h1
 ·refine Pairwise.cons (fun P hP b hb hm=>?_) k.step.hold.apart;have:=P.lt (h.step.hold.at_ P hP) b hm;have:=hn b hb;omega
 ·have hb:b∈Y.blocks++gZ (X++s.parts q):=hb;rcases mem_append.1 hb with h1|h1
  ·exact Nat.le_trans h.bs.size (hn b h1)
  ·exact k.step.hold.far b h1
 ·have hb:b∈Y.blocks++gZ (X++s.parts q):=hb;rcases mem_append.1 hb with h1|h1
  ·exact .inr (Nat.le_trans h.step.fr.size (hn b h1))
  ·exact k.step.sub b h1
theorem Vb(h:fI a w0 wS q s0 X s w)(ok:s.A.S.Ok)(hm:0<s.A.S.safe.length):
  Zc 38 #[Zp q] w fun e w'=>∃g cap,e=.returned (.tuple #[(Zi (iE s)),.slice (Zs g) s.A.S.safe.length cap])/\fI a w0 wS q s0 (bn 9 1 (.slice (Zs g) s.A.S.safe.length cap) s.A.S.safe.length (bN s.A.S.seen)::X) s w':=by
 refine(aag h ok).mono ?_;rintro e w' ⟨lv,rfl,ho,k⟩;obtain⟨ag,cap,rfl⟩:∃ag cap,lv=.slice ag s.A.S.safe.length cap:=aV ho;obtain⟨g,rfl,_⟩:=dH ho hm;exact⟨g,cap,rfl,h.add k (Y:=bn 9 1 (.slice (Zs g) s.A.S.safe.length cap) s.A.S.safe.length (bN s.A.S.seen)) (yK ho (Nat.zero_le _)) (fun b hb=>(World.ownsRow.lt ho b (Zo.1 hb)).1)⟩
theorem fI.row_at{l:List Zy}(h:fI a w0 wS q s0 X s w)(hY:bn 9 1 (.slice (Zs g) m cap) m (bN l)∈X)(hl:l.length=m)(hi:i<m):w.cell? (Za g i)=some (.string (l.getD i ByteArray.empty)):=by
 have ho:w.ownsRow 0 9 1 (.slice (Zs g) m cap) m (bN l):=h.step.hold.at_ _ (mem_append_left _ hY);obtain⟨g',e,_,_,hr⟩:=dH ho (by omega);have e:g=g':=by simpa using e
 have:=hr i (.string (l.getD i ByteArray.empty)) (jy _ _ (by omega));rw[Nat.zero_add,<-e] at this;exact this
end
section
variable {a:Nat->Addr}{c:dz}{w0 w:World}{q n:Nat}{s:dR}{label:Zy}
def tF(a:Nat->Addr)(c:dz)(w0 wS:World)(q n:Nat)(s0 s:dR)(w':World):Prop:=∃s',fI a w0 wS q s0 [] s' w'/\Ey c n s'/\s'.ks.length<=s.ks.length+1
theorem Oz{l:List fH}(hk:k<l.length):(l.flatMap fH.cells)[k*3]? =some l[k].v:=by
 induction l generalizing k with
 | nil=>exact absurd hk (by simp)
 | cons x l ih=>
  cases k with
  | zero=>rfl
  | succ k=>
   have hk':k<l.length:=by simpa using hk
   have:(k+1)*3=3+k*3:=by omega
   rw[flatMap_cons,this,getElem?_append_right (by show 3<=_;omega)];show(l.flatMap fH.cells)[3+k*3-3]? =_;rw[show 3+k*3-3=k*3 by omega,ih hk'];rfl
theorem aaZ(bs:gU a w0 w)(hC:dI c w0)(h:dF w0.heap.size w (s.parts q))(ok:Ey c n s)(hls:label.size<=1000000)(hn:n<=600000000):
  Zc 21 #[Zp q,.string label] w fun e w'=>e=.returned (.bool true)/\tF a c w0 w q (n+4400) s s w':=by
 have AB:Hid _:=ok;have HC:Hid _:=hC;obtain⟨m,hm⟩:∃m,m=s.shots.length:=⟨_,rfl⟩;obtain⟨sa,sc,hsv⟩:∃sa sc,s.sv=.slice sa m sc:=by rw[hm];exact aV h.kShots
 have hm5:m<=5000:=by rw[hm,ok.len];exact ok.fit.i
 have H0:Hid (fI a w0 w q s [] s w):=fI.refl bs h;have Hsv:Hid _:=hsv;have HR4:Hid (∀wr X,fI a w0 w q s X s wr->wr.cell? (Za q 4)=some (.slice sa m sc)):=fun wr X k=>by rw[<-hsv];exact k.hold.kRow.cell 4
 have HR3:Hid (∀wr X,fI a w0 w q s X s wr->wr.cell? (Za q 3)=some s.tv):=fun wr X k=>k.hold.kRow.cell 3;have HAt:Hid (∀wr k,fI a w0 w q s [] s wr->(hk:k<s.shots.length)->∃g,sa=some (Za g 0)/\wr.cell? (Za g (k*3))=some s.shots[k].v):=fun wr k hK hk=>by
  have ho:=hK.hold.kShots;rw[hsv,hm] at ho;obtain⟨g,e,_,_,hr⟩:=dH ho (by omega);have:=hr (k*3) _ (Oz hk);rw[Nat.zero_add] at this;exact⟨g,e,this⟩
 have Y7:Hid (∀wr k,fI a w0 w q s [] s wr->(hk:k<s.shots.length)->Zc 37 #[s.shots[k].v,s.tv] wr (CV s.shots[k].T s.A.L wr)):=fun wr k hK hk=>
  aad _ _ _ _ wr (fG (hK.hold.kShot (Zg hk))) (fG hK.hold.kTree) (by have:=(AB.out.tr _ (Zg hk)).1.few;omega) (by have:=AB.out.fit.tree.few;omega)
 have ab0:Hid (Lm s false):=fun e=>by cases e
 have HU1:Hid (∀wr,fI a w0 w q s [] s wr->Zc 38 #[Zp q] wr fun e w'=>∃g cap,e=.returned (.tuple #[(Zi (iE s)),.slice (Zs g) s.A.S.safe.length cap])/\fI a w0 w q s [bn 9 1 (.slice (Zs g) s.A.S.safe.length cap) s.A.S.safe.length (bN s.A.S.seen)] s w'):=fun wr k=>Vb k AB.out.fit.ok (by have:=AB.out.fit.pos;obtain⟨i,hi,_⟩:=AB.out.up.near;omega);have LA:Hid (∀w1 X,fI a w0 w q s X s w1->Zc 30 #[Zp q,.string label] w1 fun e w'=>e=.returned (.bool true)/\∃s',fI a w0 w q s X s' w'/\vk c (n+4400) s s'/\s'.ks=s.ks):=fun w1 X k=>(aaY k.bs HC.out k.hold AB.out hls hn).mono fun e w' ⟨e1,s',k',⟨r1,r2⟩,_,ek,hr⟩=>⟨e1,s',k.call k',RN AB.out hr r1 r2,ek⟩;have HU2:Hid (∀wr X s',vk c (n+4400) s s'->fI a w0 w q s X s' wr->Zc 38 #[Zp q] wr fun e w'=>∃g cap,e=.returned (.tuple #[(Zi (iE s')),.slice (Zs g) s.A.S.safe.length cap])/\fI a w0 w q s (bn 9 1 (.slice (Zs g) s.A.S.safe.length cap) s.A.S.safe.length (bN s'.A.S.seen)::X) s' w'):=fun wr X s' hr k=>by
  have:=Vb k hr.ok.fit.ok (by have:=hr.ok.fit.pos;obtain⟨i,hi,_⟩:=hr.ok.up.near;omega);rw[hr.safe] at this;exact this
 have hsl:s.A.S.seen.length=s.A.S.safe.length:=s.A.S.seen_length;have hm2a:s.A.S.safe.length<=5000:=by have:=AB.out.fit.ok.most;omega
 have HSl:Hid (∀s',vk c (n+4400) s s'->s'.A.S.seen.length=s.A.S.safe.length):=fun s' hr=>by rw[s'.A.S.seen_length,hr.safe]
 clear bs hC h ok;go_enter func21,ntmps21;go_wp2;go_loopw [5,6] (fun ov iv wr=>∃(k:Nat) (old:Bool),ov=.bool old/\iv=(Zi k)/\k<=m/\Hid (Lm s old)/\Hid (fI a w0 w q s [] s wr)) (fun _ iv _=>m-(RowKit.intOf iv).toNat)
 case atStart=>exact⟨0,false,rfl,rfl,Nat.zero_le _,ab0.out,H0.out⟩
 case round=>
  obtain⟨k,old,rfl,rfl,hk,HOld,HK⟩:=hrel;have k4':=HR4.out wr _ HK.out;by_cases hlt:k<m
  ·have k0':(0:Int)<=(k:Int):=by omega
   have k1':(k:Int)<(m:Int):=by omega
   have hks:k<s.shots.length:=by omega
   obtain⟨g,hg,k0⟩:=HAt.out wr k HK.out hks;subst hg;have k4:=k4';clear k4';have k3:=HR3.out wr _ HK.out;have KV:Hid (∀w1,Below wr.heap.size wr w1->Zc 37 #[s.shots[k].v,s.tv] w1 (CV s.shots[k].T s.A.L w1)):=fun w1 hb=>Y7.out w1 k (HK.out.below hb) hks;have HOr:Hid (∀b:Bool,(b=true->s.shots[k].T.length=s.A.L.length/\∀x∈s.shots[k].T,x∈s.A.L)->Lm s b):=fun b hb e=>⟨s.shots[k],Zg hks,hb e⟩;have HBd:Hid (∀w2:World,Below wr.drew.heap.size wr.drew w2->Below wr.heap.size wr w2):=fun w2 hb=>((Below.refl wr.heap.size wr).drew).trans hb;have HCk:Hid (∀w2:World,Below wr.heap.size wr w2->w2.cell? (Za q 4)=some (.slice (Zs g) m sc)/\w2.cell? (Za q 3)=some s.tv/\w2.cell? (Za g (k*3))=some s.shots[k].v):=fun w2 hb=>⟨by rw[hb.cell (Zd k4)];exact k4,by rw[hb.cell (Zd k3)];exact k3,by rw[hb.cell (Zd k0)];exact k0⟩;generalize s.shots[k].v=xv at *;generalize s.shots[k].T=xT at *;go_upto_region 5 with fail
   refine bF ?_;refine wp_region_held_drew (S:=fun w'=>w'.cell? (Za q 4)=some (.slice (Zs g) m sc)/\w'.cell? (Za q 3)=some s.tv/\w'.cell? (Za g (k*3))=some xv) (by kernel_rfl) ⟨k4,k3,k0⟩ (fun ah=>?_);refine Zt 0 (Zp q) ?_;refine Zt 1 (Zp q) ?_;refine Zt 2 (.pointer (some (Za q 4))) ?_;refine Zt 3 (.slice (Zs g) m sc) ?_;refine Zt 4 (Zi k) ?_;refine Zt 5 (.pointer (some (Za g (k*3)))) ?_;refine Zt 6 (.pointer (some (Za g (k*3)))) ?_;refine Zt 7 xv ?_;refine Zt 8 (Zp q) ?_;refine Zt 9 (Zp q) ?_;refine Zt 10 (.pointer (some (Za q 3))) ?_;refine Zt 11 s.tv ?_;refine Zh 12 fun K hK=>?_;go_simp;go_at_call 37;refine(KV.out _ (Zr).drew).mono ?_;rintro e w2 ⟨b,rfl,hb1,hb2⟩;have HB1:Hid _:=hb1;have hb3:=HBd.out _ hb2;clear hb1 hb2;refine hK.out _ _ (HCk.out _ hb3) (fun ah=>?_);clear hK K;(try simp only[Act.put,lA,lZ,lS]);refine Zt 13 (.bool b) ?_;refine Zx ?_;simp only[At];have YA:Hid (Lm s b):=HOr.out b HB1.out;have Vt:Hid (fI a w0 w q s [] s w2):=HK.out.below hb3;clear HB1 HOr KV HCk HBd ah k0 k3 k4;cases old with
   | true=>
    go_wp2;exact⟨⟨k+1,true,rfl,by push_cast;rfl,by omega,HOld.out,Vt.out⟩,by simp[RowKit.intOf];omega⟩
   | false=>
    go_wp2;exact⟨⟨k+1,b,rfl,by push_cast;rfl,by omega,YA.out,Vt.out⟩,by simp[RowKit.intOf];omega⟩
  ·have k1':¬(k:Int)<(m:Int):=by omega
   have cU:=HU1.out wr HK.out;clear HAt Y7;go_wp2_with(first
    | (go_at_call 38;refine cU.mono ?_;rintro e w1 ⟨g1,c1,rfl,h1⟩;have k41:=HR4.out w1 _ h1;have cSn:=LA.out w1 _ h1;clear cU h1)
    | (go_at_call 30;refine cSn.mono ?_;rintro e w2 ⟨rfl,s',h2,hrel,hks⟩;have cU2:=HU2.out w2 _ s' hrel h2;have Lp:Hid (vk c (n+4400) s s'):=hrel;have HKs:Hid (s'.ks=s.ks):=hks;clear cSn h2 hrel hks)
    | (go_at_call 38;refine cU2.mono ?_;rintro e w3 ⟨g2,c2,rfl,h3⟩;have H3:Hid (fI a w0 w q s [bn 9 1 (.slice (Zs g2) s.A.S.safe.length c2) s.A.S.safe.length (bN s'.A.S.seen),bn 9 1 (.slice (Zs g1) s.A.S.safe.length c1) s.A.S.safe.length (bN s.A.S.seen)] s' w3):=h3;clear cU2 h3))
   have HX1:Hid (∀i,i<s.A.S.safe.length->w3.cell? (Za g1 i)=some (.string (s.A.S.seen.getD i ByteArray.empty))/\w3.cell? (Za g2 i)=some (.string (s'.A.S.seen.getD i ByteArray.empty))):=fun i hi=>⟨H3.out.row_at (cap:=c1) (by simp) hsl hi,H3.out.row_at (cap:=c2) (by simp) (HSl.out s' Lp.out) hi⟩;have HSame:Hid (∀i,i<iE s->s'.A.S.seen.getD i ByteArray.empty=s.A.S.seen.getD i ByteArray.empty):=Lp.out.same;have rA:Hid (∀wr,Below w3.heap.size w3 wr->tF a c w0 w q (n+4400) s s wr):=fun wr hb=>⟨s',(H3.out.drop).below hb,Lp.out.ok,by rw[HKs.out];omega⟩;obtain⟨sb,sd,RL⟩:∃sb sd,s'.sv=.slice sb s'.shots.length sd:=aV H3.out.hold.kShots;have HR42:Hid (∀wr,Below w3.heap.size w3 wr->wr.cell? (Za q 4)=some (.slice sb s'.shots.length sd)):=fun wr hb=>by rw[<-RL];exact(H3.out.below hb).hold.kRow.cell 4
   have HOut:Hid (((s'.shots.length:Int)=(m:Int)/\iE s=iE s')\/(¬(s'.shots.length:Int)=(m:Int)/\iE s<iE s'/\(old=true->iE s'<=iE s+3))):=by
    rcases Lp.out.out with⟨e1,e2⟩|⟨e1,e2,e3⟩
    ·exact .inl ⟨by omega,e2⟩
    ·exact .inr ⟨by omega,e2,e3 old HOld.out⟩
   have hN5:iE s<=5000/\iE s'<=5000:=by
    have h1:=ve s.A.S.seen s.A.S.safe.length;have h2:=ve s'.A.S.seen s'.A.S.safe.length;have h3:=Lp.out.safe;unfold iE;omega
   have hs5:s'.shots.length<=5000:=by rw[Lp.out.ok.len];exact Lp.out.ok.fit.i
   clear RL H3 HSl hsl Lp LA HU1 HU2 HR4 HR3 H0 HOld;generalize iE s=N at *;generalize iE s'=M at *;generalize s.A.S.safe.length=m2 at *;generalize s'.shots.length=ms at *;go_loopw [14] (fun iv wx=>∃i:Nat,iv=(Zi i)/\i<=m2/\Hid (Below w3.heap.size w3 wx)) (fun iv _=>m2-(RowKit.intOf iv).toNat)
   case atStart=>exact⟨0,rfl,Nat.zero_le _,Zr⟩
   case round=>
    obtain⟨i,rfl,hi,HB⟩:=hrel;by_cases hil:i<m2
    ·have i0:(0:Int)<=(i:Int):=by omega
     have i1:(i:Int)<(m2:Int):=by omega
     by_cases hiN:i<N
     ·have i2:(i:Int)<(N:Int):=by omega
      obtain⟨e1',e2'⟩:=HX1.out i hil;rw[HSame.out i hiN] at e2';generalize s.A.S.seen.getD i ByteArray.empty=x at *;have e1:wr.cell? (Za g1 i)=some (.string x):=by rw[HB.out.cell (Zd e1')];exact e1'
      have e2:wr.cell? (Za g2 i)=some (.string x):=by rw[HB.out.cell (Zd e2')];exact e2'
      have hxx:(x.toList !=x.toList)=false:=by simp
      clear e1' e2';go_upto_region 16 with fail
      refine bF ?_;refine wp_region_held_drew (S:=fun w'=>w'.cell? (Za g1 i)=some (.string x)/\w'.cell? (Za g2 i)=some (.string x)) (by kernel_rfl) ⟨e1,e2⟩ (fun ah=>?_);refine Zt 0 (Zi i) ?_;refine Zt 1 (Zi N) ?_;refine Zt 2 (.bool true) ?_;refine Zt 3 (.bool true) ?_;refine Zt 4 (.slice (Zs g1) m2 c1) ?_;refine Zt 5 (Zi i) ?_;refine Zt 6 (.pointer (some (Za g1 i))) ?_;refine Zt 7 (.string x) ?_;refine Zt 8 (.slice (Zs g2) m2 c2) ?_;refine Zt 9 (Zi i) ?_;refine Zt 10 (.pointer (some (Za g2 i))) ?_;refine Zt 11 (.string x) ?_;refine Zt 12 (.bool false) ?_;refine Zt 13 (.bool false) ?_;refine Zx ?_;simp only[At];go_wp2;exact⟨⟨i+1,by push_cast;rfl,by omega,HB.out.drew⟩,by simp[RowKit.intOf];omega⟩
     ·have i2:¬(i:Int)<(N:Int):=by omega
      go_upto_region 16 with fail
      refine bF ?_;refine wp_region_held_drew (S:=fun _=>True) (by kernel_rfl) trivial (fun ah=>?_);refine Zt 0 (Zi i) ?_;refine Zt 1 (Zi N) ?_;refine Zt 2 (.bool false) ?_;refine Zt 3 (.bool false) ?_;refine Zu 4 ?_;refine Zu 5 ?_;refine Zu 6 ?_;refine Zu 7 ?_;refine Zu 8 ?_;refine Zu 9 ?_;refine Zu 10 ?_;refine Zu 11 ?_;refine Zu 12 ?_;refine Zt 13 (.bool false) ?_;refine Zx ?_;simp only[At];go_wp2;exact⟨⟨i+1,by push_cast;rfl,by omega,HB.out.drew⟩,by simp[RowKit.intOf];omega⟩
    ·have i1:¬(i:Int)<(m2:Int):=by omega
     have c4:=HR42.out wr HB.out;rcases HOut.out with⟨e1,e2⟩|⟨e1,e2,e3⟩
     ·have e1b:((ms:Int)==(m:Int))=true:=by simp[e1]
      subst e2;go_wp2;go_ret;exact⟨by simp,rA.out wr HB.out⟩
     ·have e1b:((ms:Int)==(m:Int))=false:=by simp[e1]
      have hw:IntKind.i64.wrap ((M:Int)-(N:Int))=(M:Int)-(N:Int):=by rw[IntKind.wrap_i64];omega
      have hgt:(N:Int)<(M:Int):=by omega
      cases old with
      | true=>
       have h3:(M:Int)-(N:Int)<=3:=by have:=e3 rfl;omega
       go_wp2;go_ret;exact⟨rfl,rA.out wr HB.out⟩
      | false=>
       go_wp2;go_ret;exact⟨rfl,rA.out wr HB.out⟩
end
section
variable {a:Nat->Addr}{c:dz}{w0 w wS:World}{q n:Nat}{s s0:dR}
theorem Ey.tree(h:Ey c n s)(ok:aC T)(few:fP T):Ey c n {s with p:=p,A:={s.A with L:=T},tv:=tv}:=by
 obtain⟨⟨u1,u2,u3,u4,u5,u6,u7,u8,u9⟩,⟨f1,f2,f3,_,_,f6,f7,f8,f9,f10⟩,h3,h4,h5,h6,h7⟩:=h;exact⟨⟨u1,u2,u3,u4,u5,u6,u7,u8,u9⟩,⟨f1,f2,f3,ok,few,f6,f7,f8,f9,f10⟩,h3,h4,h5,h6,h7⟩
theorem dR.parts_three(s:dR)(q:Nat):(s.parts q).Perm (fQ q s.row s.tv s.A.L s.p s.A++([bn 9 1 s.xv s.xs.length (bN s.xs),bn 9 1 s.hv s.ss.length (bN s.ss)]++(bn 54 3 s.sv s.shots.length (s.shots.flatMap fH.cells)::bn 3 1 s.kv s.ks.length (iN s.ks)::s.shots.map fH.part))):=by
 have h1:s.parts q=bU q 37 s.row::(([bn 9 1 s.xv s.xs.length (bN s.xs),bn 9 1 s.hv s.ss.length (bN s.ss)]++[s.tree,bf s.p s.A])++(bn 54 3 s.sv s.shots.length (s.shots.flatMap fH.cells)::bn 3 1 s.kv s.ks.length (iN s.ks)::s.shots.map fH.part)):=by simp[dR.parts,dR.rest,dR.three]
 have h2:fQ q s.row s.tv s.A.L s.p s.A++([bn 9 1 s.xv s.xs.length (bN s.xs),bn 9 1 s.hv s.ss.length (bN s.ss)]++(bn 54 3 s.sv s.shots.length (s.shots.flatMap fH.cells)::bn 3 1 s.kv s.ks.length (iN s.ks)::s.shots.map fH.part))=bU q 37 s.row::(([s.tree,bf s.p s.A]++[bn 9 1 s.xv s.xs.length (bN s.xs),bn 9 1 s.hv s.ss.length (bN s.ss)])++(bn 54 3 s.sv s.shots.length (s.shots.flatMap fH.cells)::bn 3 1 s.kv s.ks.length (iN s.ks)::s.shots.map fH.part)):=by simp[fQ,dR.tree]
 rw[h1,h2];exact Perm.cons _ (Perm.append_right _ perm_append_comm)
theorem fI.chAt(h:fI a w0 wS q s0 [] s w)(ok:Ey c n s):qD a w0 w q s.row s.tv s.A.L s.p s.A:=
 ⟨h.bs,(h.hold.perm (s.parts_three q)).left,rfl,rfl,rfl,ok.fit.tree,ok.fit.kids⟩
theorem fI.three(h:fI a w0 wS q s0 [] s w)(st:Step w0.heap.size w w1 (fQ q s.row s.tv s.A.L s.p s.A) (fQ q (s.row.set 3 tv') tv' T' p' {s.A with L:=T'}))(eq:p'.q=s.p.q)(ed:p'.d.p=s.p.d.p):fI a w0 wS q s0 [] {s with p:=p',A:={s.A with L:=T'},tv:=tv'} w1:=by
 have e1:({s with p:=p',A:={s.A with L:=T'},tv:=tv'}:dR).row=s.row.set 3 tv':=by
  simp[dR.row,dR.row8,eq,ed]
 have hp:=s.parts_three q;have hp':=({s with p:=p',A:={s.A with L:=T'},tv:=tv'}:dR).parts_three q;rw[e1] at hp';exact h.next (Y:=[]) ((st.frame (h.hold.perm hp)).perm hp.symm hp'.symm)
theorem Vd(h:fI a w0 wS q s0 [] s w)(ok:Ey c n s)(o:lG)(hk:o.kind=2\/o.kind=3\/o.kind=4)(hs:o.s.size<=65536):
  Zc 31 #[Zp q,o.agg] w fun e w'=>e=.returned (.bool true)/\tF a c w0 wS q n s0 s w':=
 (XJ (h.chAt ok) o hk hs).mono fun _e _w' ⟨e1,_tv',_p',_T',st,eq,ed,okT,few,_⟩=>⟨e1,_,h.three st eq ed,ok.tree okT few,Nat.le_succ _⟩
theorem Ve:(prog.info? 3).map (fun i=>(i.zero,i.size,i.bytes))=some (some (.int .i64 0),1,8):=by kernel_rfl
theorem fI.pushK{x:Int}(h:fI a w0 wS q s0 [] s w)(fg:Fr w w4 s.kv.ownBlock.toList)(aY:w4.ownsRow 0 3 1 (.slice (Zs g) (s.ks.length+1) cap) (s.ks.length+1) (iN s.ks++[.int .i64 x]))(hs:s.kv.ownBlock=some g\/w.heap.size<=g):
  fI a w0 wS q s0 [] {s with kv:=.slice (Zs g) (s.ks.length+1) cap,ks:=s.ks++[x]} (w4.setCell (Za q 6) (.slice (Zs g) (s.ks.length+1) cap))/\w4.cell? (Za q 6)=some s.kv/\w4.frozen? (Za q 6)=false:=by
 let kP:=bn 3 1 s.kv s.ks.length (iN s.ks)
 let others:=[bn 9 1 s.xv s.xs.length (bN s.xs),bn 9 1 s.hv s.ss.length (bN s.ss),s.tree,bf s.p s.A,bn 54 3 s.sv s.shots.length (s.shots.flatMap fH.cells)]
 let tail:=s.shots.map fH.part
 have hp:(s.parts q).Perm ([bU q 37 s.row,kP]++(others++tail)):=by
  have h1:s.parts q=bU q 37 s.row::(others++(kP::tail)):=by simp[dR.parts,dR.rest,dR.three,kP,others,tail]
  rw[h1];exact Perm.cons _ perm_middle
 obtain⟨st,c1,z1⟩:=Step.put (k:=6) h.bs.size (h.hold.perm hp).left fg aY (fun b hb=>by
  have e1:g=b:=by simpa [Value.ownBlock] using hb
  rw[<-e1];exact hs)
 have e4:s.row[6]? =some s.kv:=rfl;refine⟨h.next (Y:=[]) ((st.frame (h.hold.perm hp)).perm hp.symm ?_),c1.trans e4,z1⟩;have hc:iN (s.ks++[x])=iN s.ks++[.int .i64 x]:=by simp[iN]
 let kP':=bn 3 1 (.slice (Zs g) (s.ks.length+1) cap) (s.ks.length+1) (iN s.ks++[.int .i64 x])
 have h2:[]++({s with kv:=.slice (Zs g) (s.ks.length+1) cap,ks:=s.ks++[x]}:dR).parts q=bU q 37 (s.row.set 6 (.slice (Zs g) (s.ks.length+1) cap))::(others++(kP'::tail)):=by
  simp only[dR.parts,dR.rest,dR.three,hc,others,tail,kP',length_append,length_singleton,nil_append,cons_append];rfl
 rw[h2];refine Perm.cons _ ?_;show(kP'::(others++tail)).Perm (others++kP'::tail);exact perm_middle.symm
theorem fI.size(h:fI a w0 wS q s0 [] s w)(z:Int):fI a w0 wS q s0 [] {s with z:=z} (w.setCell (Za q 0) (.int .i64 z)):=by
 have hr:=h.hold.kRow;have h1:s.parts q=[]++bU q 37 s.row::([bn 9 1 s.xv s.xs.length (bN s.xs),bn 9 1 s.hv s.ss.length (bN s.ss)]++s.rest):=by simp[dR.parts,dR.three]
 have h2:({s with z:=z}:dR).parts q=[]++bU q 37 (s.row.set 0 (.int .i64 z))::([bn 9 1 s.xv s.xs.length (bN s.xs),bn 9 1 s.hv s.ss.length (bN s.ss)]++s.rest):=by simp[dR.parts,dR.three,dR.row,dR.row8,dR.rest,dR.tree]
 refine h.next (Y:=[]) ?_;show Step w0.heap.size w _ (s.parts q) (({s with z:=z}:dR).parts q);rw[h2];have hh:=h.hold;rw[h1] at hh⊢;exact Step.at (P:=bU q 37 s.row) (Q:=bU q 37 (s.row.set 0 (.int .i64 z))) h.bs.size hh (hr.set 0 _) ((Fr.refl _ _).setCell _ _ (.inl (by simp[bU]))) (fun b hb=>.inl hb)
theorem OA(h:fI a w0 wS q s0 [] s w)(ok:Ey c n s)(x:Int)(t u:Zy)(cr:Bool):
  Zc 18 #[Zp q,lG.agg ⟨1,x,t,u⟩,.bool cr] w fun e w'=>e=.returned (.bool true)/\tF a c w0 wS q n s0 s w':=by
 have HE:Hid (tF a c w0 wS q n s0 s ((w.alloc (.cells #[.int .i64 1,.int .i64 x,.string t,.string u] 40)).setCell (Za q 0) (.int .i64 x))):=⟨_,(h.below ((Below.refl _ w).alloc (Zn) _)).size x,⟨ok.up,ok.fit,ok.len,ok.i32,ok.xl,ok.sl,ok.tr⟩,Nat.le_succ _⟩;have c0':w.cell? (Za q 0)=some (.int .i64 s.z):=h.hold.kRow.cell 0;have c0:(w.alloc (.cells #[.int .i64 1,.int .i64 x,.string t,.string u] 40)).cell? (Za q 0)=some (.int .i64 s.z):=by rw[((Below.refl _ w).alloc (Zn) _).cell (Zd c0')];exact c0'
 have z0:(w.alloc (.cells #[.int .i64 1,.int .i64 x,.string t,.string u] 40)).frozen? (Za q 0)=false:=(h.below ((Below.refl _ w).alloc (Zn) _)).hold.kRow.frozen 0;unfold lG.agg;clear h ok;go_enter func18,ntmps18;go_wp2;go_ret;exact⟨rfl,HE.out⟩
theorem yM(h:fI a w0 wS q s0 [] s w)(_ok:Ey c n s)(o:lG)(hk:o.kind=2\/o.kind=3\/o.kind=4)(hs:o.s.size<=65536)(cr:Bool)(P:World->Prop)
  (hch:∀w1,Below w.heap.size w w1->Zc 31 #[Zp q,o.agg] w1 fun e w'=>e=.returned (.bool true)/\P w'):
  Zc 18 #[Zp q,o.agg,.bool cr] w fun e w'=>e=.returned (.bool true)/\P w':=by
 obtain⟨kd,x,t,u⟩:=o;have hb:Below w.heap.size w (w.alloc (.cells #[.int .i64 kd,.int .i64 x,.string t,.string u] 40)):=(Below.refl _ w).alloc (Zn) _;have c1:(w.alloc (.cells #[.int .i64 kd,.int .i64 x,.string t,.string u] 40)).cell? (Za q 1)=some (Zp s.p.d.p):=(h.below hb).hold.kRow.cell 1;have cB:=oH c1;have cC:=hch _ hb;unfold lG.agg at cC⊢;clear h _ok hch c1 hb;have hk:kd=2\/kd=3\/kd=4:=hk;simp only at cC⊢;rcases hk with rfl|rfl|rfl
 all_goals
  go_enter func18,ntmps18;go_wp2_with(first
   | (go_at_call 20;refine cB.mono ?_;rintro e w1 ⟨rfl,rfl⟩)
   | (go_at_call 31;refine cC.mono ?_;rintro e w2 ⟨rfl,h2⟩;have H2:Hid (P w2):=h2;clear h2))
  go_ret;exact⟨rfl,H2.out⟩
theorem OB(h:fI a w0 wS q s0 [] s w)(ok:Ey c n s)(o:lG)(hk:o.kind≠1/\o.kind≠2/\o.kind≠3/\o.kind≠4/\o.kind≠5/\o.kind≠6/\o.kind≠7/\o.kind≠8)(cr:Bool):
  Zc 18 #[Zp q,o.agg,.bool cr] w fun e w'=>e=.returned (.bool true)/\tF a c w0 wS q n s0 s w':=by
 obtain⟨kd,x,t,u⟩:=o;have hb:Below w.heap.size w (w.alloc (.cells #[.int .i64 kd,.int .i64 x,.string t,.string u] 40)):=(Below.refl _ w).alloc (Zn) _;have c1:(w.alloc (.cells #[.int .i64 kd,.int .i64 x,.string t,.string u] 40)).cell? (Za q 1)=some (Zp s.p.d.p):=(h.below hb).hold.kRow.cell 1;have cB:=oH c1;have HE:Hid (tF a c w0 wS q n s0 s (w.alloc (.cells #[.int .i64 kd,.int .i64 x,.string t,.string u] 40))):=⟨s,h.below hb,ok,Nat.le_succ _⟩;obtain⟨n1,n2,n3,n4,n5,n6,n7,n8⟩:=hk;simp only at n1 n2 n3 n4 n5 n6 n7 n8;unfold lG.agg;clear h ok c1 hb;go_enter func18,ntmps18;go_wp2_with(go_at_call 20;refine cB.mono ?_;rintro e w1 ⟨rfl,rfl⟩);go_ret;exact⟨rfl,HE.out⟩
theorem OC(h:fI a w0 wS q s0 [] s w)(ok:Ey c n s)(o:lG)(hk:o.kind=7)(hf:o.Fit)(hks:s.ks.length<=1000000)(cr:Bool):
  Zc 18 #[Zp q,o.agg,.bool cr] w fun e w'=>e=.returned (.bool true)/\tF a c w0 wS q n s0 s w':=by
 have hb:Below w.heap.size w (w.alloc (.cells #[.int .i64 7,.int .i64 o.a,.string o.s,.string o.t] 40)):=(Below.refl _ w).alloc (Zn) _;have hV:=h.below hb;obtain⟨ka,kc,hkv⟩:∃ka kc,s.kv=.slice ka s.ks.length kc:=aV (hV.hold.at_ (bn 3 1 s.kv s.ks.length (iN s.ks)) (by simp[dR.parts,dR.rest]));have cB:=oH (hV.hold.kRow.cell 1);have cP:Hid (∀w,Zc 33 #[.int .i64 o.a,Zi 200] w fun e w'=>e=.returned ((Zi (nQ o.a 200)))/\w=w'):=fun w=>Y0 o.a 200 hf.2.1 hf.2.2 (by decide) (by decide) w;have tH:=h.hold.kRow.lt;have HKw:Hid (w.ownsRow 0 3 1 (.slice ka s.ks.length kc) s.ks.length (iN s.ks)):=by
  have this:w.ownsRow 0 3 1 s.kv s.ks.length (iN s.ks):=h.hold.at_ (bn 3 1 s.kv s.ks.length (iN s.ks)) (by simp[dR.parts,dR.rest]);rw[hkv] at this;exact this
 have HV:Hid _:=hV;have HO:Hid _:=ok;have Hkv:Hid _:=hkv;have r0:=ai.new w 40 [.int .i64 7,.int .i64 o.a,.string o.s,.string o.t];have g1:=r0.cell 1;simp only[getElem?_cons_zero,getElem?_cons_succ] at g1;obtain⟨kd,x,t,u⟩:=o;obtain rfl:kd=7:=hk;unfold lG.agg;simp only at *;clear h ok hV hkv r0;go_enter func18,ntmps18;go_upto_region 18 with(go_at_call 20;refine cB.mono ?_;rintro e w1 ⟨rfl,rfl⟩)
 generalize(w.alloc (.cells #[.int .i64 7,.int .i64 x,.string t,.string u] 40))=V at *;generalize hB0:w.heap.size=B0 at *;have k6:V.cell? (Za q 6)=some (.slice ka s.ks.length kc):=by rw[<-Hkv.out];exact HV.out.hold.kRow.cell 6
 have k6a:(V.alloc (.cells #[(Zi (nQ x 200))] 3)).cell? (Za q 6)=some (.slice ka s.ks.length kc):=by rw[((Below.refl V.heap.size V).alloc (Zn) _).cell (Zd k6)];exact k6
 have XE:Hid (V.drew.ownsRow 0 3 1 (.slice ka s.ks.length kc) s.ks.length (iN s.ks)):=by
  have:=HV.out.hold.at_ (bn 3 1 s.kv s.ks.length (iN s.ks)) (by simp[dR.parts,dR.rest]);have this:V.ownsRow 0 3 1 s.kv s.ks.length (iN s.ks):=this;rw[Hkv.out] at this;exact fB this (Zr).drew
 have FA:Hid (Fr V (V.drew.alloc (.cells #[(Zi (nQ x 200))] 3)) (Value.slice ka s.ks.length kc).ownBlock.toList):=((Fr.refl V _).drew).alloc _;obtain⟨i0,hi0,hz0,hz1,hz2⟩:=info_parts Ve;have hbs:Hid (∀W:World,(Instr.buildSlice 34 1 #[(0,(Zi (nQ x 200)))]).run prog W=.ok (.slice (Zs W.heap.size) 1 1) (W.alloc (.cells #[(Zi (nQ x 200))] 3))):=fun W=>bH (P:=prog) W 34 3 underlying34 [(Zi (nQ x 200))] i0 _ hi0 hz0 hz1 (by simp) (by simp);have Eh:Hid (∀g,(Value.slice ka s.ks.length kc).ownBlock=some g->g≠B0):=fun g hg e=>by
  have:=(World.ownsRow.lt HKw.out g hg).2;omega
 have HB2:Hid (∀w':World,Fr V w' (Value.slice ka s.ks.length kc).ownBlock.toList->w'.cell? (Za B0 1)=some (.int .i64 x)):=fun w' f=>ay g1 (f.block B0 (Zd g1) (fun hm=>Eh.out _ (Zo.1 hm) rfl));have HB3:Hid (∀(w':World) (v:Value),w'.cell? (Za B0 1)=some (.int .i64 x)->(w'.setCell (Za q 6) v).cell? (Za B0 1)=some (.int .i64 x)):=fun w' v e2=>by
  have fq:Fr w' (w'.setCell (Za q 6) v) [q]:=(Fr.refl _ _).setCell _ _ (.inl (by simp));exact ay e2 (fq.block B0 (Zd e2) (by simp;omega))
 have rA:Hid (∀(g cap:Nat) (w7:World),w7.ownsRow 0 3 1 (.slice (Zs g) (s.ks.length+1) cap) (s.ks.length+1) (iN s.ks++[(Zi (nQ x 200))])->(V.drew.alloc (.cells #[(Zi (nQ x 200))] 3)).grownBy w7 (Value.slice ka s.ks.length kc).ownBlock->((Value.slice ka s.ks.length kc).ownBlock=some g\/g=(V.drew.alloc (.cells #[(Zi (nQ x 200))] 3)).heap.size)->
   tF a c w0 wS q n s0 s (w7.setCell (Za q 6) (.slice (Zs g) (s.ks.length+1) cap))/\w7.cell? (Za q 6)=some (.slice ka s.ks.length kc)/\w7.frozen? (Za q 6)=false/\Fr V w7 (Value.slice ka s.ks.length kc).ownBlock.toList):=fun g cap w7 aY aN hat=>by
  have f7:Fr V w7 (Value.slice ka s.ks.length kc).ownBlock.toList:=(((Fr.refl V _).drew).alloc _).grown aN (fun k e=>.inl (Zo.2 e));have:=fI.pushK (g:=g) (cap:=cap) HV.out (by rw[Hkv.out];exact f7) aY (by
   rw[Hkv.out];rcases hat with e|e
   ·exact .inl e
   ·exact .inr (by rw[e];simp))
  rw[Hkv.out] at this;exact⟨⟨_,this.1,⟨HO.out.up,HO.out.fit,HO.out.len,HO.out.i32,HO.out.xl,HO.out.sl,HO.out.tr⟩,by simp⟩,this.2.1,this.2.2,f7⟩
 clear hb cB;generalize nQ x 200=pk at *;refine bF ?_;refine wp_region_held_drew (S:=fun w'=>w'.cell? (Za B0 1)=some (.int .i64 x)) (by kernel_rfl) g1 (fun ah=>?_);refine Zt 0 (Zp q) ?_;refine Zt 1 (Zp q) ?_;refine Zt 2 (Zp q) ?_;refine Zt 3 (.pointer (some (Za q 6))) ?_;refine Zt 5 (.pointer (some (Za B0 1))) ?_;refine Zt 6 (.int .i64 x) ?_;refine Zw [4,7] ?_;refine Zb (fun K hK=>?_) (Ze fun K hK=>?_);refine aD rfl (v:=.slice ka s.ks.length kc) (w':=V.drew) (by have kk:=k6;go_simp) ?_;refine hK.out _ _ (by exact ah) (fun ah=>?_);clear hK K;(try simp only[Act.put,lA,lZ,lS]);refine Zh 7 fun K hK=>?_;go_simp;go_at_call 33;refine(cP.out _).mono ?_;rintro e w2 ⟨rfl,rfl⟩;refine hK.out _ _ (by exact ah) (fun ah=>?_);clear hK K;(try simp only[Act.put,lA,lZ,lS]);refine Zh 8 fun K hK=>?_;refine aD rfl (v:=.slice (Zs V.drew.heap.size) 1 1) (w':=V.drew.alloc (.cells #[Zi pk] 3)) (by exact aL 34 (.tmp 56) (by rfl) (Zi pk) _ _ _ (by rfl) (hbs.out _)) ?_;refine hK.out _ _ (HB2.out _ (by exact FA.out)) (fun ah=>?_);rotate_left;go_simp;go_at_call 33;refine(cP.out _).mono ?_;rintro e w2 ⟨rfl,rfl⟩;refine hK.out _ _ (by exact ah) (fun ah=>?_);clear hK K;(try simp only[Act.put,lA,lZ,lS]);refine Zw [4,8] ?_;refine Zb (fun K hK=>?_) (Ze fun K hK=>?_);refine aD rfl (v:=.slice ka s.ks.length kc) (w':=V.drew) (by have kk:=k6;go_simp) ?_;refine hK.out _ _ (by exact ah) (fun ah=>?_);clear hK K;(try simp only[Act.put,lA,lZ,lS]);refine Zh 8 fun K hK=>?_;refine aD rfl (v:=.slice (Zs V.drew.heap.size) 1 1) (w':=V.drew.alloc (.cells #[Zi pk] 3)) (by exact aL 34 (.tmp 56) (by rfl) (Zi pk) _ _ _ (by rfl) (hbs.out _)) ?_;refine hK.out _ _ (HB2.out _ (by exact FA.out)) (fun ah=>?_);rotate_left;refine aD rfl (v:=.slice (Zs V.drew.heap.size) 1 1) (w':=V.drew.alloc (.cells #[Zi pk] 3)) (by exact aL 34 (.tmp 56) (by rfl) (Zi pk) _ _ _ (by rfl) (hbs.out _)) ?_;refine hK.out _ _ (HB2.out _ (by exact FA.out)) (fun ah=>?_);clear hK K;(try simp only[Act.put,lA,lZ,lS]);refine Zh 4 fun K hK=>?_;refine aD rfl (v:=.slice ka s.ks.length kc) (w':=V.drew.alloc (.cells #[Zi pk] 3)) (by have kk:=k6a;go_simp) ?_;refine hK.out _ _ (by exact ah) (fun ah=>?_);rotate_left
 all_goals
  clear hK K;(try simp only[Act.put,lA,lZ,lS]);refine Zh 9 fun K hK=>?_;refine step_append_lies _ (by rfl) (.tmp 53) (.tmp 57) 34 (by rfl) 0 3 i0 _ 1 8 underlying34 hi0 hz0 hz1 hz2 (by rfl) (by decide) (.slice ka s.ks.length kc) s.ks.length (iN s.ks) (by rfl) (World.ownsRow.alloc XE.out _) (Za V.drew.heap.size 0) 1 1 [Zi pk] (by rfl) (by rfl) (World.news_of_block (cs:=#[Zi pk]) (t:=3) (fr:=(0,0)) (heap_alloc_new V.drew _)) (by intro u hu;simp at hu;rcases hu with rfl;rfl) (by decide) (by unfold maxLen;omega) (by omega) (Nat.zero_le _) _ rfl ?_;intro g cap w7 aY aN hat tJ;obtain⟨hE,hc6,hz6,hB4⟩:=rA.out g cap w7 aY aN hat;have HE:Hid (tF a c w0 wS q n s0 s (w7.setCell (Za q 6) (.slice (Zs g) (s.ks.length+1) cap))):=hE;clear hE aY aN hat;refine hK.out _ _ (HB2.out _ hB4) (fun ah=>?_);clear hK K;(try simp only[Act.put,lA,lZ,lS]);refine Zt 10 (Zp q) ?_;refine Zt 11 (.pointer (some (Za q 6))) ?_;refine Zh 12 fun K hK=>?_;refine step_skip rfl (w':=w7.setCell (Za q 6) (.slice (Zs g) (s.ks.length+1) cap)) (by go_simp) ?_;refine hK.out _ _ (HB3.out _ _ ah) (fun ah=>?_);clear hK K
  try simp only[Act.put]
  refine Zx ?_;simp only[At];clear hc6 hz6 ah;generalize w7.setCell (Za q 6) (.slice (Zs g) (s.ks.length+1) cap)=w8 at *;go_wp2;go_ret;exact⟨rfl,HE.out⟩
theorem ab1(h:fI a w0 wS q s0 [] s w)(ok:Ey c n s)(o:lG)(hf:o.Fit)(hk:o.kind≠5/\o.kind≠6/\o.kind≠8)(hs:o.s.size<=65536)(hks:s.ks.length<=1000000)(cr:Bool):
  Zc 18 #[Zp q,o.agg,.bool cr] w fun e w'=>e=.returned (.bool true)/\tF a c w0 wS q n s0 s w':=by
 by_cases h1:o.kind=1
 ·obtain⟨kd,x,t,u⟩:=o;obtain rfl:kd=1:=h1;exact OA h ok x t u cr
 by_cases h2:o.kind=2\/o.kind=3\/o.kind=4
 ·exact yM h ok o h2 hs cr _ (fun w1 hb=>Vd (h.below hb) ok o h2 hs)
 by_cases h7:o.kind=7
 ·exact OC h ok o h7 hf hks cr
 ·exact OB h ok o ⟨h1,fun e=>h2 (.inl e),fun e=>h2 (.inr (.inl e)),fun e=>h2 (.inr (.inr e)),hk.1,hk.2.1,h7,hk.2.2⟩ cr
end
end
section
open Go.RowKit
def Vf(ops:List lG):Prop:=ops.length<=65536/\∀o∈ops,o.s.size<=65536/\o.t.size<=65536
theorem OD(ops:List lG)(a0:Option Addr)(b off cap:Nat)(ha:0<ops.length->a0=some (Za b off))(w:World)(hs:je w b off ops)(hlen:ops.length<=maxLen)(hz:∀o∈ops,o.s.size<=140737488351232/\o.t.size<=140737488351232):
  Zc 16 #[.slice a0 ops.length cap] w fun e w'=>∃f,e=.returned (.bool f)/\(f=true->Vf ops)/\Below w.heap.size w w':=by
 unfold maxLen at hlen;have HA:Hid _:=ha;have HZ:Hid _:=hz;clear ha hz;by_cases hbig:65536<ops.length
 ·have hbig':(65536:Int)<(ops.length:Int):=by omega
  go_enter func16,ntmps16;go_wp2;go_ret;exact⟨false,rfl,fun h=>(Bool.noConfusion h),Zr⟩
 ·have hbig':¬(65536:Int)<(ops.length:Int):=by omega
  go_enter func16,ntmps16;go_wp2;go_loopw [3,4] (fun n i wr=>∃(k:Nat) (m:Nat),k<=ops.length/\i=.int .i64 k/\n=.int .i64 m/\m<=65536/\Hid (∀j o,j<k->ops[j]? =some o->o.s.size<=65536/\o.t.size<=65536)/\Below w.heap.size w wr/\Hid (wr.heap=w.heap)) (fun _ i _=>ops.length-(intOf i).toNat)
  case atStart=>exact⟨0,ops.length,Nat.zero_le _,rfl,rfl,by omega,fun j o hj=>absurd hj (Nat.not_lt_zero _),Zr,rfl⟩
  case round=>
   obtain⟨k,m,hk,rfl,rfl,hm,hall,hb,Yq⟩:=hrel;by_cases hlt:k<ops.length
   ·obtain rfl:=HA.out (by omega);obtain⟨o,ho⟩:∃o,ops[k]? =some o:=⟨ops[k],getElem?_eq_getElem hlt⟩;have hz:=HZ.out o (mem_of_getElem? ho);have s4:wr.cell? (Za b (off+k*4+2))=some (.string o.s):=by rw[<-hs k o ho 2 _ rfl];simp only[World.cell?,Yq.out]
    have s5:wr.cell? (Za b (off+k*4+3))=some (.string o.t):=by rw[<-hs k o ho 3 _ rfl];simp only[World.cell?,Yq.out]
    have ho2:Hid (ops[k]? =some o):=ho;obtain⟨z1,z2⟩:=hz;clear ho;by_cases hgt:65536<m+o.s.size+o.t.size
    ·have hgt':(65536:Int)<(m:Int)+(o.s.size:Int)+(o.t.size:Int):=by omega
     go_wp2;go_quiet (fail);go_wp2;go_ret;exact⟨false,rfl,fun h=>(Bool.noConfusion h),below_drewN hb _⟩
    ·have hgt':¬(65536:Int)<(m:Int)+(o.s.size:Int)+(o.t.size:Int):=by omega
     go_wp2;go_quiet (fail);have hb2:=below_drewN hb nq;have hh2:Hid ((wr.drewN nq).heap=w.heap):=Yq.out;generalize wr.drewN nq=wq at hb2 hh2⊢;go_wp2;go_roundw
     case rel=>
      refine⟨k+1,m+o.s.size+o.t.size,by omega,by go_num,by go_num,by omega,?_,hb2,hh2⟩;intro j p hj hp;by_cases e:j=k
      ·subst e;obtain rfl:o=p:=Option.some.inj (ho2.out.symm.trans hp);omega
      ·exact hall.out j p (by omega) hp
     case measure=>simp[intOf];omega
   ·have hf:Hid (Vf ops):=⟨by omega,fun o ho=>by
     obtain⟨j,hj,rfl⟩:=mem_iff_getElem.1 ho;exact hall.out j _ (by omega) (getElem?_eq_getElem hj)⟩
    go_wp2;go_ret;exact⟨true,rfl,fun _=>hf.out,hb⟩
end
section
open Go.RowKit Go.Maps Go.Lib
section
variable {a:Nat->Addr}{c:dz}{w0 w:World}{q n:Nat}
def rD(z:Int):List Value:=[.int .i64 z,.pointer none,.pointer none,.slice none 0 0,.slice none 0 0,.slice none 0 0,.slice none 0 0,.bool false,.slice none 0 0,.slice none 0 0,.bool false]
def sU(z:Int)(p:aS)(m:Nat):dR:=⟨z,p,pY m,.slice none 0 0,.slice none 0 0,.slice none 0 0,.slice none 0 0,.slice none 0 0,[],[],[],[],false⟩
theorem Vg{z:Int}(h:dF w0.heap.size w [bf p (pY m),bU q 37 (((rD z).set 1 (Zp p.d.p)).set 2 (Zp p.q))]):dF w0.heap.size w ((sU z p m).parts q):=by
 have nil:∀(t:TypeId) (k:Nat),dF w0.heap.size w []->True:=fun _ _ _=>trivial;have h1:dF w0.heap.size w [bU q 37 (sU z p m).row,bf p (pY m)]:=h.perm (Perm.swap _ _ _);have e:∀(t:TypeId) (k:Nat),(bn t k (.slice none 0 0) 0 []).blocks=[]:=fun t k=>rfl;refine⟨fun P hP=>?_,?_,fun b hb=>h1.far b ?_⟩
 ·simp only[dR.parts,dR.three,dR.rest,dR.tree,sU,map_nil,cons_append,nil_append,mem_cons,not_mem_nil,or_false] at hP;rcases hP with rfl|rfl|rfl|rfl|rfl|rfl|rfl
  ·exact h1.at_ _ (by simp[sU])
  ·exact World.ownsRow_nil _ _ _ _
  ·exact World.ownsRow_nil _ _ _ _
  ·exact World.ownsRow_nil _ _ _ _
  ·exact h1.at_ _ (by simp)
  ·exact World.ownsRow_nil _ _ _ _
  ·exact World.ownsRow_nil _ _ _ _
 ·have hd:Ah (bU q 37 (sU z p m).row) (bf p (pY m)):=(pairwise_cons.1 h1.apart).1 _ (by simp);have en:∀(P:Part) (t:TypeId) (k:Nat),Ah P (bn t k (.slice none 0 0) 0 []):=fun P t k b _ hm=>nomatch hm;have ne:∀(P:Part) (t:TypeId) (k:Nat),Ah (bn t k (.slice none 0 0) 0 []) P:=fun P t k b hb=>nomatch hb;show Pairwise Ah [bU q 37 (sU z p m).row,bn 9 1 (.slice none 0 0) 0 [],bn 9 1 (.slice none 0 0) 0 [],bn 109 3 (.slice none 0 0) 0 [],bf p (pY m),bn 54 3 (.slice none 0 0) 0 [],bn 3 1 (.slice none 0 0) 0 []];refine .cons (fun P hP=>?_) (.cons (fun P hP=>ne _ _ _) (.cons (fun P hP=>ne _ _ _) (.cons (fun P hP=>ne _ _ _) (.cons (fun P hP=>?_) (.cons (fun P hP=>ne _ _ _) (.cons (fun P hP=>ne _ _ _) .nil))))))
  ·simp only[mem_cons,not_mem_nil,or_false] at hP;rcases hP with rfl|rfl|rfl|rfl|rfl|rfl
   ·exact en _ _ _
   ·exact en _ _ _
   ·exact en _ _ _
   ·exact hd
   ·exact en _ _ _
   ·exact en _ _ _
  ·simp only[mem_cons,not_mem_nil,or_false] at hP;rcases hP with rfl|rfl
   ·exact en _ _ _
   ·exact en _ _ _
 ·obtain⟨P,hP,C9⟩:=eZ.1 hb;simp only[dR.parts,dR.three,dR.rest,dR.tree,sU,map_nil,cons_append,nil_append,mem_cons,not_mem_nil,or_false] at hP;rcases hP with rfl|rfl|rfl|rfl|rfl|rfl|rfl
  ·exact eZ.2 ⟨_,by simp[sU],C9⟩
  ·exact nomatch C9
  ·exact nomatch C9
  ·exact nomatch C9
  ·exact eZ.2 ⟨_,by simp,C9⟩
  ·exact nomatch C9
  ·exact nomatch C9
theorem kOk0(z:Int)(p:aS)(m n:Nat)(h4:4<=m)(h:m<=4000):Ey c n (sU z p m):=
 ⟨(AO m h4 h).1,(AO m h4 h).2,rfl,(fun _x hx=>nomatch hx),rfl,Nat.zero_le _,(fun _x hx=>nomatch hx)⟩
theorem Ey.more{s:dR}(h:Ey c n s)(hn:n<=n'):Ey c n' s:=⟨h.up,h.fit,h.len,h.i32,h.xl,Nat.le_trans h.sl hn,h.tr⟩
def zC(a:Nat->Addr)(c:dz)(w0:World)(q k:Nat)(w:World):Prop:=∃s:dR,dF w0.heap.size w (s.parts q)/\gU a w0 w/\Ey c (k*4400) s/\s.ks.length<=k/\s.vd=false
def Iu(a:Nat->Addr)(c:dz)(w0:World)(q k:Nat)(w:World):Prop:=(dF w0.heap.size w [bU q 37 (rD 0)]/\gU a w0 w)\/zC a c w0 q k w
theorem zC.more(h:zC a c w0 q k w):zC a c w0 q (k+1) w:=by
 obtain⟨s,h1,h2,h3,h4,h5⟩:=h;exact⟨s,h1,h2,h3.more (by omega),by omega,h5⟩
theorem Iu.more(h:Iu a c w0 q k w):Iu a c w0 q (k+1) w:=h.imp id zC.more
theorem Iu.base(h:Iu a c w0 q k w):Below w0.heap.size w0 w:=by
 rcases h with h|⟨s,_,h,_⟩
 ·exact h.2.low
 ·exact h.low
theorem zC.base(h:zC a c w0 q k w):Below w0.heap.size w0 w:=by
 obtain⟨s,_,h,_⟩:=h;exact h.low
theorem aal(hC:dI c w0)(h:Iu a c w0 q k w):
  Zc 20 #[Zp q] w fun e w'=>e=.returned (.bool true)/\zC a c w0 q k w':=by
 rcases h with⟨h1,h2⟩|⟨s,h1,h2,h3,h4,h5⟩
 ·refine(Dc h2 hC h1 0 (by decide) (by decide) rfl rfl rfl).mono ?_;rintro e w' ⟨rfl,p,st,b'⟩;refine⟨rfl,sU 0 p (4+nQ 0 512),Vg st.hold,b',kOk0 0 p _ _ (by omega) (by have:nQ 0 512<512:=Nat.mod_lt _ (by decide);omega),Nat.zero_le _,rfl⟩
 ·refine(oH (x:=(Za s.p.d.p 0)) (h1.kRow.cell 1)).mono ?_;rintro e w' ⟨rfl,rfl⟩;exact⟨rfl,s,h1,h2,h3,h4,h5⟩
def OE(a:Nat->Addr)(c:dz)(w0:World)(q k:Nat)(w:World):Prop:=∃vd:Bool,w.cell? (Za q 10)=some (.bool vd)/\Below w0.heap.size w0 w/\(vd=false->Iu a c w0 q (k+1) w)
theorem kAft{s:dR}(hl:s.ks.length<=k)(h:tF a c w0 w q (k*4400+4400) s s w'):OE a c w0 q k w':=by
 obtain⟨s',h1,h2,h3⟩:=h;exact⟨s'.vd,h1.hold.kRow.cell 10,h1.bs.low,fun e=>.inr ⟨s',h1.hold,h1.bs,h2.more (by omega),by omega,e⟩⟩
theorem XT(h:zC a c w0 q k w)(hk:k<=65536)(o:lG)(hf:o.Fit)(hs:o.s.size<=65536)(n8:o.kind≠8)(n6:o.kind≠6)(n5:o.kind≠5):
  Zc 18 #[Zp q,o.agg,.bool false] w fun e w'=>e=.returned (.bool true)/\OE a c w0 q k w':=by
 obtain⟨s,h1,h2,h3,h4,h5⟩:=h;refine(ab1 (fI.refl h2 h1) h3 o hf ⟨n5,n6,n8⟩ hs (by omega) false).mono ?_;rintro e w' ⟨rfl,s',k1,k2,k3⟩;exact⟨rfl,kAft h4 ⟨s',k1,k2.more (by omega),k3⟩⟩
theorem XU(hC:dI c w0)(h:zC a c w0 q k w)(hk:k<=65536)(label:Zy)(hs:label.size<=65536):
  Zc 21 #[Zp q,.string label] w fun e w'=>e=.returned (.bool true)/\OE a c w0 q k w':=by
 obtain⟨s,h1,h2,h3,h4,h5⟩:=h;refine(aaZ h2 hC h1 h3 (by omega) (by omega)).mono ?_;rintro e w' ⟨rfl,k1⟩;exact⟨rfl,kAft h4 k1⟩
theorem Vh(ops:List lG)(a0:Option Addr)(b off cap:Nat)(ha:0<ops.length->a0=some (Za b off))(W:World)(hs:je W b off ops)(hbl:b<W.heap.size)(hlen:ops.length<=maxLen)(hz:∀o∈ops,o.s.size<=140737488351232/\o.t.size<=140737488351232)(hfit:∀o∈ops,o.Fit)
  (bs:gU a W W) (hC:dI c W) (hA:∀w1,Below W.heap.size W w1->Zc 17 #[] w1 fun e w'=>e=.returned (.bool true)/\Below w1.heap.size w1 w'):
  Zc 11 #[.slice a0 ops.length cap] W fun e w'=>e=.returned (.bool true)/\Below W.heap.size W w':=by
 have cSm:=OD ops a0 b off cap ha W hs hlen hz;have HA:Hid _:=ha;have KV:Hid _:=hA;have HBs:Hid _:=bs;have HC:Hid _:=hC;have HS:Hid _:=hs;have wM:Hid _:=hfit;clear ha hA bs hC hs hfit hz hlen;go_enter func11,ntmps11;go_upto_region 2 with(go_at_call 16;refine cSm.mono ?_;rintro e w1 ⟨f,rfl,hf,hb1⟩;have HF:Hid (f=true->Vf ops):=hf;have HB1:Hid (Below W.heap.size W w1):=hb1;have cA:=KV.out w1 hb1;clear hf hb1 cSm)
 cases f with
 | false=>
  go_wp2;go_ret;exact⟨rfl,HB1.out⟩
 | true=>
  have hKF:=HF.out rfl;have hl:=hKF.1;have HKF:Hid _:=hKF;clear hKF HF;go_upto_region 7 with(go_at_call 17;refine cA.mono ?_;rintro e w2 ⟨rfl,hb2⟩;have HB2:Hid (Below W.heap.size W w2):=(HB1.out.trans (hb2.mono HB1.out.size));clear cA hb2)
  have XV:(Instr.build 37 #[]).run prog w2=.ok (.agg (rD 0).toArray) w2:=by kernel_rfl
  have HI0:Hid (Iu a c w2 w2.heap.size 0 (w2.alloc (.cells (rD 0).toArray 37))):=.inl ⟨⟨fun P hP=>by rw[Zm.1 hP];exact ai.new w2 37 (rD 0),pairwise_singleton _ _,fun b hb=>Nat.le_of_eq (by simpa [gZ,bU,eq_comm] using hb)⟩,⟨HBs.out.sents.below HB2.out,HBs.out.glob.up HB2.out,Nat.le_trans HBs.out.g HB2.out.size,(Zr).alloc (Zn) _⟩⟩;have Vv:Hid (dI c w2):=HC.out.fr (Fr.of_below HB2.out []) (by simp);have rA:Hid (∀w',Below w2.heap.size w2 w'->Below W.heap.size W w'):=fun w' hb=>HB2.out.trans (hb.mono HB2.out.size);have Lr:Hid (∀k o wr j v,ops[k]? =some o->Below w2.heap.size w2 wr->o.vals[j]? =some v->wr.cell? (Za b (off+k*4+j))=some v):=fun k o wr j v ho hb hv=>je.below HS.out (rA.out wr hb) hbl k o ho j v hv;clear KV HBs HC HB1 HB2 HS;have HKD:Hid (∀(k:Nat) (o:lG) (w3:World),ops[k]? =some o->zC a c w2 w2.heap.size k w3->o.kind≠8->o.kind≠6->o.kind≠5->Zc 18 #[Zp w2.heap.size,o.agg,.bool false] w3 fun e w'=>e=.returned (.bool true)/\OE a c w2 w2.heap.size k w'):=fun k o w3 ho hB n8 n6 n5=>XT hB (by have:=(List.getElem?_eq_some_iff.1 ho).1;omega) o (wM.out o (mem_of_getElem? ho)) (HKF.out.2 o (mem_of_getElem? ho)).1 n8 n6 n5;have HKO:Hid (∀(k:Nat) (o:lG) (w3:World),ops[k]? =some o->zC a c w2 w2.heap.size k w3->Zc 21 #[Zp w2.heap.size,.string o.s] w3 fun e w'=>e=.returned (.bool true)/\OE a c w2 w2.heap.size k w'):=fun k o w3 ho hB=>XU Vv.out hB (by have:=(List.getElem?_eq_some_iff.1 ho).1;omega) o.s (HKF.out.2 o (mem_of_getElem? ho)).1;unfold rD at XV HI0;go_wp2;clear XV;generalize hq:w2.heap.size=q at *;generalize(w2.alloc (.cells _ 37))=W3 at *;go_loopw [6] (fun iv wr=>∃k:Nat,iv=(Zi k)/\k<=ops.length/\Hid (Iu a c w2 q k wr)) (fun iv _=>ops.length-(RowKit.intOf iv).toNat)
  case atStart=>exact⟨0,rfl,Nat.zero_le _,HI0.out⟩
  case round=>
   obtain⟨k,rfl,hk,HI⟩:=hrel;by_cases hlt:k<ops.length
   ·have k0:(0:Int)<=(k:Int):=by omega
    have k1:(k:Int)<(ops.length:Int):=by omega
    obtain rfl:=HA.out (by omega);obtain⟨o,ho⟩:∃o,ops[k]? =some o:=⟨ops[k],getElem?_eq_getElem hlt⟩;have Ho:Hid _:=ho;have s0:wr.cell? (Za b (off+k*4))=some (.int .i64 o.kind):=Lr.out k o wr 0 _ ho (by rw[<-hq];exact HI.out.base) rfl;clear ho;by_cases h8:o.kind=8
    ·have h8b:(o.kind==8)=true:=by simp[h8]
     go_wp2;exact⟨⟨k+1,by push_cast;rfl,by omega,HI.out.more⟩,by simp[RowKit.intOf];omega⟩
    ·have h8b:(o.kind==8)=false:=by simp[h8]
     by_cases h6:o.kind=6
     ·have h6b:(o.kind==6)=true:=by simp[h6]
      go_wp2;exact⟨⟨k+1,by push_cast;rfl,by omega,HI.out.more⟩,by simp[RowKit.intOf];omega⟩
     ·have h6b:(o.kind==6)=false:=by simp[h6]
      have cB:=aal Vv.out HI.out;go_upto_region 15 with(go_at_call 20;refine cB.mono ?_;rintro e w3 ⟨rfl,h3⟩;have H3:Hid (zC a c w2 q k w3):=h3;clear h3 cB)
      have hb3:Below q w2 w3:=by rw[<-hq];exact H3.out.base
      have r0:w3.cell? (Za b (off+k*4))=some (.int .i64 o.kind):=Lr.out k o w3 0 _ Ho.out hb3 rfl;have r1:w3.cell? (Za b (off+k*4+1))=some (.int .i64 o.a):=Lr.out k o w3 1 _ Ho.out hb3 rfl;have r2:w3.cell? (Za b (off+k*4+2))=some (.string o.s):=Lr.out k o w3 2 _ Ho.out hb3 rfl;have r3:w3.cell? (Za b (off+k*4+3))=some (.string o.t):=Lr.out k o w3 3 _ Ho.out hb3 rfl;clear hb3 s0;by_cases h5:o.kind=5
      ·have h5b:(o.kind !=5)=false:=by simp[h5]
       have cO:=HKO.out k o w3 Ho.out H3.out;go_upto_region 18 with(go_at_call 21;refine cO.mono ?_;rintro e w4 ⟨rfl,h4⟩;have H4:Hid (OE a c w2 q k w4):=h4;clear h4 cO)
       obtain⟨vd,c10,hb4,hI4⟩:=H4.out;have Vw:Hid _:=hb4;have HI4:Hid _:=hI4;clear hb4 hI4 H4;cases vd with
       | true=>
        go_wp2;go_ret;exact⟨rfl,rA.out w4 (by rw[<-hq];exact Vw.out)⟩
       | false=>
        go_wp2;exact⟨⟨k+1,by push_cast;rfl,by omega,HI4.out rfl⟩,by simp[RowKit.intOf];omega⟩
      ·have h5b:(o.kind !=5)=true:=by simp[h5]
       have cS:=HKD.out k o w3 Ho.out H3.out h8 h6 h5;unfold lG.agg at cS;go_upto_region 18 with(go_at_call 18;refine cS.mono ?_;rintro e w4 ⟨rfl,h4⟩;have H4:Hid (OE a c w2 q k w4):=h4;clear h4 cS)
       obtain⟨vd,c10,hb4,hI4⟩:=H4.out;have Vw:Hid _:=hb4;have HI4:Hid _:=hI4;clear hb4 hI4 H4;cases vd with
       | true=>
        go_wp2;go_ret;exact⟨rfl,rA.out w4 (by rw[<-hq];exact Vw.out)⟩
       | false=>
        go_wp2;exact⟨⟨k+1,by push_cast;rfl,by omega,HI4.out rfl⟩,by simp[RowKit.intOf];omega⟩
   ·have k1:¬(k:Int)<(ops.length:Int):=by omega
    go_wp2;go_ret;exact⟨rfl,rA.out wr (by rw[<-hq];exact HI.out.base)⟩
end
section
variable {a:Nat->Addr}{c:dz}{w0 w wS:World}{q:Nat}{s s0:dR}
theorem aam(bs:gU a w0 w)(hC:dI c w0)(h:dF w0.heap.size w (s.parts q))(hL:s.A.L=T1)(hx:s.xs=[])(hh:s.ss=[])(hv:s.vd=false)(hne:c.of (X1 c)≠c.of ⟨#[100,97,116,97]⟩)(hne2:c.of (X2 c)≠c.of ⟨#[100,97,116,97]⟩)(Ow:c.of (X2 c)≠c.of (X1 c)):
  Zc 52 #[Zp q,.string ⟨#[]⟩] w (Ir a w0 w q s (fun _ _ vd=>vd=false)):=by
 have sI:=h.apart;simp only[dR.parts,dR.three,dR.rest,cons_append,nil_append,pairwise_cons,mem_cons] at sI;obtain⟨d0,d1,d2,d3,_⟩:=sI;have e1:∀b∈s.xv.ownBlock.toList,b≠q:=fun b hb e=>d0 _ (.inl rfl) q (by simp[bU]) (by rw[<-e];exact hb);have e2:∀b∈s.hv.ownBlock.toList,b≠q:=fun b hb e=>d0 _ (.inr (.inl rfl)) q (by simp[bU]) (by rw[<-e];exact hb);have e3:∀b∈s.xv.ownBlock.toList,b∉s.hv.ownBlock.toList:=fun b hb hm=>d1 _ (.inl rfl) b hb hm;have e4:∀b∈s.tv.ownBlock.toList,b∉bT.blocks q s.xv s.hv:=fun b hb hm=>by
  simp only[bT.blocks,cons_append,mem_cons,mem_append] at hm;rcases hm with e|e|e
  ·exact d0 _ (.inr (.inr (.inl rfl))) q (by simp[bU]) (by rw[<-e];exact hb)
  ·exact d1 _ (.inr (.inl rfl)) b e hb
  ·exact d2 _ (.inl rfl) b e hb
 have hx':w.ownsRow 0 9 1 s.xv s.xs.length (bN s.xs):=h.at_ (bn 9 1 s.xv s.xs.length (bN s.xs)) (by simp[dR.parts,dR.three]);have hs':w.ownsRow 0 9 1 s.hv s.ss.length (bN s.ss):=h.at_ (bn 9 1 s.hv s.ss.length (bN s.ss)) (by simp[dR.parts,dR.three]);have eB:gZ (s.three q)=bT.blocks q s.xv s.hv:=by simp[dR.three,gZ,bU,bn,bT.blocks]
 have kV:∀b∈bT.blocks q s.xv s.hv,w0.heap.size<=b:=fun b hb=>h.far b (by rw[dR.parts,iR,eB];exact mem_append_left _ hb);have hA:bT w q s.row8 s.xs s.ss s.xv s.hv s.vd:=⟨h.kRow,rfl,hx',hs',fun b hb=>⟨e1 b hb,e3 b hb⟩,e2⟩;rw[hx,hh,hv] at hA;have hT:=h.kTree;rw[hL] at hT;have hT:w.ownsRow 0 109 3 s.tv 1 (aK T1):=hT;obtain⟨ag,cap,htv⟩:∃ag cap,s.tv=.slice ag 1 cap:=aV hT;rw[htv] at hT;obtain⟨g,rfl,_⟩:=dH hT (by decide);have hN:Iz c w q s.row8 g cap [] [] s.xv s.hv:=⟨hA,rfl,bs.sha hC,fun b hb=>Nat.le_trans bs.g (kV b hb),Nat.le_trans bs.g bs.size,by rw[<-htv];rfl,Dh hT,e4 g (by rw[htv];simp[Value.ownBlock])⟩;refine(aah hN hne hne2 Ow).mono ?_;rintro e w' ⟨rfl,xs,ss,yJ,hv',hN',hsub,f⟩;have hA':=hN'.hs;have eB':gZ ((s.hashed yJ hv' xs ss false).three q)=bT.blocks q yJ hv':=by simp[dR.three,dR.hashed,gZ,bU,bn,bT.blocks]
 have U5:∀b∈bT.blocks q yJ hv',w0.heap.size<=b:=fun b hb=>by
  rcases hsub b hb with h3|h3
  ·exact kV b h3
  ·exact Nat.le_trans bs.size h3
 have hold':dF w0.heap.size w' ((s.hashed yJ hv' xs ss false).three q):=by
  refine⟨fun P hP=>?_,?_,by rw[eB'];exact U5⟩
  ·simp only[dR.three,mem_cons,not_mem_nil,or_false] at hP;rcases hP with rfl|rfl|rfl
   ·exact hA'.row
   ·exact hA'.xo
   ·exact hA'.so
  ·refine Pairwise.cons (fun Q hQ=>?_) (Pairwise.cons (fun Q hQ=>?_) (pairwise_singleton _ _))
   ·simp only[mem_cons,not_mem_nil,or_false] at hQ;intro b hb hm;rw[Zm.1 hb] at hm;rcases hQ with rfl|rfl
    ·exact(hA'.nx q hm).1 rfl
    ·exact hA'.ns q hm rfl
   ·rw[Zm.1 hQ];exact fun b hb hm=>(hA'.nx b hb).2 hm
 have st:Step w0.heap.size w w' (s.three q) ((s.hashed yJ hv' xs ss false).three q):=⟨hold',by rw[eB];exact f,by rw[eB',eB];exact hsub⟩;exact⟨_,yJ,hv',xs,ss,false,rfl,rfl,⟨st.frame (rs:=s.rest) h,bs.fr f kV⟩⟩
theorem dF.arcDev{ps:List Part}(h:dF B w (bf p A::ps)):dF B w (oG p.d A.S::ps):=by
 have hsub:∀b∈(oG p.d A.S).blocks,b∈(bf p A).blocks:=fun b hb=>mem_append_left _ (aS.d_in hb);have hg:eP w p A:=h.at_ (bf p A) (by simp);refine⟨fun P hP=>?_,?_,fun b hb=>?_⟩
 ·rcases mem_cons.1 hP with rfl|h1
  ·exact hg.dev
  ·exact h.at_ P (mem_cons_of_mem _ h1)
 ·have:=pairwise_cons.1 h.apart;exact Pairwise.cons (fun Q hQ b hb=>this.1 Q hQ b (hsub b hb)) this.2
 ·have hb:b∈(oG p.d A.S).blocks++gZ ps:=hb;refine h.far b ?_;rw[bL];rcases mem_append.1 hb with h1|h1
  ·exact mem_append_left _ (hsub b h1)
  ·exact mem_append_right _ h1
theorem fI.cr(h:fI a w0 wS q s0 [] s w)(hs:s.shots=[⟨v,T1,lab,root⟩])(hk:s.kv=.slice none 0 0)(hv:s.vd=false):
  ∃gs cs g1 c1,s.sv=.slice (Zs gs) 1 cs/\v=.slice (Zs g1) 1 c1/\Cr a w0 q (FP s.z s.p.d.p (Zp s.p.q) s.tv (.slice (Zs gs) 1 cs) s.xv s.hv) (.slice (Zs gs) 1 cs) (FO g1 c1 lab root) (oG s.p.d s.A.S) w:=by
 have hso:=h.hold.kShots;rw[hs] at hso;have hso:w.ownsRow 0 54 3 s.sv 1 [v,.string lab,.string root]:=hso;obtain⟨ag,cs,hsv⟩:∃ag cs,s.sv=.slice ag 1 cs:=aV hso;rw[hsv] at hso;obtain⟨gs,rfl,_⟩:=dH hso (by decide);have hto:w.ownsRow 0 109 3 v 1 (aK T1):=h.hold.kShot (x:=⟨v,T1,lab,root⟩) (by rw[hs];simp);obtain⟨bg,c1,rfl⟩:∃bg c1,v=.slice bg 1 c1:=aV hto;obtain⟨g1,rfl,_⟩:=dH hto (by decide);refine⟨gs,cs,g1,c1,hsv,rfl,?_,h.bs⟩;have er:s.row=FP s.z s.p.d.p (Zp s.p.q) s.tv (.slice (Zs gs) 1 cs) s.xv s.hv:=by
  unfold dR.row dR.row8 FP;rw[hk,hv,hsv];rfl
 have hp:(s.parts q).Perm ([bf s.p s.A,bU q 37 s.row,bn 54 3 s.sv s.shots.length (s.shots.flatMap fH.cells)]++(s.shots.map fH.part++[bn 9 1 s.xv s.xs.length (bN s.xs),bn 9 1 s.hv s.ss.length (bN s.ss),s.tree,bn 3 1 s.kv s.ks.length (iN s.ks)])):=by
  letI:DecidableEq Part:=fun a b=>Classical.propDecidable (a=b)
  rw[perm_iff_count];intro P;simp only[dR.parts,dR.three,dR.rest,cons_append,nil_append,count_append,count_cons,count_nil];omega
 have h2:=(h.hold.perm hp);rw[<-append_assoc] at h2;have h3:=h2.left;rw[er,hs,hsv] at h3;exact dF.arcDev h3
def OG(p:aS)(tv:Value):dR:={sU 50 p 54 with A:={pY 54 with L:=T1},tv:=tv}
theorem ab2(h:fI a w0 wS q s0 [] (sU 50 p 54) w):
  Zc 31 #[Zp q,lG.agg ⟨2,0,⟨#[102]⟩,⟨#[100,97,116,97]⟩⟩] w fun e w'=>e=.returned (.bool true)/\∃p' tv',fI a w0 wS q s0 [] (OG p' tv') w':=by
 have hp:(iI [] ⟨#[102]⟩ ⟨#[100,97,116,97]⟩)=([]++[⟨⟨#[102]⟩,false,⟨#[100,97,116,97]⟩⟩],0):=by kernel_rfl
 have ok:=kOk0 (c:=xc) 50 p 54 0 (by decide) (by decide);refine(FN (h.chAt ok) 0 ⟨#[102]⟩ ⟨#[100,97,116,97]⟩ (by decide) (by show(iI [] _ _).2=0;rw[hp]) (by show bJ [] _= -1;decide +kernel) (by show(iI [] _ _).1.Perm _;rw[hp];exact Perm.refl _) U8).mono ?_;rintro e w' ⟨e1,tv',p',st,eq,ed,_,_,_⟩;exact⟨e1,p',tv',h.three st eq ed⟩
theorem aan{R:(Nat × Nat × Nat) × Sc}(x:XF c A'.S R root ⟨#[120]⟩)(hsn:dJ c {pY 54 with L:=T1} ⟨#[120]⟩=((1,0),A'))(hr:dQ c {pY 54 with L:=T1}=root)(hI:A'.I=[(root,⟨#[120]⟩)])(hL:A'.L=T1)(hu:vS {pY 54 with L:=T1})(hf:({pY 54 with L:=T1}:jc).Fit)
  (hne:c.of (X1 c)≠c.of ⟨#[100,97,116,97]⟩) (hne2:c.of (X2 c)≠c.of ⟨#[100,97,116,97]⟩) (Ow:c.of (X2 c)≠c.of (X1 c)) (bs:gU a w w) (hC:dI c w):
  Zc 17 #[] w fun e w'=>e=.returned (.bool true)/\Below w.heap.size w w':=by
 have XV:(Instr.build 37 #[(0,.int .i64 50)]).run prog w=.ok (.agg (rD 50).toArray) w:=by kernel_rfl
 have h0:dF w.heap.size (w.alloc (.cells (rD 50).toArray 37)) [bU w.heap.size 37 (rD 50)]:=⟨fun P hP=>by rw[Zm.1 hP];exact ai.new w 37 (rD 50),pairwise_singleton _ _,fun b hb=>Nat.le_of_eq (by simpa [gZ,bU,eq_comm] using hb)⟩;have b0:gU a w (w.alloc (.cells (rD 50).toArray 37)):=⟨bs.sents,bs.glob,bs.g,(Zr).alloc (Zn) _⟩;have cB:Zc 20 #[Zp w.heap.size] (w.alloc (.cells (rD 50).toArray 37)) fun e w'=>e=.returned (.bool true)/\∃p,fI a w w' w.heap.size (sU 50 p 54) [] (sU 50 p 54) w':=by
  refine(Dc b0 hC h0 50 (by decide) (by decide) rfl rfl rfl).mono ?_;rintro e w' ⟨e1,p,st,b'⟩;exact⟨e1,p,fI.refl b' (Vg st.hold)⟩
 have HP:Hid (∀w1 p,fI a w w1 w.heap.size (sU 50 p 54) [] (sU 50 p 54) w1->Zc 18 #[Zp w.heap.size,lG.agg ⟨2,0,⟨#[102]⟩,⟨#[100,97,116,97]⟩⟩,.bool true] w1 fun e w'=>e=.returned (.bool true)/\∃p' tv',fI a w w1 w.heap.size (sU 50 p 54) [] (OG p' tv') w'):=fun w1 p h=>yM h (kOk0 (c:=xc) 50 p 54 0 (by decide) (by decide)) ⟨2,0,⟨#[102]⟩,⟨#[100,97,116,97]⟩⟩ (.inl rfl) (by decide) true (fun w'=>∃p' tv',fI a w w1 w.heap.size (sU 50 p 54) [] (OG p' tv') w') (fun w2 hb=>ab2 (h.below hb));have LA:Hid (∀w1 w2 p0 p' tv',fI a w w1 w.heap.size (sU 50 p0 54) [] (OG p' tv') w2->Zc 30 #[Zp w.heap.size,.string ⟨#[120]⟩] w2 fun e w'=>e=.returned (.bool true)/\∃s' v,fI a w w2 w.heap.size (OG p' tv') [] s' w'/\s'.shots=[⟨v,T1,⟨#[120]⟩,root⟩]/\s'.kv=.slice none 0 0/\s'.vd=false/\s'.A=A'):=fun w1 w2 p0 p' tv' h=>by
  have hN:=aam (s:=OG p' tv') h.bs hC h.hold rfl rfl rfl rfl hne hne2 Ow;refine(Ll (s:=OG p' tv') (label:=⟨#[120]⟩) (A':=A') hC h.hold hf hu (by decide) rfl (fun y hy=>nomatch hy) hsn (by rw[hI];show _=[]++[(dQ c {pY 54 with L:=T1},_)];rw[hr];rfl) hL (by rw[hI];simp) hN).mono ?_;rintro e w' ⟨e1,s',k,hv,⟨_,ek⟩,_,hrel⟩;rcases hrel with⟨h1,_⟩|⟨h1,⟨h2,_⟩|⟨h2,h3,v,h4⟩⟩
  ·rw[hv] at h1;cases h1
  ·exact absurd (show(dJ c {pY 54 with L:=T1} ⟨#[120]⟩).1.2=0 by rw[hsn]) h2
  ·refine⟨e1,s',v,k,?_,ek,hv,?_⟩
   ·rw[h4];show []++[(⟨v,T1,⟨#[120]⟩,dQ c {pY 54 with L:=T1}⟩:fH)]=_;rw[hr];rfl
   ·rw[h3];show(dJ c {pY 54 with L:=T1} ⟨#[120]⟩).2=A';rw[hsn]
 have HCr:Hid (∀w1 s0' s' v w2,fI a w w1 w.heap.size s0' [] s' w2->s'.shots=[⟨v,T1,⟨#[120]⟩,root⟩]->s'.kv=.slice none 0 0->s'.vd=false->s'.A=A'->Zc 19 #[Zp w.heap.size] w2 fun e w'=>e=.returned (.bool true)/\Below w.heap.size w w'/\∃gs cs g1 c1,w'.cell? (Za w.heap.size 4)=some (.slice (Zs gs) 1 cs)/\w'.cell? (Za gs 0)=some (.slice (Zs g1) 1 c1)):=fun w1 s0' s' v w2 k k1 k2 k3 k4=>by
  obtain⟨gs,cs,g1,c1,_,_,hcr⟩:=k.cr k1 k2 k3;rw[k4] at hcr;refine(XK (lab:=⟨#[120]⟩) (root:=root) (A1:=oI A'.S R) s'.z s'.p.d _ s'.tv s'.xv s'.hv hcr x.ok x.crash (xMnt x hC) (fun p tb h1 h2 h3=>xRds x hC p tb h1 h2 h3)).mono ?_;rintro e w' ⟨e1,hb,r4,r5⟩;exact⟨e1,hb,gs,cs,g1,c1,r4,r5⟩
 unfold rD at XV cB;clear x hsn hr hI hL hu hf hne hne2 Ow bs hC h0 b0;go_enter func17,ntmps17;have HB2:Hid (∀W:World,(Instr.build 40 #[(0,.int .i64 2),(2,.string ⟨#[102]⟩),(3,.string ⟨#[100,97,116,97]⟩)]).run prog W=.ok (.agg #[.int .i64 2,.int .i64 0,.string ⟨#[102]⟩,.string ⟨#[100,97,116,97]⟩]) W):=fun W=>by kernel_rfl
 go_upto_region 8 with(first
  | (go_at_call 20;refine cB.mono ?_;rintro e w1 ⟨rfl,p,h1⟩;have hb2:=HB2.out w1;have cP:=HP.out w1 p h1;unfold lG.agg at cP;clear h1 cB)
  | (go_at_call 18;refine cP.mono ?_;rintro e w2 ⟨rfl,p',tv',h2⟩;have cS:=LA.out w1 w2 p p' tv' h2;clear h2 cP hb2)
  | (go_at_call 30;refine cS.mono ?_;rintro e w3 ⟨rfl,s',v,h3,k1,k2,k3,k4⟩;have cC:=HCr.out w2 _ s' v w3 h3 k1 k2 k3 k4;clear h3 k1 k2 k3 k4 cS)
  | (go_at_call 19;refine cC.mono ?_;rintro e w4 ⟨rfl,hb4,gs,cs,g1,c1,r4,r5⟩;have Vw:Hid (Below w.heap.size w w4):=hb4;clear hb4 cC))
 go_wp2;go_ret;exact⟨rfl,Vw.out⟩
end
end
end Go.Proofs.YtdidjdoifpfmmaaGreatDoor
