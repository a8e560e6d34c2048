import Derived.Test.YtdidjdoifpfmmaaGreatDoorGO15
set_option maxRecDepth 100000
set_option maxHeartbeats 16000000
namespace Go.Proofs.YtdidjdoifpfmmaaGreatDoor
open Go.Proofs.Tryz List
variable{t ty:TypeId}{l:List Ln}{E:List (Zy × Nat × Nat)}{s x y:Sc}{w W W' w' V wp:World}{b o k B g g2:Nat}{cs vs:List Value}{bs K:List Nat}{p:lH}{u v x0 x1 x2 x3 x4 qx EL EM EN x18 DK x20 x21 Bh x23 x24 x25 Jl x27 x28 x29 x30 x31 x32 ME x34 MF MG Qq x38 x40 x41 Vm x43 Vn Vo Vp Tv RX RY RZ R3 R8 Sb x54 x55 x56 x57 x58 x59 x60 x61 x62 x63 x64 x65 x66 x67 x68 x69 x70 x71 x72 x73 x74 x75 x76 x77 x78 x79 x80 x81 x82 x83 x84 x85 x86 x87 x88 x89 x90 x91 x92 x93 x94 x95 x96 x97 x98 x99 x100 x101 x102 x103 x104 x105 Nj x107 Nk Nl Nn Np x112 x39 x5:Value}
section
open Go.RowKit Go.Maps
theorem QK(x:Ln)(hx:x.sum.size=32)(w:World):
  Zc 267 #[.agg x.cells.toArray] w fun e w'=>e=.returned (.int .u8 ((if x.dir then 3 else 2:Nat):Nat))/\Below w.heap.size w w':=by
 obtain⟨name,dir,sum⟩:=x;simp only at hx;have r0:=ai.new w 353 (Ln.mk name dir sum).cells;have hb:Below w.heap.size w (w.alloc (.cells (Ln.mk name dir sum).cells.toArray 353)):=(Zr).alloc (Zn) _;have c1:(w.alloc (.cells (Ln.mk name dir sum).cells.toArray 353)).cell? (Za w.heap.size 1)=some (.bool dir):=r0.cell 1;generalize(Ln.mk name dir sum).cells=C at *;cases dir with
 | true=>
  go_enter func267,ntmps267;go_upto_region 1 with fail
  generalize w.alloc (.cells C.toArray 353)=W at *;go_wp2;go_ret;exact⟨rfl,hb⟩
 | false=>
  go_enter func267,ntmps267;go_upto_region 1 with fail
  generalize w.alloc (.cells C.toArray 353)=W at *;go_wp2;go_ret;exact⟨rfl,hb⟩
def vw(t:Zy):Option (List Ln):=o9 (t.size+1) t ⟨#[]⟩ []
theorem M7:∀(k:Nat) (t last:Zy) (acc l:List Ln),(∀x∈acc,x.sum.size=32/\aO (af x.name)=true)->acc.length<=16->o9 k t last acc=some l->(∀x∈l,x.sum.size=32/\aO (af x.name)=true)/\l.length<=16:=by
 intro k;induction k with
 | zero=>intro t last acc l h1 h2 h;cases h;exact⟨h1,h2⟩
 | succ k ih=>
  intro t last acc l h1 h2 h;rw[o9] at h;split at h
  ·cases h;exact⟨h1,h2⟩
  ·cases hc:yU t with
   | none=>rw[hc] at h;cases h
   | some xr=>
    obtain⟨x,r⟩:=xr;rw[hc] at h;simp only at h;split at h
    ·cases h
    ·rename_i h3;simp only[Bool.or_eq_true,decide_eq_true_eq,not_or] at h3;refine ih r x.name (acc++[x]) l (fun y hy=>?_) (by simp;omega) h;rcases mem_append.1 hy with hy|hy
     ·exact h1 y hy
     ·rw[Zm.1 hy];exact(uO hc).2
theorem wJ{t:Zy}(h:vw t=some l):(∀x∈l,x.sum.size=32/\aO (af x.name)=true)/\l.length<=16:=M7 _ _ _ _ _ (by simp) (by simp) h
theorem Fh(t:Zy)(ht:t.size<=1000000)(w:World):
  Zc 266 #[.string t] w fun e w'=>(∃(l:List Ln) (ok:Bool) (ao:Option Addr) (co:Nat),e=.returned (.tuple #[.slice ao l.length co,.bool ok])/\w'.ownsRow w.heap.size 353 34 (.slice ao l.length co) l.length (fO l)/\(∀x∈l,x.sum.size=32/\aO (af x.name)=true)/\l.length<=16/\((vw t=none/\ok=false/\l=[])\/(vw t=some l/\ok=true)))/\Below w.heap.size w w':=by
 refine(Tj t ht w).mono ?_;rintro e w' ⟨h,hb⟩;refine⟨?_,hb⟩;have hd:o9 (t.size+1) t ⟨#[]⟩ []=vw t:=rfl;rw[hd] at h;cases hf:vw t with
 | none=>
  rw[hf] at h;exact⟨[],false,none,0,h,World.ownsRow_nil _ _ _ _,by simp,by simp,.inl ⟨rfl,rfl,rfl⟩⟩
 | some l=>
  rw[hf] at h;obtain⟨ao,co,he,hO⟩:=h;exact⟨l,true,ao,co,he,hO,(wJ hf).1,(wJ hf).2,.inr ⟨rfl,rfl⟩⟩
def M8(E:List (Zy × Nat × Nat))(x:Ln):Nat × Nat:=if x.dir then(gQ E x.sum).getD (0,0) else(0,0)
def mW(E:List (Zy × Nat × Nat))(a:Nat × Nat)(x:Ln):Nat × Nat:=(max a.1 (1+(M8 E x).1),a.2+(1+(M8 E x).2))
def iG(E:List (Zy × Nat × Nat))(l:List Ln):Nat × Nat:=l.foldl (mW E) (0,0)
def sZ(E:List (Zy × Nat × Nat))(l:List Ln):Nat × Nat:=((iG E l).1,min (iG E l).2 257)
def sH(x:Ln):Nat:=if x.dir then 3 else 2
def lX(H:List Ob)(l:List Ln):Bool:=l.all fun x=>hasO H (sH x) x.sum
def J4(E:List (Zy × Nat × Nat)):Prop:=∀x∈E,x.2.1<=E.length/\x.2.2<=257
theorem Pe(h:J4 E)(x:Ln):(M8 E x).1<=E.length/\(M8 E x).2<=257:=by
 unfold M8;split
 ·cases hf:gQ E x.sum with
  | none=>exact⟨Nat.zero_le _,Nat.zero_le _⟩
  | some y=>
   unfold gQ at hf;obtain⟨z,hz,rfl⟩:=Option.map_eq_some_iff.1 hf;exact h z (mem_of_find?_eq_some hz)
 ·exact⟨Nat.zero_le _,Nat.zero_le _⟩
theorem J5(E:List (Zy × Nat × Nat))(l:List Ln)(x:Ln):iG E (l++[x])=mW E (iG E l) x:=by simp[iG]
theorem zh(h:J4 E)(l:List Ln):(iG E l).1<=E.length+1/\(iG E l).2<=258*l.length:=by
 have:∀(l:List Ln) (a:Nat × Nat),a.1<=E.length+1->(l.foldl (mW E) a).1<=E.length+1/\(l.foldl (mW E) a).2<=a.2+258*l.length:=by
  intro l;induction l with
  | nil=>intro a h;exact⟨h,by simp⟩
  | cons x l ih=>
   intro a ha;have hx:=Pe h x;have:=ih (mW E a x) (by unfold mW;simp only;omega);rw[foldl_cons,length_cons];refine⟨this.1,Nat.le_trans this.2 ?_⟩;unfold mW;simp only;omega
 have h2:=this l (0,0) (by simp);exact⟨h2.1,by have:=h2.2;simp only[Nat.zero_add] at this;exact this⟩
theorem Uc(h:J4 E)(s:Zy)(l:List Ln):J4 (E++[(s,sZ E l)]):=by
 intro x hx;rw[length_append,length_singleton];rcases mem_append.1 hx with hx|hx
 ·have:=h x hx;omega
 ·rw[Zm.1 hx];have:=zh h l;unfold sZ;simp only;omega
def fA(s:Sc)(sum t:Zy):Bool × List (Zy × Nat × Nat):=match vw t with
 | none=>(false,s.E)
 | some l=>if lX s.H l=true then(true,if(gQ s.E sum).isSome=true then s.E else s.E++[(sum,sZ s.E l)]) else(false,s.E)
theorem J6{sum t:Zy}{ok:Bool}(h:(vw t=none/\ok=false/\l=[])\/(vw t=some l/\ok=true)):fA s sum t=(ok&&lX s.H l,if(ok&&lX s.H l && !(gQ s.E sum).isSome)=true then s.E++[(sum,sZ s.E l)] else s.E):=by
 unfold fA;rcases h with⟨h1,rfl,rfl⟩|⟨h1,rfl⟩
 ·rw[h1];rfl
 ·rw[h1];simp only[Bool.true_and];cases lX s.H l<;>cases(gQ s.E sum).isSome<;>rfl
theorem qN(h:Below w.heap.size w W)(f:Fr W W' [b])(hn:w.heap.size<=b):Below w.heap.size w W':=
 ⟨f.os.trans h.os,f.tape.trans h.tape,f.output.trans h.output,Nat.le_trans h.size f.size,fun k hk=>(f.block k (Nat.lt_of_lt_of_le hk h.size) (by simp;omega)).trans (h.block k hk)⟩
theorem aU(h:w.rangeAt b o cs)(hb:b<w.heap.size)(f:Below w.heap.size w w'):w'.rangeAt b o cs:=fun j v hv=>(World.cell?_of_block (f.block b hb)).trans (h j v hv)
theorem iC(h:w.rangeAt b o cs)(hb:b<w.heap.size)(f:Fr w w' bs)(hn:b∉bs):w'.rangeAt b o cs:=fun j v hv=>(World.cell?_of_block (f.block b hb hn)).trans (h j v hv)
def Sc.withE(s:Sc)(E:List (Zy × Nat × Nat)):Sc:={s with E:=E}
theorem Ec(h:aR w p s)(hE:J4 s.E)(hEl:s.E.length<=4900)(sum:Zy)(hsum:sum.size=32)(t:Zy)(ht:t.size<=1000000)(hok:(fA s sum t).1=true):
  Zc 222 #[Zp p.q,dA sum,.string t] w fun e w'=>e=.returned (.bool (fA s sum t).1)/\aR w' p (s.withE (fA s sum t).2)/\Fr w w' p.blocks:=by
 have hpl:=h.lt;have hms:p.ms.length=4:=h.objs.len;have hsv:dA sum=.agg (bytes (af sum)).toArray:=rfl;rw[hsv];have mM:(prog.info? 121).map (·.size)=some (bytes (af sum)).length:=by rw[dh _ hsum];kernel_rfl
 have aax:Hid (∀w',aR w' p s->(Instr.lookup 167 (.map (some p.em)) (.agg (bytes (af sum)).toArray) true).run prog w'=.ok (.tuple #[.agg #[.int .i64 (((gQ s.E sum).getD (0,0)).1:Nat),.int .i64 (((gQ s.E sum).getD (0,0)).2:Nat)],.bool (gQ s.E sum).isSome]) w'):=fun w' hw=>by
  obtain⟨D,h1,h2⟩:=hw.ext;exact Ua h1 h2 sum hsum
 have Hput:Hid (∀w' (xa xn:Nat),aR w' p s->∃w2,(Instr.mapUpdate 167 (.map (some p.em)) (.agg (bytes (af sum)).toArray) (.agg #[Zi xa,Zi xn])).run prog w'=.ok () w2/\w'.grownBy w2 (some p.em)/\(gQ s.E sum=none->aR w2 p (s.withE (s.E++[(sum,xa,xn)])))):=fun w' xa xn hw=>by
  obtain⟨D,h1,h2⟩:=hw.ext;obtain⟨w2,h3,h4,h5⟩:=WG h1 h2 hw.few.2.1 sum hsum xa xn;refine⟨w2,h3,h5,fun hn=>?_⟩;have f:Fr w' w2 [p.em]:=(Fr.refl _ _).grown h5 (fun g e=>.inl (by cases e;simp));refine⟨f.row hw.row (by simp;exact hw.apart.2.2.1),hw.objs.fr f (fun b hb hm=>hw.apart.2.1 (by rw[<-Zm.1 hm];exact hb)),⟨_,h4,h2.add sum xa xn hn⟩,aT hw.own f (fun g hg hm=>(hw.apart.2.2.2 g hg).2.1 (Zm.1 hm)),hw.apart,⟨hw.few.1,?_,hw.few.2.2⟩⟩;show(s.E++[(sum,xa,xn)]).length<=5000;simp;omega
 have HFin:Hid (∀(l:List Ln) (ok:Bool),((vw t=none/\ok=false/\l=[])\/(vw t=some l/\ok=true))->fA s sum t=(ok&&lX s.H l,if(ok&&lX s.H l && !(gQ s.E sum).isSome)=true then s.E++[(sum,sZ s.E l)] else s.E)):=fun l ok h=>J6 h;obtain⟨R,HR⟩:∃R,Hid (fA s sum t=R):=⟨_,rfl⟩;rw[HR.out];generalize hta:((gQ s.E sum).getD (0,0)).1=ta at *;generalize htn:((gQ s.E sum).getD (0,0)).2=tn at *;generalize htb:(gQ s.E sum).isSome=tb at *;have Htb:Hid _:=htb;clear hta htn htb hsv;have Lv:=Fh t ht;have cD:Hid _:=Lv;clear Lv;have HS:Hid (∀w',Below w.heap.size w w'->aR w' p s):=fun w' hb=>h.below hb;have HE:Hid _:=hE;have hem:p.em<w.heap.size:=hpl _ (by simp[lH.blocks]);have hpq:p.q<w.heap.size:=h.row.lt;have Vs:Hid _:=hpl;clear h hE hpl;generalize Yh:bytes (af sum)=CK at *;have aay:CK.length=32:=by rw[<-Yh,dh _ hsum]
 clear Yh;go_enter func222,ntmps222;go_upto_region 1 with fail
 have WI:=ai.new w 121 CK;have hb0:Below w.heap.size w (w.alloc (.cells CK.toArray 121)):=(Zr).alloc (Zn) _;have hs0:(w.alloc (.cells CK.toArray 121)).heap.size=w.heap.size+1:=by simp
 generalize(w.alloc (.cells CK.toArray 121))=W0 at *;go_wp2_with(go_at_call 266;refine Calls.mono (cD.out W0) ?_;rintro e w1 ⟨⟨l,ok,ao,co,rfl,Vq,hl,hll,hor⟩,hb1⟩);have HOR:Hid _:=HFin.out l ok hor;have HT:Hid (∀j,(ok&&lX s.H (l.take j))=true):=fun j=>by
  have h1:=hok;rw[HOR.out] at h1;have h1:(ok&&lX s.H l)=true:=h1;rw[Bool.and_eq_true] at h1⊢;refine⟨h1.1,?_⟩;have h2:=h1.2;unfold lX at h2⊢;rw[all_eq_true] at h2⊢;exact fun x hx=>h2 x (mem_of_mem_take hx)
 clear hok;clear HFin hor cD;have HL:Hid _:=hl;have r9':=ai.new w1 346 [.int .i64 0,.int .i64 0];have hbW:Below w.heap.size w (w1.alloc (.cells #[.int .i64 0,.int .i64 0] 346)):=(hb0.trans (hb1.mono hb0.size)).alloc (Nat.le_trans hb0.size hb1.size) _;have hb1a:Below W0.heap.size W0 (w1.alloc (.cells #[.int .i64 0,.int .i64 0] 346)):=hb1.alloc hb1.size _;have r4W:=WI.below hb1a WI.lt;have Vj:(w1.alloc (.cells #[.int .i64 0,.int .i64 0] 346)).ownsRow W0.heap.size 353 34 (.slice ao l.length co) l.length (fO l):=World.ownsRow.alloc Vq _;have h19:w1.heap.size<(w1.alloc (.cells #[.int .i64 0,.int .i64 0] 346)).heap.size:=by simp
 have hl1:W0.heap.size<=w1.heap.size:=hb1.size;have hOg:∀g,(Value.slice ao l.length co).ownBlock=some g->g<w1.heap.size:=fun g hg=>vW Vq g hg;generalize(w1.alloc (.cells #[.int .i64 0,.int .i64 0] 346))=W at *;have Yg:Hid _:=hbW;have R4:Hid _:=r4W;have HO:Hid _:=Vj;have HOg:Hid _:=hOg;have R9:Hid _:=r9';have hWs:w.heap.size<=W.heap.size:=hbW.size;clear hbW WI r4W Vj hOg r9' hb1a Vq hl hb0 hb1;generalize w1.heap.size=B9 at *;have HMm:Hid (∀w',aR w' p s->w'.rangeAt p.q 0 (aG p.ms)):=fun w' hw=>hw.maps;have hiM:(prog.info? 114).map (·.size)=some (aG p.ms).length:=by simp only[aG,length_map,hms];kernel_rfl
 have cHas:Hid (∀(k:Nat) (c:Zy) w',k<4->c.size=32->aR w' p s->Zc 219 #[.agg (aG p.ms).toArray,.int .u8 (k:Nat),.agg (bytes (af c)).toArray] w' fun e w2=>e=.returned (.bool (hasO s.H k c))/\Below w'.heap.size w' w2):=fun k c w' hk hc hw=>AA hw.objs k hk c hc;have Hlk9:Hid (∀(c:Zy) w',c.size=32->aR w' p s->(Instr.lookup 167 (.map (some p.em)) (.agg (bytes (af c)).toArray) false).run prog w'=.ok (.agg #[.int .i64 (((gQ s.E c).getD (0,0)).1:Nat),.int .i64 (((gQ s.E c).getD (0,0)).2:Nat)]) w'):=fun c w' hc hw=>by
  obtain⟨D,h1,h2⟩:=hw.ext;exact Fg h1 h2 c hc
 have hB9:w.heap.size<=B9:=by omega
 generalize hM:aG p.ms=M at *;clear hM;go_loopw [8,23] (fun ov iv wr=>∃j:Nat,j<=l.length/\iv=.int .i64 j/\ov=.bool (ok&&lX s.H (l.take j))/\Hid (ai wr B9 346 [.int .i64 ((iG s.E (l.take j)).1:Nat),.int .i64 ((iG s.E (l.take j)).2:Nat)])/\Hid (Fr W wr [B9])) (fun _ iv _=>l.length-(intOf iv).toNat)
 case atStart=>exact⟨0,by omega,rfl,by simp[lX],R9.out,Fr.refl _ _⟩
 case round=>
  obtain⟨j,hj,rfl,rfl,Yi,HF⟩:=hrel;have hlw:W.heap.size<=wr.heap.size:=HF.out.size;by_cases hlt:j<l.length
  ·have i0:(0:Int)<=(j:Int):=by omega
   have i1:(j:Int)<(l.length:Int):=by omega
   obtain⟨g,rfl,hbg,hgl,hrg⟩:=dH HO.out (by omega);have hg9:g<B9:=HOg.out g rfl;have hx:=(HL.out l[j] (Zg hlt)).1;have Mw:Hid (wr.rangeAt g (j*34) l[j].cells):=fun k v hv=>by
    rw[<-iB _ 34 (fun x hx=>j5 x (HL.out x hx).1) hrg j hlt k v hv];exact World.cell?_of_block (HF.out.block _ hgl (by simp;omega))
   have jR:(prog.info? 353).map (·.size)=some l[j].cells.length:=by rw[j5 _ hx];kernel_rfl
   have vv:(au ⟨#[]⟩ false (aI 32)).toArray.size=l[j].cells.toArray.size:=(Eq.trans (b:=34) rfl (j5 _ hx).symm);have om:=vI l[j];have hsucc:Hid (lX s.H (l.take (j+1))=(lX s.H (l.take j)&&hasO s.H (sH l[j]) l[j].sum)):=by
    show lX _ _=_;unfold lX;rw[<-take_append_getElem hlt,all_append];simp
   have hext:Hid (iG s.E (l.take (j+1))=mW s.E (iG s.E (l.take j)) l[j]):=by
    show iG _ _=_;rw[<-take_append_getElem hlt,J5]
   have hxd:=(zh HE.out (l.take j));have hxl:(l.take j).length<=16:=by rw[length_take];omega
   have hel:=Pe HE.out l[j];have hiCS:(prog.info? 121).map (·.size)=some (bytes (af l[j].sum)).length:=by rw[dh _ hx];kernel_rfl
   have cK:Hid (∀w,Zc 267 #[.agg l[j].cells.toArray] w fun e w'=>e=.returned (.int .u8 (sH l[j]:Nat))/\Below w.heap.size w w'):=fun w=>QK l[j] hx w;have cH:Hid (∀w',aR w' p s->Zc 219 #[.agg M.toArray,.int .u8 (sH l[j]:Nat),.agg (bytes (af l[j].sum)).toArray] w' fun e w2=>e=.returned (.bool (hasO s.H (sH l[j]) l[j].sum))/\Below w'.heap.size w' w2):=fun w' hw=>cHas.out (sH l[j]) l[j].sum w' (by unfold sH;split<;>omega) hx hw;have hlk:Hid (∀w',aR w' p s->(Instr.lookup 167 (.map (some p.em)) (.agg (bytes (af l[j].sum)).toArray) false).run prog w'=.ok (.agg #[.int .i64 (((gQ s.E l[j].sum).getD (0,0)).1:Nat),.int .i64 (((gQ s.E l[j].sum).getD (0,0)).2:Nat)]) w'):=fun w' hw=>Hlk9.out l[j].sum w' hx hw;have hCS:Hid (∀(w':World) (b:Nat),w'.rangeAt b 0 l[j].cells->w'.cell? (Za b 1)=some (.bool l[j].dir)/\w'.rangeAt b 2 (bytes (af l[j].sum))):=fun w' b hr=>by
    refine⟨?_,fun k v hv=>?_⟩
    ·have:=hr 1 (.bool l[j].dir) rfl;simpa using this
    ·have:=hr (2+k) v (by unfold Ln.cells au;rw[show 2+k=k+1+1 by omega,getElem?_cons_succ,getElem?_cons_succ];exact hv)
     rwa [Nat.zero_add] at this
   have hstep:Hid (∀(d:Bool),l[j].dir=d->mW s.E (iG s.E (l.take j)) l[j]=(max (iG s.E (l.take j)).1 (1+(if d=true then((gQ s.E l[j].sum).getD (0,0)).1 else 0)),(iG s.E (l.take j)).2+(1+(if d=true then((gQ s.E l[j].sum).getD (0,0)).2 else 0)))):=fun d hd=>by
    subst hd;unfold mW M8;cases l[j].dir<;>rfl
   have helt:l[j].dir=true->((gQ s.E l[j].sum).getD (0,0)).1<=s.E.length/\((gQ s.E l[j].sum).getD (0,0)).2<=257:=fun hd=>by
    have:=hel;unfold M8 at this;rw[if_pos hd] at this;exact this
   clear hel;have HTj:Hid ((ok&&lX s.H (l.take j))=true):=HT.out j;generalize M9:((gQ s.E l[j].sum).getD (0,0)).1=ea at *;generalize hen:((gQ s.E l[j].sum).getD (0,0)).2=en at *;generalize hxd1:(iG s.E (l.take j)).1=xa at *;generalize Ww:(iG s.E (l.take j)).2=xn at *;generalize hhv:hasO s.H (sH l[j]) l[j].sum=hv at *;generalize hkv:sH l[j]=kv at *;generalize hdv:l[j].dir=dv at *;generalize hCSe:bytes (af l[j].sum)=CS at *;generalize hCe:l[j].cells=C at *;generalize hda:lX s.H (l.take j)=av at *;clear M9 hen hxd1 Ww hhv hkv hCSe hCe hda Hlk9 cHas;have HS2:Hid _:=hsucc;have Yj:Hid _:=hext;clear hsucc hext;go_wp2_with(first
    | (refine wpList_load_mid rfl 353 _ rfl g (j*34) rfl C _ Mw.out underlying353 rfl jR ?_)
    | (refine aJ rfl 353 _ _ rfl wr.heap.size _ C.toArray rfl rfl rfl jR vv om ?_))
   have HF2':Fr W (wr.alloc (.cells C.toArray 353)) [B9]:=HF.out.alloc _;have r11':=ai.new wr 353 C;have h29:ai (wr.alloc (.cells C.toArray 353)) B9 346 [Zi xa,Zi xn]:=Yi.out.below ((Zr).alloc (Zn) _) Yi.out.lt;generalize(wr.alloc (.cells C.toArray 353))=W2 at *;generalize wr.heap.size=B11 at *;have Yk:Hid _:=HF2';have R11:Hid _:=r11';have R29:Hid _:=h29;clear HF2' r11' h29;have Yl:aR W2 p s:=HS.out _ (qN Yg.out Yk.out hB9);have Eb:Hid _:=Yl;clear Yl;have g1:W2.rangeAt p.q 0 M:=HMm.out _ Eb.out;have g2:W2.rangeAt B11 0 C:=fun i v hv=>by rw[Nat.zero_add];exact(R11.out.cell i).trans hv
   have g3:=(hCS.out W2 B11 g2).2;have hqW2:p.q<W2.heap.size:=Eb.out.row.lt;have close:∀(o2:Bool) (W4:World),o2=(ok&&av&&hv)->ai W4 B9 346 [.int .i64 ((max xa (1+(if dv=true then ea else 0)):Nat):Nat),.int .i64 ((xn+(1+(if dv=true then en else 0)):Nat):Nat)]->Fr W W4 [B9]->(∃WH:Nat,WH<=l.length/\Value.int .i64 ((j:Int)+1)=(Zi WH)/\Value.bool o2=.bool (ok&&lX s.H (l.take WH))/\Hid (ai W4 B9 346 [.int .i64 ((iG s.E (l.take WH)).1:Nat),.int .i64 ((iG s.E (l.take WH)).2:Nat)])/\Hid (Fr W W4 [B9]))/\l.length-(intOf (Value.int .i64 ((j:Int)+1))).toNat<l.length-(intOf (Value.int .i64 (j:Int))).toNat:=fun o2 W4 ho hr hf=>by
    refine⟨⟨j+1,by omega,rfl,?_,?_,hf⟩,?_⟩
    ·rw[HS2.out,ho,Bool.and_assoc]
    ·show ai _ _ _ _;rw[Yj.out,hstep.out dv rfl];exact hr
    ·show l.length-((j+1:Nat):Int).toNat<l.length-(j:Int).toNat;omega
   have sG:Hid _:=close;clear close HS2 Yj;cases hoa:(ok&&av) with
   | false=>
    have:=HTj.out;rw[hoa] at this;cases this
   | true=>
    rw[hoa] at sG;go_wp2;refine bF ?_;refine wp_region_held_drew (S:=fun w'=>Below W2.heap.size W2 w') (by kernel_rfl) (Zr).drew (fun ah=>?_);refine Zt 0 (.bool true) ?_;refine Zt 1 (.bool true) ?_;refine Zt 2 (Zp p.q) ?_;refine Zt 3 (Zp p.q) ?_;refine Zt 4 (Zp p.q) ?_;refine Zt 5 (.agg (M).toArray) ?_ (hy:=yieldsIf_load_mid (by rfl) _ _ rfl (p.q) (0) rfl M _ (fun w h=>aU g1 hqW2 h) underlying114 rfl hiM);refine Zt 6 (.agg (C).toArray) ?_ (hy:=yieldsIf_load_mid (by rfl) _ _ rfl (B11) (0) rfl C _ (fun w h=>aU g2 R11.out.lt h) underlying353 rfl jR);refine Zt 8 (.pointer (some (Za B11 2))) ?_;refine Zt 9 (.agg (CS).toArray) ?_ (hy:=yieldsIf_load_mid (by rfl) _ _ rfl (B11) (2) rfl CS _ (fun w h=>aU g3 R11.out.lt h) underlying121 rfl hiCS);refine Zh 7 fun K hK=>?_;go_simp;go_at_call 267;refine Calls.mono (cK.out _) ?_;rintro e wk ⟨rfl,hbk⟩;refine hK.out _ _ (ah.trans (hbk.mono ah.size)) (fun ah=>?_);clear hK K;(try simp only[Act.put,lA,lZ,lS]);refine Zh 10 fun K hK=>?_;go_simp;go_at_call 219;refine Calls.mono (cH.out _ (Eb.out.below ah)) ?_;rintro e wh ⟨rfl,Pf⟩;refine hK.out _ _ (ah.trans (Pf.mono ah.size)) (fun ah=>?_);clear hK K;(try simp only[Act.put,lA,lZ,lS]);refine Zt 11 (.bool hv) ?_;refine Zh 12 fun K hK=>?_;go_simp;refine hK.out _ _ (ah) (fun ah=>?_);clear hK K;(try simp only[Act.put,lA,lZ,lS]);refine Zx ?_;simp only[At];have hB3:Below W2.heap.size W2 wh:=ah;clear ah;generalize wh=Wx at *;have F3:Fr W (Wx.alloc (.cells #[.int .i64 0,.int .i64 0] 346)) [B9]:=(Yk.out.trans (Fr.of_below hB3 [B9]) (fun x hx _=>hx)).alloc _;have hB3a:Below W2.heap.size W2 (Wx.alloc (.cells #[.int .i64 0,.int .i64 0] 346)):=hB3.alloc hB3.size _;have e1:Wx.cell? (Za B11 1)=some (.bool dv):=(hCS.out Wx B11 (aU g2 R11.out.lt hB3)).1;have r9a:=R29.out.below hB3a R29.out.lt;have r12:=ai.new Wx 346 [.int .i64 0,.int .i64 0];have hg3:(Wx.alloc (.cells #[.int .i64 0,.int .i64 0] 346)).rangeAt B11 2 CS:=aU g3 R11.out.lt hB3a;have Qe:B11<Wx.heap.size:=Nat.lt_of_lt_of_le R11.out.lt hB3.size;have hB9x:B9<Wx.heap.size:=Nat.lt_of_lt_of_le R29.out.lt hB3.size;have hwx:w.heap.size<=Wx.heap.size:=by omega
    have e1a:(Wx.alloc (.cells #[.int .i64 0,.int .i64 0] 346)).cell? (Za B11 1)=some (.bool dv):=by rw[World.cell?_alloc_lt _ _ _ Qe];exact e1
    go_upto_region 8 with fail
    have n912:B9≠Wx.heap.size:=by omega
    have aaz:B11≠Wx.heap.size:=by omega
    have l11:B11<(Wx.alloc (.cells #[.int .i64 0,.int .i64 0] 346)).heap.size:=by simp;omega
    generalize(Wx.alloc (.cells #[.int .i64 0,.int .i64 0] 346))=W3 at *;generalize Wx.heap.size=J7 at *;have z0:W3.cell? (Za B9 0)=some (Zi xa):=r9a.cell 0;have z1:W3.cell? (Za B9 1)=some (Zi xn):=r9a.cell 1;have z2:=r9a.frozen 0;have z3:=r9a.frozen 1;have c0:W3.cell? (Za J7 0)=some (.int .i64 0):=r12.cell 0;have c1:W3.cell? (Za J7 1)=some (.int .i64 0):=r12.cell 1;have c2:=r12.frozen 0;have c3:=r12.frozen 1;cases dv with
    | false=>
     go_wp2;have r9f:=r9a;have F5:=F3;have hr:=(r9f.set 0 (.int .i64 (max (xa:Int) (1+(0:Int))))).set 1 (.int .i64 ((xn:Int)+(1+(0:Int))));refine sG.out _ _ rfl ?_ ?_
     ·rw[if_neg (by simp),if_neg (by simp),show((max xa (1+0):Nat):Int)=max (xa:Int) (1+(0:Int)) by omega,show((xn+(1+0):Nat):Int)=(xn:Int)+(1+(0:Int)) by omega];exact hr
     ·exact(F5.setCell _ _ (.inl (by simp))).setCell _ _ (.inl (by simp))
    | true=>
     have hel:=helt rfl;have HSc3:Hid (∀w',Fr W3 w' [J7]->aR w' p s):=fun w' hf=>HS.out _ (qN (qN Yg.out F3 hB9) hf (by omega));have HR3:Hid (∀w',Fr W3 w' [J7]->w'.rangeAt B11 2 CS):=fun w' hf k v hv=>(World.cell?_of_block (hf.block B11 l11 (by simp;exact aaz))).trans (hg3 k v hv);go_wp2;refine bF ?_;refine wp_region_held_drew (S:=fun w'=>Fr W3 w' [J7]) (by kernel_rfl) (Fr.refl _ _).drew (fun ah=>?_);refine Zt 0 (Zp p.q) ?_;refine Zt 1 (Zp p.q) ?_;refine Zt 2 (.pointer (some (Za p.q 4))) ?_;refine Zt 3 (.map (some p.em)) ?_ (hy:=Or.inl ⟨by rfl,by intro w hSw;have h1:=(HSc3.out _ hSw).em_;go_simp⟩);refine Zt 4 (.pointer (some (Za B11 2))) ?_;refine Zt 5 (.agg (CS).toArray) ?_ (hy:=yieldsIf_load_mid (by rfl) _ _ rfl (B11) (2) rfl CS _ (fun w h=>HR3.out _ h) underlying121 rfl hiCS);refine Zt 6 (.agg #[Zi ea,Zi en]) ?_ (hy:=Or.inl ⟨by rfl,by intro w hSw;unfold execOp;simp only[Sem.run_bind];erw[hlk.out _ (HSc3.out _ hSw)];rfl⟩);refine Zh 7 fun K hK=>?_;refine step_skip rfl (w':=(W3.drew.setCell (Za J7 0) (Zi ea)).setCell (Za J7 1) (Zi en)) (by go_simp) ?_;refine hK.out _ _ ((ah.setCell _ _ (.inl (by simp))).setCell _ _ (.inl (by simp))) (fun ah=>?_);clear hK K
     try simp only[Act.put]
     refine Zx ?_;simp only[At];have r12f:=(r12.drew.set 0 (Zi ea)).set 1 (Zi en);have r9f:=(r9a.drew.other (a:=(Za J7 0)) (Zi ea) n912).other (a:=(Za J7 1)) (Zi en) n912;have F5:Fr W ((W3.drew.setCell (Za J7 0) (Zi ea)).setCell (Za J7 1) (Zi en)) [B9]:=(F3.drew.setCell _ _ (.inr (by show W.heap.size<=J7;omega))).setCell _ _ (.inr (by show W.heap.size<=J7;omega));clear z0 z1 z2 z3 c0 c1 c2 c3;generalize((W3.drew.setCell (Za J7 0) (Zi ea)).setCell (Za J7 1) (Zi en))=W5 at *;have z0:W5.cell? (Za B9 0)=some (Zi xa):=r9f.cell 0;have z1:W5.cell? (Za B9 1)=some (Zi xn):=r9f.cell 1;have z2:=r9f.frozen 0;have z3:=r9f.frozen 1;have c0:W5.cell? (Za J7 0)=some (Zi ea):=r12f.cell 0;have c1:W5.cell? (Za J7 1)=some (Zi en):=r12f.cell 1;go_wp2;have hr:=(r9f.set 0 (.int .i64 (max (xa:Int) (1+(ea:Int))))).set 1 (.int .i64 ((xn:Int)+(1+(en:Int))));refine sG.out _ _ rfl ?_ ?_
     ·rw[if_pos trivial,if_pos trivial,show((max xa (1+ea):Nat):Int)=max (xa:Int) (1+(ea:Int)) by omega,show((xn+(1+en):Nat):Int)=(xn:Int)+(1+(en:Int)) by omega];exact hr
     ·exact(F5.setCell _ _ (.inl (by simp))).setCell _ _ (.inl (by simp))
  ·have i1:¬(j:Int)<(l.length:Int):=by omega
   rw[take_of_length_le (by omega)] at Yi⊢;have hx9:=zh HE.out l;obtain⟨xa,hxa⟩:∃xa,(iG s.E l).1=xa:=⟨_,rfl⟩;obtain⟨xm,hxm⟩:∃xm,(iG s.E l).2=xm:=⟨_,rfl⟩;have hEO:Hid (sZ s.E l=(xa,min xm 257)):=by show sZ _ _=_;unfold sZ;rw[hxa,hxm]
   rw[hxa,hxm] at Yi hx9;have z0:wr.cell? (Za B9 0)=some (Zi xa):=Yi.out.cell 0;have z1:wr.cell? (Za B9 1)=some (Zi xm):=Yi.out.cell 1;have z2:=Yi.out.frozen 1;generalize hdo:(ok&&lX s.H l)=ob at *;have hmn:min (xm:Int) 257=((min xm 257:Nat):Int):=by omega
   go_wp2
   try rw[hmn]
   have F4':Fr W (wr.setCell (Za B9 1) (.int .i64 ((min xm 257:Nat):Nat))) [B9]:=HF.out.setCell _ _ (.inl (by simp));have r9':=Yi.out.set 1 (.int .i64 ((min xm 257:Nat):Nat));generalize hxn:min xm 257=xn at *;have hSc4:aR (wr.setCell (Za B9 1) (Zi xn)) p s:=HS.out _ (qN Yg.out F4' hB9);have WI:ai (wr.setCell (Za B9 1) (Zi xn)) w.heap.size 121 CK:=F4'.row R4.out (by simp;omega);have k4:(wr.setCell (Za B9 1) (Zi xn)).rangeAt w.heap.size 0 CK:=fun i v hv=>by rw[Nat.zero_add];exact(WI.cell i).trans hv
   have h4lt:=WI.lt;have ab6:=r9'.lt;generalize(wr.setCell (Za B9 1) (Zi xn))=W4 at *;have Hem:Hid _:=HOR;clear z0 z1 z2;refine bF ?_;refine wp_region_held_drew (S:=fun w'=>Below W4.heap.size W4 w') (by kernel_rfl) (Zr).drew (fun ah=>?_);refine Zt 0 (Zp p.q) ?_;refine Zt 1 (Zp p.q) ?_;refine Zt 2 (.pointer (some (Za p.q 4))) ?_;refine Zt 3 (.map (some p.em)) ?_ (hy:=Or.inl ⟨by rfl,by intro w hSw;have h1:=(hSc4.below hSw).em_;go_simp⟩);refine Zt 4 (.agg (CK).toArray) ?_ (hy:=yieldsIf_load_mid (by rfl) _ _ rfl (w.heap.size) (0) rfl CK _ (fun w h=>aU k4 h4lt h) underlying121 rfl mM);refine Zt 5 (.tuple #[.agg #[Zi ta,Zi tn],.bool tb]) ?_ (hy:=Or.inl ⟨by rfl,by intro w hSw;unfold execOp;simp only[Sem.run_bind];erw[aax.out _ (hSc4.below hSw)];rfl⟩);refine Zt 6 (.tuple #[.agg #[Zi ta,Zi tn],.bool tb]) ?_;refine Zt 7 (.agg #[Zi ta,Zi tn]) ?_;refine Zt 8 (.bool tb) ?_;refine Zh 9 fun K hK=>?_;refine aD rfl (v:=(Zp W4.drew.heap.size)) (w':=W4.drew.alloc (.cells #[.int .i64 0,.int .i64 0] 346)) (by go_simp) ?_;refine hK.out _ _ (ah.alloc ah.size _) (fun ah=>?_);clear hK K;(try simp only[Act.put,lA,lZ,lS]);refine Zh 10 fun K hK=>?_;refine step_skip rfl (w':=W4.drew.alloc (.cells #[Zi ta,Zi tn] 346)) (by go_simp) ?_;refine hK.out _ _ (((Zr).drew).alloc (Zn) _) (fun ah=>?_);clear hK K
   try simp only[Act.put]
   refine Zh 11 fun K hK=>?_;go_simp;refine hK.out _ _ (ah) (fun ah=>?_);clear hK K;(try simp only[Act.put,lA,lZ,lS]);refine Zx ?_;simp only[At];have hb6:Below W4.heap.size W4 (W4.alloc (.cells #[Zi ta,Zi tn] 346)).drew:=((Zr).alloc (Zn) _).drew;have BI:=hSc4.below hb6;have k6:=aU k4 h4lt hb6;have r9b:=r9'.below hb6 r9'.lt;have F6:Fr W (W4.alloc (.cells #[Zi ta,Zi tn] 346)).drew [B9]:=F4'.trans (Fr.of_below hb6 [B9]) (fun x hx _=>hx);have hs6:=hb6.size;clear ah;generalize(W4.alloc (.cells #[Zi ta,Zi tn] 346)).drew=W6 at *;have hw6:Below w.heap.size w W6:=qN Yg.out F6 hB9;have h6lt:w.heap.size<W6.heap.size:=by omega
   have h9lt:B9<W6.heap.size:=by omega
   have HK:Hid (R=(ob,if(ob && !tb)=true then s.E++[(sum,sZ s.E l)] else s.E)):=HR.out.symm.trans HOR.out;have Ym:Hid ((ob && !tb)=false->(Ending.returned (.bool ob)=.returned (.bool R.1)/\aR W6 p (s.withE R.2)/\Fr w W6 p.blocks)):=fun hn=>by
    have e:=HK.out;rw[if_neg (by rw[hn];simp)] at e;rw[e];exact⟨rfl,BI,Fr.of_below hw6 _⟩
   cases ob with
   | false=>
    go_wp2;go_ret;exact Ym.out rfl
   | true=>
    cases tb with
    | true=>
     go_wp2;go_ret;exact Ym.out rfl
    | false=>
     have hn:gQ s.E sum=none:=by have:=Htb.out;simpa using this
     obtain⟨w7,hup,hgr,hSc7⟩:=Hput.out W6.drew xa xn (BI.below (Zr).drew);have aaA:=hSc7 hn;have k9:W6.rangeAt B9 0 [Zi xa,Zi xn]:=fun i v hv=>by rw[Nat.zero_add];exact(r9b.cell i).trans hv
     have Na:(prog.info? 346).map (·.size)=some [Zi xa,Zi xn].length:=by kernel_rfl
     have Hf:Hid (Ending.returned (.bool true)=.returned (.bool R.1)/\aR w7 p (s.withE R.2)/\Fr w w7 p.blocks):=by
      have e:=HK.out;rw[show(if(true && !false)=true then s.E++[(sum,sZ s.E l)] else s.E)=s.E++[(sum,sZ s.E l)] from rfl,hEO.out] at e;rw[e];exact⟨rfl,aaA,(Fr.of_below hw6 p.blocks).drew.grown hgr (fun g e=>.inl (by cases e;simp[lH.blocks]))⟩
     go_wp2;refine bF ?_;refine wp_region_held_drew (S:=fun w'=>Fr W6 w' [p.em]) (by kernel_rfl) (Fr.refl _ _).drew (fun ah=>?_);refine Zt 0 (Zp p.q) ?_;refine Zt 1 (Zp p.q) ?_;refine Zt 2 (.pointer (some (Za p.q 4))) ?_;refine wpAnyH_take (i:=3) (oi:=⟨some 85,.load 167 (.tmp 84),_,_,_,none⟩) (v:=.map (some p.em)) rfl (by kernel_rfl) (by kernel_rfl) (by kernel_rfl) (fun _ _ _ h=>h) (Or.inl ⟨by rfl,by intro w hSw;have h1:=(World.cell?_of_block (hSw.block p.q BI.row.lt (by simp;exact BI.apart.2.2.1))).trans BI.em_;go_simp⟩) ah ?_;simp only[Act.put,lA,lZ,lS];refine Zt 4 (.agg (CK).toArray) ?_ (hy:=yieldsIf_load_mid (by rfl) _ _ rfl (w.heap.size) (0) rfl CK _ (fun w h=>iC k6 h6lt h (by simp;omega)) underlying121 rfl mM);refine Zt 5 (.agg ([Zi xa,Zi xn]).toArray) ?_ (hy:=yieldsIf_load_mid (by rfl) _ _ rfl (B9) (0) rfl [Zi xa,Zi xn] _ (fun w h=>iC k9 h9lt h (by simp;omega)) underlying346 rfl Na);refine Zh 6 fun K hK=>?_;refine step_skip rfl (w':=w7) (by unfold execOp;simp only[Sem.run_bind];erw[hup];rfl) ?_;refine hK.out _ _ ((Fr.refl _ _).drew.grown hgr (fun g e=>.inl (by cases e;simp))) (fun ah=>?_);clear hK K
     try simp only[Act.put]
     refine Zx ?_;simp only[At];go_wp2;go_ret;exact Hf.out
def fo(s:Sc)(t:Zy):Option (Zy × Zy):=
 if Gj t=true/\kR t 4=s.I.length+1/\hasO s.H 3 (aW (t.extract 4 t.size))=true/\((gQ s.E (aW (t.extract 4 t.size))).getD (0,0)).1<=8/\((gQ s.E (aW (t.extract 4 t.size))).getD (0,0)).2<=256
 then some (aW (t.extract 4 t.size),t.extract 36 t.size) else none
def Sc.withI(s:Sc)(x:Option (Zy × Zy)):Sc:=match x with
 | none=>s
 | some x=>{s with I:=s.I++[x]}
structure lH.Turn(w:World)(p p':lH):Prop where
 q:p'.q=p.q
 em:p'.em=p.em
 ms:p'.ms=p.ms
 sub:∀b∈p'.blocks,b∈p.blocks\/w.heap.size<=b
theorem lH.Turn.refl(w:World)(p:lH):lH.Turn w p p:=⟨rfl,rfl,rfl,fun _ h=>.inl h⟩
def xX(w:World)(p:lH)(s:Sc)(x:Option (Zy × Zy))(e:Ending)(w':World):Prop:=∃p',lH.Turn w p p'/\e=.returned (.bool x.isSome)/\aR w' p' (s.withI x)/\Fr w w' p.blocks
theorem tq(I:List (Zy × Zy))(x:Zy × Zy):bG (I++[x])=bG I++aH (I.length+1) x.1 x.2:=by
 unfold bG;rw[zipIdx_append];simp
theorem uT{P:Program}{a:Act}{o:Oper}{x:Operand}(ho:o.op=.load ty x)(hx:a.eval x=u)(hr:(Instr.loadAt ty u).run P w=.ok v w):(execOp a.eval o).run P w=.ok (.value v) w:=by
 unfold execOp;simp only[ho,hx,Sem.run_bind,Result.andThen_ok,hr,Sem.run_pure]
theorem BJ:(prog.info? 123).map (fun i=>(i.zero,i.size,i.bytes))=some (some (.agg (aH 0 (aI 32) ⟨#[]⟩).toArray),34,56):=by kernel_rfl
theorem ou{root:Zy}(h:root.size=32)(n:Nat)(label:Zy):(aH n root label).length=34:=by
 unfold aH;rw[length_cons,length_append,aF,aM,h];rfl
theorem GN(n:Nat)(root label:Zy):(aH n root label).toArray.all (·.oneCell')=true:=by
 unfold aH;rw[all_toArray,all_cons,all_append];have:=bY (af root);rw[all_toArray] at this;rw[this];rfl
theorem BK(h:aR w p s)(hI:s.I.length<=4900)(t:Zy)(hok:Gj t=true)(htk:(fo s t).isSome=true):
  Zc 152 #[Zp p.q,.string t] w (xX w p s (fo s t)):=by
 have hs36:36<=t.size/\t.size<=56:=by unfold Gj at hok;simp at hok;omega
 have hroot:(aW (t.extract 4 t.size)).size=32:=by unfold aW;rw[ByteArray.size_extract,ByteArray.size_extract];omega
 have cS':=Gl t hs36.1 hs36.2 w;have hFt:Hid (fo s t=if kR t 4=s.I.length+1/\hasO s.H 3 (aW (t.extract 4 t.size))=true/\((gQ s.E (aW (t.extract 4 t.size))).getD (0,0)).1<=8/\((gQ s.E (aW (t.extract 4 t.size))).getD (0,0)).2<=256 then some (aW (t.extract 4 t.size),t.extract 36 t.size) else none):=by
  show fo s t=_;unfold fo;simp only[hok,true_and]
 generalize aW (t.extract 4 t.size)=root at *;generalize t.extract 36 t.size=label at *;have JY:kR t 4<4294967296:=Aq t 4 (by omega);generalize kR t 4=num at *;obtain⟨R,HR⟩:∃R,Hid (fo s t=R):=⟨_,rfl⟩;have AB:Hid (R.isSome=true):=by rw[<-HR.out];exact htk
 rw[HR.out];have Nb:Hid _:=HR.out.symm.trans hFt.out;have cH:Hid (∀w',aR w' p s->Zc 219 #[.agg (aG p.ms).toArray,.int .u8 3,.agg (bytes (af root)).toArray] w' fun e w2=>e=.returned (.bool (hasO s.H 3 root))/\Below w'.heap.size w' w2):=fun w' hw=>AA hw.objs 3 (by omega) root hroot;have Hlk:Hid (∀w',aR w' p s->(Instr.lookup 167 (.map (some p.em)) (.agg (bytes (af root)).toArray) false).run prog w'=.ok (.agg #[.int .i64 (((gQ s.E root).getD (0,0)).1:Nat),.int .i64 (((gQ s.E root).getD (0,0)).2:Nat)]) w'):=fun w' hw=>by
  obtain⟨D,h1,h2⟩:=hw.ext;exact Fg h1 h2 root hroot
 have qy:(aH num root label).length=1*34:=ou hroot _ _;have jR:(prog.info? 123).map (·.size)=some (aH num root label).toArray.size:=o8 hroot _ _;have om:=GN num root label;have vv:(aH 0 (aI 32) ⟨#[]⟩).toArray.size=(aH num root label).toArray.size:=by rw[size_toArray,size_toArray,qy];rfl
 have Nc:(prog.info? 121).map (·.size)=some (bytes (af root)).length:=by rw[dh _ hroot];kernel_rfl
 have hGR:Hid (∀(w':World) (b:Nat),ai w' b 123 (aH num root label)->w'.cell? (Za b 0)=some (.int .u32 (num:Nat))/\w'.rangeAt b 1 (bytes (af root))):=fun w' b hr=>by
  refine⟨hr.cell 0,fun k v hv=>?_⟩;have hk:=(List.getElem?_eq_some_iff.1 hv).1;rw[hr.cell (1+k),aH,show 1+k=k+1 by omega,getElem?_cons_succ,getElem?_append_left hk];exact hv
 have hms:p.ms.length=4:=h.objs.len;have hiM:(prog.info? 114).map (·.size)=some (aG p.ms).length:=by simp only[aG,length_map,hms];kernel_rfl
 have HMm:Hid (∀w',aR w' p s->w'.rangeAt p.q 0 (aG p.ms)):=fun w' hw=>hw.maps;have HApp:Hid (num=s.I.length+1->bG (s.I++[(root,label)])=bG s.I++aH num root label):=fun e=>by rw[tq,e]
 generalize M9:((gQ s.E root).getD (0,0)).1=ea at *;generalize hen:((gQ s.E root).getD (0,0)).2=en at *;generalize hhv:hasO s.H 3 root=hv at *;generalize hCR:bytes (af root)=CR at *;generalize hCC:aH num root label=C at *;generalize Yn:aG p.ms=M at *;clear M9 hen hhv hCR hCC Yn;have HS:Hid (∀w',Below w.heap.size w w'->aR w' p s):=fun w' hb=>h.below hb;have hpq:p.q<w.heap.size:=h.row.lt;have Vs:Hid (∀b∈p.blocks,b<w.heap.size):=h.lt;have HNo:Hid (R=none->∀w',Below w.heap.size w w'->xX w p s R (.returned (.bool false)) w'):=fun e w' hb=>by rw[e];exact⟨p,lH.Turn.refl _ _,rfl,h.below hb,Fr.of_below hb _⟩
 have cS:Hid _:=cS';clear cS' h;obtain⟨i0,hi0,hz0,hz1,hz2⟩:=info_parts BJ;go_enter func152,ntmps152;go_wp2_with(first
  | (go_at_call 218;refine Calls.mono cS.out ?_;rintro e w1 ⟨rfl,hb1⟩)
  | (refine aJ rfl 123 _ _ rfl w1.heap.size _ C.toArray rfl rfl rfl jR vv om ?_))
 have hb2:Below w.heap.size w (w1.alloc (.cells C.toArray 123)):=hb1.alloc hb1.size _;have r5:=ai.new w1 123 C;have hl1:=hb1.size;generalize(w1.alloc (.cells C.toArray 123))=W at *;generalize w1.heap.size=B5 at *;have WJ:aR W p s:=HS.out _ hb2;have l5:=r5.lt;obtain⟨c50,gR⟩:=hGR.out _ _ r5;have gM:W.rangeAt p.q 0 M:=HMm.out _ WJ;have lq:p.q<W.heap.size:=WJ.row.lt;have hWl:=hb2.size;by_cases hne:num=s.I.length+1
 ·have hneq:¬(num:Int)≠(s.I.length:Int)+1:=by omega
  refine bF ?_;refine wp_region_held_drew (S:=fun w'=>Below W.heap.size W w') (by kernel_rfl) (Zr).drew (fun ah=>?_);refine Zt 0 (.bool true) ?_;refine Zt 1 (.bool false) ?_;refine Zt 2 (.bool false) ?_;refine Zt 3 (Zp B5) ?_;refine wpAnyH_take (i:=4) (oi:=⟨some 17,.load 81 (.tmp 16),_,_,_,some (2,false)⟩) (v:=.int .u32 (num:Nat)) rfl (by kernel_rfl) (by kernel_rfl) (by kernel_rfl) (fun _ _ _ h=>h) (Or.inl ⟨by rfl,by intro w hSw;have h1:=(World.cell?_of_block (hSw.block B5 l5)).trans c50;go_simp⟩) ah ?_;simp only[Act.put,lA,lZ,lS];refine Zt 5 (Zp p.q) ?_;refine Zt 6 (Zp p.q) ?_;refine Zt 7 (.pointer (some (Za p.q 5))) ?_;refine Zt 8 (.slice p.ao s.I.length p.co) ?_ (hy:=Or.inl ⟨by rfl,by intro w hSw;have h1:=(WJ.below hSw).sl;go_simp⟩);refine Zt 9 (Zi s.I.length) ?_;refine Zt 10 (.int .i64 ((s.I.length:Int)+1)) ?_ (hy:=Or.inl ⟨by rfl,by intro w hSw;go_simp;rw[IntKind.wrap_i64];omega⟩);refine Zt 11 (.int .u32 ((s.I.length:Int)+1)) ?_ (hy:=Or.inl ⟨by rfl,by intro w hSw;go_simp;rw[IntKind.wrap_u32];omega⟩);refine Zt 12 (.bool false) ?_;refine Zt 13 (.bool false) ?_;refine Zt 14 (.bool false) ?_;refine Zt 15 (Zp p.q) ?_;refine Zt 16 (Zp p.q) ?_;refine Zt 17 (Zp p.q) ?_;refine Zt 18 (.agg (M).toArray) ?_ (hy:=yieldsIf_load_mid (by rfl) _ _ rfl (p.q) (0) rfl M _ (fun w h=>aU gM lq h) underlying114 rfl hiM);refine Zt 19 (.pointer (some (Za B5 1))) ?_;refine Zt 20 (.agg (CR).toArray) ?_ (hy:=yieldsIf_load_mid (by rfl) _ _ rfl (B5) (1) rfl CR _ (fun w h=>aU gR l5 h) underlying121 rfl Nc);refine Zh 21 fun K hK=>?_;go_simp;go_at_call 219;refine Calls.mono (cH.out _ (WJ.below ah)) ?_;rintro e wh ⟨rfl,Pf⟩;refine hK.out _ _ (ah.trans (Pf.mono ah.size)) (fun ah=>?_);clear hK K;(try simp only[Act.put,lA,lZ,lS]);refine Zt 22 (.bool (!hv)) ?_;refine Zt 23 (.bool (!hv)) ?_;refine Zx ?_;simp only[At];have Eb:=WJ.below ah;have hb3:=hb2.trans (ah.mono hWl);have gR2:=aU gR l5 ah;have l52:=Nat.lt_of_lt_of_le l5 ah.size;have r52:=r5.below ah l5;clear ah Pf gR gM c50 lq;generalize wh=W2 at *;cases hv with
  | false=>
   have:=AB.out;rw[Nb.out,if_neg (fun h=>by cases h.2.1)] at this;cases this
  | true=>
   go_wp2;refine bF ?_;refine wp_region_held_drew (S:=fun w'=>Below W2.heap.size W2 w') (by kernel_rfl) (Zr).drew (fun ah=>?_);refine Zt 0 (Zp p.q) ?_;refine Zt 1 (Zp p.q) ?_;refine Zt 2 (.pointer (some (Za p.q 4))) ?_;refine Zt 3 (.map (some p.em)) ?_ (hy:=Or.inl ⟨by rfl,by intro w hSw;have h1:=(Eb.below hSw).em_;go_simp⟩);refine Zt 4 (.pointer (some (Za B5 1))) ?_;refine Zt 5 (.agg (CR).toArray) ?_ (hy:=yieldsIf_load_mid (by rfl) _ _ rfl (B5) (1) rfl CR _ (fun w h=>aU gR2 l52 h) underlying121 rfl Nc);refine Zt 6 (.agg #[Zi ea,Zi en]) ?_ (hy:=Or.inl ⟨by rfl,by intro w hSw;unfold execOp;simp only[Sem.run_bind];erw[Hlk.out _ (Eb.below hSw)];rfl⟩);refine Zh 7 fun K hK=>?_;refine aD rfl (v:=(Zp W2.drew.heap.size)) (w':=W2.drew.alloc (.cells #[.int .i64 0,.int .i64 0] 346)) (by go_simp) ?_;refine hK.out _ _ (ah.alloc ah.size _) (fun ah=>?_);clear hK K;(try simp only[Act.put,lA,lZ,lS]);refine Zh 8 fun K hK=>?_;refine step_skip rfl (w':=W2.drew.alloc (.cells #[Zi ea,Zi en] 346)) (by go_simp) ?_;refine hK.out _ _ (((Zr).drew).alloc (Zn) _) (fun ah=>?_);clear hK K
   try simp only[Act.put]
   refine Zx ?_;simp only[At];have hb6:Below W2.heap.size W2 (W2.drew.alloc (.cells #[Zi ea,Zi en] 346)):=((Zr).drew).alloc (Zn) _;have e0:(W2.drew.alloc (.cells #[Zi ea,Zi en] 346)).cell? (Za W2.heap.size 0)=some (Zi ea):=(ai.new W2.drew 346 [Zi ea,Zi en]).cell 0;have e1:(W2.drew.alloc (.cells #[Zi ea,Zi en] 346)).cell? (Za W2.heap.size 1)=some (Zi en):=(ai.new W2.drew 346 [Zi ea,Zi en]).cell 1;have zi:=Eb.below hb6;have Vi:=hb3.trans (hb6.mono hb3.size);have r53:=r52.below hb6 l52;clear ah gR2 r52;generalize(W2.drew.alloc (.cells #[Zi ea,Zi en] 346))=W3 at *;by_cases h8:ea<=8
   ·have j8:¬(8:Int)<(ea:Int):=by omega
    by_cases h256:en<=256
    ·have j9:¬(256:Int)<(en:Int):=by omega
     have Yo:Hid (R=some (root,label)):=Nb.out.trans (if_pos ⟨by first|exact hne|rfl,by first|rfl|trivial,h8,h256⟩);have Yp:=zi.below (Zr).drew;have Ud:=Yp.sl;have zk:=Yp;have hne5:∀b:Nat,b=p.q->some b≠(Value.slice p.ao s.I.length p.co).ownBlock:=fun b hb e=>(zi.apart.2.2.2 b e.symm).1 hb;have hld:(Instr.loadAt 123 (Zp B5)).run prog W3.drew=.ok (.agg C.toArray) W3.drew:=run_loadAt_mid W3.drew B5 0 _ C _ (fun k v hv=>by rw[Nat.zero_add];exact(r53.drew.cell k).trans hv) underlying123 rfl jR;have xE:=fun w'=>bH (P:=prog) w' 115 123 underlying115 C i0 _ hi0 hz0 (by rw[hz1,qy]) (by omega) (by omega);have hbs:Hid _:=xE;clear xE;have Qn:∀u∈C,u.oneCell'=true:=fun u hu=>by rw[all_toArray,all_eq_true] at om;exact om u hu
     have hWl7:=Vi.size;have HD:Hid (∀(g cap:Nat) (w4:World),w4.ownsRow 0 123 34 (.slice (Zs g) (s.I.length+1) cap) (s.I.length+1) (bG s.I++C)->(W3.drew.alloc (.cells C.toArray 123)).grownBy w4 (Value.slice p.ao s.I.length p.co).ownBlock->((Value.slice p.ao s.I.length p.co).ownBlock=some g\/g=(W3.drew.alloc (.cells C.toArray 123)).heap.size)->xX w p s R (.returned (.bool true)) (w4.setCell (Za p.q 5) (.slice (Zs g) (s.I.length+1) cap))):=fun g cap w4 aY aN hat=>by
      have hgs:(W3.drew.alloc (.cells C.toArray 123)).heap.size=W3.heap.size+1:=by simp
      have f0:Fr W3 (W3.drew.alloc (.cells C.toArray 123)) []:=((Fr.refl W3 []).drew).alloc _;have hS4:=zi.fr f0 (by simp);have aaB:(Value.slice p.ao s.I.length p.co).ownBlock=some g->g≠p.q/\g≠p.em/\g∉p.ms:=zi.apart.2.2.2 g;have lt3:=zi.lt;have hq3:p.q<W3.heap.size:=lt3 _ (by simp[lH.blocks]);have he3:p.em<W3.heap.size:=lt3 _ (by simp[lH.blocks]);have Ls:g≠p.q/\g≠p.em/\g∉p.ms:=by
       rcases hat with e|e
       ·exact aaB e
       ·refine⟨by omega,by omega,fun hm=>?_⟩;have:=lt3 g (by simp[lH.blocks,hm]);omega
      have fg:Fr (W3.drew.alloc (.cells C.toArray 123)) w4 (Value.slice p.ao s.I.length p.co).ownBlock.toList:=(Fr.refl _ _).grown aN (fun k e=>.inl (Zo.2 e));have hnb:∀b,(b=p.q\/b=p.em\/b∈p.ms)->b∉(Value.slice p.ao s.I.length p.co).ownBlock.toList:=fun b hb hm=>by
       obtain⟨h1,h2,h3⟩:=zi.apart.2.2.2 b (Zo.1 hm);rcases hb with e|e|e
       ·exact h1 e
       ·exact h2 e
       ·exact h3 e
      have fq:Fr w4 (w4.setCell (Za p.q 5) (.slice (Zs g) (s.I.length+1) cap)) [p.q]:=(Fr.refl _ _).setCell _ _ (.inl (by simp));have zl:=fg.row hS4.row (hnb _ (.inl rfl));refine⟨{p with ao:=some (Za g 0),co:=cap},⟨rfl,rfl,rfl,fun b hb=>?_⟩,by rw[Yo.out];rfl,?_,?_⟩
      ·simp only[lH.blocks,Value.ownBlock,Option.toList_some,mem_append,mem_cons,cons_append,not_mem_nil,or_false] at hb⊢;rcases hb with e|e|e|e
       ·exact .inl (.inl e)
       ·exact .inl (.inr (.inl e))
       ·exact .inl (.inr (.inr (.inl e)))
       ·subst e;rcases hat with e|e
        ·exact .inl (.inr (.inr (.inr (Zo.2 ((bO p.ao 0 0 s.I.length p.co).trans e)))))
        ·exact .inr (by omega)
      ·rw[Yo.out];refine⟨?_,?_,?_,?_,?_,?_⟩
       ·have:=zl.set 5 (.slice (Zs g) (s.I.length+1) cap);have e:(p.cells s.I.length).set 5 (.slice (Zs g) (s.I.length+1) cap)=lH.cells {p with ao:=some (Za g 0),co:=cap} (s.I++[(root,label)]).length:=by
         unfold lH.cells;rw[set_append_right _ _ (by simp[aG,hms])];simp[aG,hms]
        rw[e] at this;exact this
       ·exact((hS4.objs.fr fg (fun b hb=>hnb b (.inr (.inr hb)))).fr fq (fun b hb hm=>zi.apart.1 (by rw[<-Zm.1 hm];exact hb)))
       ·obtain⟨D,h1,h2⟩:=hS4.ext;exact⟨D,(h1.fr fg (hnb _ (.inr (.inl rfl)))).fr fq (by simp;exact fun e=>zi.apart.2.2.1 e.symm),h2⟩
       ·show World.ownsRow _ 0 _ 34 (.slice (Zs g) (s.I++[(root,label)]).length cap) (s.I++[(root,label)]).length (bG (s.I++[(root,label)]));rw[HApp.out (by first|exact hne|rfl),length_append,length_singleton];exact aT aY fq (fun k hk hm=>by
         have e1:g=k:=by simpa [Value.ownBlock] using hk
         exact Ls.1 (e1.trans (Zm.1 hm)))
       ·refine⟨zi.apart.1,zi.apart.2.1,zi.apart.2.2.1,fun k hk=>?_⟩;have e1:g=k:=by simpa [Value.ownBlock] using hk
        rw[<-e1];exact Ls
       ·refine⟨zi.few.1,zi.few.2.1,?_⟩;show(s.I++[(root,label)]).length<=5000;simp;omega
      ·refine((((Fr.of_below Vi p.blocks).drew).alloc _).grown aN (fun k e=>.inl ?_)).setCell _ _ (.inl (by simp[lH.blocks]));simp only[lH.blocks,mem_append];refine .inr (Zo.2 ?_);rw[bO _ 0 0 s.I.length p.co];exact e
     go_wp2;refine bF ?_;refine wp_region_any (by kernel_rfl) ?_;show wpAny _ _ _ _ _ _ _ W3.drew;generalize hV:W3.drew=V at *;have hslA:(V.alloc (.cells C.toArray 123)).cell? (Za p.q 5)=some (.slice p.ao s.I.length p.co):=by rw[World.cell?_alloc_lt _ _ _ zk.row.lt];exact Ud
     refine Zv 0 (Zp p.q) ?_;refine Zv 1 (Zp p.q) ?_;refine Zv 2 (Zp p.q) ?_;refine Zv 3 (.pointer (some (Za p.q 5))) ?_;refine wpAny_ready (rs:=[4,5]) (by kernel_rfl) (by simp) ?_;refine AllReady.cons (o:=⟨some 56,.load 115 (.tmp 55),_,_,_,none⟩) rfl (fun K hK=>?_) (AllReady.cons (o:=⟨some 57,.load 123 (.tmp 5),_,_,_,none⟩) rfl (fun K hK=>?_) AllReady.nil);refine aD rfl (v:=.slice p.ao s.I.length p.co) (w':=V) (by go_simp) ?_;refine hK _ _ ?_;clear hK K;(try simp only[Act.put,lA,lZ,lS]);refine wpAny_ready (rs:=[5]) (by kernel_rfl) (by simp) ?_;refine AllReady.cons (o:=⟨some 57,.load 123 (.tmp 5),_,_,_,none⟩) rfl (fun K hK=>?_) AllReady.nil;refine aD rfl (v:=.agg C.toArray) (w':=V) (by refine uT (ty:=123) (x:=.tmp 5) (u:=(Zp B5)) ?_ ?_ hld<;>rfl) ?_;refine hK _ _ ?_;clear hK K;(try simp only[Act.put,lA,lZ,lS]);refine wpAny_ready (rs:=[6]) (by kernel_rfl) (by simp) ?_;refine AllReady.cons (o:=⟨some 58,.buildSlice 115 1 #[(0,.tmp 57)],_,_,_,none⟩) rfl (fun K hK=>?_) AllReady.nil;refine aD rfl (v:=.slice (Zs V.heap.size) 1 1) (w':=(V.alloc (.cells C.toArray 123))) (by exact aL 115 (.tmp 57) (by rfl) (.agg C.toArray) _ _ _ (by rfl) (hbs.out V)) ?_;rotate_left;refine aD rfl (v:=.agg C.toArray) (w':=V) (by refine uT (ty:=123) (x:=.tmp 5) (u:=(Zp B5)) ?_ ?_ hld<;>rfl) ?_;refine hK _ _ ?_;clear hK K;(try simp only[Act.put,lA,lZ,lS]);refine wpAny_ready (rs:=[4,6]) (by kernel_rfl) (by simp) ?_;refine AllReady.cons (o:=⟨some 56,.load 115 (.tmp 55),_,_,_,none⟩) rfl (fun K hK=>?_) (AllReady.cons (o:=⟨some 58,.buildSlice 115 1 #[(0,.tmp 57)],_,_,_,none⟩) rfl (fun K hK=>?_) AllReady.nil);refine aD rfl (v:=.slice p.ao s.I.length p.co) (w':=V) (by go_simp) ?_;refine hK _ _ ?_;clear hK K;(try simp only[Act.put,lA,lZ,lS]);refine wpAny_ready (rs:=[6]) (by kernel_rfl) (by simp) ?_;refine AllReady.cons (o:=⟨some 58,.buildSlice 115 1 #[(0,.tmp 57)],_,_,_,none⟩) rfl (fun K hK=>?_) AllReady.nil;refine aD rfl (v:=.slice (Zs V.heap.size) 1 1) (w':=(V.alloc (.cells C.toArray 123))) (by exact aL 115 (.tmp 57) (by rfl) (.agg C.toArray) _ _ _ (by rfl) (hbs.out V)) ?_;rotate_left;refine aD rfl (v:=.slice (Zs V.heap.size) 1 1) (w':=(V.alloc (.cells C.toArray 123))) (by exact aL 115 (.tmp 57) (by rfl) (.agg C.toArray) _ _ _ (by rfl) (hbs.out V)) ?_;refine hK _ _ ?_;clear hK K;(try simp only[Act.put,lA,lZ,lS]);refine wpAny_ready (rs:=[4]) (by kernel_rfl) (by simp) ?_;refine AllReady.cons (o:=⟨some 56,.load 115 (.tmp 55),_,_,_,none⟩) rfl (fun K hK=>?_) AllReady.nil;refine aD rfl (v:=.slice p.ao s.I.length p.co) (w':=(V.alloc (.cells C.toArray 123))) (by go_simp) ?_;rotate_left
     all_goals
      refine hK _ _ ?_;clear hK K;(try simp only[Act.put,lA,lZ,lS]);refine wpAny_ready (rs:=[7]) (by kernel_rfl) (by simp) ?_;refine AllReady.cons (o:=⟨some 59,.call {callee:=.builtin .append,args:=#[.tmp 56,.tmp 58],argTypes:=#[115,115]},_,_,_,none⟩) rfl (fun K hK=>?_) AllReady.nil;refine step_append_lies _ (by rfl) (.tmp 56) (.tmp 58) 115 (by rfl) 0 123 i0 _ 34 56 underlying115 hi0 hz0 hz1 hz2 (by rfl) (by decide) (.slice p.ao s.I.length p.co) s.I.length (bG s.I) (by rfl) (World.ownsRow.alloc zk.own _) (Za V.heap.size 0) 1 1 C (by rfl) qy (by exact World.news_of_block (cs:=C.toArray) (t:=123) (fr:=(0,0)) (heap_alloc_new V _)) Qn (by decide) (by unfold maxLen;omega) (by omega) (by omega) _ rfl ?_;intro g cap w4 aY aN hat hlt;refine hK _ _ ?_;clear hK K;(try simp only[Act.put,lA,lZ,lS]);refine Zv 8 (Zp p.q) ?_;refine Zv 9 (.pointer (some (Za p.q 5))) ?_;refine wpAny_ready (rs:=[10]) (by kernel_rfl) (by simp) ?_;refine AllReady.cons (o:=⟨none,.store 115 (.tmp 61) (.tmp 59),_,_,_,none⟩) rfl (fun K hK=>?_) AllReady.nil;have q5:w4.cell? (Za p.q 5)=some (.slice p.ao s.I.length p.co):=by rw[aN.cell_far _ (by simp;have:=zk.row.lt;omega) (hne5 _ rfl)];rw[World.cell?_alloc_lt _ _ _ zk.row.lt];exact Ud
      have q6:w4.frozen? (Za p.q 5)=false:=(World.frozen?_of_block (aN.block _ (by simp;have:=zk.row.lt;omega) (hne5 _ rfl))).trans ((World.frozen?_of_block (heap_alloc_old V _ zk.row.lt)).trans (zk.row.frozen 5));refine step_skip rfl (w':=w4.setCell (Za p.q 5) (.slice (Zs g) (s.I.length+1) cap)) (by go_simp) ?_;refine hK _ _ ?_;clear hK K
      try simp only[Act.put]
      refine wpAny_done (by kernel_rfl) ?_ _;simp only[At];go_wp2;go_ret;exact HD.out g cap w4 aY aN hat
    ·have:=AB.out;rw[Nb.out,if_neg (fun h=>h256 h.2.2.2)] at this;cases this
   ·have:=AB.out;rw[Nb.out,if_neg (fun h=>h8 h.2.2.1)] at this;cases this
 ·have:=AB.out;rw[Nb.out,if_neg (fun h=>hne h.1)] at this;cases this
def Sc.withH(s:Sc)(o:Ob):Sc:={s with H:=pO s.H o}
def kC(s:Sc)(k:Nat)(sum:Zy)(at_:Nat)(t:Zy):Bool × Sc:=
 if k=3 then((fA s sum t).1,if(fA s sum t).1=true then(s.withE (fA s sum t).2).withH ⟨sum,3,at_,t.size⟩ else s.withE (fA s sum t).2)
 else if k=2 then(mV s.H t,if mV s.H t=true then s.withH ⟨sum,2,at_,t.size⟩ else s)
 else((decide (1<=t.size)&&decide (t.size<=96)),if(decide (1<=t.size)&&decide (t.size<=96))=true then s.withH ⟨sum,1,at_,t.size⟩ else s)
theorem nM(H:List Ob)(o:Ob):(pO H o).length<=H.length+1:=by
 unfold pO;split
 ·omega
 ·simp
theorem Ue{o:Ob}(hV:aR V p s)(hO:fF wp p.ms (pO s.H o))(hF:Fr V wp p.ms)(hl:s.H.length<=4900):aR wp p (s.withH o):=by
 refine⟨hF.row hV.row hV.apart.1,hO,?_,aT hV.own hF (fun g hg hm=>(hV.apart.2.2.2 g hg).2.2 hm),hV.apart,⟨?_,hV.few.2⟩⟩
 ·obtain⟨D,h1,h2⟩:=hV.ext;exact⟨D,h1.fr hF hV.apart.2.1,h2⟩
 ·have:=nM s.H o;show(pO s.H o).length<=5000;omega
theorem Nf{b:Bool}(h:b=true):(b,if b=true then x else y)=(true,x):=by subst h;rfl
theorem J8(h:aR w p s)(hE:J4 s.E)(hEl:s.E.length<=4900)(hHl:s.H.length<=4900)(sum:Zy)(hsum:sum.size=32)(at_:Nat)(t:Zy)(ht:t.size<=1000000)(hk:k=1\/k=2\/k=3)(hok:(kC s k sum at_ t).1=true):
  Zc 153 #[Zp p.q,dA sum,Am at_ k t] w fun e w'=>e=.returned (.bool (kC s k sum at_ t).1)/\aR w' p (kC s k sum at_ t).2/\Fr w w' p.blocks:=by
 have hms:p.ms.length=4:=h.objs.len;have hsv:dA sum=.agg (bytes (af sum)).toArray:=rfl;have hiM:(prog.info? 114).map (·.size)=some (aG p.ms).length:=by simp only[aG,length_map,hms];kernel_rfl
 have mM:(prog.info? 121).map (·.size)=some (bytes (af sum)).length:=by rw[dh _ hsum];kernel_rfl
 have HMm:Hid (∀w' s',aR w' p s'->w'.rangeAt p.q 0 (aG p.ms)):=fun w' s' hw=>hw.maps;obtain⟨s1,Hs1⟩:∃s1,Hid ((if k=3 then s.withE (fA s sum t).2 else s)=s1):=⟨_,rfl⟩;obtain⟨kc,hkc⟩:∃kc:Value,Hid (kc=.int .u8 (k:Nat)):=⟨_,rfl⟩;have HE:kC s k sum at_ t=(true,s1.withH ⟨sum,k,at_,t.size⟩):=by
  rw[<-Hs1.out];rcases hk with rfl|rfl|rfl
  ·exact Nf (b:=decide (1<=t.size)&&decide (t.size<=96)) (y:=s) hok
  ·exact Nf (b:=mV s.H t) (y:=s) hok
  ·exact Nf (b:=(fA s sum t).1) (y:=s.withE (fA s sum t).2) hok
 have hs1H:s1.H=s.H:=by rw[<-Hs1.out];split<;>rfl
 have cC1:Hid (∀w',k=1->aR w' p s->Zc 220 #[.string t] w' fun e w2=>e=.returned (.bool true)/\aR w2 p s1/\Fr w' w2 p.blocks):=by
  rintro w' rfl hw;have hb:(decide (1<=t.size)&&decide (t.size<=96))=true:=hok;refine(Mr t w' ht).mono ?_;rintro e w2 ⟨rfl,rfl⟩;exact⟨by rw[hb],by rw[<-Hs1.out];exact hw,Fr.refl _ _⟩
 have cC2:Hid (∀w',k=2->aR w' p s->Zc 221 #[Zp p.q,.string t] w' fun e w2=>e=.returned (.bool true)/\aR w2 p s1/\Fr w' w2 p.blocks):=by
  rintro w' rfl hw;have hb:mV s.H t=true:=hok;refine(QJ hw t ht).mono ?_;rintro e w2 ⟨rfl,hb2⟩;exact⟨by rw[hb],by rw[<-Hs1.out];exact hw.below hb2,Fr.of_below hb2 _⟩
 have cC3:Hid (∀w',k=3->aR w' p s->Zc 222 #[Zp p.q,.agg (bytes (af sum)).toArray,.string t] w' fun e w2=>e=.returned (.bool true)/\aR w2 p s1/\Fr w' w2 p.blocks):=by
  rintro w' rfl hw;have hb:(fA s sum t).1=true:=hok;refine(Ec hw hE hEl sum hsum t ht hb).mono ?_;rintro e w2 ⟨rfl,h2,h3⟩;exact⟨by rw[hb],by rw[<-Hs1.out];exact h2,h3⟩
 have cP:Hid (∀w',aR w' p s1->Zc 223 #[.agg (aG p.ms).toArray,kc,.agg (bytes (af sum)).toArray,.agg #[Zi at_,Zi t.size]] w' fun e w2=>e=.returned (.tuple #[])/\fF w2 p.ms (pO s1.H ⟨sum,k,at_,t.size⟩)/\Fr w' w2 p.ms):=fun w' hw=>by rw[hkc.out];exact Pb hw.objs ⟨sum,k,at_,t.size⟩ (by show k<4;omega) hsum (by rw[hs1H];omega)
 have Hput:Hid (∀V wp,aR V p s1->fF wp p.ms (pO s1.H ⟨sum,k,at_,t.size⟩)->Fr V wp p.ms->aR wp p (s1.withH ⟨sum,k,at_,t.size⟩)):=fun V wp hV hO hF=>Ue hV hO hF (by rw[hs1H];omega);rw[HE];clear hok HE;have Vs:Hid (∀b∈p.blocks,b<w.heap.size):=h.lt;have HS:Hid (∀w',Below w.heap.size w w'->aR w' p s):=fun w' hb=>h.below hb;rw[hsv];generalize Yh:bytes (af sum)=CK at *;generalize Yn:aG p.ms=M at *;clear h Yh Yn hsv;unfold Am;go_enter func153,ntmps153;go_upto_region 1 with fail
 have r4:=(ai.new w 121 CK).below ((Zr).alloc (Zn) (.cells #[Zi at_,.int .u8 (k:Nat),.string t] 257)) (by simp);have r5:=ai.new (w.alloc (.cells CK.toArray 121)) 257 [Zi at_,.int .u8 (k:Nat),.string t];rw[show(w.alloc (.cells CK.toArray 121)).heap.size=w.heap.size+1 by simp] at r5;have hbW:Below w.heap.size w ((w.alloc (.cells CK.toArray 121)).alloc (.cells #[Zi at_,.int .u8 (k:Nat),.string t] 257)):=((Zr).alloc (Zn) _).alloc (by simp) _;generalize((w.alloc (.cells CK.toArray 121)).alloc (.cells #[Zi at_,.int .u8 (k:Nat),.string t] 257))=W at *;have hB4:w.heap.size<=w.heap.size:=Zn;have Ya:w.heap.size<=w.heap.size+1:=by omega
 generalize hb4:w.heap.size+1=B5 at *;generalize hb5:w.heap.size=B4 at *;have R4:Hid _:=r4;have R5:Hid _:=r5;have d1:W.cell? (Za B5 1)=some (.int .u8 (k:Nat)):=r5.cell 1;have d2:W.cell? (Za B5 2)=some (.string t):=r5.cell 2;have Ng:aR W p s:=HS.out _ hbW;have aaC:(prog.info? 121).map (·.size)=some CK.toArray.size:=mM;clear r4 r5;have nb4:B4∉p.blocks:=fun hm=>by have:=Vs.out B4 hm;omega
 have nb5:B5∉p.blocks:=fun hm=>by have:=Vs.out B5 hm;omega
 have msb:∀b∈p.ms,b∈p.blocks:=fun b hb=>by simp[lH.blocks,hb]
 rcases hk with rfl|rfl|rfl
 case' inl=>
  push_cast at d1
  go_wp2_with(go_at_call 220;refine Calls.mono (cC1.out _ rfl Ng) ?_;rintro e w1 ⟨rfl,WK,F1⟩)
 case' inr.inl=>
  push_cast at d1
  go_wp2_with(go_at_call 221;refine Calls.mono (cC2.out _ rfl Ng) ?_;rintro e w1 ⟨rfl,WK,F1⟩)
 case' inr.inr=>
  push_cast at d1
  go_wp2_with(first
   | (refine wpList_load_row rfl 121 _ rfl B4 rfl _ _ _ _ R4.out.heap underlying121 rfl aaC ?_)
   | (go_at_call 222;refine Calls.mono (cC3.out _ rfl Ng) ?_;rintro e w1 ⟨rfl,WK,F1⟩))
 all_goals
  have Fw:Fr w w1 p.blocks:=(Fr.of_below (by rw[hb5];exact hbW) p.blocks).trans F1 (fun x hx _=>hx);have r4:=F1.row R4.out nb4;have r5:=F1.row R5.out nb5;generalize hV:w1=V at *;have c0:V.cell? (Za B5 0)=some (Zi at_):=r5.cell 0;have c1:V.cell? (Za B5 1)=some kc:=by rw[hkc.out];exact r5.cell 1
  have c2:V.cell? (Za B5 2)=some (.string t):=r5.cell 2;have zk:=WK;have gM:V.rangeAt p.q 0 M:=HMm.out _ _ zk;have lq:p.q<V.heap.size:=zk.row.lt;have nq:p.q∉p.ms:=zk.apart.1;have l4:B4<V.heap.size:=r4.lt;have l5:B5<V.heap.size:=r5.lt;have n4:B4∉p.ms:=fun hm=>nb4 (msb _ hm);have n5:B5∉p.ms:=fun hm=>nb5 (msb _ hm);have g4:V.rangeAt B4 0 CK:=fun i v hv=>by rw[Nat.zero_add];exact(r4.cell i).trans hv
  clear WK d1 d2;refine bF ?_;refine wp_region_held_drew (S:=fun w'=>Fr V w' p.ms) (by kernel_rfl) (Fr.refl _ _).drew (fun ah=>?_);refine Zt 0 (Zp p.q) ?_;refine Zt 1 (Zp p.q) ?_;refine Zt 2 (Zp p.q) ?_;refine Zt 3 (.agg (M).toArray) ?_ (hy:=yieldsIf_load_mid (by rfl) _ _ rfl (p.q) (0) rfl M _ (fun w h=>iC gM lq h nq) underlying114 rfl hiM);refine Zt 4 (.pointer (some (Za B5 1))) ?_;refine wpAnyH_take (i:=5) (oi:=⟨some 34,.load 255 (.tmp 33),_,_,_,none⟩) (v:=kc) rfl (by kernel_rfl) (by kernel_rfl) (by kernel_rfl) (fun _ _ _ h=>h) (Or.inl ⟨by rfl,by intro w hSw;have h1:=(World.cell?_of_block (hSw.block B5 l5 n5)).trans c1;go_simp⟩) ah ?_;simp only[Act.put,lA,lZ,lS];refine Zt 6 (.agg (CK).toArray) ?_ (hy:=yieldsIf_load_mid (by rfl) _ _ rfl (B4) (0) rfl CK _ (fun w h=>iC g4 l4 h n4) underlying121 rfl mM);refine Zt 7 (Zp B5) ?_;refine wpAnyH_take (i:=8) (oi:=⟨some 37,.load 3 (.tmp 36),_,_,_,none⟩) (v:=(Zi at_)) rfl (by kernel_rfl) (by kernel_rfl) (by kernel_rfl) (fun _ _ _ h=>h) (Or.inl ⟨by rfl,by intro w hSw;have h1:=(World.cell?_of_block (hSw.block B5 l5 n5)).trans c0;go_simp⟩) ah ?_;simp only[Act.put,lA,lZ,lS];refine Zt 9 (.pointer (some (Za B5 2))) ?_;refine wpAnyH_take (i:=10) (oi:=⟨some 39,.load 9 (.tmp 38),_,_,_,none⟩) (v:=.string t) rfl (by kernel_rfl) (by kernel_rfl) (by kernel_rfl) (fun _ _ _ h=>h) (Or.inl ⟨by rfl,by intro w hSw;have h1:=(World.cell?_of_block (hSw.block B5 l5 n5)).trans c2;go_simp⟩) ah ?_;simp only[Act.put,lA,lZ,lS];refine Zt 11 (Zi t.size) ?_;refine Zt 12 (.agg #[Zi at_,Zi t.size]) ?_;refine Zh 13 fun K hK=>?_;go_simp;go_at_call 223;refine Calls.mono (cP.out V.drew (zk.below (Zr).drew)) ?_;rintro e wp ⟨rfl,hop,hfp⟩;refine hK.out _ _ (ah.trans hfp (fun x hx _=>hx)) (fun ah=>?_);clear hK K;(try simp only[Act.put,lA,lZ,lS]);refine Zx ?_;simp only[At];go_wp2;go_ret;exact⟨rfl,Hput.out _ _ zk hop ah,Fw.trans ah (fun x hx _=>msb x hx)⟩
end
section
open Go.RowKit
def BL(l m:List Nat)(n:Nat):List Nat:=VN (l.take n) (m.take n)++l.drop n
theorem Nh(s t:St)(n:Nat)(h:n<8):(BL s.list t.list n).set n ((s.list.getD n 0+t.list.getD n 0) % 4294967296)=BL s.list t.list (n+1):=by
 obtain rfl|rfl|rfl|rfl|rfl|rfl|rfl|rfl:n=0\/n=1\/n=2\/n=3\/n=4\/n=5\/n=6\/n=7:=by omega
 all_goals rfl
theorem QL(s t:St)(n:Nat)(h:n<8):(BL s.list t.list n).getD n 0=s.list.getD n 0:=by
 obtain rfl|rfl|rfl|rfl|rfl|rfl|rfl|rfl:n=0\/n=1\/n=2\/n=3\/n=4\/n=5\/n=6\/n=7:=by omega
 all_goals rfl
theorem QM(s t:St)(n:Nat)(h:n<=8):(BL s.list t.list n).length=8:=by
 obtain rfl|rfl|rfl|rfl|rfl|rfl|rfl|rfl|rfl:n=0\/n=1\/n=2\/n=3\/n=4\/n=5\/n=6\/n=7\/n=8:=by omega
 all_goals rfl
theorem St.Ok.get{s:St}(h:s.Ok)(n:Nat):s.list.getD n 0<4294967296:=by
 apply kX;intro x hx;simp only[St.list,mem_cons,not_mem_nil,or_false] at hx;rcases hx with rfl|rfl|rfl|rfl|rfl|rfl|rfl|rfl
 ·exact h.a
 ·exact h.b
 ·exact h.c
 ·exact h.d
 ·exact h.e
 ·exact h.f
 ·exact h.g
 ·exact h.h
def BM(w:World)(g:Nat)(K:List Nat):Prop:=∀j,j<K.length->w.cell? (Za g j)=some (.int .u32 (K.getD j 0:Nat))
theorem BM.below(h:BM w g K)(hb:Below B w w')(hg:g<B):BM w' g K:=fun j hj=>by
 rw[hb.cell hg];exact h j hj
noncomputable def Fj:Code:=Tryz.f183.body.getD .skip
noncomputable def Pg:Code:=Ga (jQ (jQ (jQ (jQ Fj))))
noncomputable def Ni:Code:=VU (Ga (jQ (jQ (VU (VU (jQ Pg))))))
theorem J9(g3 n kn wn:Nat)(t:St)(w:World)(Q:Exit->Act->World->Prop)
  (hn64:n<64) (hok:t.Ok) (_lk:kn<4294967296) (_lw:wn<4294967296) (hck:w.cell? (Za 14 n)=some (.int .u32 (kn:Int))) (hcw:w.cell? (Za g3 n)=some (.int .u32 (wn:Int)))
  (hQ:Hid (∀(OZ O0 O1 O3 O4 Tw Tx Tz TA TB TD Ye y48 y49 y50 y51 y52 y53 y54 y55 y56 y57 y58 y59 y60 y61 y62 y63 y64 y65 y66 y67 y68 y69 y70 y71 y72 y73 y74 y75 y76 y77 y78 y79 y80 y81 y82 y83 y84 y85 y86 y87 y88 y89 y90:Value) (q:Nat),Q .normal ⟨#[x0,x1,x2,x3,x4,Zp g3,.int .u32 ((t.round kn wn).a:Nat),.int .u32 ((t.round kn wn).b:Nat),.int .u32 ((t.round kn wn).c:Nat),.int .u32 ((t.round kn wn).d:Nat),.int .u32 ((t.round kn wn).e:Nat),.int .u32 ((t.round kn wn).f:Nat),.int .u32 ((t.round kn wn).g:Nat),.int .u32 ((t.round kn wn).h:Nat),OZ,O0,O1,O3,O4,DK,x20,x21,Bh,x23,x24,x25,Jl,x27,x28,x29,x30,x31,x32,ME,x34,MF,MG,Qq,x38,.int .i64 (n:Int),x40,Tw,Tx,Tz,TA,TB,TD,Ye,y48,y49,y50,y51,y52,y53,y54,y55,y56,y57,y58,y59,y60,y61,y62,y63,y64,y65,y66,y67,y68,y69,y70,y71,y72,y73,y74,y75,y76,y77,y78,y79,y80,y81,y82,y83,y84,y85,y86,y87,y88,y89,y90,x91,x92,x93,x94,x95,x96,x97,x98,x99,x100,x101,x102,x103,x104,x105,Nj,x107,Nk,Nl,Nn,Np,x112],[]⟩ (w.drewN q))):
  Code.wp prog Ni Q ⟨#[x0,x1,x2,x3,x4,Zp g3,.int .u32 (t.a:Nat),.int .u32 (t.b:Nat),.int .u32 (t.c:Nat),.int .u32 (t.d:Nat),.int .u32 (t.e:Nat),.int .u32 (t.f:Nat),.int .u32 (t.g:Nat),.int .u32 (t.h:Nat),qx,EL,EM,EN,x18,DK,x20,x21,Bh,x23,x24,x25,Jl,x27,x28,x29,x30,x31,x32,ME,x34,MF,MG,Qq,x38,.int .i64 (n:Int),x40,x41,Vm,x43,Vn,Vo,Vp,Tv,RX,RY,RZ,R3,R8,Sb,x54,x55,x56,x57,x58,x59,x60,x61,x62,x63,x64,x65,x66,x67,x68,x69,x70,x71,x72,x73,x74,x75,x76,x77,x78,x79,x80,x81,x82,x83,x84,x85,x86,x87,x88,x89,x90,x91,x92,x93,x94,x95,x96,x97,x98,x99,x100,x101,x102,x103,x104,x105,Nj,x107,Nk,Nl,Nn,Np,x112],[]⟩ w:=by
 conv=>arg 2;whnf
 have n1:=OP t.e hok.e;have b1:=u32_and_nat t.e t.f hok.e hok.f;have b2:=u32_and_nat (4294967295-t.e) t.g (by omega) hok.g;have b3:bits .xor .u32 ((t.e &&& t.f:Nat):Int) (((4294967295-t.e) &&& t.g:Nat):Int)=((choice t.e t.f t.g:Nat):Int):=u32_xor_nat _ _ (nR _ _ hok.f) (nR _ _ hok.g);have m1:=u32_and_nat t.a t.b hok.a hok.b;have m2:=u32_and_nat t.a t.c hok.a hok.c;have m3:=u32_and_nat t.b t.c hok.b hok.c;have m4:=u32_xor_nat (t.a &&& t.b) (t.a &&& t.c) (nR _ _ hok.b) (nR _ _ hok.c);have m5:bits .xor .u32 (((t.a &&& t.b) ^^^ (t.a &&& t.c):Nat):Int) ((t.b &&& t.c:Nat):Int)=((tL t.a t.b t.c:Nat):Int):=u32_xor_nat _ _ (jw _ _ (nR _ _ hok.b) (nR _ _ hok.c)) (nR _ _ hok.c);have t1:∀w,Zc 249 #[.int .u32 (t.e:Int),.int .i64 6,.int .i64 11,.int .i64 25] w fun e w'=>e=.returned (.int .u32 (PV t.e:Nat))/\w'=w:=fun w=>(AP t.e 6 11 25 hok.e (by decide) (by decide) (by decide) (by decide) (by decide) (by decide) w).mono fun e w' h=>⟨h.1,h.2.symm⟩;have t2:∀w,Zc 249 #[.int .u32 (t.a:Int),.int .i64 2,.int .i64 13,.int .i64 22] w fun e w'=>e=.returned (.int .u32 (Sy t.a:Nat))/\w=w':=fun w=>AP t.a 2 13 22 hok.a (by decide) (by decide) (by decide) (by decide) (by decide) (by decide) w;have q1:=VK t.e;have q2:=VL t.a;have q3:=PW t.e t.f t.g hok.f hok.g;have q4:=IE t.a t.b t.c hok.b hok.c;have ta:=hok.a;have td:=hok.d;have th:=hok.h;have hR:Hid (t.round kn wn=⟨(t.h+PV t.e+choice t.e t.f t.g+kn+wn+(Sy t.a+tL t.a t.b t.c)) % 4294967296,t.a,t.b,t.c,(t.d+(t.h+PV t.e+choice t.e t.f t.g+kn+wn)) % 4294967296,t.e,t.f,t.g⟩):=rfl;generalize t.round kn wn=S2 at hR hQ;obtain⟨ta',tb',tc',td',te',tf',tg',th'⟩:=t;simp only at *;refine dM ?_;go_wp2;show Code.wp _ _ _ _ _;refine dM ?_;go_wp2;show Code.wp _ _ _ _ _;refine dM ?_;go_wp2;show Code.wp _ _ _ _ _;refine dM ?_;go_quiet ((go_at_call 249;exact Calls.quiet_of_same (t1 _)));show Code.wp _ _ _ _ _;refine dM ?_;go_wp2_with(go_at_call 249;refine(t2 _).mono ?_;rintro e w' ⟨rfl,rfl⟩);show Code.wp _ _ _ _ _;refine bF ?_;go_wp2;show Q .normal _ _;have hS:=hR.out;subst hS;generalize PV te'=B1 at q1 hQ⊢;generalize Sy ta'=B0 at q2 hQ⊢;generalize choice te' tf' tg'=C1 at q3 hQ⊢;generalize tL ta' tb' tc'=C2 at q4 hQ⊢;have e0:(((th':Int)+(B1:Int)+(C1:Int)+(kn:Int)+(wn:Int)) % 4294967296+((B0:Int)+(C2:Int)) % 4294967296) % 4294967296=(((th'+B1+C1+kn+wn+(B0+C2)) % 4294967296:Nat):Int):=by omega
 have e4:((td':Int)+((th':Int)+(B1:Int)+(C1:Int)+(kn:Int)+(wn:Int)) % 4294967296) % 4294967296=(((td'+(th'+B1+C1+kn+wn)) % 4294967296:Nat):Int):=by omega
 rw[e0,e4];exact hQ.out _ _ _ _ _ _ _ _ _ _ _ _ _ _ _ _ _ _ _ _ _ _ _ _ _ _ _ _ _ _ _ _ _ _ _ _ _ _ _ _ _ _ _ _ _ _ _ _ _ _ _ _ _ _ _ nq
theorem Ka(g3:Nat)(K L:List Nat)(s:St)(w:World)(Q:Exit->Act->World->Prop)
  (ok:s.Ok) (dK:∀x∈K,x<4294967296) (dL:∀x∈L,x<4294967296) (hK:K.length=64) (hT:BM w 14 K) (hL:L.length=64) (hW:ai w g3 379 (aQ L))
  (hQ:Hid (∀(OZ O0 O1 O3 O4 y39 Yb Tw Tx Tz TA TB TD Ye y48 y49 y50 y51 y52 y53 y54 y55 y56 y57 y58 y59 y60 y61 y62 y63 y64 y65 y66 y67 y68 y69 y70 y71 y72 y73 y74 y75 y76 y77 y78 y79 y80 y81 y82 y83 y84 y85 y86 y87 y88 y89 y90 y91:Value) (w':World),w'.heap=w.heap->Below w.heap.size w w'->Q .normal ⟨#[x0,x1,x2,x3,x4,.pointer (some ⟨g3,0,none⟩),.int .u32 ((St.run K L s 64).a:Nat),.int .u32 ((St.run K L s 64).b:Nat),.int .u32 ((St.run K L s 64).c:Nat),.int .u32 ((St.run K L s 64).d:Nat),.int .u32 ((St.run K L s 64).e:Nat),.int .u32 ((St.run K L s 64).f:Nat),.int .u32 ((St.run K L s 64).g:Nat),.int .u32 ((St.run K L s 64).h:Nat),OZ,O0,O1,O3,O4,DK,x20,x21,Bh,x23,x24,x25,Jl,x27,x28,x29,x30,x31,x32,ME,x34,MF,MG,Qq,x38,y39,Yb,Tw,Tx,Tz,TA,TB,TD,Ye,y48,y49,y50,y51,y52,y53,y54,y55,y56,y57,y58,y59,y60,y61,y62,y63,y64,y65,y66,y67,y68,y69,y70,y71,y72,y73,y74,y75,y76,y77,y78,y79,y80,y81,y82,y83,y84,y85,y86,y87,y88,y89,y90,y91,x92,x93,x94,x95,x96,x97,x98,x99,x100,x101,x102,x103,x104,x105,Nj,x107,Nk,Nl,Nn,Np,x112],[]⟩ w')):
  Code.wp prog Pg Q ⟨#[x0,x1,x2,x3,x4,.pointer (some ⟨g3,0,none⟩),.int .u32 (s.a:Nat),.int .u32 (s.b:Nat),.int .u32 (s.c:Nat),.int .u32 (s.d:Nat),.int .u32 (s.e:Nat),.int .u32 (s.f:Nat),.int .u32 (s.g:Nat),.int .u32 (s.h:Nat),qx,EL,EM,EN,x18,DK,x20,x21,Bh,x23,x24,x25,Jl,x27,x28,x29,x30,x31,x32,ME,x34,MF,MG,Qq,x38,x39,x40,x41,Vm,x43,Vn,Vo,Vp,Tv,RX,RY,RZ,R3,R8,Sb,x54,x55,x56,x57,x58,x59,x60,x61,x62,x63,x64,x65,x66,x67,x68,x69,x70,x71,x72,x73,x74,x75,x76,x77,x78,x79,x80,x81,x82,x83,x84,x85,x86,x87,x88,x89,x90,x91,x92,x93,x94,x95,x96,x97,x98,x99,x100,x101,x102,x103,x104,x105,Nj,x107,Nk,Nl,Nn,Np,x112],[]⟩ w:=by
 conv=>arg 2;whnf
 have HT:Hid _:=hT;clear hT;refine dM ?_;go_wp2;show Code.wp _ _ _ _ _;refine wp_block ?_;go_loopw [6,7,8,9,10,11,12,13,39] (fun a b c d e f g h i wr=>∃n:Nat,n<=64/\i=.int .i64 n/\a=.int .u32 ((St.run K L s n).a:Nat)/\b=.int .u32 ((St.run K L s n).b:Nat)/\c=.int .u32 ((St.run K L s n).c:Nat)/\d=.int .u32 ((St.run K L s n).d:Nat)/\e=.int .u32 ((St.run K L s n).e:Nat)/\f=.int .u32 ((St.run K L s n).f:Nat)/\g=.int .u32 ((St.run K L s n).g:Nat)/\h=.int .u32 ((St.run K L s n).h:Nat)/\Hid (wr.heap=w.heap)/\Below w.heap.size w wr) (fun _ _ _ _ _ _ _ _ i _=>64-(intOf i).toNat)
 case atStart=>exact⟨0,by omega,rfl,rfl,rfl,rfl,rfl,rfl,rfl,rfl,rfl,rfl,Below.refl _ _⟩
 case round=>
  obtain⟨n,hn,rfl,rfl,rfl,rfl,rfl,rfl,rfl,rfl,rfl,Yq,hb⟩:=hrel;by_cases hn64:n<64
  ·have hck:wr.cell? ⟨14,n,none⟩=some (.int .u32 (K.getD n 0:Nat)):=by rw[<-HT.out n (by omega)];simp only[World.cell?,Yq.out]
   have hcw:wr.cell? ⟨g3,n,none⟩=some (.int .u32 (L.getD n 0:Nat)):=by rw[<-kg L n (by omega),<-hW.cell n];simp only[World.cell?,Yq.out]
   have lk:=kX K dK n;have lw:=kX L dL n;have hok:=ok.run K L n;have hrn:Hid (St.run K L s (n+1)=(St.run K L s n).round (K.getD n 0) (L.getD n 0)):=rfl;generalize K.getD n 0=kn at hck lk hrn;generalize L.getD n 0=wn at hcw lw hrn;generalize St.run K L s n=t at hok hrn⊢;refine dM ?_;go_wp2;show Code.wp _ _ _ _ _;refine wp_seq_k ?_;intro K2 hK2;have Vt:Hid _:=hK2;clear hK2;go_wp2;refine Vt.out _ _ ?_;clear Vt;refine wp_seq_k ?_;intro K3 hK3;have HK3:Hid _:=hK3;clear hK3;refine wp_block ?_;refine J9 g3 n kn wn t wr _ hn64 hok lk lw hck hcw ?_;refine fun OZ O0 O1 O3 O4 Tw Tx Tz TA TB TD Ye y48 y49 y50 y51 y52 y53 y54 y55 y56 y57 y58 y59 y60 y61 y62 y63 y64 y65 y66 y67 y68 y69 y70 y71 y72 y73 y74 y75 y76 y77 y78 y79 y80 y81 y82 y83 y84 y85 y86 y87 y88 y89 y90 q=>?_;refine HK3.out _ _ ?_;clear HK3 hck hcw;rw[<-hrn.out];(try unfold Zp);(try unfold Zi);go_wp2;exact⟨⟨n+1,by omega,by go_num,rfl,rfl,rfl,rfl,rfl,rfl,rfl,rfl,Yq,below_drewN hb q⟩,by simp[intOf];omega⟩
  ·have en:n=64:=by omega
   subst en;obtain⟨t,ht⟩:∃t,Hid (St.run K L s 64=t):=⟨_,rfl⟩;rw[ht.out] at hQ⊢;go_wp2;exact hQ.out _ _ _ _ _ _ _ _ _ _ _ _ _ _ _ _ _ _ _ _ _ _ _ _ _ _ _ _ _ _ _ _ _ _ _ _ _ _ _ _ _ _ _ _ _ _ _ _ _ _ _ _ _ _ _ _ _ _ _ Yq.out hb
noncomputable def aa1:Code:=Ga (jQ (jQ (jQ (jQ (jQ Fj)))))
theorem Nq(g0 gr B:Nat)(s t:St)(w:World)(Q:Exit->Act->World->Prop)
  (hB:B<=g0) (ok:s.Ok) (hok:t.Ok) (hne:gr≠g0) (R0:ai w g0 293 (aQ s.list)) (R2:ai w gr 293 (aQ (replicate 8 0)))
  (hQ:Hid (∀(Vl y20 y92 y93 y94 y95 y96 y97 y98 y99 y100 y101 y102 y103 y104 y105 y106 y107 y108 y109 y110 y111:Value) (w':World),ai w' g0 293 (aQ (VN s.list t.list))->ai w' gr 293 (aQ (replicate 8 0))->Below B w w'->Q .normal ⟨#[x0,x1,Zp g0,x3,x4,x5,.int .u32 (t.a:Nat),.int .u32 (t.b:Nat),.int .u32 (t.c:Nat),.int .u32 (t.d:Nat),.int .u32 (t.e:Nat),.int .u32 (t.f:Nat),.int .u32 (t.g:Nat),.int .u32 (t.h:Nat),qx,EL,EM,EN,x18,Vl,y20,x21,Bh,x23,x24,x25,Jl,x27,x28,x29,x30,x31,x32,ME,x34,MF,MG,Qq,x38,x39,x40,x41,Vm,x43,Vn,Vo,Vp,Tv,RX,RY,RZ,R3,R8,Sb,x54,x55,x56,x57,x58,x59,x60,x61,x62,x63,x64,x65,x66,x67,x68,x69,x70,x71,x72,x73,x74,x75,x76,x77,x78,x79,x80,x81,x82,x83,x84,x85,x86,x87,x88,x89,x90,x91,y92,y93,y94,y95,y96,y97,y98,y99,y100,y101,y102,y103,y104,y105,y106,y107,y108,y109,y110,y111,x112],[]⟩ w')):
  Code.wp prog aa1 Q ⟨#[x0,x1,Zp g0,x3,x4,x5,.int .u32 (t.a:Nat),.int .u32 (t.b:Nat),.int .u32 (t.c:Nat),.int .u32 (t.d:Nat),.int .u32 (t.e:Nat),.int .u32 (t.f:Nat),.int .u32 (t.g:Nat),.int .u32 (t.h:Nat),qx,EL,EM,EN,x18,DK,x20,x21,Bh,x23,x24,x25,Jl,x27,x28,x29,x30,x31,x32,ME,x34,MF,MG,Qq,x38,x39,x40,x41,Vm,x43,Vn,Vo,Vp,Tv,RX,RY,RZ,R3,R8,Sb,x54,x55,x56,x57,x58,x59,x60,x61,x62,x63,x64,x65,x66,x67,x68,x69,x70,x71,x72,x73,x74,x75,x76,x77,x78,x79,x80,x81,x82,x83,x84,x85,x86,x87,x88,x89,x90,x91,x92,x93,x94,x95,x96,x97,x98,x99,x100,x101,x102,x103,x104,x105,Nj,x107,Nk,Nl,Nn,Np,x112],[]⟩ w:=by
 conv=>arg 2;whnf
 refine dM ?_;go_wp2;show Code.wp _ _ _ _ _;refine wp_block ?_;go_loopw [101] (fun i wv=>∃n:Nat,n<=8/\i=.int .i64 n/\ai wv g0 293 (aQ (BL s.list t.list n))/\ai wv gr 293 (aQ (replicate 8 0))/\Below B w wv) (fun i _=>8-(intOf i).toNat)
 case atStart=>exact⟨0,by omega,rfl,R0,R2,Zr⟩
 case round=>
  clear R0 R2;obtain⟨n,hn,rfl,R0,R2,hb⟩:=hrel;by_cases hlt:n<8
  ·have hx:(Instr.index 293 (.agg #[.int .u32 (t.a:Int),.int .u32 (t.b:Int),.int .u32 (t.c:Int),.int .u32 (t.d:Int),.int .u32 (t.e:Int),.int .u32 (t.f:Int),.int .u32 (t.g:Int),.int .u32 (t.h:Int)]) (.int .i64 (n:Int))).run prog wr=.ok (.int .u32 (t.list.getD n 0:Nat)) wr:=
    EF wr _ _ 8 (aQ t.list) n _ underlying293 hlt (fun _=>by kernel_rfl) (fun _=>by kernel_rfl) (kg t.list n hlt)
   have hc:=R0.cell n;rw[kg _ _ (by rw[QM s t n hn];exact hlt),QL s t n hlt] at hc;have hf:=R0.frozen n;have hst:Hid _:=Nh s t n hlt;have l1:=hok.get n;have l2:=ok.get n;generalize t.list.getD n 0=y at hx hst l1;generalize s.list.getD n 0=x at hc hst l2;have hR3:=R0.set n (.int .u32 (((x:Int)+(y:Int)) % 4294967296));rw[show(aQ (BL s.list t.list n)).set n (.int .u32 (((x:Int)+(y:Int)) % 4294967296))=aQ (BL s.list t.list (n+1)) by rw[show((x:Int)+(y:Int)) % 4294967296=(((x+y) % 4294967296:Nat):Int) by omega,xg,hst.out]] at hR3;have HR:Hid _:=hR3;have H2:Hid (∀v,ai (wr.setCell (Za g0 n) v) gr 293 (aQ (replicate 8 0))):=fun v=>R2.other v hne;have H3:Hid (∀v,Below B w (wr.setCell (Za g0 n) v)):=fun v=>hb.setCell hB v;clear hR3 R0 R2 hb;go_wp2;exact⟨⟨n+1,by omega,by go_num,HR.out,H2.out _,H3.out _⟩,by simp[intOf];omega⟩
  ·have en:n=8:=by omega
   subst en;go_wp2;exact hQ.out _ _ _ _ _ _ _ _ _ _ _ _ _ _ _ _ _ _ _ _ _ _ _ R0 R2 hb
theorem zm(K:List Nat)(hK:K.length=64)(dK:∀x∈K,x<4294967296)(s:St)(ok:s.Ok)(b:List Nat)(hb:b.length=64)(hd:∀x∈b,x<256)(w:World)(hT:BM w 14 K)(hg:14<w.heap.size):
  Zc 183 #[.agg (aQ s.list).toArray,.agg (bytes b).toArray] w fun e w'=>e=.returned (.agg (aQ (Dl K s b)).toArray)/\Below w.heap.size w w':=by
 have hS:=LW b hb hd;go_enter func183,ntmps183;refine dM ?_;go_wp2;show Code.wp _ _ _ _ (((w.alloc (.cells (aQ s.list).toArray 293)).alloc (.cells (bytes b).toArray 189)).alloc (.cells (aQ (replicate 8 0)).toArray 293));obtain⟨hb0,h1,h2,h3,hz⟩:=rE w 293 189 293 (aQ s.list) (bytes b) (aQ (replicate 8 0));generalize(((w.alloc (.cells (aQ s.list).toArray 293)).alloc (.cells (bytes b).toArray 189)).alloc (.cells (aQ (replicate 8 0)).toArray 293))=W at *;have hszb:(prog.info? 189).map (·.size)=some (bytes b).toArray.size:=by rw[size_toArray,aF,hb];kernel_rfl
 have hlen:=IC b 48 (Zn);have hlt:=VJ b hd 48;have hS1:=hS W;have WL:Hid (Dl K s b=VN s.list (St.run K (laid b 48) s 64).list):=rfl;generalize laid b 48=L at *;have hszw:(prog.info? 379).map (·.size)=some (aQ L).toArray.size:=by rw[size_toArray,bI,hlen];kernel_rfl
 have hone:=oP L;have hold:Hid (64=(aQ L).toArray.size):=by show _=_;rw[size_toArray,bI,hlen]
 refine dM ?_;go_wp2_with(first|(refine wpList_load_row rfl 189 _ rfl (w.heap.size+1) rfl _ _ _ _ h2.heap underlying189 rfl hszb ?_)|(go_at_call 248;refine hS1.mono ?_;rintro e w1 ⟨rfl,hb1⟩;clear hS1)|(refine wpList_store_row rfl 379 _ _ rfl w1.heap.size _ rfl rfl _ _ (heap_alloc_new w1 _) hszw hold.out hone ?_));show Code.wp _ _ _ _ ((w1.alloc (.cells (aQ (replicate 64 0)).toArray 379)).setRow w1.heap.size (aQ L).toArray);have hs1:=hb1.size;have Iy:Below w1.heap.size w1 ((w1.alloc (.cells (aQ (replicate 64 0)).toArray 379)).setRow w1.heap.size (aQ L).toArray):=((Zr).alloc (Zn) _).setRow _ (Zn);have Yr:=hb0.trans ((hb1.mono hb0.size).trans (Iy.mono (by omega)));have rS:=((h1.below hb1 (by omega)).below Iy (by omega));have r0:=rS.cell;have r2:=((h3.below hb1 (by omega)).below Iy (by omega));have rW:ai ((w1.alloc (.cells (aQ (replicate 64 0)).toArray 379)).setRow w1.heap.size (aQ L).toArray) w1.heap.size 379 (aQ L):=⟨setRow_heap _ _ _ _ _ _ (heap_alloc_new w1 _)⟩;have VS:=hT.below Yr hg;have hw1:w.heap.size+3<=w1.heap.size:=by omega
 clear h1 h2 h3 hb0 hb1 Iy hs1 hT hz hszb hszw hone hold hS hb hd;generalize((w1.alloc (.cells (aQ (replicate 64 0)).toArray 379)).setRow w1.heap.size (aQ L).toArray)=W2 at *;generalize w1.heap.size=g3 at *;have c0:W2.cell? (Za w.heap.size 0)=some (.int .u32 (s.a:Int)):=r0 0;have c1:W2.cell? (Za w.heap.size 1)=some (.int .u32 (s.b:Int)):=r0 1;have c2:W2.cell? (Za w.heap.size 2)=some (.int .u32 (s.c:Int)):=r0 2;have c3:W2.cell? (Za w.heap.size 3)=some (.int .u32 (s.d:Int)):=r0 3;have c4:W2.cell? (Za w.heap.size 4)=some (.int .u32 (s.e:Int)):=r0 4;have c5:W2.cell? (Za w.heap.size 5)=some (.int .u32 (s.f:Int)):=r0 5;have c6:W2.cell? (Za w.heap.size 6)=some (.int .u32 (s.g:Int)):=r0 6;have c7:W2.cell? (Za w.heap.size 7)=some (.int .u32 (s.h:Int)):=r0 7;clear r0;refine dM ?_;go_region;show Code.wp _ _ _ _ _;refine dM ?_;go_region;show Code.wp _ _ _ _ _;clear c0 c1 c2 c3 c4 c5 c6 c7;have hT3:BM W2.drew.drew 14 K:=VS;have rW3:ai W2.drew.drew g3 379 (aQ L):=rW.drew.drew;refine dM (bF (Ka g3 K L s _ _ ok dK hlt hK hT3 hlen rW3 ?_));refine fun OZ O0 O1 O3 O4 y39 Yb Tw Tx Tz TA TB TD Ye y48 y49 y50 y51 y52 y53 y54 y55 y56 y57 y58 y59 y60 y61 y62 y63 y64 y65 y66 y67 y68 y69 y70 y71 y72 y73 y74 y75 y76 y77 y78 y79 y80 y81 y82 y83 y84 y85 y86 y87 y88 y89 y90 y91 w4 hh4 hb4=>?_;show Code.wp _ _ _ _ _;have hok:=ok.run K L 64;have R0:ai w4 w.heap.size 293 (aQ s.list):=⟨by rw[hh4];exact rS.heap⟩;have R2:ai w4 (w.heap.size+1+1) 293 (aQ (replicate 8 0)):=⟨by rw[hh4];exact r2.heap⟩;have hbw4:Below w.heap.size w w4:=Yr.drew.drew.trans (hb4.mono Yr.drew.drew.size);clear VS hT3 rW rW3 rS r2 hh4 hb4 Yr hlt hlen hw1;generalize St.run K L s 64=t at hok WL⊢;refine dM (bF (Nq w.heap.size (w.heap.size+1+1) w.heap.size s t w4 _ (Zn) ok hok (by omega) R0 R2 ?_));refine fun z19 z20 z92 z93 z94 z95 z96 z97 z98 z99 z100 z101 z102 z103 z104 z105 z106 z107 z108 z109 z110 z111 w5 R5 R6 hb5=>?_;show Code.wp _ _ _ _ _;have hb:=hbw4.trans hb5;rw[<-WL.out] at R5;have AY:(Dl K s b).length=8:=by rw[WL.out];rfl
 clear WL R0 R2 hbw4 hb5;obtain⟨M,HM⟩:∃M,Hid (Dl K s b=M):=⟨_,rfl⟩;rw[HM.out] at R5 AY;have hsz:(prog.info? 293).map (·.size)=some (aQ M).toArray.size:=by rw[size_toArray,bI,AY];kernel_rfl
 have hz:(aQ (replicate 8 0)).toArray.size=(aQ M).toArray.size:=by rw[size_toArray,size_toArray,bI,bI,AY];simp
 have hone:=oP M;have hB2:Below w.heap.size w (w5.setRow (w.heap.size+1+1) (aQ M).toArray):=hb.setRow _ (by omega);have hg2:=setRow_heap w5 (w.heap.size+1+1) _ (aQ M).toArray _ _ R6.heap;go_wp2_with(first|(refine wpList_load_row rfl 293 _ rfl w.heap.size rfl _ _ _ _ R5.heap underlying293 rfl hsz ?_)|(refine wpList_store_row rfl 293 _ _ rfl (w.heap.size+1+1) _ rfl rfl _ _ R6.heap hsz hz hone ?_));refine bodyPost_ret (v:=.agg (aQ M).toArray) ?_ rfl ⟨by rw[HM.out],hB2⟩;exact results_cell_row (P:=prog) results183 _ _ (w.heap.size+1+1) _ _ _ _ rfl hg2 underlying293 rfl hsz
noncomputable def QN:Code:=Tryz.f185.body.getD .skip
noncomputable def WM:Code:=jQ (jQ (jQ (jQ (jQ QN))))
def gF(X:List Nat)(n k:Nat):List Nat:=X.take 56++gK n k++X.drop (56+k)
theorem BN(X:List Nat)(n k:Nat)(h:X.length=64)(hk:k<=8):(gF X n k).length=64:=by simp[gF,nY];omega
theorem Kb(X:List Nat)(n:Nat):gF X n 0=X:=by simp[gF,gK]
theorem Kc(X:List Nat)(n k:Nat)(h:X.length=64)(hk:k<8):(gF X n k).set (56+k) (rF n k)=gF X n (k+1):=by
 have hl:(X.take 56++gK n k).length=56+k:=by simp[nY];omega
 unfold gF;rw[set_append_right _ _ (by omega),hl,Nat.sub_self,drop_eq_getElem_cons (show 56+k<X.length by omega),set_cons_zero,Dy];simp[Nat.add_assoc]
theorem BO(X:List Nat)(n:Nat)(h:X.length=64):gF X n 8=X.take 56++gK n 8:=by
 unfold gF;rw[drop_eq_nil_of_le (by omega),append_nil]
theorem Ke(n k:Nat)(h:k<8):(8*(n:Int)) / 2 ^ (56-8*k) % 256=(rF n k:Nat):=by
 unfold rF;rw[show 8*(7-k)=56-8*k by omega];simp
theorem QO(X:List Nat)(n k:Nat)(h:∀x∈X,x<256):∀x∈gF X n k,x<256:=by
 intro x hx;simp only[gF,mem_append] at hx;rcases hx with(hx|hx)|hx
 ·exact h x (mem_of_mem_take hx)
 ·exact IZ _ _ x hx
 ·exact h x (mem_of_mem_drop hx)
theorem BP{x8 x9 x10 Mi OU OV:Value}(a b c n:Nat)(_hn:n<=1000000)(X:List Nat)(hX:X.length=64)(dX:∀x∈X,x<256)(s2:St)(ok2:s2.Ok)(K:List Nat)(hK:K.length=64)(dK:∀x∈K,x<4294967296)(B:Nat)(w0 w:World)
  (Yr:B<=b) (hcB:B<=c) (hac:a≠c) (hbc:b≠c) (ha:ai w a 293 (aQ s2.list)) (hb:ai w b 293 (aQ (replicate 8 0))) (hc:ai w c 189 (bytes X)) (hT:BM w0 14 K) (hg:14<B) (hw:Below B w0 w):
  Code.wp prog WM (bodyPost prog Tryz.f185 (fun e w'=>e=.returned (.agg (aQ (Dl K s2 (gF X n 8))).toArray)/\Below B w0 w')) ⟨#[x0,x1,.int .u64 (8*(n:Int)),Zp a,x4,x5,Zp b,Zp c,x8,x9,x10,Mi,OU,OV,qx,EL,EM,EN,x18,DK,x20,x21,Bh,x23,x24,x25,Jl,x27,x28,x29,x30,x31,x32,ME,x34,MF,MG],[]⟩ w:=by
 conv=>arg 2;whnf
 rw[<-Kb X n] at hc;go_wp2;go_loopw [21] (fun i wr=>∃k:Nat,k<=8/\i=.int .i64 k/\ai wr a 293 (aQ s2.list)/\ai wr b 293 (aQ (replicate 8 0))/\ai wr c 189 (bytes (gF X n k))/\Below B w0 wr) (fun i _=>8-(intOf i).toNat)
 case atStart=>exact⟨0,by omega,rfl,ha,hb,hc,hw⟩
 case round=>
  clear ha hb hc hw;obtain⟨k,hk,rfl,ha,hb,hc,hw⟩:=hrel;by_cases hlt:k<8
  ·have cc:=hc.cell (56+k);have fc:=hc.frozen (56+k);rw[qE _ _ (by rw[BN X n k hX hk];omega)] at cc;have hst:Hid _:=Kc X n k hX hlt;generalize(gF X n k).getD (56+k) 0=old at cc;have key:Hid (∀v:Int,v=(rF n k:Nat)->ai (wr.setCell (Za c (56+k)) (.int .u8 v)) c 189 (bytes (gF X n (k+1)))):=by
    intro v hv;rw[hv,<-hst.out,<-mF];exact hc.set _ _
   have ha2:Hid (∀v,ai (wr.setCell (Za c (56+k)) v) a 293 (aQ s2.list)):=fun v=>ha.other v hac;have hb2:Hid (∀v,ai (wr.setCell (Za c (56+k)) v) b 293 (aQ (replicate 8 0))):=fun v=>hb.other v hbc;have hw2:Hid (∀v,Below B w0 (wr.setCell (Za c (56+k)) v)):=fun v=>hw.setCell hcB v;clear ha hb hc hw;go_wp2;exact⟨⟨k+1,by omega,by go_num,ha2.out _,hb2.out _,key.out _ (Ke n k hlt),hw2.out _⟩,by simp[intOf];omega⟩
  ·have en:k=8:=by omega
   have Zj:(k:Int)=8:=by omega
   rw[Zj];subst en;have hl8:=BN X n 8 hX (Zn);have hm:=zm K hK dK s2 ok2 (gF X n 8) hl8 (QO X n 8 dX) wr (hT.below hw hg) (Nat.lt_of_lt_of_le (Nat.lt_of_lt_of_le hg Yr) (Nat.le_of_lt hb.lt));have AY:(Dl K s2 (gF X n 8)).length=8:=rfl;obtain⟨M,HM⟩:∃M,Hid (Dl K s2 (gF X n 8)=M):=⟨_,rfl⟩;rw[HM.out] at hm AY;have hsz:(prog.info? 293).map (·.size)=some (aQ M).toArray.size:=by rw[size_toArray,bI,AY];kernel_rfl
   have GQ:(prog.info? 293).map (·.size)=some (aQ s2.list).toArray.size:=by rw[size_toArray,bI];kernel_rfl
   have Kg:(prog.info? 189).map (·.size)=some (bytes (gF X n 8)).toArray.size:=by rw[size_toArray,aF,hl8];kernel_rfl
   have hz:(aQ (replicate 8 0)).toArray.size=(aQ M).toArray.size:=by rw[size_toArray,size_toArray,bI,bI,AY];simp
   have hone:=oP M;generalize gF X n 8=Y at hc hm Kg;go_wp2_with(first|(refine wpList_load_row rfl 293 _ rfl a rfl _ _ _ _ ha.heap underlying293 rfl GQ ?_)|(refine wpList_load_row rfl 189 _ rfl c rfl _ _ _ _ hc.heap underlying189 rfl Kg ?_)|(go_at_call 183;refine hm.mono ?_;rintro e w2 ⟨rfl,hb2⟩;have hbr:=hb.below hb2 hb.lt)|(refine wpList_store_row rfl 293 _ _ rfl b _ rfl rfl _ _ hbr.heap hsz hz hone ?_));have hB2:Below B w0 (w2.setRow b (aQ M).toArray):=(hw.trans (hb2.mono (Nat.le_trans Yr (Nat.le_of_lt hb.lt)))).setRow _ Yr;have hg2:=setRow_heap w2 b _ (aQ M).toArray _ _ hbr.heap;refine bodyPost_ret (v:=.agg (aQ M).toArray) ?_ rfl ⟨by rw[HM.out],hB2⟩;exact results_cell_row (P:=prog) results185 _ _ b _ _ _ _ rfl hg2 underlying293 rfl hsz
def gG(r:List Nat):List Nat:=r++[128]++replicate (63-r.length) 0
theorem wK(r:List Nat)(h:r.length<64):(gG r).length=64:=by simp[gG];omega
theorem Fp(r:List Nat)(h:∀x∈r,x<256):∀x∈gG r,x<256:=by
 intro x hx;simp only[gG,mem_append,mem_replicate,Zm] at hx;rcases hx with(hx|hx)|hx
 ·exact h x hx
 ·omega
 ·omega
theorem BQ(r:List Nat)(h:r.length<64):(r++(replicate 64 0).drop r.length).set r.length 128=gG r:=by
 unfold gG;rw[set_append_right _ _ (Zn),Nat.sub_self,drop_replicate,show 64-r.length=(63-r.length)+1 by omega,replicate_succ,set_cons_zero];simp
theorem xY(l m:List Nat):bytes (l++m)=bytes l++bytes m:=by simp[bytes]
theorem BR(l:List Nat)(n:Nat):bytes (l.drop n)=(bytes l).drop n:=by simp[bytes,map_drop]
def nN(K:List Nat)(s:St)(r:List Nat)(n:Nat):List Nat:=
 if r.length<56 then Dl K s (gF (gG r) n 8) else Dl K (ofList (Dl K s (gG r))) (gF (replicate 64 0) n 8)
theorem ai.setRow(h:ai w g t vs)(us:List Value):ai (w.setRow g us.toArray) g t us:=⟨setRow_heap w g _ _ _ _ h.heap⟩
theorem ai.otherRow(h:ai w g t vs)(cs:Array Value)(hne:g≠g2):ai (w.setRow g2 cs) g t vs:=⟨by rw[setRow_other w g2 g cs (by omega)];exact h.heap⟩
theorem Kh(K:List Nat)(hK:K.length=64)(dK:∀x∈K,x<4294967296)(s:St)(ok:s.Ok)(r:Zy)(hr:r.size<56)(n:Nat)(hn:n<=1000000)(w:World)(hT:BM w 14 K)(hg:14<w.heap.size):
  Zc 185 #[.agg (aQ s.list).toArray,.string r,.int .u64 (8*(n:Int))] w fun e w'=>e=.returned (.agg (aQ (Dl K s (gF (gG (af r)) n 8))).toArray)/\Below w.heap.size w w':=by
 have hl:=aM r;go_enter func185,ntmps185;refine dM ?_;go_wp2;show Code.wp _ _ _ _ _;refine dM ?_;go_wp2;show Code.wp _ _ _ _ (((w.alloc (.cells (aQ s.list).toArray 293)).alloc (.cells (aQ (replicate 8 0)).toArray 293)).alloc (.cells (bytes (replicate 64 0)).toArray 189));obtain⟨hb0,h1,h2,h3,hz⟩:=rE w 293 293 189 (aQ s.list) (aQ (replicate 8 0)) (bytes (replicate 64 0));generalize(((w.alloc (.cells (aQ s.list).toArray 293)).alloc (.cells (aQ (replicate 8 0)).toArray 293)).alloc (.cells (bytes (replicate 64 0)).toArray 189))=W at *;refine dM ?_;have hcp:=oh (P:=prog) W 124 9 3 5 (w.heap.size+1+1) 64 64 r.size r _ _ underlying124 (by kernel_rfl) h3 (Nat.min_eq_left (by omega)) (by rw[aF];simp;omega);have k1:=h1.otherRow (g2:=w.heap.size+1+1) (bytes ((af r).take r.size)++(bytes (replicate 64 0)).drop r.size).toArray (by omega);have k2:=h2.otherRow (g2:=w.heap.size+1+1) (bytes ((af r).take r.size)++(bytes (replicate 64 0)).drop r.size).toArray (by omega);have k3:=h3.setRow (bytes ((af r).take r.size)++(bytes (replicate 64 0)).drop r.size);have kb:=hb0.setRow (g:=w.heap.size+1+1) (bytes ((af r).take r.size)++(bytes (replicate 64 0)).drop r.size).toArray (by omega);generalize W.setRow (w.heap.size+1+1) (bytes ((af r).take r.size)++(bytes (replicate 64 0)).drop r.size).toArray=W1 at k1 k2 k3 kb hcp;clear h1 h2 h3 hb0 hz;go_wp2_with(at_builtin;refine p9 _ rfl _ _ 124 9 rfl _ _ rfl rfl hcp ?_);show Code.wp _ _ _ _ _;clear hcp;rw[take_of_length_le (by omega),<-BR,<-xY] at k3;have c3:=k3.cell r.size;rw[qE _ _ (by simp;omega)] at c3;have f3:=k3.frozen r.size;generalize(af r++List.drop r.size (replicate 64 0)).getD r.size 0=old at c3;have j1:=k1.other (a:=(Za (w.heap.size+1+1) r.size)) (.int .u8 128) (show w.heap.size≠w.heap.size+1+1 by omega);have j2:=k2.other (a:=(Za (w.heap.size+1+1) r.size)) (.int .u8 128) (show w.heap.size+1≠w.heap.size+1+1 by omega);have j3:=k3.set r.size (.int .u8 128);have jb:=kb.setCell (p:=(Za (w.heap.size+1+1) r.size)) (show w.heap.size<=w.heap.size+1+1 by omega) (.int .u8 128);rw[show(.int .u8 128:Value)=.int .u8 ((128:Nat):Int) from rfl,mF,<-hl,BQ (af r) (by omega),hl] at j3;clear k1 k2 k3 kb;refine dM ?_;go_wp2;show Code.wp _ _ _ _ _;clear c3 f3
 change ai (W1.setCell (Za (w.heap.size+1+1) r.size) (.int .u8 128)) _ _ _ at j3
 generalize W1.setCell (Za (w.heap.size+1+1) r.size) (.int .u8 128)=W2 at j1 j2 j3 jb⊢;have dl:=Fp (af r) (jP r);have ll:=wK (af r) (by omega);refine dM ?_;have h56:¬(56:Int)<=(r.size:Int):=by omega
 go_wp2;show Code.wp _ _ _ _ _;exact BP w.heap.size (w.heap.size+1) (w.heap.size+1+1) n hn (gG (af r)) ll dl s ok K hK dK w.heap.size w W2 (by omega) (by omega) (by omega) (by omega) j1 j2 j3 hT hg jb
theorem Nr(K:List Nat)(hK:K.length=64)(dK:∀x∈K,x<4294967296)(s:St)(ok:s.Ok)(r:Zy)(h56:56<=r.size)(hr:r.size<64)(n:Nat)(hn:n<=1000000)(w:World)(hT:BM w 14 K)(hg:14<w.heap.size):
  Zc 185 #[.agg (aQ s.list).toArray,.string r,.int .u64 (8*(n:Int))] w fun e w'=>e=.returned (.agg (aQ (Dl K (ofList (Dl K s (gG (af r)))) (gF (replicate 64 0) n 8))).toArray)/\Below w.heap.size w w':=by
 have hl:=aM r;go_enter func185,ntmps185;refine dM ?_;go_wp2;show Code.wp _ _ _ _ _;refine dM ?_;go_wp2;show Code.wp _ _ _ _ (((w.alloc (.cells (aQ s.list).toArray 293)).alloc (.cells (aQ (replicate 8 0)).toArray 293)).alloc (.cells (bytes (replicate 64 0)).toArray 189));obtain⟨hb0,h1,h2,h3,hz⟩:=rE w 293 293 189 (aQ s.list) (aQ (replicate 8 0)) (bytes (replicate 64 0));generalize(((w.alloc (.cells (aQ s.list).toArray 293)).alloc (.cells (aQ (replicate 8 0)).toArray 293)).alloc (.cells (bytes (replicate 64 0)).toArray 189))=W at *;refine dM ?_;have hcp:=oh (P:=prog) W 124 9 3 5 (w.heap.size+1+1) 64 64 r.size r _ _ underlying124 (by kernel_rfl) h3 (Nat.min_eq_left (by omega)) (by rw[aF];simp;omega);have k1:=h1.otherRow (g2:=w.heap.size+1+1) (bytes ((af r).take r.size)++(bytes (replicate 64 0)).drop r.size).toArray (by omega);have k2:=h2.otherRow (g2:=w.heap.size+1+1) (bytes ((af r).take r.size)++(bytes (replicate 64 0)).drop r.size).toArray (by omega);have k3:=h3.setRow (bytes ((af r).take r.size)++(bytes (replicate 64 0)).drop r.size);have kb:=hb0.setRow (g:=w.heap.size+1+1) (bytes ((af r).take r.size)++(bytes (replicate 64 0)).drop r.size).toArray (by omega);generalize W.setRow (w.heap.size+1+1) (bytes ((af r).take r.size)++(bytes (replicate 64 0)).drop r.size).toArray=W1 at k1 k2 k3 kb hcp;clear h1 h2 h3 hb0 hz;go_wp2_with(at_builtin;refine p9 _ rfl _ _ 124 9 rfl _ _ rfl rfl hcp ?_);show Code.wp _ _ _ _ _;clear hcp;rw[take_of_length_le (by omega),<-BR,<-xY] at k3;have c3:=k3.cell r.size;rw[qE _ _ (by simp;omega)] at c3;have f3:=k3.frozen r.size;generalize(af r++List.drop r.size (replicate 64 0)).getD r.size 0=old at c3;have j1:=k1.other (a:=(Za (w.heap.size+1+1) r.size)) (.int .u8 128) (show w.heap.size≠w.heap.size+1+1 by omega);have j2:=k2.other (a:=(Za (w.heap.size+1+1) r.size)) (.int .u8 128) (show w.heap.size+1≠w.heap.size+1+1 by omega);have j3:=k3.set r.size (.int .u8 128);have jb:=kb.setCell (p:=(Za (w.heap.size+1+1) r.size)) (show w.heap.size<=w.heap.size+1+1 by omega) (.int .u8 128);rw[show(.int .u8 128:Value)=.int .u8 ((128:Nat):Int) from rfl,mF,<-hl,BQ (af r) (by omega),hl] at j3;clear k1 k2 k3 kb;refine dM ?_;go_wp2;show Code.wp _ _ _ _ _;clear c3 f3
 change ai (W1.setCell (Za (w.heap.size+1+1) r.size) (.int .u8 128)) _ _ _ at j3
 generalize W1.setCell (Za (w.heap.size+1+1) r.size) (.int .u8 128)=W2 at j1 j2 j3 jb⊢;have dl:=Fp (af r) (jP r);have ll:=wK (af r) (by omega);refine dM ?_;have h56i:(56:Int)<=(r.size:Int):=by omega
 have hm:=zm K hK dK s ok (gG (af r)) ll dl W2 (hT.below jb hg) (Nat.lt_of_lt_of_le hg jb.size);have AY:(Dl K s (gG (af r))).length=8:=rfl;have yN:=L9 K s (gG (af r));have hML:=SK K s (gG (af r));have GQ:(prog.info? 293).map (·.size)=some (aQ s.list).toArray.size:=by rw[size_toArray,bI];kernel_rfl
 have Kg:(prog.info? 189).map (·.size)=some (bytes (gG (af r))).toArray.size:=by rw[size_toArray,aF,ll];kernel_rfl
 have H3:Hid _:=j3;generalize gG (af r)=Y at j3 Kg hm AY yN hML ll⊢;generalize Dl K s Y=M at hm AY yN hML⊢;have hsz:(prog.info? 293).map (·.size)=some (aQ M).toArray.size:=by rw[size_toArray,bI,AY];kernel_rfl
 have hz:(aQ s.list).toArray.size=(aQ M).toArray.size:=by rw[size_toArray,size_toArray,bI,bI,AY];rfl
 have hone:=oP M;go_wp2_with(first|(refine wpList_load_row rfl 293 _ rfl w.heap.size rfl _ _ _ _ j1.heap underlying293 rfl GQ ?_)|(refine wpList_load_row rfl 189 _ rfl (w.heap.size+1+1) rfl _ _ _ _ j3.heap underlying189 rfl Kg ?_)|(go_at_call 183;refine hm.mono ?_;rintro e w2 ⟨rfl,hb2⟩;have i1:=j1.below hb2 j1.lt;have i2:=j2.below hb2 j2.lt;have i3:=j3.below hb2 j3.lt;have ib:=jb.trans (hb2.mono jb.size))|(refine wpList_store_row rfl 293 _ _ rfl w.heap.size _ rfl rfl _ _ i1.heap hsz hz hone ?_;have m1:=i1.setRow (aQ M);have m2:=i2.otherRow (g2:=w.heap.size) (aQ M).toArray (by omega);have m3:=i3.otherRow (g2:=w.heap.size) (aQ M).toArray (by omega);have mb:=ib.setRow (g:=w.heap.size) (aQ M).toArray (Zn);generalize w2.setRow w.heap.size (aQ M).toArray=W3 at m1 m2 m3 mb⊢));have ZQ:=DJ (P:=prog) W3 124 5 0 (.int .u8 0) underlying124 (fun _=>by kernel_rfl) rfl rfl (w.heap.size+1+1) 64 64 (by decide) _ _ m3 (by rw[aF];exact ll);have n1:=m1.otherRow (g2:=w.heap.size+1+1) (replicate 64 (Value.int .u8 0)).toArray (by omega);have n2:=m2.otherRow (g2:=w.heap.size+1+1) (replicate 64 (Value.int .u8 0)).toArray (by omega);have n3:=m3.setRow (replicate 64 (Value.int .u8 0));have nb:=mb.setRow (g:=w.heap.size+1+1) (replicate 64 (Value.int .u8 0)).toArray (by omega);generalize W3.setRow (w.heap.size+1+1) (replicate 64 (Value.int .u8 0)).toArray=W4 at ZQ n1 n2 n3 nb;rw[ZQ];go_wp2;show Code.wp _ _ _ _ _;rw[<-hML] at n1;rw[show replicate 64 (Value.int .u8 0)=bytes (replicate 64 0) by simp[bytes]] at n3;exact BP w.heap.size (w.heap.size+1) (w.heap.size+1+1) n hn (replicate 64 0) (by simp) (by intro x hx;rw[eq_of_mem_replicate hx];decide) (ofList M) yN K hK dK w.heap.size w W4 (by omega) (by omega) (by omega) (by omega) n1 n2 n3 hT hg nb
theorem QS(K:List Nat)(hK:K.length=64)(dK:∀x∈K,x<4294967296)(s:St)(ok:s.Ok)(r:Zy)(hr:r.size<64)(n:Nat)(hn:n<=1000000)(w:World)(hT:BM w 14 K)(hg:14<w.heap.size):
  Zc 185 #[.agg (aQ s.list).toArray,.string r,.int .u64 (8*(n:Int))] w fun e w'=>e=.returned (.agg (aQ (nN K s (af r) n)).toArray)/\Below w.heap.size w w':=by
 have hl:=aM r;unfold nN;by_cases h:r.size<56
 ·rw[if_pos (by omega)];exact Kh K hK dK s ok r h n hn w hT hg
 ·rw[if_neg (by omega)];exact Nr K hK dK s ok r (by omega) hr n hn w hT hg
end
end Go.Proofs.YtdidjdoifpfmmaaGreatDoor
