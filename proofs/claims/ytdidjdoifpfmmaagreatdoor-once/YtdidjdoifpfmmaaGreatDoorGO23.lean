import Derived.Test.YtdidjdoifpfmmaaGreatDoorGO22
set_option maxRecDepth 100000
set_option maxHeartbeats 16000000
namespace Go.Proofs.YtdidjdoifpfmmaaGreatDoor
open Go.Proofs.Tryz List
variable{a:Nat->Addr}{c:dz}{w w3 w':World}{q co n g cap base' dp B b:Nat}{d:DP}{S S':Dk}{ms bs:List Nat}{H:List Ob}{I:List (Zy × Zy)}{ao:Option Addr}{s x t:Zy}{P:Program}{i o:Array TypeId}{va:Bool}{en es:List En}{lv v:Value}{kk k pl:Int}{L:List It}{p:aS}{A:jc}{M:Value->World->Prop}
section
open Go.RowKit Go.Maps Go.Lib
def Er(c:dz)(S:Dk)(H:List Ob):List En->List Ln->Except Nat (List En)
 | acc,[]=>.ok acc
 | acc,y::r=>if y.dir=true then Er c S H (acc++[⟨y.name,true,0⟩]) r else match qQ c S H y.sum with
  | .error l=>.error l
  | .ok x=>Er c S H (acc++[⟨y.name,false,x.1⟩]) r
def liOf:Except Nat (List En)->Except KE (List En)
 | .error l=>.error (.fault l)
 | .ok es=>.ok es
def yG(c:dz)(S:Dk)(H:List Ob)(I:List (Zy × Zy))(n:Int)(ns:List Zy):Except KE (List En):=match uJ c S H I n ns with
 | .error k=>.error k
 | .ok x=>if x.dir=false then .error (.err 6) else match wO c S H x.sum with
  | .error l=>.error (.fault l)
  | .ok ls=>liOf (Er c S H [] ls)
def NT(a:Nat->Addr)(R:Except KE (List En))(B:Nat)(e:Ending)(w':World):Prop:=match R with
 | .ok es=>∃ao co,e=.returned (.tuple #[.slice ao es.length co,.nilIface])/\w'.ownsRow B 52 3 (.slice ao es.length co) es.length (dm es)
 | .error k=>∃v,e=.returned (.tuple #[.slice none 0 0,v])/\k.At a w' v
theorem vR(l:List En)(x:En):dm (l++[x])=dm l++[.string x.name,.bool x.dir,Zi x.size]:=by
 unfold dm;rw[flatMap_append];simp[En.cells]
theorem yH(w:World)(a b:Obj):((w.alloc a).alloc b).heap[w.heap.size+1]? =some b:=by
 have:=heap_alloc_new (w.alloc a) b;rw[show(w.alloc a).heap.size=w.heap.size+1 by simp] at this;exact this
theorem Hy(w:World)(p:Addr)(u:Value)(a b:Obj):(((w.setCell p u).alloc a).alloc b).heap[w.heap.size+1]? =some b:=by
 have:=yH (w.setCell p u) a b;rw[show(w.setCell p u).heap.size=w.heap.size by simp] at this;exact this
theorem KU(h:mO a c w q d S ms H I ao co)(n:Int)(ns:List Zy)(v:Value)(hv:wV w d v ns)(hl:ns.length<=100)(hok:∃r,yG c S H I n ns=.ok r):
  Zc 160 #[Zp q,.int .i64 n,v] w fun e w'=>NT a (yG c S H I n ns) w.heap.size e w'/\aB w' d S/\Fr w w' [d.p]:=by
 have hdp:d.p<w.heap.size:=h.rd.at_.dev.row.lt;have HK:Hid _:=h;have GR:Hid (∀b∈d.blocks,b<w.heap.size):=h.rd.at_.dev.lt;have HR:Hid (yG c S H I n ns=match uJ c S H I n ns with | .error k=>.error k | .ok x=>if x.dir=false then .error (.err 6) else match wO c S H x.sum with | .error l=>.error (.fault l) | .ok ls=>liOf (Er c S H [] ls)):=rfl;cases hX:uJ c S H I n ns with
 | error k=>
  have hR:=HR.out;rw[hX] at hR;obtain⟨r,er⟩:=hok;rw[er] at hR;cases hR
 | ok x=>
  have M6:=zZ h n ns v hv hl ⟨x,hX⟩;rw[hX] at M6;have hR:=HR.out;rw[hX] at hR;simp only at hR;have cF:Hid (Zc 229 #[Zp q,.int .i64 n,v] w fun e w'=>(e=.returned (.tuple #[.agg (au x.name x.dir x.sum).toArray,.nilIface])/\x.sum.size=32)/\aB w' d S/\Fr w w' [d.p]):=M6;have Na:Hid (x.sum.size=32->(prog.info? 353).map (·.size)=some (au x.name x.dir x.sum).toArray.size/\(au ⟨#[]⟩ false (aI 32)).toArray.size=(au x.name x.dir x.sum).toArray.size/\(au x.name x.dir x.sum).toArray.all (·.oneCell')=true/\(prog.info? 121).map (·.size)=some (bytes (af x.sum)).length):=fun hx=>⟨fM hx _ _,by rw[gu rfl,gu hx],qX _ _ _,by rw[dh _ hx];kernel_rfl⟩;have cD:Hid (∀w1,aB w1 d S->Fr w w1 [d.p]->x.sum.size=32->Zc 224 #[Zp q,.agg (bytes (af x.sum)).toArray] w1 fun e w'=>BX a (wO c S H x.sum) w1.heap.size e w'/\aB w' d S/\Fr w1 w' [d.p]):=fun w1 h1 h2 h3=>sK (h.rd.read h1 h2) x.sum h3;have cFi:Hid (∀w1 s,aB w1 d S->Fr w w1 [d.p]->s.size=32->Zc 230 #[Zp q,.agg (bytes (af s)).toArray] w1 fun e w'=>uU a (qQ c S H s) w1.heap.size e w'/\aB w' d S/\Fr w1 w' [d.p]):=fun w1 s h1 h2 h3=>Ko (h.rd.read h1 h2) s h3;have HRW:Hid (∀W:World,ai (W.alloc (.cells (au x.name x.dir x.sum).toArray 353)) W.heap.size 353 (au x.name x.dir x.sum)):=fun W=>ai.new W _ _;have HLn:Hid (∀(W:World) (b:Nat),ai W b 353 (au x.name x.dir x.sum)->W.cell? (Za b 1)=some (.bool x.dir)/\W.rangeAt b 2 (bytes (af x.sum))):=fun W b hr=>(wQ (x:=x) hr).2;have g60:=h.rd.G.err 6 (by omega);have abe:6<w.heap.size/\d.p≠6:=⟨by have:=h.far;omega,by have:=h.rd.F.p;omega⟩;clear M6 hX HR h;cases hxd:x.dir with
  | false=>
   rw[hxd,if_pos rfl] at hR;obtain⟨r,er⟩:=hok;rw[er] at hR;cases hR
  | true=>
   rw[hxd,if_neg (by decide)] at hR;rw[hxd] at cF Na HRW HLn;cases hY:wO c S H x.sum with
   | error l=>
    rw[hY] at hR;obtain⟨r,er⟩:=hok;rw[er] at hR;cases hR
   | ok ls=>
    rw[hY] at hR cD;obtain⟨hls,hll⟩:=FH hY;have HLS:Hid _:=hls;obtain⟨R,HE⟩:∃R,Hid (Er c S H [] ls=R):=⟨Er c S H [] ls,Eq.refl _⟩;have hR2:yG c S H I n ns=liOf R:=by rw[<-HE.out];exact hR
    have AB:Hid (∃r,R=.ok r):=by
     obtain⟨r,er⟩:=hok;rw[hR2] at er;cases R with
     | error l=>cases er
     | ok es=>exact⟨es,rfl⟩
    have HRR:Hid _:=hR2;clear hR hR2 hY hls;generalize au x.name true x.sum=CX at *;generalize bytes (af x.sum)=CS at *;obtain⟨i0,hi0,hz0,hz1',hz2⟩:=info_parts uH;go_enter func160,ntmps160;go_wp2_with(first
     | (go_at_call 229;refine Calls.mono cF.out ?_;rintro e w1 ⟨⟨rfl,hxs⟩,hd1,hf1⟩;obtain⟨i1,i2,i3,i4⟩:=Na.out hxs;have r8:=HRW.out w1;obtain⟨k1,k2⟩:=HLn.out _ _ r8;have fa:Fr w1 (w1.alloc (.cells CX.toArray 353)) []:=(Fr.refl _ _).alloc _;have cD2:=cD.out _ (hd1.fr fa (by simp)) (hf1.trans fa (by simp)) hxs)
     | (refine aJ rfl 353 _ _ rfl w1.heap.size _ CX.toArray rfl rfl rfl i1 i2 i3 ?_)
     | (refine wpList_load_mid rfl 121 _ rfl w1.heap.size 2 rfl CS _ k2 underlying121 rfl i4 ?_)
     | (go_at_call 224;refine Calls.mono cD2 ?_;rintro e w5 ⟨⟨al,cl,rfl,Sg⟩,hd5,qR⟩))
    have Pz:Fr w w5 [d.p]:=(hf1.trans fa (by simp)).trans qR (fun x hx _=>hx);have HO5:Hid _:=Sg;have HD5:Hid _:=hd5;have Lx:Hid _:=Pz;have hw5:w.heap.size<=w5.heap.size:=Pz.size;have hal:∀g,(Value.slice al ls.length cl).ownBlock=some g->g≠d.p:=fun g hg=>by have:=(World.ownsRow.lt Sg g hg).1;have:=hf1.size;have:=fa.size;omega
    clear Sg hd5 Pz qR cD2 cD fa r8 k1 k2 i1 i2 i3 i4 hd1 hf1 cF Na HRW HLn
    try go_frame
    go_loopw [11,43] (fun ov iv wr=>∃(j:Nat) (acc:List En) (ao:Option Addr) (co:Nat),ov=.slice ao acc.length co/\iv=(Zi j)/\j<=ls.length/\acc.length<=j/\Hid (wr.ownsRow w5.heap.size 52 3 (.slice ao acc.length co) acc.length (dm acc))/\Hid (Er c S H acc (ls.drop j)=R)/\Hid (aB wr d S)/\Hid (Fr w5 wr [d.p])) (fun _ iv _=>ls.length-(RowKit.intOf iv).toNat)
    case atStart=>exact⟨0,[],none,0,rfl,rfl,Nat.zero_le _,Nat.zero_le _,World.ownsRow_nil _ _ _ _,HE.out,HD5.out,Fr.refl _ _⟩
    case round=>
     obtain⟨j,acc,ao,co,rfl,rfl,hj,hacc,HA,HEj,HD,HF⟩:=hrel;by_cases hlt:j<ls.length
     ·have j0:(0:Int)<=(j:Int):=by omega
      have j1:(j:Int)<(ls.length:Int):=by omega
      obtain⟨gl,rfl,_,hgl,hrl⟩:=dH HO5.out (by omega);have hgd:gl≠d.p:=hal gl rfl;have Rt:=iB Ln.cells 34 (fun y hy=>by have:=gu (HLS.out y hy) y.name y.dir;rw[size_toArray] at this;exact this) hrl j hlt;have Vy:wr.rangeAt gl (j*34) (au ls[j].name ls[j].dir ls[j].sum):=iC Rt hgl HF.out (by simp;exact hgd);have hys:=HLS.out ls[j] (Zg hlt);have Xq:=fM hys ls[j].name ls[j].dir;have UL:(prog.info? 353).map (·.size)=some (au ls[j].name ls[j].dir ls[j].sum).length:=Xq;have hoY:=qX ls[j].name ls[j].dir ls[j].sum;have hsY:(au ⟨#[]⟩ false (aI 32)).toArray.size=(au ls[j].name ls[j].dir ls[j].sum).toArray.size:=by rw[gu rfl,gu hys]
      have r13:ai (wr.alloc (.cells (au ls[j].name ls[j].dir ls[j].sum).toArray 353)) wr.heap.size 353 ls[j].cells:=ai.new wr 353 _;obtain⟨k0,k1,k2⟩:=wQ r13;have b13:Below wr.heap.size wr (wr.alloc (.cells (au ls[j].name ls[j].dir ls[j].sum).toArray 353)):=(Zr).alloc (Zn) _;have hE:=HEj.out;rw[drop_eq_getElem_cons hlt,Er] at hE;have hiS:(prog.info? 121).map (·.size)=some (bytes (af ls[j].sum)).length:=by rw[dh _ hys];kernel_rfl
      have cFj:Hid (∀w1,aB w1 d S->Fr w w1 [d.p]->Zc 230 #[Zp q,.agg (bytes (af ls[j].sum)).toArray] w1 fun e w'=>uU a (qQ c S H ls[j].sum) w1.heap.size e w'/\aB w' d S/\Fr w1 w' [d.p]):=fun w1 h1 h2=>cFi.out w1 _ h1 h2 hys;generalize ls[j]=y at *;generalize hCY:au y.name y.dir y.sum=CY at *;clear hCY Rt hrl;go_upto_region 13 with(first
       | (refine wpList_load_mid rfl 353 _ rfl gl (j*34) rfl CY _ Vy underlying353 rfl UL ?_)
       | (refine aJ rfl 353 _ _ rfl wr.heap.size _ CY.toArray rfl rfl rfl Xq hsY hoY ?_))
      generalize(wr.alloc (.cells CY.toArray 353))=V at *;have hVs:wr.heap.size<V.heap.size:=r13.lt;have hws5:w5.heap.size<=wr.heap.size:=HF.out.size;have HOV:Hid (V.ownsRow w5.heap.size 52 3 (.slice ao acc.length co) acc.length (dm acc)):=fB HA.out b13;have KV:Hid (∀g,(Value.slice ao acc.length co).ownBlock=some g->w5.heap.size<=g/\g<wr.heap.size):=fun g hg=>World.ownsRow.lt HA.out g hg;have fV:Fr w5 V [d.p]:=HF.out.trans (Fr.of_below b13 _) (fun x hx _=>hx);have HFV:Hid _:=fV;have HDV:Hid (aB V d S):=HD.out.below b13;clear b13 fV Vy Xq UL hoY hsY;cases MP:y.dir with
      | true=>
       rw[MP,if_pos rfl] at hE;rw[MP] at k1;have HE2:Hid _:=hE;clear hE;go_wp2_with(at_builtin;(refine wpList_append_lies _ rfl _ _ 48 rfl w5.heap.size 52 i0 _ 3 32 underlying48 hi0 hz0 hz1' hz2 rfl (by decide) (.slice ao acc.length co) acc.length (dm acc) rfl ((HOV.out.alloc _).alloc _) (Za (V.heap.size+1) 0) 1 1 [.string y.name,.bool true,.int .i64 0] rfl rfl (World.news_of_block (cs:=#[.string y.name,.bool true,.int .i64 0]) (yH V _ _)) (by intro u hu;simp at hu;rcases hu with rfl|rfl|rfl<;>rfl) (by decide) (by unfold maxLen;omega) (by omega) (by simp;omega) _ rfl ?_;intro g cap w4 aY aN hat tJ));have hnb:∀b∈d.blocks,b∉(Value.slice ao acc.length co).ownBlock.toList:=fun b hb hm=>by have:=GR.out b hb;have:=(KV.out b (Zo.1 hm)).1;omega
       have fg:Fr V w4 (Value.slice ao acc.length co).ownBlock.toList:=(((Fr.refl V _).alloc _).alloc _).grown aN (fun k e=>.inl (Zo.2 e));refine⟨⟨j+1,acc++[(⟨y.name,true,0⟩:En)],some (Za g 0),cap,by simp,by push_cast;rfl,by omega,by simp;omega,?_,HE2.out,aB.fr HDV.out fg hnb,Fr.trans HFV.out fg (fun x hx hl=>?_)⟩,by simp[RowKit.intOf];omega⟩
       ·show World.ownsRow _ _ _ _ _ _ _;rw[length_append,length_singleton,vR];exact aY
       ·have:=(KV.out x (Zo.1 hx)).1;omega
      | false=>
       rw[MP,if_neg (by decide)] at hE;rw[MP] at k1;have cFj2:Hid (∀W,Fr V W []->_):=fun W f=>cFj.out W (HDV.out.fr f (by simp)) (Lx.out.trans (HFV.out.trans f (by simp)) (fun x hx _=>hx));have fE:Fr V V []:=Fr.refl _ _;cases hFl:qQ c S H y.sum with
       | error l=>
        rw[hFl] at hE;obtain⟨r,er⟩:=AB.out;rw[er] at hE;cases hE
       | ok z=>
        rw[hFl] at hE cFj2;have HE2:Hid (Er c S H (acc++[⟨y.name,false,z.1⟩]) (ls.drop (j+1))=R):=hE;have HO7:Hid (∀W,Fr V W [d.p]->W.ownsRow w5.heap.size 52 3 (.slice ao acc.length co) acc.length (dm acc)):=fun W f=>aT HOV.out f (fun g hg hm=>by have:=(KV.out g hg).1;rw[Zm.1 hm] at this;omega);have fV1:Fr V (V.alloc (.cells #[.string y.name,.bool false,.int .i64 0] 52)) [d.p]:=(Fr.refl _ _).alloc _;clear hE hFl;generalize bytes (af y.sum)=CS2 at *;go_wp2_with(first
         | (refine wpList_load_mid rfl 121 _ rfl wr.heap.size 2 rfl CS2 _ (iC k2 r13.lt (fE.alloc _) (by simp)) underlying121 rfl hiS ?_)
         | (go_at_call 230;refine Calls.mono (cFj2.out _ (fE.alloc _)) ?_;rintro e w7 ⟨⟨az,cz,rfl,hO7⟩,hd7,Pp⟩;have YR:=Pp.row (ai.new V 52 [.string y.name,.bool false,.int .i64 0]) (by simp;omega);have q0:=YR.cell 0;have q1:=YR.cell 1;have q2:=YR.cell 2;have z0:=YR.frozen 2;have l14:=YR.lt;have hV7:=Pp.size)
         | (at_builtin;(refine wpList_append_lies _ rfl _ _ 48 rfl w5.heap.size 52 i0 _ 3 32 underlying48 hi0 hz0 hz1' hz2 rfl (by decide) (.slice ao acc.length co) acc.length (dm acc) rfl (HO7.out _ ((((fV1.trans Pp (fun x hx _=>hx)).setCell (Za V.heap.size 2) _ (.inr (Zn))).alloc _).alloc _)) (Za (w7.heap.size+1) 0) 1 1 [.string y.name,.bool false,Zi z.1] rfl rfl (World.news_of_block (cs:=#[.string y.name,.bool false,Zi z.1]) (Hy w7 _ _ _ _)) (by intro u hu;simp at hu;rcases hu with rfl|rfl|rfl<;>rfl) (by decide) (by unfold maxLen;omega) (by omega) (by simp;omega) _ rfl ?_;intro g cap w4 aY aN hat tJ)))
        have hnb:∀b∈d.blocks,b∉(Value.slice ao acc.length co).ownBlock.toList++[V.heap.size]:=fun b hb hm=>by
         have h1:=GR.out b hb;rcases mem_append.1 hm with h2|h2
         ·have:=(KV.out b (Zo.1 h2)).1;omega
         ·rw[Zm.1 h2] at h1;omega
        have fg:Fr w7 w4 ((Value.slice ao acc.length co).ownBlock.toList++[V.heap.size]):=((((Fr.refl w7 _).setCell (Za V.heap.size 2) _ (.inl (by simp))).alloc _).alloc _).grown aN (fun k e=>.inl (mem_append_left _ (Zo.2 e)));have f7:Fr w5 w7 [d.p]:=HFV.out.trans (fV1.trans Pp (fun x hx _=>hx)) (fun x hx _=>hx);refine⟨⟨j+1,acc++[(⟨y.name,false,z.1⟩:En)],some (Za g 0),cap,by simp,by push_cast;rfl,by omega,by simp;omega,?_,HE2.out,aB.fr hd7 fg hnb,Fr.trans f7 fg (fun x hx hl=>?_)⟩,by simp[RowKit.intOf];omega⟩
        ·show World.ownsRow _ _ _ _ _ _ _;rw[length_append,length_singleton,vR];exact aY
        ·rcases mem_append.1 hx with h2|h2
         ·have:=(KV.out x (Zo.1 h2)).1;omega
         ·rw[Zm.1 h2] at hl;omega
     ·have ej:j=ls.length:=by omega
      subst ej;have j1:¬(ls.length:Int)<(ls.length:Int):=by omega
      have hE:=HEj.out;rw[drop_length,Er] at hE;have HE2:Hid (.ok acc=R):=hE;clear hE;go_wp2;refine bodyPost_ret (results_tmp2 rfl _ _ _) rfl ?_;rw[HRR.out,<-HE2.out];exact⟨⟨ao,co,rfl,pz HA.out hw5⟩,HD.out,Lx.out.trans HF.out (fun x hx _=>hx)⟩
def FJ(c:dz)(S:Dk)(H:List Ob)(I:List (Zy × Zy))(n:Int)(s:Zy):Except KE (List En):=if(ax s).2=true then yG c S H I n (ax s).1 else .error (.err 4)
theorem KW(h:mO a c w q d S ms H I ao co)(n:Int)(hn:n≠0)(s:Zy)(hs:s.size<=1000000)(hok:∃r,FJ c S H I n s=.ok r):
  Zc 94 #[Zp q,.int .i64 n,.string s] w fun e w'=>NT a (FJ c S H I n s) w.heap.size e w'/\aB w' d S/\Fr w w' [d.p]:=by
 have HK:Hid _:=h;have hG:=h.rd.G;have hd0:=h.rd.at_.dev;have hn0:(n==0)=false:=by simpa using hn
 cases h0:(ax s).2 with
 | false=>
  have HR:FJ c S H I n s=.error (.err 4):=if_neg (by rw[h0];decide);obtain⟨r,er⟩:=hok;rw[HR] at er;cases er
 | true=>
  have HR:Hid (FJ c S H I n s=yG c S H I n (ax s).1):=if_pos h0;have hok2:∃r,yG c S H I n (ax s).1=.ok r:=by rw[<-HR.out];exact hok
  have cS:=lF hG s hs h0;have gV:=gJ s h0;clear h;have cR:Hid (∀w1 v,iF w1 v (ax s).1->Below w.heap.size w w1->Zc 160 #[Zp q,.int .i64 n,v] w1 fun e w'=>NT a (yG c S H I n (ax s).1) w1.heap.size e w'/\aB w' d S/\Fr w1 w' [d.p]):=fun w1 v h1 hb=>KU (HK.out.below hb) n _ v (wV.of h1 (hd0.below hb)) (by omega) hok2;generalize yG c S H I n (ax s).1=R at *;cases R with
  | error k=>
   obtain⟨r,er⟩:=hok2;cases er
  | ok t=>
   go_enter func94,ntmps94;go_wp2_with(first
    | (go_at_call 159;refine cS.mono ?_;rintro e w1 ⟨v,rfl,h1,hb⟩)
    | (go_at_call 160;refine(cR.out _ _ h1 hb).mono ?_;rintro e w2 ⟨⟨ao2,co2,rfl,hO2⟩,hd2,hf2⟩))
   refine bodyPost_ret (results_tmp2 rfl _ _ _) rfl ?_;rw[HR.out];exact⟨⟨ao2,co2,rfl,pz hO2 hb.size⟩,hd2,(Fr.of_below hb _).trans hf2 (fun x hx _=>hx)⟩
end
section
open Go.RowKit
section
variable {a:Nat->Addr}{w:World}{q:Nat}{L:List It}{blk mblk:Zy->Nat}
theorem Xr(ok:aC L)(h:uX L s=0):(ax s).2=true/\(dw L ⟨#[]⟩ (-1) (ax s).1).2=0/\bC L s:=by
 unfold uX at h;cases h0:(ax s).2
 ·rw[h0,if_pos rfl] at h;cases h
 ·rw[h0,if_neg (by simp)] at h;by_cases hf:(dw L ⟨#[]⟩ (-1) (ax s).1).2=0
  ·refine⟨rfl,hf,?_⟩;rw[if_neg (by simp[hf])] at h;rcases Kz ok h0 hf with⟨hd,_⟩|⟨x,hx,hxp,hxd,hc,_⟩
   ·exact hd
   ·exfalso;rw[not_or] at hc;rw[if_pos ⟨by omega,by simpa using hc.2⟩] at h;cases h
  ·rw[if_pos hf] at h;exact absurd h hf
theorem Ia(G:eO a w)(h:eH w q L blk mblk)(s:Zy)(hs:s.size<=1000000)(h0:uX L s=0):
  Zc 94 #[Zp q,.int .i64 0,.string s] w fun e w'=>∃lv,e=.returned (.tuple #[lv,.nilIface])/\w'.ownsRow w.heap.size 52 3 lv (aj s L).length (dm ((aj s L).map (vz L s)))/\Below w.heap.size w w':=by
 obtain⟨hn,hf,hd⟩:=Xr h.ok h0;have c:=lF G s hs hn;have gV:=gJ s hn;have HJ:Hid _:=mH s hn;go_enter func94,ntmps94;go_wp2_with(go_at_call 159;refine c.mono ?_;rintro e w1 ⟨v,rfl,h1,hb⟩;have hr':=(h.below hb).root);have h':=h.below hb;have G':=G.up hb;have cF:=pI h'.tree h'.ok a _ v h1 (iq s) (by omega) (G'.err 5 (by decide)) (G'.err 6 (by decide)) hf;rw[HJ.out] at cF;go_wp2_with(go_at_call 161;refine cF.mono ?_;rintro e w2 ⟨rfl,hb2⟩);have h'':=h'.below hb2;have cD:=eX _ _ w2 (h''.tree.dir s hd).1;have cE:=Co h''.tree h''.ok s hd;go_wp2_with(first
  | (go_at_call 162;refine cD.mono ?_;rintro e w' ⟨rfl,rfl⟩)
  | (go_at_call 163;refine cE.mono ?_;rintro e w3 ⟨lv,rfl,ho,hb3⟩))
 refine bodyPost_ret (results_tmp2 rfl _ _ _) rfl ?_;have hs1:=hb.size;have hs2:=hb2.size;refine⟨lv,rfl,?_,hb.trans ((hb2.trans (hb3.mono hs2)).mono hs1)⟩;exact⟨ho.1,ho.2.imp id (fun⟨g,cap,cur,hv,hB,r⟩=>⟨g,cap,cur,hv,by omega,r⟩)⟩
end
structure Yd(w:World)(bo bx be ba bl bm:Nat)(B:Int)(lv:Value)(en:List En)(ov:Bool)(base:Nat):Prop where
 o:ai w bo 4 [.bool ov]
 x:ai w bx 4 [.bool false]
 e:ai w be 3 [.int .i64 0]
 a:ai w ba 3 [.int .i64 (-1)]
 l:ai w bl 48 [lv]
 m:ai w bm 3 [.int .i64 B]
 own:w.ownsRow base 52 3 lv en.length (dm en)
 lt:bo<base/\bx<base/\be<base/\ba<base/\bl<base/\bm<base
 ne:[bo,bx,be,ba,bl,bm].Nodup
def KX(B:Int)(n:Nat):Bool:=decide (0<B)&&decide ((n:Int)+1=B)
def enV(x:En):Value:=.agg #[.string x.name,.bool x.dir,Zi x.size]
theorem Ib(en:List En)(x:En):dm (en++[x])=dm en++[.string x.name,.bool x.dir,Zi x.size]:=by simp[dm,En.cells]
section
variable {w:World}{bo bx be ba bl bm:Nat}{B:Int}{lv:Value}{en:List En}{ov:Bool}{base:Nat}
theorem UN{e:TypeId}{size:Nat}{xs:List Value}(h:w.ownsRow base e size lv n xs)(g:Nat)(hg:lv.ownBlock=some g):base<=g:=AZ h g hg
theorem Yd.grown(Y:Yd w bo bx be ba bl bm B lv en ov base){o1 o2:Obj}{x:En}(_hB:base<=w.heap.size)(aY:w3.ownsRow base 52 3 (.slice (Zs g) (en.length+1) cap) (en.length+1) (dm en++[.string x.name,.bool x.dir,Zi x.size]))(hg:((w.alloc o1).alloc o2).grownBy w3 lv.ownBlock)(ov':Bool):
  ai w3 bl 48 [lv]/\ai (w3.setCell (Za bl 0) (.slice (Zs g) (en.length+1) cap)) bl 48 [.slice (Zs g) (en.length+1) cap]/\ai (w3.setCell (Za bl 0) (.slice (Zs g) (en.length+1) cap)) bm 3 [.int .i64 B]/\ai (w3.setCell (Za bl 0) (.slice (Zs g) (en.length+1) cap)) bo 4 [.bool ov]/\
  Yd ((w3.setCell (Za bl 0) (.slice (Zs g) (en.length+1) cap)).setCell (Za bo 0) (.bool ov')) bo bx be ba bl bm B (.slice (Zs g) (en.length+1) cap) (en++[x]) ov' base/\Fr w ((w3.setCell (Za bl 0) (.slice (Zs g) (en.length+1) cap)).setCell (Za bo 0) (.bool ov')) (bo::bl::lv.ownBlock.toList):=by
 obtain⟨l1,l2,l3,l4,l5,l6⟩:=Y.lt;have hne:=Y.ne;simp only[nodup_cons,mem_cons,not_mem_nil,or_false,not_or] at hne;obtain⟨⟨n1,n2,n3,n4,n5⟩,⟨n6,n7,n8,n9⟩,⟨n10,n11,n12⟩,⟨n13,n14⟩,n15,_⟩:=hne;have f1:Fr w w3 lv.ownBlock.toList:=(((Fr.refl w _).alloc o1).alloc o2).grown hg (fun k hk=>.inl (by rw[hk];simp));have far:∀b,b<base->b∉lv.ownBlock.toList:=fun b hb hm=>by
  rw[Zo] at hm;have:=UN Y.own b hm;omega
 have ro:=f1.row Y.o (far _ l1);have rx:=f1.row Y.x (far _ l2);have re:=f1.row Y.e (far _ l3);have ra:=f1.row Y.a (far _ l4);have rl:=f1.row Y.l (far _ l5);have rm:=f1.row Y.m (far _ l6);have hgb:base<=g:=AZ aY g (by simp[Value.ownBlock]);have own2:((w3.setCell (Za bl 0) (.slice (Zs g) (en.length+1) cap)).setCell (Za bo 0) (.bool ov')).ownsRow base 52 3 (.slice (Zs g) (en.length+1) cap) (en.length+1) (dm en++[.string x.name,.bool x.dir,Zi x.size]):=by
  have hf:Fr w3 ((w3.setCell (Za bl 0) (.slice (Zs g) (en.length+1) cap)).setCell (Za bo 0) (.bool ov')) [bl,bo]:=((Fr.refl w3 _).setCell _ _ (.inl (by simp))).setCell _ _ (.inl (by simp));refine aT aY hf (fun k hk=>?_);simp[Value.ownBlock] at hk;subst hk;simp;omega
 refine⟨rl,rl.set 0 _,rm.other _ (by show bm≠bl;omega),ro.other _ (by show bo≠bl;omega),⟨(ro.other _ (by show bo≠bl;omega)).set 0 _,(rx.other _ (by show bx≠bl;omega)).other _ (by show bx≠bo;omega),(re.other _ (by show be≠bl;omega)).other _ (by show be≠bo;omega),(ra.other _ (by show ba≠bl;omega)).other _ (by show ba≠bo;omega),(rl.set 0 _).other _ (by show bl≠bo;omega),(rm.other _ (by show bm≠bl;omega)).other _ (by show bm≠bo;omega),?_,Y.lt,Y.ne⟩,?_⟩
 ·rw[length_append,length_singleton,Ib];exact own2
 ·exact((f1.wider (fun y hy=>by simp at hy;simp[hy])).setCell _ _ (.inl (by simp))).setCell _ _ (.inl (by simp))
theorem CB(Y:Yd w bo bx be ba bl bm B lv en false base)(hB:base<=w.heap.size)(hen:en.length<=1000)(x:En):
  Zc 48 #[enV x,.nilIface,Zp bo,Zp bx,Zp be,Zp ba,Zp bl,Zp bm] w fun e w'=>
   e=.returned (.bool (!(KX B en.length)))/\∃lv',Yd w' bo bx be ba bl bm B lv' (en++[x]) (KX B en.length) base/\Fr w w' (bo::bl::lv.ownBlock.toList):=by
 unfold enV;obtain⟨i0,hi0,hz0,hz1,hz2⟩:=info_parts uH;obtain⟨xn,xd,xs⟩:=x;have b1:Below w.heap.size w (w.alloc (.cells #[.string xn,.bool xd,Zi xs] 52)):=(Below.refl _ w).alloc (Zn) _;have c1:(w.alloc (.cells #[.string xn,.bool xd,Zi xs] 52)).cell? (Za bo 0)=some (.bool false):=by rw[b1.cell Y.o.lt];exact Y.o.cell 0
 have c2:(w.alloc (.cells #[.string xn,.bool xd,Zi xs] 52)).cell? (Za bl 0)=some lv:=by rw[b1.cell Y.l.lt];exact Y.l.cell 0
 have HG:Hid _:=fun(g cap:Nat) (w3:World) (o2:Obj) (ov':Bool) aY hg=>Y.grown (o1:=.cells #[.string xn,.bool xd,Zi xs] 52) (o2:=o2) (w3:=w3) (g:=g) (cap:=cap) (x:=⟨xn,xd,xs⟩) hB aY hg ov';have HO:Hid _:=Y.own;obtain⟨al,cl,rfl⟩:∃al cl,lv=.slice al en.length cl:=aV Y.own;clear Y b1;generalize hxs:dm en=ecs at *;clear hxs;have HC:Hid (∀(g cap:Nat) (w3:World) (o2:Obj),w3.ownsRow base 52 3 (.slice (Zs g) (en.length+1) cap) (en.length+1) (ecs++[.string xn,.bool xd,Zi xs])->((w.alloc (.cells #[.string xn,.bool xd,Zi xs] 52)).alloc o2).grownBy w3 (Value.slice al en.length cl).ownBlock->
   w3.cell? (Za bl 0)=some (.slice al en.length cl)/\w3.frozen? (Za bl 0)=false/\(w3.setCell (Za bl 0) (.slice (Zs g) (en.length+1) cap)).cell? (Za bl 0)=some (.slice (Zs g) (en.length+1) cap)/\(w3.setCell (Za bl 0) (.slice (Zs g) (en.length+1) cap)).cell? (Za bm 0)=some (.int .i64 B)/\(w3.setCell (Za bl 0) (.slice (Zs g) (en.length+1) cap)).cell? (Za bo 0)=some (.bool false)/\(w3.setCell (Za bl 0) (.slice (Zs g) (en.length+1) cap)).frozen? (Za bo 0)=false):=fun g cap w3 o2 h1 h2=>by
  obtain⟨r1,r2,r3,r4,_,_⟩:=HG.out g cap w3 o2 true h1 h2;exact⟨r1.cell 0,r1.frozen 0,r2.cell 0,r3.cell 0,r4.cell 0,r4.frozen 0⟩
 have HW:Hid (∀j u,[Value.string xn,.bool xd,Zi xs][j]? =some u->((w.alloc (.cells #[.string xn,.bool xd,Zi xs] 52)).alloc (.cells #[.string xn,.bool xd,Zi xs] 52)).cell? (((Za (w.heap.size+1) 0):Addr).add j)=some u):=by
  have:=World.news_of_block (cs:=#[.string xn,.bool xd,Zi xs]) (t:=52) (fr:=(0,0)) (heap_alloc_new (w.alloc (.cells #[.string xn,.bool xd,Zi xs] 52)) (.cells #[.string xn,.bool xd,Zi xs] 52));rw[show(w.alloc (.cells #[.string xn,.bool xd,Zi xs] 52)).heap.size=w.heap.size+1 by simp] at this;exact this
 by_cases h0:(0:Int)<B
 ·by_cases h1:(en.length:Int)+1=B
  ·have HV:Hid (KX B en.length=true):=by show KX B en.length=true;unfold KX;rw[decide_eq_true h0,decide_eq_true h1];rfl
   have hq:((en.length:Int)+1==B)=true:=by simpa using h1
   go_enter func48,ntmps48;go_wp2_with(at_builtin;refine wpList_append_lies _ rfl _ _ 48 rfl base 52 i0 _ 3 32 underlying48 hi0 hz0 hz1 hz2 rfl (by decide) (.slice al en.length cl) en.length ecs rfl ((World.ownsRow.alloc HO.out _).alloc _) (Za (w.heap.size+1) 0) 1 1 [.string xn,.bool xd,Zi xs] rfl rfl HW.out (by simp[Value.oneCell']) (by decide) (by unfold maxLen;omega) (by omega) (by simp;omega) (w.heap.size+2) (by simp) ?_;intro g cap w3 aY aN hat hlt3;obtain⟨k1,k1f,k2,k3,k4,k4f⟩:=HC.out g cap w3 _ aY aN);go_ret;rw[HV.out];exact⟨rfl,⟨_,(HG.out g cap w3 _ true aY aN).2.2.2.2.1⟩,(HG.out g cap w3 _ true aY aN).2.2.2.2.2⟩
  ·have HV:Hid (KX B en.length=false):=by show KX B en.length=false;unfold KX;rw[decide_eq_false h1,Bool.and_false]
   have hq:((en.length:Int)+1==B)=false:=by simpa using h1
   go_enter func48,ntmps48;go_wp2_with(at_builtin;refine wpList_append_lies _ rfl _ _ 48 rfl base 52 i0 _ 3 32 underlying48 hi0 hz0 hz1 hz2 rfl (by decide) (.slice al en.length cl) en.length ecs rfl ((World.ownsRow.alloc HO.out _).alloc _) (Za (w.heap.size+1) 0) 1 1 [.string xn,.bool xd,Zi xs] rfl rfl HW.out (by simp[Value.oneCell']) (by decide) (by unfold maxLen;omega) (by omega) (by simp;omega) (w.heap.size+2) (by simp) ?_;intro g cap w3 aY aN hat hlt3;obtain⟨k1,k1f,k2,k3,k4,k4f⟩:=HC.out g cap w3 _ aY aN);go_ret;rw[HV.out];exact⟨rfl,⟨_,(HG.out g cap w3 _ false aY aN).2.2.2.2.1⟩,(HG.out g cap w3 _ false aY aN).2.2.2.2.2⟩
 ·have HV:Hid (KX B en.length=false):=by show KX B en.length=false;unfold KX;rw[decide_eq_false h0];rfl
  go_enter func48,ntmps48;go_wp2_with(at_builtin;refine wpList_append_lies _ rfl _ _ 48 rfl base 52 i0 _ 3 32 underlying48 hi0 hz0 hz1 hz2 rfl (by decide) (.slice al en.length cl) en.length ecs rfl ((World.ownsRow.alloc HO.out _).alloc _) (Za (w.heap.size+1) 0) 1 1 [.string xn,.bool xd,Zi xs] rfl rfl HW.out (by simp[Value.oneCell']) (by decide) (by unfold maxLen;omega) (by omega) (by simp;omega) (w.heap.size+2) (by simp) ?_;intro g cap w3 aY aN hat hlt3;obtain⟨k1,k1f,k2,k3,k4,k4f⟩:=HC.out g cap w3 _ aY aN);go_ret;rw[HV.out];exact⟨rfl,⟨_,(HG.out g cap w3 _ false aY aN).2.2.2.2.1⟩,(HG.out g cap w3 _ false aY aN).2.2.2.2.2⟩
end
theorem uK(w:World)(d:Nat)(t:TypeId)(f:Fn)(x y:Array Value)(h:P.underlying t=some (.func i o va)):
  (Op.equalIn (d+1) t (.func f x y) .nilFunc).run P w=.ok false w:=by
 simp[Op.equalIn,run_underlying h]
theorem jX(w:World)(t:TypeId)(f:Fn)(x y:Array Value)(h:P.underlying t=some (.func i o va)):
  (binOp .eql t (.func f x y) .nilFunc).run P w=.ok (.bool false) w:=by
 simp only[binOp];simp[Op.equal,Op.maxDepth,uK w 9999 t f x y h]
def mh(B:Int)(es:List En):List En:=if 0<B then es.take B.toNat else es
section
variable {w:World}{bo bx be ba bl bm:Nat}{B:Int}{ov:Bool}{base:Nat}
theorem Yd.fr(Y:Yd w bo bx be ba bl bm B lv en ov base)(f:Fr w w' bs)(hn:∀b∈ [bo,bx,be,ba,bl,bm],b∉bs)(hg:∀g,lv.ownBlock=some g->g∉bs):Yd w' bo bx be ba bl bm B lv en ov base:=
 ⟨f.row Y.o (hn _ (by simp)),f.row Y.x (hn _ (by simp)),f.row Y.e (hn _ (by simp)),f.row Y.a (hn _ (by simp)),f.row Y.l (hn _ (by simp)),f.row Y.m (hn _ (by simp)),aT Y.own f hg,Y.lt,Y.ne⟩
theorem Yd.rebase(Y:Yd w bo bx be ba bl bm B (.slice none 0 0) [] ov base)(h:base<=base'):Yd w bo bx be ba bl bm B (.slice none 0 0) [] ov base':=by
 obtain⟨l1,l2,l3,l4,l5,l6⟩:=Y.lt;exact⟨Y.o,Y.x,Y.e,Y.a,Y.l,Y.m,World.ownsRow_nil _ _ _ _,⟨by omega,by omega,by omega,by omega,by omega,by omega⟩,Y.ne⟩
theorem Yd.unbase(Y:Yd w bo bx be ba bl bm B lv en ov base)(h:base'<=base)(hl:bo<base'/\bx<base'/\be<base'/\ba<base'/\bl<base'/\bm<base'):Yd w bo bx be ba bl bm B lv en ov base':=
 ⟨Y.o,Y.x,Y.e,Y.a,Y.l,Y.m,⟨Y.own.1,Y.own.2.imp id (fun⟨g,cap,cur,hv,hB,r⟩=>⟨g,cap,cur,hv,by omega,r⟩)⟩,hl,Y.ne⟩
theorem Yd.below(Y:Yd w bo bx be ba bl bm B lv en ov base)(hb:Below w.heap.size w w'):Yd w' bo bx be ba bl bm B lv en ov base:=Y.fr (Fr.of_below hb []) (by simp) (by simp)
end
def YS(w:World)(bo bx be ba bl bm:Nat)(B:Int)(en:List En)(base:Nat):Prop:=∃lv ov,Yd w bo bx be ba bl bm B lv en ov base
def zx(bo bx be ba bl bm:Nat):Value:=.func (.func 48) #[] #[Zp bo,Zp bx,Zp be,Zp ba,Zp bl,Zp bm]
section
variable {a:Nat->Addr}{w:World}{q:Nat}{L:List It}{blk mblk:Zy->Nat}{bo bx be ba bl bm:Nat}{B:Int}
theorem NU(G:eO a w)(h:eH w q L blk mblk)(s:Zy)(hs:s.size<=1000000)(h0:uX L s=0)(b1 b2 b3:Nat)(c1:w.cell? (Za b1 0)=some (Zp q))(c2:w.cell? (Za b2 0)=some (.int .i64 0))(c3:w.cell? (Za b3 0)=some (.string s))
  (Y:Yd w bo bx be ba bl bm B (.slice none 0 0) [] false w.heap.size):
  Zc 93 #[zx bo bx be ba bl bm,Zp b1,Zp b2,Zp b3] w fun e w'=>
   e=.returned (.tuple #[])/\YS w' bo bx be ba bl bm B (mh B ((aj s L).map (vz L s))) w.heap.size/\Fr w w' [bo,bl]:=by
 have cE:=Ia G h s hs h0;have YB:=lU h.ok s;unfold zx;have hq:∀(w:World) f x y,(binOp .eql 99 (.func f x y) .nilFunc).run prog w=.ok (.bool false) w:=fun w f x y=>jX w _ f x y underlying99;go_enter func93,ntmps93;go_wp2_with(go_at_call 94;refine cE.mono ?_;rintro e w2 ⟨lv,rfl,ho,hb⟩;obtain⟨aE,kE,rfl⟩:=aV ho);obtain⟨i0,hi0,hz0,hz1,hz2⟩:=info_parts uH;have HY:Hid (Yd w2 bo bx be ba bl bm B (.slice none 0 0) [] false w2.heap.size):=(Y.below hb).rebase hb.size;have HB:Hid _:=hb;have hlw:Hid (w.heap.size<=w2.heap.size):=hb.size;have UO:Hid _:=Y.lt;have hbo:Hid (bo<w.heap.size/\bl<w.heap.size):=⟨Y.lt.1,Y.lt.2.2.2.2.1⟩;clear hb cE Y G c1 c2 c3;have Xt:Hid (((aj s L).map (vz L s)).length=(aj s L).length):=by show _=_;rw[length_map]
 generalize hES:(aj s L).map (vz L s)=es at *;generalize hN:(aj s L).length=n at *;have HES:Hid _:=hES;clear hES hN;have HO:Hid _:=ho;clear ho;go_loopw [26] (fun iv wr=>∃(j:Nat) (lv:Value),iv=.int .i64 j/\j<=n/\Yd wr bo bx be ba bl bm B lv (es.take j) false w2.heap.size/\Fr w2 wr [bo,bl]/\(0<B->(j:Int)<B)) (fun iv _=>n-(intOf iv).toNat)
 case atStart=>exact⟨0,_,rfl,Nat.zero_le _,HY.out,Fr.refl _ _,fun h=>h⟩
 case round=>
  obtain⟨j,lv,rfl,hjl,hY,hF,hj⟩:=hrel;have HJ:Hid _:=hj;have HF:Hid _:=hF;clear hj hF;have hs2:=HF.out.size;by_cases hlt:j<n
  ·have j1:(j:Int)<(n:Int):=by omega
   have Ux:j<es.length:=by rw[Xt.out];exact hlt
   obtain⟨gE,kE',hvk,hgw,Xb⟩:=World.ownsRow.form HO.out (by omega);simp only[Value.slice.injEq] at hvk;obtain⟨rfl,_,rfl⟩:=hvk;have hgE:gE∉ [bo,bl]:=by
    have:=hbo.out;simp;omega
   obtain⟨hh,_,_⟩:=jA (vT (aT HO.out HF.out (fun g hg=>by simp[Value.ownBlock] at hg;subst hg;exact hgE)));have hel:(dm es).length=es.length*3:=uG es;have q0:=hh.cell (j*3+0) (by rw[hel];omega);have q1:=hh.cell (j*3+1) (by rw[hel];omega);have q2:=hh.cell (j*3+2) (by rw[hel];omega);unfold dm at q0 q1 q2;rw[kr _ 3 es (fun _ _=>rfl) j Ux 0 (by decide)] at q0;rw[kr _ 3 es (fun _ _=>rfl) j Ux 1 (by decide)] at q1;rw[kr _ 3 es (fun _ _=>rfl) j Ux 2 (by decide)] at q2;have HT:Hid (es.take (j+1)=es.take j++[es[j]]):=take_succ_eq_append_getElem Ux;have Rl:Hid ((es.take j).length=j):=by show _=_;rw[length_take];omega
   generalize hx:es[j]=x at *;clear hx;obtain⟨xn,xd,xs⟩:=x;have r0:wr.cell? (Za gE (j*3))=some (.string xn):=q0;have r1:wr.cell? (Za gE (j*3+1))=some (.bool xd):=q1;have r2:wr.cell? (Za gE (j*3+2))=some (Zi xs):=q2;clear q0 q1 q2 hh hel;have b1:Below wr.heap.size wr (wr.alloc (.cells #[.string xn,.bool xd,Zi xs] 52)):=(Below.refl _ wr).alloc (Zn) _;have cY:=CB (hY.below b1) (by simp;omega) (by rw[Rl.out];omega) ⟨xn,xd,xs⟩;unfold enV at cY;rw[Rl.out] at cY;dsimp only at cY;rw[<-HT.out] at cY;have hlo:Hid (∀y∈bo::bl::lv.ownBlock.toList,y<w2.heap.size->y∈ [bo,bl]):=by
    intro y hy hl;rcases mem_cons.1 hy with rfl|hy
    ·simp
    ·rcases mem_cons.1 hy with rfl|hy
     ·simp
     ·rw[Zo] at hy;have:=AZ hY.own y hy;omega
   have HYY:Hid _:=hY;clear hY;have HR:Hid (∀w5,Fr (wr.alloc (.cells #[.string xn,.bool xd,Zi xs] 52)) w5 (bo::bl::lv.ownBlock.toList)->Fr w2 w5 [bo,bl]):=fun w5 f5=>(HF.out.alloc _).trans f5 hlo.out;cases hov:KX B j
   ·rw[hov] at cY;have HN:Hid (0<B->((j+1:Nat):Int)<B):=fun h=>by
     have h1:=HJ.out h;unfold KX at hov;rw[decide_eq_true h,Bool.true_and,decide_eq_false_iff_not] at hov;omega
    clear hov b1;go_wp2_with(go_at_call 48;refine cY.mono ?_;rintro e w5 ⟨rfl,lv5,hY5,Pz⟩);exact⟨⟨j+1,lv5,by go_num,by omega,hY5,HR.out w5 Pz,HN.out⟩,by simp[intOf];omega⟩
   ·rw[hov] at cY;have HC:Hid (mh B es=es.take (j+1)):=by
     show _=_;unfold KX at hov;rw[Bool.and_eq_true,decide_eq_true_eq,decide_eq_true_eq] at hov;unfold mh;rw[if_pos hov.1,show B.toNat=j+1 by omega]
    clear hov b1;go_wp2_with(go_at_call 48;refine cY.mono ?_;rintro e w5 ⟨rfl,lv5,hY5,Pz⟩);refine bodyPost_ret (results_none rfl _ _ _) rfl ?_;rw[HES.out,HC.out];exact⟨rfl,⟨lv5,true,hY5.unbase hlw.out UO.out⟩,(Fr.of_below HB.out _).trans (HR.out w5 Pz) (fun y hy _=>hy)⟩
  ·have ej:j=n:=by omega
   subst ej;have kk1:¬(j:Int)<(j:Int):=by omega
   have HC:Hid (mh B es=es.take j):=by
    show _=_;unfold mh;split
    ·rename_i h1;have:=HJ.out h1;rw[take_of_length_le (by rw[Xt.out];omega),take_of_length_le (by rw[Xt.out];omega)]
    ·rw[take_of_length_le (by rw[Xt.out];omega)]
   have HYY:Hid _:=hY;clear hY;go_wp2;go_end0;rw[HES.out,HC.out];exact⟨rfl,⟨lv,false,Yd.unbase HYY.out hlw.out UO.out⟩,(Fr.of_below HB.out _).trans HF.out (fun y hy _=>hy)⟩
end
theorem yI{fn:Func}{t u v x:Tmp}(h:fn.results= #[.tmp t,.tmp u,.tmp v,.tmp x])(tmps:Array Value)(P:Program)(w:World):
  (results fn tmps).run P w=.ok (.tuple #[tmps.getD t undef,tmps.getD u undef,tmps.getD v undef,tmps.getD x undef]) w:=by
 simp[results,h]
section
variable {a:Nat->Addr}{w:World}{q:Nat}{L:List It}{blk mblk:Zy->Nat}{bo bx be ba bl bm:Nat}{B:Int}
theorem Ic(q:Nat)(s:Zy)(w:World):
  Zc 47 #[Zp q,.int .i64 0,.string s] w fun e w'=>
   e=.returned (.func (.func 93) #[] #[Zp w.heap.size,(Zp (w.heap.size+1)),(Zp (w.heap.size+1+1))])/\
   ((w.alloc (.cells #[Zp q] 31)).alloc (.cells #[.int .i64 0] 3)).alloc (.cells #[.string s] 9)=w':=by
 go_enter func47,ntmps47;go_wp2;go_ret;exact⟨rfl,rfl⟩
def jk(w:World)(q:Nat)(s:Zy)(B:Int):World:=
 ((((((((w.alloc (.cells #[.int .i64 B] 3)).alloc (.cells #[.slice none 0 0] 48)).alloc (.cells #[.int .i64 0] 3)).alloc (.cells #[.int .i64 (-1)] 3)).alloc (.cells #[.bool false] 4)).alloc (.cells #[.bool false] 4)).alloc (.cells #[Zp q] 31)).alloc (.cells #[.int .i64 0] 3)).alloc (.cells #[.string s] 9)
theorem CF(w:World)(q:Nat)(s:Zy)(B:Int):(jk w q s B).heap.size=w.heap.size+9/\
  ai (jk w q s B) w.heap.size 3 [.int .i64 B]/\ai (jk w q s B) (w.heap.size+1) 48 [.slice none 0 0]/\ai (jk w q s B) (w.heap.size+1+1) 3 [.int .i64 0]/\ai (jk w q s B) (w.heap.size+1+1+1) 3 [.int .i64 (-1)]/\
  ai (jk w q s B) (w.heap.size+1+1+1+1) 4 [.bool false]/\ai (jk w q s B) (w.heap.size+1+1+1+1+1) 4 [.bool false]/\ai (jk w q s B) (w.heap.size+1+1+1+1+1+1) 31 [Zp q]/\
  ai (jk w q s B) (w.heap.size+1+1+1+1+1+1+1) 3 [.int .i64 0]/\ai (jk w q s B) (w.heap.size+1+1+1+1+1+1+1+1) 9 [.string s]/\Below w.heap.size w (jk w q s B):=by
 have e:∀(W:World) (o:Obj) (k:Nat),(W.alloc o).heap[k]? =if k=W.heap.size then some o else W.heap[k]? :=fun W o k=>by
  show(W.heap.push o)[k]? =_;rw[Array.getElem?_push]
 refine⟨by simp[jk],⟨?_⟩,⟨?_⟩,⟨?_⟩,⟨?_⟩,⟨?_⟩,⟨?_⟩,⟨?_⟩,⟨?_⟩,⟨?_⟩,?_⟩
 iterate 9
  ·simp only[jk,e,World.size_alloc]
   repeat first|rw[if_pos trivial]|rw[if_pos (by omega)]|rw[if_neg (by omega)]
 ·unfold jk;exact(((((((((Below.refl _ w).alloc (Zn) _).alloc (by simp) _).alloc (by simp;omega) _).alloc (by simp;omega) _).alloc (by simp;omega) _).alloc (by simp;omega) _).alloc (by simp;omega) _).alloc (by simp;omega) _).alloc (by simp;omega) _
theorem UQ(w:World)(q:Nat)(s:Zy)(B:Int):Yd (jk w q s B) (w.heap.size+1+1+1+1) (w.heap.size+1+1+1+1+1) (w.heap.size+1+1) (w.heap.size+1+1+1) (w.heap.size+1) w.heap.size B (.slice none 0 0) [] false (jk w q s B).heap.size:=by
 obtain⟨hz,r0,r1,r2,r3,r4,r5,r6,r7,r8,_⟩:=CF w q s B;refine⟨r4,r5,r2,r3,r1,r0,World.ownsRow_nil _ _ _ _,?_,?_⟩
 ·rw[hz];omega
 ·simp only[nodup_cons,mem_cons,not_mem_nil,or_false,not_or,nodup_nil,and_true,not_false_eq_true];omega
theorem Ie(G:eO a w)(h:eH w q L blk mblk)(s:Zy)(hs:s.size<=1000000)(h0:uX L s=0)(B:Int):
  Zc 28 #[Zp q,.int .i64 0,.string s,.int .i64 B] w fun e w'=>
   ∃lv,e=.returned (.tuple #[lv,.int .i64 0,.int .i64 (-1),.bool false])/\w'.ownsRow w.heap.size 52 3 lv (mh B ((aj s L).map (vz L s))).length (dm (mh B ((aj s L).map (vz L s))))/\Below w.heap.size w w':=by
 obtain⟨hz,r0,r1,r2,r3,r4,r5,r6,r7,r8,hB⟩:=CF w q s B;have cI:=NU (G.up hB) (h.below hB) s hs h0 (w.heap.size+1+1+1+1+1+1) (w.heap.size+1+1+1+1+1+1+1) (w.heap.size+1+1+1+1+1+1+1+1) (r6.cell 0) (r7.cell 0) (r8.cell 0) (UQ w q s B);unfold zx at cI;have HZ:Hid _:=hz;have HB:Hid _:=hB;clear r0 r1 r2 r3 r4 r5 r6 r7 r8 hz hB;unfold jk at cI;have hq:∀(w:World) f x y,(binOp .eql 97 (.func f x y) .nilFunc).run prog w=.ok (.bool false) w:=fun w f x y=>jX w _ f x y underlying97;go_enter func28,ntmps28;go_wp2_with(first
  | (go_at_call 47;refine(Ic q s _).mono ?_;rintro e w4 ⟨rfl,rfl⟩)
  | (go_at_call 93;refine cI.mono ?_;rintro e w5 ⟨rfl,hY,hF⟩))
 obtain⟨lv,ov,hY⟩:=hY;have k1:w5.cell? (Za (w.heap.size+1) 0)=some lv:=hY.l.cell 0;have k2:w5.cell? (Za (w.heap.size+1+1) 0)=some (.int .i64 0):=hY.e.cell 0;have k3:w5.cell? (Za (w.heap.size+1+1+1) 0)=some (.int .i64 (-1)):=hY.a.cell 0;have k4:w5.cell? (Za (w.heap.size+1+1+1+1+1) 0)=some (.bool false):=hY.x.cell 0;have HO:Hid (w5.ownsRow w.heap.size 52 3 lv (mh B ((aj s L).map (vz L s))).length (dm (mh B ((aj s L).map (vz L s))))):=⟨hY.own.1,hY.own.2.imp id (fun⟨g,cap,cur,hv,hBb,r⟩=>⟨g,cap,cur,hv,by have:=HZ.out;unfold jk at this;omega,r⟩)⟩;have Sk:Hid (Below w.heap.size w w5):=zF (w0:=w) HB.out hF HB.out.size (by intro b hb;simp at hb;omega);clear hY hF cI;go_region;go_wp2;refine bodyPost_ret (yI rfl _ _ _) rfl ?_;exact⟨lv,rfl,HO.out,Sk.out.drew⟩
end
section
variable {w:World}{bo bx be ba bl bm:Nat}{B:Int}{lv:Value}{en:List En}{ov:Bool}{base:Nat}
structure YeA(w:World)(bo bx be ba bl:Nat)(n:Nat)(pl:Int):Prop where
 x:ai w bx 4 [.bool false]
 e:ai w be 3 [Zi n]
 a:ai w ba 3 [.int .i64 pl]
 l:ai w bl 48 [.slice none 0 0]
theorem aa8(Y:Yd w bo bx be ba bl bm B (.slice none 0 0) [] false base)(et:TypeId)(ea:Addr)(n:Nat)(pl:Int)(hN:∀w2,Below w.heap.size w w2->Zc 43 #[.iface et (.pointer (some ea))] w2 fun e w'=>e=.returned (.tuple #[Zi n,.int .i64 pl])/\Below w2.heap.size w2 w'):
  Zc 48 #[.agg #[.string ByteArray.empty,.bool false,.int .i64 0],.iface et (.pointer (some ea)),Zp bo,Zp bx,Zp be,Zp ba,Zp bl,Zp bm] w fun e w'=>
   e=.returned (.bool true)/\YeA w' bo bx be ba bl n pl/\Fr w w' [be,ba,bo]:=by
 have b1:Below w.heap.size w (w.alloc (.cells #[.string ByteArray.empty,.bool false,.int .i64 0] 52)):=(Below.refl _ w).alloc (Zn) _;have c1:(w.alloc (.cells #[.string ByteArray.empty,.bool false,.int .i64 0] 52)).cell? (Za bo 0)=some (.bool false):=by rw[b1.cell Y.o.lt];exact Y.o.cell 0
 have cN:=hN _ b1;have hne:=Y.ne;simp only[nodup_cons,mem_cons,not_mem_nil,or_false,not_or] at hne;obtain⟨⟨n1,n2,n3,n4,n5⟩,⟨n6,n7,n8,n9⟩,⟨n10,n11,n12⟩,⟨n13,n14⟩,n15,_⟩:=hne;have HW:Hid (∀w2,Below (w.alloc (.cells #[.string ByteArray.empty,.bool false,.int .i64 0] 52)).heap.size (w.alloc (.cells #[.string ByteArray.empty,.bool false,.int .i64 0] 52)) w2->w2.cell? (Za be 0)=some (.int .i64 0)/\w2.frozen? (Za be 0)=false/\(w2.setCell (Za be 0) (.int .i64 ((n:Nat):Int))).cell? (Za ba 0)=some (.int .i64 (-1))/\(w2.setCell (Za be 0) (.int .i64 ((n:Nat):Int))).frozen? (Za ba 0)=false/\
   ((w2.setCell (Za be 0) (.int .i64 ((n:Nat):Int))).setCell (Za ba 0) (.int .i64 pl)).cell? (Za bo 0)=some (.bool false)/\((w2.setCell (Za be 0) (.int .i64 ((n:Nat):Int))).setCell (Za ba 0) (.int .i64 pl)).frozen? (Za bo 0)=false/\
   YeA (((w2.setCell (Za be 0) (.int .i64 ((n:Nat):Int))).setCell (Za ba 0) (.int .i64 pl)).setCell (Za bo 0) (.bool true)) bo bx be ba bl n pl/\Fr w (((w2.setCell (Za be 0) (.int .i64 ((n:Nat):Int))).setCell (Za ba 0) (.int .i64 pl)).setCell (Za bo 0) (.bool true)) [be,ba,bo]):=fun w2 hb=>by
  have f2:Fr w w2 []:=(Fr.of_below b1 []).trans (Fr.of_below hb []) (by simp);have re:=f2.row Y.e (by simp);have ra:=f2.row Y.a (by simp);have ro:=f2.row Y.o (by simp);have rx:=f2.row Y.x (by simp);have rl:=f2.row Y.l (by simp);have ra1:=ra.other (a:=(Za be 0)) (.int .i64 ((n:Nat):Int)) (by show ba≠be;omega);have ro2:=(ro.other (a:=(Za be 0)) (.int .i64 ((n:Nat):Int)) (by show bo≠be;omega)).other (a:=(Za ba 0)) (.int .i64 pl) (by show bo≠ba;omega);refine⟨re.cell 0,re.frozen 0,ra1.cell 0,ra1.frozen 0,ro2.cell 0,ro2.frozen 0,⟨?_,?_,?_,?_⟩,?_⟩
  ·exact((rx.other _ (by show bx≠be;omega)).other _ (by show bx≠ba;omega)).other _ (by show bx≠bo;omega)
  ·exact((re.set 0 _).other _ (by show be≠ba;omega)).other _ (by show be≠bo;omega)
  ·exact((ra1.set 0 _)).other _ (by show ba≠bo;omega)
  ·exact((rl.other _ (by show bl≠be;omega)).other _ (by show bl≠ba;omega)).other _ (by show bl≠bo;omega)
  ·exact(((f2.wider (cs:=[be,ba,bo]) (by simp)).setCell _ _ (.inl (by simp))).setCell _ _ (.inl (by simp))).setCell _ _ (.inl (by simp))
 clear Y b1;go_enter func48,ntmps48;go_wp2_with(go_at_call 43;refine cN.mono ?_;rintro e w2 ⟨rfl,hb2⟩;obtain⟨k1,k2,k3,k4,k5,k6,k7,k8⟩:=HW.out w2 hb2);go_ret;exact⟨rfl,k7,k8⟩
end
section
variable {a:Nat->Addr}{w:World}{q:Nat}{bo bx be ba bl bm:Nat}{B:Int}
theorem KY(cE:Zc 94 #[Zp q,.int .i64 kk,.string s] w fun e w'=>∃lv,e=.returned (.tuple #[lv,.nilIface])/\w'.ownsRow w.heap.size 52 3 lv es.length (dm es)/\Fr w w' [dp])(YB:es.length<=1000)(_hdp:dp<w.heap.size)(hdn:∀b∈ [bo,bx,be,ba,bl,bm],b≠dp)(b1 b2 b3:Nat)(c1:w.cell? (Za b1 0)=some (Zp q))(c2:w.cell? (Za b2 0)=some (.int .i64 kk))(c3:w.cell? (Za b3 0)=some (.string s))
  (Y:Yd w bo bx be ba bl bm B (.slice none 0 0) [] false w.heap.size):
  Zc 93 #[zx bo bx be ba bl bm,Zp b1,Zp b2,Zp b3] w fun e w'=>
   e=.returned (.tuple #[])/\YS w' bo bx be ba bl bm B (mh B es) w.heap.size/\Fr w w' [bo,bl,dp]:=by
 unfold zx;have hq:∀(w:World) f x y,(binOp .eql 99 (.func f x y) .nilFunc).run prog w=.ok (.bool false) w:=fun w f x y=>jX w _ f x y underlying99;go_enter func93,ntmps93;go_wp2_with(go_at_call 94;refine cE.mono ?_;rintro e w2 ⟨lv,rfl,ho,hb⟩;obtain⟨aE,kE,rfl⟩:=aV ho);obtain⟨i0,hi0,hz0,hz1,hz2⟩:=info_parts uH;have HY:Hid (Yd w2 bo bx be ba bl bm B (.slice none 0 0) [] false w2.heap.size):=(Y.fr hb (fun b hb2 hm=>hdn b hb2 (Zm.1 hm)) (by simp[Value.ownBlock])).rebase hb.size;have HB:Hid _:=hb;have hlw:Hid (w.heap.size<=w2.heap.size):=hb.size;have UO:Hid _:=Y.lt;have hbo:Hid (bo<w.heap.size/\bl<w.heap.size):=⟨Y.lt.1,Y.lt.2.2.2.2.1⟩;clear hb cE Y c1 c2 c3;generalize hN:es.length=n at *;have Xt:Hid (es.length=n):=hN;clear hN;have HO:Hid _:=ho;clear ho;go_loopw [26] (fun iv wr=>∃(j:Nat) (lv:Value),iv=.int .i64 j/\j<=n/\Yd wr bo bx be ba bl bm B lv (es.take j) false w2.heap.size/\Fr w2 wr [bo,bl]/\(0<B->(j:Int)<B)) (fun iv _=>n-(intOf iv).toNat)
 case atStart=>exact⟨0,_,rfl,Nat.zero_le _,HY.out,Fr.refl _ _,fun h=>h⟩
 case round=>
  obtain⟨j,lv,rfl,hjl,hY,hF,hj⟩:=hrel;have HJ:Hid _:=hj;have HF:Hid _:=hF;clear hj hF;have hs2:=HF.out.size;by_cases hlt:j<n
  ·have j1:(j:Int)<(n:Int):=by omega
   have Ux:j<es.length:=by rw[Xt.out];exact hlt
   obtain⟨gE,kE',hvk,hgw,Xb⟩:=World.ownsRow.form HO.out (by omega);simp only[Value.slice.injEq] at hvk;obtain⟨rfl,_,rfl⟩:=hvk;have hgE:gE∉ [bo,bl]:=by
    have:=hbo.out;simp;omega
   obtain⟨hh,_,_⟩:=jA (vT (aT HO.out HF.out (fun g hg=>by simp[Value.ownBlock] at hg;subst hg;exact hgE)));have hel:(dm es).length=es.length*3:=uG es;have q0:=hh.cell (j*3+0) (by rw[hel];omega);have q1:=hh.cell (j*3+1) (by rw[hel];omega);have q2:=hh.cell (j*3+2) (by rw[hel];omega);unfold dm at q0 q1 q2;rw[kr _ 3 es (fun _ _=>rfl) j Ux 0 (by decide)] at q0;rw[kr _ 3 es (fun _ _=>rfl) j Ux 1 (by decide)] at q1;rw[kr _ 3 es (fun _ _=>rfl) j Ux 2 (by decide)] at q2;have HT:Hid (es.take (j+1)=es.take j++[es[j]]):=take_succ_eq_append_getElem Ux;have Rl:Hid ((es.take j).length=j):=by show _=_;rw[length_take];omega
   generalize hx:es[j]=x at *;clear hx;obtain⟨xn,xd,xs⟩:=x;have r0:wr.cell? (Za gE (j*3))=some (.string xn):=q0;have r1:wr.cell? (Za gE (j*3+1))=some (.bool xd):=q1;have r2:wr.cell? (Za gE (j*3+2))=some (Zi xs):=q2;clear q0 q1 q2 hh hel;have b1:Below wr.heap.size wr (wr.alloc (.cells #[.string xn,.bool xd,Zi xs] 52)):=(Below.refl _ wr).alloc (Zn) _;have cY:=CB (hY.below b1) (by simp;omega) (by rw[Rl.out];omega) ⟨xn,xd,xs⟩;unfold enV at cY;rw[Rl.out] at cY;dsimp only at cY;rw[<-HT.out] at cY;have hlo:Hid (∀y∈bo::bl::lv.ownBlock.toList,y<w2.heap.size->y∈ [bo,bl]):=by
    intro y hy hl;rcases mem_cons.1 hy with rfl|hy
    ·simp
    ·rcases mem_cons.1 hy with rfl|hy
     ·simp
     ·rw[Zo] at hy;have:=AZ hY.own y hy;omega
   have HYY:Hid _:=hY;clear hY;have HR:Hid (∀w5,Fr (wr.alloc (.cells #[.string xn,.bool xd,Zi xs] 52)) w5 (bo::bl::lv.ownBlock.toList)->Fr w2 w5 [bo,bl]):=fun w5 f5=>(HF.out.alloc _).trans f5 hlo.out;cases hov:KX B j
   ·rw[hov] at cY;have HN:Hid (0<B->((j+1:Nat):Int)<B):=fun h=>by
     have h1:=HJ.out h;unfold KX at hov;rw[decide_eq_true h,Bool.true_and,decide_eq_false_iff_not] at hov;omega
    clear hov b1;go_wp2_with(go_at_call 48;refine cY.mono ?_;rintro e w5 ⟨rfl,lv5,hY5,Pz⟩);exact⟨⟨j+1,lv5,by go_num,by omega,hY5,HR.out w5 Pz,HN.out⟩,by simp[intOf];omega⟩
   ·rw[hov] at cY;have HC:Hid (mh B es=es.take (j+1)):=by
     show _=_;unfold KX at hov;rw[Bool.and_eq_true,decide_eq_true_eq,decide_eq_true_eq] at hov;unfold mh;rw[if_pos hov.1,show B.toNat=j+1 by omega]
    clear hov b1;go_wp2_with(go_at_call 48;refine cY.mono ?_;rintro e w5 ⟨rfl,lv5,hY5,Pz⟩);refine bodyPost_ret (results_none rfl _ _ _) rfl ?_;rw[HC.out];exact⟨rfl,⟨lv5,true,hY5.unbase hlw.out UO.out⟩,(HB.out.wider (cs:=[bo,bl,dp]) (by simp)).trans (HR.out w5 Pz) (fun y hy _=>by simp at hy⊢;omega)⟩
  ·have ej:j=n:=by omega
   subst ej;have kk1:¬(j:Int)<(j:Int):=by omega
   have HC:Hid (mh B es=es.take j):=by
    show _=_;unfold mh;split
    ·rename_i h1;have:=HJ.out h1;rw[take_of_length_le (by rw[Xt.out];omega),take_of_length_le (by rw[Xt.out];omega)]
    ·rw[take_of_length_le (by rw[Xt.out];omega)]
   have HYY:Hid _:=hY;clear hY;go_wp2;go_end0;rw[HC.out];exact⟨rfl,⟨lv,false,Yd.unbase HYY.out hlw.out UO.out⟩,(HB.out.wider (cs:=[bo,bl,dp]) (by simp)).trans HF.out (fun y hy _=>by simp at hy⊢;omega)⟩
theorem Es(q:Nat)(kk:Int)(s:Zy)(w:World):
  Zc 47 #[Zp q,.int .i64 kk,.string s] w fun e w'=>
   e=.returned (.func (.func 93) #[] #[Zp w.heap.size,(Zp (w.heap.size+1)),(Zp (w.heap.size+1+1))])/\
   ((w.alloc (.cells #[Zp q] 31)).alloc (.cells #[.int .i64 kk] 3)).alloc (.cells #[.string s] 9)=w':=by
 go_enter func47,ntmps47;go_wp2;go_ret;exact⟨rfl,rfl⟩
def jo(w:World)(q:Nat)(kk:Int)(s:Zy)(B:Int):World:=
 ((((((((w.alloc (.cells #[.int .i64 B] 3)).alloc (.cells #[.slice none 0 0] 48)).alloc (.cells #[.int .i64 0] 3)).alloc (.cells #[.int .i64 (-1)] 3)).alloc (.cells #[.bool false] 4)).alloc (.cells #[.bool false] 4)).alloc (.cells #[Zp q] 31)).alloc (.cells #[.int .i64 kk] 3)).alloc (.cells #[.string s] 9)
theorem Aa(w:World)(q:Nat)(kk:Int)(s:Zy)(B:Int):(jo w q kk s B).heap.size=w.heap.size+9/\
  ai (jo w q kk s B) w.heap.size 3 [.int .i64 B]/\ai (jo w q kk s B) (w.heap.size+1) 48 [.slice none 0 0]/\ai (jo w q kk s B) (w.heap.size+1+1) 3 [.int .i64 0]/\ai (jo w q kk s B) (w.heap.size+1+1+1) 3 [.int .i64 (-1)]/\
  ai (jo w q kk s B) (w.heap.size+1+1+1+1) 4 [.bool false]/\ai (jo w q kk s B) (w.heap.size+1+1+1+1+1) 4 [.bool false]/\ai (jo w q kk s B) (w.heap.size+1+1+1+1+1+1) 31 [Zp q]/\
  ai (jo w q kk s B) (w.heap.size+1+1+1+1+1+1+1) 3 [.int .i64 kk]/\ai (jo w q kk s B) (w.heap.size+1+1+1+1+1+1+1+1) 9 [.string s]/\Below w.heap.size w (jo w q kk s B):=by
 have e:∀(W:World) (o:Obj) (k:Nat),(W.alloc o).heap[k]? =if k=W.heap.size then some o else W.heap[k]? :=fun W o k=>by
  show(W.heap.push o)[k]? =_;rw[Array.getElem?_push]
 refine⟨by simp[jo],⟨?_⟩,⟨?_⟩,⟨?_⟩,⟨?_⟩,⟨?_⟩,⟨?_⟩,⟨?_⟩,⟨?_⟩,⟨?_⟩,?_⟩
 iterate 9
  ·simp only[jo,e,World.size_alloc]
   repeat first|rw[if_pos trivial]|rw[if_pos (by omega)]|rw[if_neg (by omega)]
 ·unfold jo;exact(((((((((Below.refl _ w).alloc (Zn) _).alloc (by simp) _).alloc (by simp;omega) _).alloc (by simp;omega) _).alloc (by simp;omega) _).alloc (by simp;omega) _).alloc (by simp;omega) _).alloc (by simp;omega) _).alloc (by simp;omega) _
theorem Ru(w:World)(q:Nat)(kk:Int)(s:Zy)(B:Int):Yd (jo w q kk s B) (w.heap.size+1+1+1+1) (w.heap.size+1+1+1+1+1) (w.heap.size+1+1) (w.heap.size+1+1+1) (w.heap.size+1) w.heap.size B (.slice none 0 0) [] false (jo w q kk s B).heap.size:=by
 obtain⟨hz,r0,r1,r2,r3,r4,r5,r6,r7,r8,_⟩:=Aa w q kk s B;refine⟨r4,r5,r2,r3,r1,r0,World.ownsRow_nil _ _ _ _,?_,?_⟩
 ·rw[hz];omega
 ·simp only[nodup_cons,mem_cons,not_mem_nil,or_false,not_or,nodup_nil,and_true,not_false_eq_true];omega
theorem Et(cE:∀w1,Below w.heap.size w w1->Zc 94 #[Zp q,.int .i64 kk,.string s] w1 fun e w'=>∃lv,e=.returned (.tuple #[lv,.nilIface])/\w'.ownsRow w1.heap.size 52 3 lv es.length (dm es)/\Fr w1 w' [dp])(YB:es.length<=1000)(hdp:dp<w.heap.size)(B:Int):
  Zc 28 #[Zp q,.int .i64 kk,.string s,.int .i64 B] w fun e w'=>
   ∃lv,e=.returned (.tuple #[lv,.int .i64 0,.int .i64 (-1),.bool false])/\w'.ownsRow w.heap.size 52 3 lv (mh B es).length (dm (mh B es))/\Fr w w' [dp]:=by
 obtain⟨hz,r0,r1,r2,r3,r4,r5,r6,r7,r8,hB⟩:=Aa w q kk s B;have cI:=KY (cE _ hB) YB (by omega) (by intro b hb;simp at hb;omega) (w.heap.size+1+1+1+1+1+1) (w.heap.size+1+1+1+1+1+1+1) (w.heap.size+1+1+1+1+1+1+1+1) (r6.cell 0) (r7.cell 0) (r8.cell 0) (Ru w q kk s B);unfold zx at cI;have HZ:Hid _:=hz;have HB:Hid _:=hB;clear r0 r1 r2 r3 r4 r5 r6 r7 r8 hz hB;unfold jo at cI;have hq:∀(w:World) f x y,(binOp .eql 97 (.func f x y) .nilFunc).run prog w=.ok (.bool false) w:=fun w f x y=>jX w _ f x y underlying97;go_enter func28,ntmps28;go_wp2_with(first
  | (go_at_call 47;refine(Es q kk s _).mono ?_;rintro e w4 ⟨rfl,rfl⟩)
  | (go_at_call 93;refine cI.mono ?_;rintro e w5 ⟨rfl,hY,hF⟩))
 obtain⟨lv,ov,hY⟩:=hY;have k1:w5.cell? (Za (w.heap.size+1) 0)=some lv:=hY.l.cell 0;have k2:w5.cell? (Za (w.heap.size+1+1) 0)=some (.int .i64 0):=hY.e.cell 0;have k3:w5.cell? (Za (w.heap.size+1+1+1) 0)=some (.int .i64 (-1)):=hY.a.cell 0;have k4:w5.cell? (Za (w.heap.size+1+1+1+1+1) 0)=some (.bool false):=hY.x.cell 0;have HO:Hid (w5.ownsRow w.heap.size 52 3 lv (mh B es).length (dm (mh B es))):=⟨hY.own.1,hY.own.2.imp id (fun⟨g,cap,cur,hv,hBb,r⟩=>⟨g,cap,cur,hv,by have:=HZ.out;unfold jo at this;omega,r⟩)⟩;have Sk:Hid (Fr w w5 [dp]):=(Fr.of_below HB.out _).trans hF (by intro b hb hl;simp at hb⊢;omega);clear hY hF cI;go_region;go_wp2;refine bodyPost_ret (yI rfl _ _ _) rfl ?_;exact⟨lv,rfl,HO.out,Sk.out.drew⟩
end
theorem mP(hS:lT a w)(c:Nat)(hc:c<=12):
  Zc 43 #[dx a c] w fun e w'=>e=.returned (.tuple #[Zi c,.int .i64 (-1)])/\Below w.heap.size w w':=by
 by_cases h0:c=0
 ·subst h0;exact(rZ w).mono fun e w' he=>⟨he.1,by rw[<-he.2];exact Zr⟩
 ·obtain⟨j,rfl⟩:∃j,c=j+1:=⟨c-1,by omega⟩;rw[jT a h0,Nat.add_sub_cancel];exact(TP hS j (by omega)).mono fun e w' he=>⟨he.1,he.2⟩
section
variable {a:Nat->Addr}{w:World}{c:Nat}{N:World->Prop}
theorem Ig(hc:c<=12)(hS:∀w1,N w1->lT a w1)(hN:∀w1 w2,N w1->Below w1.heap.size w1 w2->N w2)
  (hW:Zc 44 #[Zp dp] w fun e w'=>e=.returned (dx a c)/\N w'):
  Zc 25 #[Zp dp] w fun e w'=>e=.returned (Zi c)/\N w':=by
 have HN:Hid (∀w1,N w1->Zc 43 #[dx a c] w1 fun e w'=>e=.returned (.tuple #[Zi c,.int .i64 (-1)])/\N w'):=fun w1 h1=>(mP (hS w1 h1) c hc).mono fun e w' he=>⟨he.1,hN _ _ h1 he.2⟩;generalize dx a c=ev at *;go_enter func25,ntmps25;go_wp2_with(first
  | (go_at_call 44;refine hW.mono ?_;rintro e w1 ⟨rfl,h1⟩)
  | (go_at_call 43;refine(HN.out _ h1).mono ?_;rintro e w2 ⟨rfl,h2⟩))
 go_ret;exact⟨rfl,h2⟩
theorem Rv(hc:c<=12)(hS:∀w1,N w1->lT a w1)(hN:∀w1 w2,N w1->Below w1.heap.size w1 w2->N w2)
  (hW:Zc 95 #[Zp q,.string s,.string t] w fun e w'=>e=.returned (dx a c)/\N w'):
  Zc 49 #[Zp q,.string s,.string t] w fun e w'=>e=.returned (Zi c)/\N w':=by
 have HN:Hid (∀w1,N w1->Zc 43 #[dx a c] w1 fun e w'=>e=.returned (.tuple #[Zi c,.int .i64 (-1)])/\N w'):=fun w1 h1=>(mP (hS w1 h1) c hc).mono fun e w' he=>⟨he.1,hN _ _ h1 he.2⟩;generalize dx a c=ev at *;go_enter func49,ntmps49;go_wp2_with(first
  | (go_at_call 95;refine hW.mono ?_;rintro e w1 ⟨rfl,h1⟩)
  | (go_at_call 43;refine(HN.out _ h1).mono ?_;rintro e w2 ⟨rfl,h2⟩))
 go_ret;exact⟨rfl,h2⟩
theorem KZ(hc:c<=12)(hS:∀w1,N w1->lT a w1)(hN:∀w1 w2,N w1->Below w1.heap.size w1 w2->N w2)
  (hW:Zc 46 #[Zp q,.string s] w fun e w'=>e=.returned (dx a c)/\N w'):
  Zc 27 #[Zp q,.string s] w fun e w'=>e=.returned (Zi c)/\N w':=by
 have HN:Hid (∀w1,N w1->Zc 43 #[dx a c] w1 fun e w'=>e=.returned (.tuple #[Zi c,.int .i64 (-1)])/\N w'):=fun w1 h1=>(mP (hS w1 h1) c hc).mono fun e w' he=>⟨he.1,hN _ _ h1 he.2⟩;generalize dx a c=ev at *;go_enter func27,ntmps27;go_wp2_with(first
  | (go_at_call 46;refine hW.mono ?_;rintro e w1 ⟨rfl,h1⟩)
  | (go_at_call 43;refine(HN.out _ h1).mono ?_;rintro e w2 ⟨rfl,h2⟩))
 go_ret;exact⟨rfl,h2⟩
theorem Ih(hc:c<=12)(hS:∀w1,N w1->lT a w1)(hN:∀w1 w2,N w1->Below w1.heap.size w1 w2->N w2)
  (hW:Zc 101 #[Zp q,.string s] w fun e w'=>e=.returned (dx a c)/\N w'):
  Zc 56 #[Zp q,.string s] w fun e w'=>e=.returned (Zi c)/\N w':=by
 have HN:Hid (∀w1,N w1->Zc 43 #[dx a c] w1 fun e w'=>e=.returned (.tuple #[Zi c,.int .i64 (-1)])/\N w'):=fun w1 h1=>(mP (hS w1 h1) c hc).mono fun e w' he=>⟨he.1,hN _ _ h1 he.2⟩;generalize dx a c=ev at *;go_enter func56,ntmps56;go_wp2_with(first
  | (go_at_call 101;refine hW.mono ?_;rintro e w1 ⟨rfl,h1⟩)
  | (go_at_call 43;refine(HN.out _ h1).mono ?_;rintro e w2 ⟨rfl,h2⟩))
 go_ret;exact⟨rfl,h2⟩
theorem Rw(hc:c<=12)(hS:∀w1,N w1->lT a w1)(hN:∀w1 w2,N w1->Below w1.heap.size w1 w2->N w2)
  (hW:Zc 97 #[Zp q,.int .i64 k,.string s] w fun e w'=>e=.returned (.tuple #[.string x,dx a c])/\N w'):
  Zc 51 #[Zp q,.int .i64 k,.string s] w fun e w'=>e=.returned (.tuple #[.string x,Zi c,.int .i64 (-1)])/\N w':=by
 have HN:Hid (∀w1,N w1->Zc 43 #[dx a c] w1 fun e w'=>e=.returned (.tuple #[Zi c,.int .i64 (-1)])/\N w'):=fun w1 h1=>(mP (hS w1 h1) c hc).mono fun e w' he=>⟨he.1,hN _ _ h1 he.2⟩;generalize dx a c=ev at *;go_enter func51,ntmps51;go_wp2_with(first
  | (go_at_call 97;refine hW.mono ?_;rintro e w1 ⟨rfl,h1⟩)
  | (go_at_call 43;refine(HN.out _ h1).mono ?_;rintro e w2 ⟨rfl,h2⟩))
 refine bodyPost_ret (results_tmp3 rfl _ _ _) rfl ?_;exact⟨rfl,h2⟩
theorem Ab{N:Option Addr->World->Prop}(hc:c<=12)(hS:∀x w1,N x w1->lT a w1)(hN:∀x w1 w2,N x w1->Below w1.heap.size w1 w2->N x w2)
  (hW:Zc 45 #[Zp dp] w fun e w'=>∃x,e=.returned (.tuple #[.pointer x,dx a c])/\N x w'):
  Zc 26 #[Zp dp] w fun e w'=>∃x,e=.returned (.tuple #[.pointer x,Zi c])/\N x w':=by
 have HN:Hid (∀x w1,N x w1->Zc 43 #[dx a c] w1 fun e w'=>e=.returned (.tuple #[Zi c,.int .i64 (-1)])/\N x w'):=fun x w1 h1=>(mP (hS x w1 h1) c hc).mono fun e w' he=>⟨he.1,hN x _ _ h1 he.2⟩;generalize dx a c=ev at *;go_enter func26,ntmps26;go_wp2_with(first
  | (go_at_call 45;refine hW.mono ?_;rintro e w1 ⟨x,rfl,h1⟩)
  | (go_at_call 43;refine(HN.out _ _ h1).mono ?_;rintro e w2 ⟨rfl,h2⟩))
 refine bodyPost_ret (results_tmp2 rfl _ _ _) rfl ?_;exact⟨x,rfl,h2⟩
end
end
section
open Go.RowKit Go.Maps Go.Lib
theorem NA.arc{R:(Nat × Nat × Nat) × Sc}(h:NA w w' d S' R L q):
  ∃p:aS,eP w' p ⟨S',L,R.2.H,R.2.I,R.1.1,R.1.2.1,R.1.2.2,false⟩/\p.q=q/\p.d.p=d.p/\(∀b∈p.mine,b∈d.blocks\/w.heap.size<=b)/\(∀b∈aP L p.blk p.mblk,w.heap.size<=b)/\Fr w w' d.blocks:=by
 obtain⟨d',ms,ao,co,blk,mblk,h1,h2,h3,h4,h5,h6,h7,h8,h9,h10,h11,h12⟩:=h.made;have Xu:∀b,b∈(Value.slice ao 0 0).ownBlock.toList->w.heap.size<=b/\b<q/\b∉d'.blocks/\b∉ms:=fun b hb=>by
  have:=Zo.1 hb;rw[bO ao 0 0 R.2.I.length co] at this;exact h11 b this
 have KO:∀b∈aS.mine ⟨q,d',ms,ao,co,blk,mblk⟩,(b∈d.blocks\/w.heap.size<=b)/\b<=q:=fun b hb=>by
  simp only[aS.mine,aS.own,cons_append,mem_cons,mem_append] at hb;rcases hb with e|(e|e)|e
  ·exact⟨.inr (by omega),by omega⟩
  ·have:=h10 b e;exact⟨.inr this.1,by omega⟩
  ·have:=Xu b e;exact⟨.inr this.1,by omega⟩
  ·have:=h3 b e;exact⟨this.1,by omega⟩
 refine⟨⟨q,d',ms,ao,co,blk,mblk⟩,⟨?_,h6,h7,h8,h1,⟨?_,?_,?_⟩,?_,?_,?_⟩,rfl,h2,fun b hb=>(KO b hb).1,fun b hb=>by have:=h12 b hb;omega,h4⟩
 ·show ai w' q _ (pU _ d'.p ms _ _ _ _ _);rw[h2];exact h5
 ·exact fun hm=>by have:=(h10 q hm).2.1;omega
 ·exact fun hm=>by have:=(Xu q hm).2.1;omega
 ·exact fun hm=>by have:=(h3 q hm).2;omega
 ·exact fun b hb=>⟨fun hm=>(Xu b hm).2.2.2 hb,(h10 b hb).2.2⟩
 ·exact fun b hb=>(Xu b hb).2.2.1
 ·exact fun b hb hm=>by have:=h12 b hb;have:=(KO b hm).2;omega
theorem eP.read(h:eP w p A)(hd:aB w' p.d A.S)(f:Fr w w' [p.d.p]):eP w' p A:=by
 have hp:p.d.p∈p.d.blocks:=by simp[DP.blocks]
 refine⟨f.row h.row (by simp;exact fun e=>h.nq.2.2 (e▸hp)),h.objs.fr f (fun b hb hm=>(h.nm b hb).2 (by rw[Zm.1 hm];exact hp)),aT h.snaps f (fun g hg hm=>?_),h.tree.fr f (fun b hb hm=>h.nt b hb (by rw[Zm.1 hm];exact aS.d_in hp)),hd,h.nq,h.nm,h.no,h.nt⟩;rw[bO p.ao _ _ 0 0] at hg;exact h.no g (Zo.2 hg) (by rw[Zm.1 hm];exact hp)
theorem eP.rdAll(h:eP w p A)(G:eO a w)(hC:dI c w)(kV:∀b∈p.mine,18<=b)(ok:A.S.Ok)(fit:wM A.H A.S.safe.length):kD a c w p.q p.d A.S p.ms A.H:=by
 have hp:p.d.p∈p.d.blocks:=by simp[DP.blocks]
 exact⟨G,hC,fun b hb=>kV b (aS.d_in hb),ok,⟨h.row.cell 1,h.maps,h.objs,h.dev,h.row.lt,fun e=>h.nq.2.2 (e▸hp),fun hm=>(h.nm _ hm).2 hp⟩,fit⟩
theorem eP.keptAt(h:eP w p A)(G:eO a w)(hC:dI c w)(kV:∀b∈p.mine,18<=b)(hG:18<=w.heap.size)(ok:A.S.Ok)(fit:wM A.H A.S.safe.length)(hI:∀x∈A.I,x.1.size=32)(hl:A.I.length<=5000):mO a c w p.q p.d A.S p.ms A.H A.I p.ao p.co:=
 ⟨h.rdAll G hC kV ok fit,hG,hI,hl,h.rest 0 _ rfl,h.snaps,fun g hg e=>by
  rw[bO p.ao _ _ 0 0] at hg;exact h.no g (Zo.2 hg) (by rw[e];simp[DP.blocks])⟩
section
variable {a:Nat->Addr}{w:World}{c:Nat}{N:World->Prop}
theorem CG{k:Nat}(hc:c<=12)(hS:∀w1,N w1->lT a w1)(hN:∀w1 w2,N w1->Below w1.heap.size w1 w2->N w2)
  (hW:Zc 96 #[Zp q,.string s] w fun e w'=>e=.returned (.tuple #[Zi k,dx a c])/\N w'):
  Zc 50 #[Zp q,.string s] w fun e w'=>e=.returned (.tuple #[Zi k,Zi c])/\N w':=by
 have HN:Hid (∀w1,N w1->Zc 43 #[dx a c] w1 fun e w'=>e=.returned (.tuple #[Zi c,.int .i64 (-1)])/\N w'):=fun w1 h1=>(mP (hS w1 h1) c hc).mono fun e w' he=>⟨he.1,hN _ _ h1 he.2⟩;generalize dx a c=ev at *;go_enter func50,ntmps50;go_wp2_with(first
  | (go_at_call 96;refine hW.mono ?_;rintro e w1 ⟨rfl,h1⟩)
  | (go_at_call 43;refine(HN.out _ h1).mono ?_;rintro e w2 ⟨rfl,h2⟩))
 refine bodyPost_ret (results_tmp2 rfl _ _ _) rfl ?_;exact⟨rfl,h2⟩
theorem Ii(hM:∀v w1,M v w1->Zc 43 #[v] w1 fun e w'=>e=.returned (.tuple #[Zi n,.int .i64 pl])/\N w')
  (hW:Zc 106 #[Zp q] w fun e w'=>∃v,e=.returned v/\M v w'):
  Zc 61 #[Zp q] w fun e w'=>e=.returned (.tuple #[Zi n,.int .i64 pl])/\N w':=by
 have HM:Hid _:=hM;clear hM;go_enter func61,ntmps61;go_wp2_with(first
  | (go_at_call 106;refine hW.mono ?_;rintro e w1 ⟨v,rfl,h1⟩)
  | (go_at_call 43;refine(HM.out _ _ h1).mono ?_;rintro e w2 ⟨rfl,h2⟩))
 refine bodyPost_ret (results_tmp2 rfl _ _ _) rfl ?_;exact⟨rfl,h2⟩
theorem NV(hM:∀v w1,M v w1->Zc 43 #[v] w1 fun e w'=>e=.returned (.tuple #[Zi n,.int .i64 pl])/\N w')
  (hW:Zc 97 #[Zp q,.int .i64 k,.string s] w fun e w'=>∃v,e=.returned (.tuple #[.string x,v])/\M v w'):
  Zc 51 #[Zp q,.int .i64 k,.string s] w fun e w'=>e=.returned (.tuple #[.string x,Zi n,.int .i64 pl])/\N w':=by
 have HM:Hid _:=hM;clear hM;go_enter func51,ntmps51;go_wp2_with(first
  | (go_at_call 97;refine hW.mono ?_;rintro e w1 ⟨v,rfl,h1⟩)
  | (go_at_call 43;refine(HM.out _ _ h1).mono ?_;rintro e w2 ⟨rfl,h2⟩))
 refine bodyPost_ret (results_tmp3 rfl _ _ _) rfl ?_;exact⟨rfl,h2⟩
end
theorem qY(L:List It)(p:Zy)(v:Value)(w:World)(h:tY w v L)(hl:L.length<=100000):
  Zc 54 #[v,.string p] w fun e w'=>e=.returned (.int .i64 (bJ L p))/\w=w':=by
 obtain⟨ag,g,cap,rfl,hag,hc⟩:=h;have HA:Hid _:=hag;have HC:Hid _:=hc;clear hag hc;go_enter func54,ntmps54;go_wp2;go_loop [5] (fun i=>∃k:Nat,k<=L.length/\i=.int .i64 k/\bJ L p=ny p k (L.drop k)) (fun i=>L.length-(intOf i).toNat)
 case atStart=>exact⟨0,Nat.zero_le _,rfl,rfl⟩
 case round=>
  obtain⟨k,hk,rfl,hf⟩:=hrel;by_cases hlt:k<L.length
  ·obtain rfl:=HA.out (by omega);have hd:L.drop k=L[k]::L.drop (k+1):=drop_eq_getElem_cons hlt;have hcell:w.cell? (Za g (k*3))=some (.string L[k].path):=HC.out _ _ (by rw[<-Nat.add_zero (k*3),kZ L k hlt 0 (by decide)];rfl);rw[hd,ny] at hf;have HF:Hid _:=hf;clear hf hd;by_cases he:L[k].path=p
   ·have hb:(L[k].path.toList==p.toList)=true:=by rw[gP,decide_eq_true he]
    rw[if_pos he] at HF;go_wp2;go_ret;exact⟨by rw[HF.out];rfl,rfl⟩
   ·have hb:(L[k].path.toList==p.toList)=false:=by rw[gP,decide_eq_false he]
    rw[if_neg he] at HF;go_wp2;exact⟨⟨k+1,by omega,by go_num,HF.out⟩,by simp[intOf];omega⟩
  ·have ek:k=L.length:=by omega
   rw[ek,drop_length,ny] at hf;have HF:Hid _:=hf;clear hf;go_wp2;go_ret;exact⟨by rw[HF.out];rfl,rfl⟩
theorem oN:(prog.info? 109).map (fun i=>(i.zero,i.size,i.bytes))=some (some (.agg #[.string ByteArray.empty,.bool false,.string ByteArray.empty]),3,40):=by kernel_rfl
theorem oC(L:List It)(x:It):aK (L++[x])=aK L++[.string x.path,.bool x.dir,.string x.data]:=by
 unfold aK;rw[flatMap_append];simp[It.cells]
theorem fG(h:w.ownsRow B 109 3 v n (aK L)):tY w v L:=by
 have hl:L.length=n:=by have:=h.1;rw[fJ] at this;omega
 rcases h.2 with⟨hv,h0⟩|⟨g,cap,cur,hv,_,hb,hc,_,hs,ht⟩
 ·have hL:L=[]:=eq_nil_of_length_eq_zero (by omega);subst hL;exact⟨none,0,0,by rw[hv];rfl,fun h=>absurd h (Nat.lt_irrefl 0),fun j v hj=>by simp[aK] at hj⟩
 ·refine⟨some (Za g 0),g,cap,by rw[hv,hl],fun _=>rfl,fun j v hj=>?_⟩;have hj3:j<n*3:=by have:=(List.getElem?_eq_some_iff.1 hj).1;rw[fJ] at this;omega
  rw[cell_of_row w g j cur _ _ hb,<-Array.getElem?_toList];rw[<-ht,getElem?_take_of_lt hj3] at hj;exact hj
theorem tY.cells(h:tY w v L):∃ag g cap,v=.slice ag L.length cap/\(0<L.length->ag=some (Za g 0))/\∀k (hk:k<L.length),w.cell? (Za g (k*3))=some (.string L[k].path)/\w.cell? (Za g (k*3+1))=some (.bool L[k].dir)/\w.cell? (Za g (k*3+2))=some (.string L[k].data):=by
 obtain⟨ag,g,cap,h1,h2,h3⟩:=h;refine⟨ag,g,cap,h1,h2,fun k hk=>⟨h3 _ _ (by rw[<-Nat.add_zero (k*3),kZ L k hk 0 (by decide)];rfl),h3 _ _ (by rw[kZ L k hk 1 (by decide)];rfl),h3 _ _ (by rw[kZ L k hk 2 (by decide)];rfl)⟩⟩
theorem NW(L:List It)(n j:Nat)(hj:j<L.length):(L.take (j+1)).eraseIdx n=if j=n then(L.take j).eraseIdx n else(L.take j).eraseIdx n++[L[j]]:=by
 rw[take_succ_eq_append_getElem hj];have hl:(L.take j).length=j:=by rw[length_take];omega
 rcases Nat.lt_trichotomy n j with h|h|h
 ·rw[if_neg (by omega),eraseIdx_append_of_lt_length (by omega)]
 ·subst h;rw[if_pos rfl,eraseIdx_append_of_length_le (by omega),hl,eraseIdx_of_length_le (l:=L.take n) (by omega)];simp
 ·rw[if_neg (by omega),eraseIdx_of_length_le (by simp;omega),eraseIdx_of_length_le (by omega)]
theorem K4(L:List It)(n:Nat)(v:Value)(w:World)(h:tY w v L)(hl:L.length<=100000):
  Zc 55 #[v,Zi n] w fun e w'=>∃v',e=.returned v'/\w'.ownsRow w.heap.size 109 3 v' (L.eraseIdx n).length (aK (L.eraseIdx n))/\Below w.heap.size w w':=by
 obtain⟨ag,g,cap,rfl,hag,hc⟩:=h.cells;have HA:Hid _:=hag;have HC:Hid _:=hc;obtain⟨i0,hi0,hz0,hz1,hz2⟩:=info_parts oN;clear hag hc h;go_enter func55,ntmps55;go_wp2;go_loopw [5,6] (fun ov iv wr=>∃(j:Nat) (acc:List It) (ao:Option Addr) (co:Nat),ov=.slice ao acc.length co/\iv=(Zi j)/\j<=L.length/\acc=(L.take j).eraseIdx n/\Hid (wr.ownsRow w.heap.size 109 3 (.slice ao acc.length co) acc.length (aK acc))/\Hid (Below w.heap.size w wr)) (fun _ iv _=>L.length-(RowKit.intOf iv).toNat)
 case atStart=>exact⟨0,[],none,0,rfl,rfl,Nat.zero_le _,by simp,World.ownsRow_nil _ _ _ _,Zr⟩
 case round=>
  obtain⟨j,acc,ao,co,rfl,rfl,hj,hacc,HO,HB⟩:=hrel;have hal:acc.length<=j:=by rw[hacc];exact Nat.le_trans (length_eraseIdx_le _ _) (by rw[length_take];omega)
  by_cases hlt:j<L.length
  ·have j0:(0:Int)<=(j:Int):=by omega
   have j1:(j:Int)<(L.length:Int):=by omega
   have hE:=NW L n j hlt;by_cases hjn:j=n
   ·have jn:¬(j:Int)≠(n:Int):=by omega
    have jb:((j:Int) !=(n:Int))=false:=by simp;omega
    rw[if_pos hjn] at hE;have HE:Hid _:=hE.trans hacc.symm;clear hE hacc;go_wp2;exact⟨⟨j+1,acc,ao,co,rfl,by first|(push_cast;rfl)|(simp;omega),by omega,HE.out.symm,HO.out,HB.out⟩,by simp[RowKit.intOf];omega⟩
   ·have jn:(j:Int)≠(n:Int):=by omega
    have jb:((j:Int) !=(n:Int))=true:=by simp;omega
    rw[if_neg hjn,<-hacc] at hE;have HE:Hid _:=hE;clear hE hacc;obtain rfl:=HA.out (by omega);obtain⟨q0,q1,q2⟩:=HC.out j hlt;have hgl:g<w.heap.size:=Zd q0;have r0:=q0;rw[<-HB.out.cell hgl] at q0 q1 q2;generalize L[j]=x at *;have hws:w.heap.size<=wr.heap.size:=HB.out.size;go_wp2_with(at_builtin;(refine wpList_append_lies _ rfl _ _ 32 rfl w.heap.size 109 i0 _ 3 40 underlying32 hi0 hz0 hz1 hz2 rfl (by decide) (.slice ao acc.length co) acc.length (aK acc) rfl (World.ownsRow.alloc HO.out _) (Za wr.heap.size 0) 1 1 [.string x.path,.bool x.dir,.string x.data] rfl rfl (World.news_of_block (cs:=#[.string x.path,.bool x.dir,.string x.data]) (heap_alloc_new wr _)) (by intro u hu;simp at hu;rcases hu with rfl|rfl|rfl<;>rfl) (by decide) (by unfold maxLen;omega) (by omega) (by simp;omega) _ rfl ?_;intro gg cc w4 aY aN hat tJ));have f1:Fr w w4 []:=((Fr.of_below HB.out []).alloc _).grown aN (fun k e=>.inr (World.ownsRow.lt HO.out k e).1);refine⟨⟨j+1,acc++[x],some (Za gg 0),cc,by simp,by push_cast;rfl,by omega,HE.out.symm,?_,⟨f1.os,f1.tape,f1.output,f1.size,fun k hk=>f1.block k hk (by simp)⟩⟩,by simp[RowKit.intOf];omega⟩;show World.ownsRow _ _ _ _ _ _ _;rw[length_append,length_singleton,oC];exact aY
  ·have ej:j=L.length:=by omega
   have j1:¬(j:Int)<(L.length:Int):=by omega
   rw[ej,take_length] at hacc;have HE:Hid _:=hacc;clear hacc;go_wp2;go_ret;refine⟨_,rfl,?_,HB.out⟩;rw[<-HE.out];exact HO.out
def T1:List It:=[⟨⟨#[102]⟩,false,⟨#[100,97,116,97]⟩⟩]
def qC(g:Nat)(w:World):Prop:=w.cell? (Za g 0)=some (.string ⟨#[102]⟩)/\w.cell? (Za g 1)=some (.bool false)/\w.cell? (Za g 2)=some (.string ⟨#[100,97,116,97]⟩)
theorem qC.its(h:qC g w):tY w (.slice (Zs g) 1 cap) T1:=by
 refine⟨some (Za g 0),g,cap,rfl,fun _=>rfl,fun j v hj=>?_⟩
 match j,hj with
 | 0,hj=>cases hj;exact h.1
 | 1,hj=>cases hj;exact h.2.1
 | 2,hj=>cases hj;exact h.2.2
 | j+3,hj=>simp[aK,T1,It.cells] at hj
theorem NY(h:qC g w):Zc 54 #[.slice (Zs g) 1 cap,.string ⟨#[102]⟩] w fun e w'=>e=.returned (.int .i64 0)/\w=w':=by
 have:=qY T1 ⟨#[102]⟩ _ w (h.its (cap:=cap)) (by decide);rw[show bJ T1 ⟨#[102]⟩=0 by decide +kernel] at this;exact this
section
variable {P:World->Prop}{q g cap:Nat}{k:Int}
def YT(P:World->Prop)(q:Nat)(k:Int):Prop:=∀w,P w->Zc 28 #[Zp q,.int .i64 k,.string ⟨#[]⟩,.int .i64 0] w fun e w'=>∃ge ce,e=.returned (.tuple #[.slice (Zs ge) 1 ce,.int .i64 0,.int .i64 (-1),.bool false])/\w'.cell? (Za ge 0)=some (.string ⟨#[102]⟩)/\w'.cell? (Za ge 1)=some (.bool false)/\w'.cell? (Za ge 2)=some (.int .i64 4)/\P w'
def Get1(P:World->Prop)(q:Nat)(k:Int):Prop:=∀w,P w->Zc 51 #[Zp q,.int .i64 k,.string ⟨#[102]⟩] w fun e w'=>e=.returned (.tuple #[.string ⟨#[100,97,116,97]⟩,.int .i64 0,.int .i64 (-1)])/\P w'
theorem Xv(hd:∀w,P w->P w.drew)(hT:∀w,P w->qC g w)(cL:YT P q k)(w:World)(h:P w):
  Zc 105 #[Zp q,.int .i64 k,.string ⟨#[]⟩,.slice (Zs g) 1 cap,.int .i64 0] w fun e w'=>e=.returned (.tuple #[.int .i64 1,.bool true])/\P w':=by
 have HD:Hid _:=hd;have HT:Hid _:=hT;have Vx:=cL w h;have H:Hid _:=h;clear hd hT cL h;go_enter func105,ntmps105;go_wp2_with(go_at_call 28;refine Vx.mono ?_;rintro e w1 ⟨ge,ce,rfl,x0,x1,x2,h1⟩;have H1:Hid (P w1):=h1;clear h1 Vx);go_loopw [16,17] (fun av iv wr=>av=.int .i64 1/\((iv=.int .i64 0/\w1=wr)\/(iv=.int .i64 1/\Hid (P wr)))) (fun _ iv _=>1-(RowKit.intOf iv).toNat)
 case atStart=>exact⟨rfl,.inl ⟨rfl,rfl⟩⟩
 case round=>
  obtain⟨rfl,⟨rfl,rfl⟩|⟨rfl,HP⟩⟩:=hrel
  ·have cF:=NY (cap:=cap) (HT.out w1 H1.out);obtain⟨t0,t1,t2⟩:=HT.out w1 H1.out;have e0:=x0;have e1:=x1;have e2:=x2;go_upto_region 12 with(go_at_call 54;refine cF.mono ?_;rintro e w2 ⟨rfl,rfl⟩)
   refine bF ?_;refine wp_region_held_drew (S:=fun w'=>w'.cell? (Za ge 0)=some (.string ⟨#[102]⟩)/\w'.cell? (Za ge 1)=some (.bool false)/\w'.cell? (Za ge 2)=some (.int .i64 4)/\w'.cell? (Za g 0)=some (.string ⟨#[102]⟩)/\w'.cell? (Za g 1)=some (.bool false)/\w'.cell? (Za g 2)=some (.string ⟨#[100,97,116,97]⟩)) (by kernel_rfl) ⟨e0,e1,e2,t0,t1,t2⟩ (fun ah=>?_);refine Zt 0 (.int .i64 0) ?_;refine Zt 1 (.bool false) ?_;refine Zt 2 (.bool false) ?_;refine Zt 3 (.slice (Zs g) 1 cap) ?_;refine Zt 4 (.int .i64 0) ?_;refine Zt 5 (Zp g) ?_;refine Zt 6 (.pointer (some (Za g 1))) ?_;refine Zt 7 (.bool false) ?_;refine Zt 8 (.slice (Zs ge) 1 ce) ?_;refine Zt 9 (.int .i64 0) ?_;refine Zt 10 (Zp ge) ?_;refine Zt 11 (.pointer (some (Za ge 1))) ?_;refine Zt 12 (.bool false) ?_;refine Zt 13 (.bool false) ?_;refine Zt 14 (.bool false) ?_;refine Zt 15 (.bool false) ?_;refine Zt 16 (.slice (Zs ge) 1 ce) ?_;refine Zt 17 (.int .i64 0) ?_;refine Zt 18 (Zp ge) ?_;refine Zt 19 (.pointer (some (Za ge 2))) ?_;refine Zt 20 (.int .i64 4) ?_;refine Zt 21 (.slice (Zs g) 1 cap) ?_;refine Zt 22 (.int .i64 0) ?_;refine Zt 23 (Zp g) ?_;refine Zt 24 (.pointer (some (Za g 2))) ?_;refine Zt 25 (.string ⟨#[100,97,116,97]⟩) ?_;refine Zt 26 (.int .i64 4) ?_;refine Zt 27 (.bool false) ?_;refine Zt 28 (.bool false) ?_;refine Zt 29 (.bool false) ?_;refine Zt 30 (.int .i64 0) ?_;refine Zt 31 (.bool false) ?_;refine Zt 32 (.bool false) ?_;refine Zu 33 ?_;refine Zu 34 ?_;refine Zu 35 ?_;refine Zu 36 ?_;refine Zu 37 ?_;refine Zu 38 ?_;refine Zu 39 ?_;refine Zu 40 ?_;refine Zu 41 ?_;refine Zu 42 ?_;refine Zu 43 ?_;refine Zu 44 ?_;refine Zt 45 (.bool false) ?_;refine Zt 46 (.bool false) ?_;refine Zx ?_;simp only[At];have H2:Hid (P w1.drew):=HD.out w1 H1.out;have y1:w1.drew.cell? (Za ge 1)=some (.bool false):=x1;go_wp2;exact⟨⟨rfl,.inr ⟨rfl,H2.out⟩⟩,by simp[RowKit.intOf]⟩
  ·go_wp2;refine bodyPost_ret (results_tmp2 rfl _ _ _) rfl ?_;exact⟨rfl,HP.out⟩
theorem Xw(hd:∀w,P w->P w.drew)(hT:∀w,P w->qC g w)(cL:YT P q k)(cG:Get1 P q k)(w:World)(h:P w):
  Zc 60 #[Zp q,.int .i64 k,.slice (Zs g) 1 cap] w fun e w'=>e=.returned (.bool true)/\P w':=by
 have HD:Hid _:=hd;have HT:Hid _:=hT;have HG:Hid _:=cG;have HN:Hid (∀w,P w->Zc 105 #[Zp q,.int .i64 k,.string ⟨#[]⟩,.slice (Zs g) 1 cap,.int .i64 0] w fun e w'=>e=.returned (.tuple #[.int .i64 1,.bool true])/\P w'):=fun w hw=>Xv hd hT cL w hw;have H:Hid _:=h;clear hd hT cL cG h;go_enter func60,ntmps60;go_wp2;go_loopw [7] (fun iv wr=>(iv=.int .i64 0/\w=wr)\/(iv=.int .i64 1/\Hid (P wr))) (fun iv _=>1-(RowKit.intOf iv).toNat)
 case atStart=>exact .inl ⟨rfl,rfl⟩
 case round=>
  obtain⟨rfl,rfl⟩|⟨rfl,HP⟩:=hrel
  ·obtain⟨t0,t1,t2⟩:=HT.out w H.out;have cG:=HG.out w H.out;go_wp2_with(go_at_call 51;refine cG.mono ?_;rintro e w1 ⟨rfl,h1⟩;have u2:=(HT.out w1 h1).2.2;have H1:Hid (P w1):=h1;clear h1 cG);exact⟨.inr ⟨rfl,H1.out⟩,by simp[RowKit.intOf]⟩
  ·have cN:=HN.out wr HP.out;go_wp2_with(go_at_call 105;refine cN.mono ?_;rintro e w1 ⟨rfl,h1⟩;have H1:Hid (P w1):=h1;clear h1 cN);go_ret;exact⟨rfl,H1.out⟩
end
section
variable {R:World->Prop}{dp q pq gs g1 g2 c1 c2 cs:Nat}{lab root:Zy}
structure Ac(q pq gs g1 g2 c1 c2 cs:Nat)(lab root:Zy)(w:World):Prop where
 r2:w.cell? (Za q 2)=some (Zp pq)
 r3:w.cell? (Za q 3)=some (.slice (Zs g2) 1 c2)
 r4:w.cell? (Za q 4)=some (.slice (Zs gs) 1 cs)
 s0:w.cell? (Za gs 0)=some (.slice (Zs g1) 1 c1)
 s1:w.cell? (Za gs 1)=some (.string lab)
 s2:w.cell? (Za gs 2)=some (.string root)
 t1:qC g1 w
 t2:qC g2 w
theorem jr{k:Nat}(h:w.cell? (Za b k)=some v)(f:Fr w w' [dp])(hb:b≠dp):w'.cell? (Za b k)=some v:=ay h (f.block b (Zd h) (by simp;exact hb))
theorem qC.fr(h:qC g w)(f:Fr w w' [dp])(hb:g≠dp):qC g w':=⟨jr h.1 f hb,jr h.2.1 f hb,jr h.2.2 f hb⟩
structure UR(dp q gs g1 g2:Nat):Prop where
 q:q≠dp
 gs:gs≠dp
 g1:g1≠dp
 g2:g2≠dp
theorem Ac.fr(h:Ac q pq gs g1 g2 c1 c2 cs lab root w)(n:UR dp q gs g1 g2)(f:Fr w w' [dp]):Ac q pq gs g1 g2 c1 c2 cs lab root w':=
 ⟨jr h.r2 f n.q,jr h.r3 f n.q,jr h.r4 f n.q,jr h.s0 f n.gs,jr h.s1 f n.gs,jr h.s2 f n.gs,h.t1.fr f n.g1,h.t2.fr f n.g2⟩
structure Rds(R:World->Prop)(dp pq:Nat)(lab root:Zy):Prop where
 drew:∀w,R w->R w.drew
 infos:∀w,R w->Zc 35 #[Zp pq] w fun e w'=>∃gi ci,e=.returned (.slice (Zs gi) 1 ci)/\w.heap.size<=gi/\w'.cell? (Za gi 0)=some (.int .i64 1)/\w'.cell? (Za gi 1)=some (.string lab)/\w'.cell? (Za gi 2)=some (.string root)/\R w'/\Fr w w' [dp]
 verify:∀w,R w->Zc 61 #[Zp pq] w fun e w'=>e=.returned (.tuple #[.int .i64 0,.int .i64 (-1)])/\R w'/\Fr w w' [dp]
 list:∀w (k:Int),(k=0\/k=1)->R w->Zc 28 #[Zp pq,.int .i64 k,.string ⟨#[]⟩,.int .i64 0] w fun e w'=>∃ge ce,e=.returned (.tuple #[.slice (Zs ge) 1 ce,.int .i64 0,.int .i64 (-1),.bool false])/\w'.cell? (Za ge 0)=some (.string ⟨#[102]⟩)/\w'.cell? (Za ge 1)=some (.bool false)/\w'.cell? (Za ge 2)=some (.int .i64 4)/\R w'/\Fr w w' [dp]
 get:∀w (k:Int),(k=0\/k=1)->R w->Zc 51 #[Zp pq,.int .i64 k,.string ⟨#[102]⟩] w fun e w'=>e=.returned (.tuple #[.string ⟨#[100,97,116,97]⟩,.int .i64 0,.int .i64 (-1)])/\R w'/\Fr w w' [dp]
theorem Rds.holds(r:Rds R dp pq lab root)(h:R w)(ht:qC g w)(hg:g≠dp)(k:Int)(hk:k=0\/k=1):
  Zc 60 #[Zp pq,.int .i64 k,.slice (Zs g) 1 cap] w fun e w'=>e=.returned (.bool true)/\R w'/\Fr w w' [dp]:=
 Xw (P:=fun w'=>R w'/\Fr w w' [dp]) (fun _w1 h1=>⟨r.drew _ h1.1,h1.2.drew⟩) (fun _w1 h1=>ht.fr h1.2 hg)
  (fun w1 h1=>(r.list w1 k hk h1.1).mono fun _e _w' ⟨ge,ce,e1,a1,a2,a3,a4,a5⟩=>⟨ge,ce,e1,a1,a2,a3,a4,h1.2.trans a5 (fun _x hx _=>hx)⟩)
  (fun w1 h1=>(r.get w1 k hk h1.1).mono fun _e _w' ⟨e1,a4,a5⟩=>⟨e1,a4,h1.2.trans a5 (fun _x hx _=>hx)⟩) w ⟨h,Fr.refl _ _⟩
theorem aa9(r:Rds R dp pq lab root)(n:UR dp q gs g1 g2)(w:World)(h:R w)(hw:Ac q pq gs g1 g2 c1 c2 cs lab root w)(hdl:dp<w.heap.size):
  Zc 36 #[Zp q] w fun e w'=>e=.returned (.bool true)/\R w'/\Fr w w' [dp]:=by
 have cS:=r.infos w h;have z2:=hw.r2;have HR:Hid _:=r;have HN:Hid _:=n;have HW:Hid _:=hw;have hlb:((lab.toList !=lab.toList))=false:=by simp
 have hrb:((root.toList !=root.toList))=false:=by simp
 clear r n h hw;go_enter func36,ntmps36;go_upto_region 2 with(go_at_call 35;refine cS.mono ?_;rintro e w1 ⟨gi,ci,rfl,hgi,i0,i1,i2,h1,f1⟩;have H1:Hid (R w1):=h1;have F1:Hid (Fr w w1 [dp]):=f1;clear h1 f1 cS)
 have HW1:Hid (Ac q pq gs g1 g2 c1 c2 cs lab root w1):=HW.out.fr HN.out F1.out;have x4:=HW1.out.r4;clear z2;go_wp2;clear x4;go_loopw [4] (fun iv wr=>(iv=.int .i64 0/\w1=wr)\/(iv=.int .i64 1/\Hid (R wr)/\Hid (Fr w1 wr [dp]))) (fun iv _=>1-(RowKit.intOf iv).toNat)
 case atStart=>exact .inl ⟨rfl,rfl⟩
 case round=>
  obtain⟨rfl,rfl⟩|⟨rfl,HP,HF⟩:=hrel
  ·obtain⟨y1,y2,y3,y4,y5,y6,ZR,ZT⟩:=HW1.out;have y7:=i0;have y8:=i1;have y9:=i2;have K5:Hid _:=HR.out.holds (cap:=c1) (HR.out.drew _ H1.out) (g:=g1) (w:=w1.drew) ZR HN.out.g1 1 (.inr rfl);have WR:Hid (∀w4,Fr w1.drew w4 [dp]->w4.cell? (Za q 2)=some (Zp pq)/\w4.cell? (Za q 3)=some (.slice (Zs g2) 1 c2)/\w4.cell? (Za q 4)=some (.slice (Zs gs) 1 cs)/\w4.cell? (Za gs 0)=some (.slice (Zs g1) 1 c1)/\w4.cell? (Za gs 1)=some (.string lab)/\w4.cell? (Za gs 2)=some (.string root)/\w4.cell? (Za gi 0)=some (.int .i64 1)/\w4.cell? (Za gi 1)=some (.string lab)/\w4.cell? (Za gi 2)=some (.string root)):=fun w4 f=>by
    have k:=(HW1.out.fr HN.out (Fr.refl w1 [dp]).drew).fr HN.out f;have hne:gi≠dp:=by omega
    exact⟨k.r2,k.r3,k.r4,k.s0,k.s1,k.s2,jr (w:=w1.drew) i0 f hne,jr (w:=w1.drew) i1 f hne,jr (w:=w1.drew) i2 f hne⟩
   clear ZR ZT;go_upto_region 7 with fail
   refine bF ?_;refine wp_region_held_drew (S:=fun w'=>w'.cell? (Za q 2)=some (Zp pq)/\w'.cell? (Za q 3)=some (.slice (Zs g2) 1 c2)/\w'.cell? (Za q 4)=some (.slice (Zs gs) 1 cs)/\w'.cell? (Za gs 0)=some (.slice (Zs g1) 1 c1)/\w'.cell? (Za gs 1)=some (.string lab)/\w'.cell? (Za gs 2)=some (.string root)/\w'.cell? (Za gi 0)=some (.int .i64 1)/\w'.cell? (Za gi 1)=some (.string lab)/\w'.cell? (Za gi 2)=some (.string root)) (by kernel_rfl) ⟨y1,y2,y3,y4,y5,y6,y7,y8,y9⟩ (fun ah=>?_);refine Zt 0 (Zp q) ?_;refine Zt 1 (Zp q) ?_;refine Zt 2 (.pointer (some (Za q 2))) ?_;refine Zt 3 (Zp pq) ?_;refine Zt 4 (.int .i64 0) ?_;refine Zt 5 (.int .i64 1) ?_ (hy:=Or.inl ⟨by rfl,by intro w hSw;go_simp;try decide⟩);refine Zt 6 (Zp q) ?_;refine Zt 7 (Zp q) ?_;refine Zt 8 (.pointer (some (Za q 4))) ?_;refine Zt 9 (.slice (Zs gs) 1 cs) ?_;refine Zt 10 (.int .i64 0) ?_;refine Zt 11 (Zp gs) ?_;refine Zt 12 (Zp gs) ?_;refine Zt 13 (.slice (Zs g1) 1 c1) ?_;refine Zh 14 fun K hK=>?_;go_simp;go_at_call 60;refine Calls.mono (K5.out) ?_;rintro e w4 ⟨rfl,h4,f4⟩;have H4:Hid (R w4):=h4;have F4:Hid _:=f4;clear h4 f4;refine hK.out _ _ (WR.out w4 F4.out) (fun ah=>?_);clear hK K;(try simp only[Act.put,lA,lZ,lS]);refine Zt 15 (.bool true) ?_;refine Zx ?_;simp only[At];clear y1 y2 y3 y4 y5 y6 y7 y8 y9;obtain⟨y1,y2,y3,y4,y5,y6,y7,y8,y9⟩:=ah;go_upto_region 8 with fail
   refine bF ?_;refine wp_region_held_drew (S:=fun w'=>w'.cell? (Za q 2)=some (Zp pq)/\w'.cell? (Za q 3)=some (.slice (Zs g2) 1 c2)/\w'.cell? (Za q 4)=some (.slice (Zs gs) 1 cs)/\w'.cell? (Za gs 0)=some (.slice (Zs g1) 1 c1)/\w'.cell? (Za gs 1)=some (.string lab)/\w'.cell? (Za gs 2)=some (.string root)/\w'.cell? (Za gi 0)=some (.int .i64 1)/\w'.cell? (Za gi 1)=some (.string lab)/\w'.cell? (Za gi 2)=some (.string root)) (by kernel_rfl) ⟨y1,y2,y3,y4,y5,y6,y7,y8,y9⟩ (fun ah=>?_);refine Zt 0 (.bool true) ?_;refine Zt 1 (.bool false) ?_;refine Zt 2 (.bool false) ?_;refine Zt 3 (.slice (Zs gi) 1 ci) ?_;refine Zt 4 (.int .i64 0) ?_;refine Zt 5 (Zp gi) ?_;refine Zt 6 (Zp gi) ?_;refine Zt 7 (.int .i64 1) ?_;refine Zt 8 (.int .i64 0) ?_;refine Zt 9 (.int .i64 1) ?_ (hy:=Or.inl ⟨by rfl,by intro w hSw;go_simp;try decide⟩);refine Zt 10 (.bool false) ?_;refine Zt 11 (.bool false) ?_;refine Zt 12 (.bool false) ?_;refine Zt 13 (.slice (Zs gi) 1 ci) ?_;refine Zt 14 (.int .i64 0) ?_;refine Zt 15 (Zp gi) ?_;refine Zt 16 (.pointer (some (Za gi 1))) ?_;refine Zt 17 (.string lab) ?_;refine Zt 18 (Zp q) ?_;refine Zt 19 (Zp q) ?_;refine Zt 20 (.pointer (some (Za q 4))) ?_;refine Zt 21 (.slice (Zs gs) 1 cs) ?_;refine Zt 22 (.int .i64 0) ?_;refine Zt 23 (Zp gs) ?_;refine Zt 24 (.pointer (some (Za gs 1))) ?_;refine Zt 25 (.string lab) ?_;refine Zt 26 (.bool false) ?_;refine Zt 27 (.bool false) ?_;refine Zt 28 (.bool false) ?_;refine Zt 29 (.slice (Zs gi) 1 ci) ?_;refine Zt 30 (.int .i64 0) ?_;refine Zt 31 (Zp gi) ?_;refine Zt 32 (.pointer (some (Za gi 2))) ?_;refine Zt 33 (.string root) ?_;refine Zt 34 (Zp q) ?_;refine Zt 35 (Zp q) ?_;refine Zt 36 (.pointer (some (Za q 4))) ?_;refine Zt 37 (.slice (Zs gs) 1 cs) ?_;refine Zt 38 (.int .i64 0) ?_;refine Zt 39 (Zp gs) ?_;refine Zt 40 (.pointer (some (Za gs 2))) ?_;refine Zt 41 (.string root) ?_;refine Zt 42 (.bool false) ?_;refine Zt 43 (.bool false) ?_;refine Zx ?_;simp only[At];clear y1 y2 y3 y4 y5 y6 y7 y8 y9 ah;have H5:Hid (R w4.drew):=HR.out.drew _ H4.out;have F5:Hid (Fr w1 w4.drew [dp]):=((Fr.refl w1 [dp]).drew.trans F4.out (fun x hx _=>hx)).drew;generalize w4.drew=w5 at *;go_wp2;go_loopw [6] (fun iv wr=>iv=.int .i64 0/\w5=wr) (fun _ _=>0)
   case atStart=>exact⟨rfl,rfl⟩
   case round=>
    obtain⟨rfl,rfl⟩:=hrel;go_wp2;exact⟨.inr ⟨rfl,H5.out,F5.out⟩,by simp[RowKit.intOf]⟩
  ·have HWr:Hid (Ac q pq gs g1 g2 c1 c2 cs lab root wr):=HW1.out.fr HN.out HF.out;have x2:=HWr.out.r2;have cV:=HR.out.verify wr HP.out;go_upto_region 17 with(go_at_call 61;refine cV.mono ?_;rintro e w3 ⟨rfl,h3,f3⟩;have H3:Hid (R w3):=h3;have F3:Hid (Fr wr w3 [dp]):=f3;clear h3 f3 cV)
   have HW3:Hid (Ac q pq gs g1 g2 c1 c2 cs lab root w3):=HWr.out.fr HN.out F3.out;clear x2;obtain⟨y1,y2,y3,y4,y5,y6,ZR,ZT⟩:=HW3.out;have HH0:Hid _:=HR.out.holds (cap:=c2) (HR.out.drew _ H3.out) (g:=g2) (w:=w3.drew) ZT HN.out.g2 0 (.inl rfl);have WR:Hid (∀w4,Fr w3.drew w4 [dp]->w4.cell? (Za q 2)=some (Zp pq)/\w4.cell? (Za q 3)=some (.slice (Zs g2) 1 c2)/\w4.cell? (Za q 4)=some (.slice (Zs gs) 1 cs)/\w4.cell? (Za gs 0)=some (.slice (Zs g1) 1 c1)/\w4.cell? (Za gs 1)=some (.string lab)/\w4.cell? (Za gs 2)=some (.string root)):=fun w4 f=>by
    have k:=(HW3.out.fr HN.out (Fr.refl w3 [dp]).drew).fr HN.out f;exact⟨k.r2,k.r3,k.r4,k.s0,k.s1,k.s2⟩
   clear ZR ZT;refine bF ?_;refine wp_region_held_drew (S:=fun w'=>w'.cell? (Za q 2)=some (Zp pq)/\w'.cell? (Za q 3)=some (.slice (Zs g2) 1 c2)/\w'.cell? (Za q 4)=some (.slice (Zs gs) 1 cs)/\w'.cell? (Za gs 0)=some (.slice (Zs g1) 1 c1)/\w'.cell? (Za gs 1)=some (.string lab)/\w'.cell? (Za gs 2)=some (.string root)) (by kernel_rfl) ⟨y1,y2,y3,y4,y5,y6⟩ (fun ah=>?_);refine Zt 0 (Zp q) ?_;refine Zt 1 (Zp q) ?_;refine Zt 2 (.pointer (some (Za q 2))) ?_;refine Zt 3 (Zp pq) ?_;refine Zt 4 (Zp q) ?_;refine Zt 5 (Zp q) ?_;refine Zt 6 (.pointer (some (Za q 3))) ?_;refine Zt 7 (.slice (Zs g2) 1 c2) ?_;refine Zh 8 fun K hK=>?_;go_simp;go_at_call 60;refine Calls.mono (HH0.out) ?_;rintro e w4 ⟨rfl,h4,f4⟩;have H4:Hid (R w4):=h4;have F4:Hid _:=f4;clear h4 f4;refine hK.out _ _ (WR.out w4 F4.out) (fun ah=>?_);clear hK K;(try simp only[Act.put,lA,lZ,lS]);refine Zt 9 (.bool true) ?_;refine Zx ?_;simp only[At];go_wp2;go_ret;have fa:Fr w w3.drew [dp]:=(((F1.out.trans HF.out (fun x hx _=>hx)).trans F3.out (fun x hx _=>hx))).drew;exact⟨rfl,H4.out,fa.trans F4.out (fun x hx _=>hx)⟩
end
end
section
open Go.RowKit
theorem Xx(l:List Nat):∀x∈outs l,x<256:=by
 intro x hx;simp only[outs,mem_flatMap] at hx;obtain⟨y,_,hy⟩:=hx;exact uN y x hy
theorem NZ(K:List Nat)(hK:K.length=64)(dK:∀x∈K,x<4294967296)(s0:St)(ok0:s0.Ok)(t:Zy)(ht:t.size<=1000000)(w:World)(hR:pR w 14 K)(hS:pR w 13 s0.list):
  Zc 65 #[.string t] w fun e w'=>e=.returned (.string (I6 K s0 (af t)))/\Below w.heap.size w w':=by
 have hO:=Ug K hK dK s0 ok0 t ht w hR hS;have hdef:Hid (I6 K s0 (af t)=text (outs (iO K s0 (pad (af t)) (iw t.size)).list)):=by
  show _=_;unfold I6;rw[aM]
 have Vu:=oU (iO K s0 (pad (af t)) (iw t.size));have hlt:=Xx (iO K s0 (pad (af t)) (iw t.size)).list;generalize outs (iO K s0 (pad (af t)) (iw t.size)).list=O at hO hdef Vu hlt;have Uh:(prog.info? 121).map (·.size)=some (bytes O).toArray.size:=by rw[size_toArray,aF,Vu];kernel_rfl
 have hzO:Hid ((32:Nat)=(bytes O).toArray.size):=by show _=_;rw[size_toArray,aF,Vu]
 have Ph:=bY O;have HLT:Hid _:=hlt;have HLO:Hid _:=Vu;clear hlt Vu;go_enter func65,ntmps65;refine dM ?_;go_wp2;show Code.wp _ _ _ _ _;refine dM ?_;go_wp2_with(first|(go_at_call 109;refine hO.mono ?_;rintro e w1 ⟨rfl,hb1⟩)|(refine wpList_store_row rfl 121 _ _ rfl w1.heap.size _ rfl rfl _ _ (heap_alloc_new w1 _) Uh hzO.out Ph ?_));show Code.wp _ _ _ _ ((w1.alloc (.cells (bytes (replicate 32 0)).toArray 121)).setRow w1.heap.size (bytes O).toArray);have r1:ai ((w1.alloc (.cells (bytes (replicate 32 0)).toArray 121)).setRow w1.heap.size (bytes O).toArray) w1.heap.size 121 (bytes O++[]):=by rw[append_nil];exact(ai.new w1 121 (bytes (replicate 32 0))).setRow _
 have hb2:Below w1.heap.size w1 ((w1.alloc (.cells (bytes (replicate 32 0)).toArray 121)).setRow w1.heap.size (bytes O).toArray):=((Zr).alloc (Zn) _).setRow _ (Zn);generalize(w1.alloc (.cells (bytes (replicate 32 0)).toArray 121)).setRow w1.heap.size (bytes O).toArray=W1 at r1 hb2⊢;have hcv:=qF (P:=prog) 124 9 5 underlying124 underlying5 underlying9 W1 w1.heap.size 32 _ O [] r1 HLT.out;rw[HLO.out] at hcv;obtain⟨T,hT⟩:∃T,Hid (text O=T):=⟨_,rfl⟩;rw[hT.out] at hcv;clear r1 Uh Ph;go_wp2;go_ret;exact⟨by rw[hdef.out,hT.out];rfl,hb1.trans (hb2.mono hb1.size)⟩
end
end Go.Proofs.YtdidjdoifpfmmaaGreatDoor
