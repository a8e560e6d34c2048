import Derived.Test.YtdidjdoifpfmmaaGreatDoorGAShelfIter
import Derived.Test.YtdidjdoifpfmmaaGreatDoorGO19
import Derived.Deep.RegionLaw
import Derived.Sort.OwnSorted
import Derived.Lib.SlMapMerge
import Derived.Maps.Ext
set_option maxRecDepth 100000
set_option maxHeartbeats 16000000
namespace Go.Proofs.YtdidjdoifpfmmaaGreatDoor
open Go.Proofs.Tryz List
variable{i j co b g cap qa i0 num crc bd nd ns n:Nat}{c:dz}{L:List It}{T H A H':List Ob}{w3 wr w2 w4 w w':World}{p p':iQ}{s s2:Dr}{xs ys CS vs C:List Value}{ao:Option Addr}{P:Program}{a:Act}{K:List Zy}{name k:Zy}{d dn:Bool}{t ty:TypeId}{blk mblk:Zy->Nat}{tm ms bs am:List Nat}{root sn key u v r:Value}{Dd Ds D Dout:DataW Unit}{C0 ce0 old:Array Value}
section
open Go.RowKit
def uX(L:List It)(s:Zy):Nat:=
 if(ax s).2=false then 5
 else if(dw L ⟨#[]⟩ (-1) (ax s).1).2≠0 then(dw L ⟨#[]⟩ (-1) (ax s).1).2
 else if 0<=(dw L ⟨#[]⟩ (-1) (ax s).1).1/\iY L (dw L ⟨#[]⟩ (-1) (ax s).1).1=false then 7
 else 0
structure En where
 name:Zy
 dir:Bool
 size:Nat
def En.cells(x:En):List Value:=[.string x.name,.bool x.dir,Zi x.size]
def dm(l:List En):List Value:=l.flatMap En.cells
theorem uG(l:List En):(dm l).length=l.length*3:=nk _ 3 l fun _ _=>rfl
def vz(L:List It)(s k:Zy):En:=⟨k,iY L (bJ L (aA s k)),(vP L (bJ L (aA s k))).size⟩
end
section
open Go.RowKit Go.Maps Go.Sort Go.Shelf open Go.Proofs (encStr)
theorem Ri(m:Nat):AnyZ.SortsIn prog Tryz.sorted234_ren Fence.wide m:=
 ⟨fun blk off cap ss W hH hblk hsz=>callsIn_wide.2 (AnyM.slices_Sort_string Tryz.sort271 blk off cap ss W hH hblk hsz),
  fun p cap W=>callsIn_wide.2 (AnyM.slices_Sort_string_none Tryz.sort271 p cap W)⟩
theorem Pt(mb:Option Nat)(W:World):Zc 232 #[.map mb] W fun e w'=>e=.returned (.func (.func 272) #[] #[Zp W.heap.size])/\w'=W.alloc (.cells #[.map mb] 175):=
 callsIn_wide.1 (AnyZ.keys_in Tryz.keys235 Fence.wide 5 trivial rfl mb W)
theorem FB(b nn:Nat)(D0:DataW Unit)(R:Value->Option (DataW Unit × List MemPlace))(w:World)(aY:w.ownsMap prog 9 R b nn D0)(hmax:Maps.size D0<=maxLen)(hbytes:Maps.size D0*16<=140737488355328):
  Zc 231 #[.func (.func 272) #[] #[Zp w.heap.size]] (w.alloc (.cells #[.map (some b)] 175)) fun e w'=>∃(v:Value) (ss:List (List UInt8)),e=.returned v/\ss.Perm (strKeys D0)/\
   w'.ownsRow (w.alloc (.cells #[.map (some b)] 175)).heap.size 9 1 v ss.length ((ss.mergeSort (fun x y=>decide (x<=y))).map encStr)/\(v=.slice none 0 0↔ss=[])/\Below (w.alloc (.cells #[.map (some b)] 175)).heap.size (w.alloc (.cells #[.map (some b)] 175)) w':=by
 have hbl:=aY.lt;have hseq:SeqGives Fence.wide 2 prog 272 #[Zp w.heap.size] encStr (fun ss=>ss.Perm (strKeys D0)) (Maps.size D0) (w.alloc (.cells #[.map (some b)] 175)):=
  AnyZ.keys_gives (ρ:=Tryz.keys235_ren) {Tryz.keys235 with} Fence.wide _ trivial rfl (by omega) w.heap.size b nn D0 _ (by simp) (by simp) (by
   obtain⟨es,clock,hb,Ft,hs,hD⟩:=aY;exact⟨es,clock,(Below.heap_alloc _ _ b hbl).trans hb,Ft,hs,hD⟩)
 exact callsIn_wide.1 (AnyZ.sorted_in Tryz.sorted234 Fence.wide 5 trivial trivial trivial trivial rfl (by omega) (Ri _) (enters_of func271 (by kernel_rfl) rfl) 272 #[Zp w.heap.size] trivial (enters_of func272 (by kernel_rfl) rfl) _ _ hmax hbytes _ hseq)
theorem uH:(prog.info? 52).map (fun i=>(i.zero,i.size,i.bytes))=some (some (.agg #[.string ByteArray.empty,.bool false,.int .i64 0]),3,32):=by kernel_rfl
section
variable {a:Nat->Addr}{w:World}{q:Nat}{L:List It}{blk mblk:Zy->Nat}
theorem wT(h:dD w L blk mblk)(ok:aC L)(hi:i<L.length):∃o:Option Nat,w.cell? (Za (blk L[i].path) 0)=some (.map o)/\o.isSome=L[i].dir/\w.cell? (Za (blk L[i].path) 1)=some (.string L[i].data):=by
 cases hd:L[i].dir
 ·obtain⟨c0,c1⟩:=h.file _ (Zg hi) hd;exact⟨none,c0,rfl,c1⟩
 ·obtain⟨c0,c1,_⟩:=h.dir L[i].path (.inr ⟨_,Zg hi,rfl,hd⟩);rw[ok.bare _ (Zg hi) hd];exact⟨_,c0,rfl,c1⟩
theorem KF(l:List Zy):(l.map fun k=>k.data.toList).map encStr=bN l:=by
 unfold bN;rw[map_map];apply map_congr_left;intro x _;simp[encStr]
theorem Co(h:dD w L blk mblk)(ok:aC L)(p:Zy)(hd:bC L p):
  Zc 163 #[(Zp (blk p))] w fun e w'=>∃lv,e=.returned lv/\w'.ownsRow w.heap.size 52 3 lv (aj p L).length (dm ((aj p L).map (vz L p)))/\Below w.heap.size w w':=by
 obtain⟨c0,_,hdr⟩:=h.dir p hd;have Xa:=hdr;obtain⟨D,ho,hh,ha⟩:=hdr;have hsz:=pG ok ho hh;have YB:=lU ok p;have HK:Hid (∀ss:List (List UInt8),ss.Perm (strKeys D)->ss.length=(aj p L).length/\(ss.mergeSort (fun x y=>decide (x<=y))).map encStr=bN (aj p L)):=fun ss hs=>by
  have hp:=hs.trans (uP ok ho hh).symm;refine⟨by rw[hp.length_eq,length_map],?_⟩;rw[Cm hp,KF]
 have cK:Zc 232 #[.map (some (mblk p))] w _:=Pt (some (mblk p)) w;have cS:=FB (mblk p) _ D eD w ho (by rw[hsz];unfold maxLen;omega) (by omega);have HD:Hid _:=Xa;clear Xa hh ha hsz;go_enter func163,ntmps163;go_wp2_with(first
  | (go_at_call 232;refine cK.mono ?_;rintro e w1 ⟨rfl,rfl⟩)
  | (go_at_call 231;refine cS.mono ?_;rintro e w3 ⟨v,ss,rfl,hS,hrow,_,hb3⟩;obtain⟨hsl,hsm⟩:=HK.out ss hS;rw[hsl,hsm] at hrow;clear hsl hsm hS;obtain⟨ak,ck,rfl⟩:∃ak ck,v=.slice ak (aj p L).length ck:=aV hrow))
 have HKv:Hid _:=hrow;clear hrow;obtain⟨i0,hi0,hz0,hz1,hz2⟩:=info_parts uH;have Vw:Hid (RowKit.Below w.heap.size w w3):=by
  have h1:RowKit.Below w.heap.size w (w.alloc (.cells #[.map (some (mblk p))] 175)):=(RowKit.Below.refl _ w).alloc (Zn) _;exact h1.trans (hb3.mono (by simp))
 have HT3:Hid _:=h.below Vw.out;have hw3:Hid (w.heap.size<=w3.heap.size):=Vw.out.size;clear hb3;have HG:Hid (∀wr,RowKit.Below w3.heap.size w3 wr->∀k∈aj p L,wr.cell? (Za (blk p) 0)=some (.map (some (mblk p)))/\(Instr.lookup 175 (.map (some (mblk p))) (.string k) false).run prog wr=.ok ((Zp (blk (aA p k)))) wr/\∃(i:Nat) (hi:i<L.length) (o:Option Nat),blk (aA p k)<w3.heap.size/\bJ L (aA p k)=(i:Nat)/\wr.cell? (Za (blk (aA p k)) 0)=some (.map o)/\o.isSome=L[i].dir/\wr.cell? (Za (blk (aA p k)) 1)=some (.string L[i].data)):=fun wr hbr k hk=>by
  have hTr:dD wr L blk mblk:=dD.below HT3.out hbr;obtain⟨e0,_,edr⟩:=hTr.dir p hd;have hname:=((bD ok p k).1 hk).1;refine⟨e0,edr.get k (by have:=ic hname;omega) hk,?_⟩;rcases pJ ok (p:=p) hname with⟨_,hno⟩|⟨i,hi,hfi,uo,_⟩
  ·exact absurd hk hno
  ·obtain⟨o,n0,n1,n2⟩:=wT hTr ok hi;rw[uo] at n0 n2;obtain⟨o',n0',_⟩:=wT (blk:=blk) (mblk:=mblk) HT3.out ok hi;rw[uo] at n0';exact⟨i,hi,o,Zd n0',hfi,n0,n1,n2⟩
 have HDs:Hid (∀i (hi:i<L.length),L[i].data.size<=1536):=fun i hi=>ok.data _ (Zg hi);clear cK cS;generalize Qi:aj p L=K at *;have HKK:Hid (aj p L=K):=Qi;clear Qi;go_loopw [3,14] (fun ov iv wr=>∃(j:Nat) (ao:Option Addr) (co:Nat),ov=.slice ao j co/\iv=.int .i64 j/\j<=K.length/\wr.ownsRow w.heap.size 52 3 (.slice ao j co) j (dm ((K.take j).map (vz L p)))/\RowKit.Below w3.heap.size w3 wr/\(∀n,ao=some n->w3.heap.size<=n.block)) (fun _ iv _=>K.length-(intOf iv).toNat)
 case atStart=>exact⟨0,none,0,rfl,rfl,Nat.zero_le _,World.ownsRow_nil _ _ _ _,Zr,by simp⟩
 case round=>
  obtain⟨j,ao,co,rfl,rfl,hjl,ho,hbr,hao⟩:=hrel;by_cases hlt:j<K.length
  ·have j1:(j:Int)<(K.length:Int):=by omega
   obtain⟨gk,ckk,hvk,_,Xb⟩:=World.ownsRow.form HKv.out (by omega);simp only[Value.slice.injEq] at hvk;obtain⟨rfl,_,rfl⟩:=hvk;obtain⟨e0,hget,i,hi,o,hbl,hfi,n0,n1,n2⟩:=HG.out wr hbr K[j] (Zg hlt);have HO:Hid _:=ho;have Rj:Hid _:=hbr;have ck:wr.cell? (Za gk j)=some (.string K[j]):=by
    obtain⟨hh,_,_⟩:=jA (EH HKv.out);rw[hbr.cell Xb,hh.cell j (by rw[ni];exact hlt)];simp[bN,hlt]
   have HE:Hid (dm ((K.take (j+1)).map (vz L p))=dm ((K.take j).map (vz L p))++[.string K[j],.bool L[i].dir,(Zi (L[i].data.size))]):=by
    show _=_;have e1:vz L p K[j]=⟨K[j],L[i].dir,L[i].data.size⟩:=by
     unfold vz;rw[hfi];have hda:iY L (i:Nat)=L[i].dir:=by unfold iY;rw[Int.toNat_natCast,getElem?_eq_getElem hi];rfl
     have hdt:vP L (i:Nat)=L[i].data:=by unfold vP;rw[Int.toNat_natCast,getElem?_eq_getElem hi];rfl
     rw[hda,hdt]
    rw[take_succ_eq_append_getElem hlt,map_append,map_singleton,e1];simp[dm,En.cells]
   have hds:=HDs.out i hi;have HAo:Hid _:=hao;clear hao hfi ho hbr;rw[<-n1] at HE;have n1':Hid _:=n1;clear n1;have nbp:some (blk (aA p K[j]))≠(Value.slice ao j co).ownBlock:=by
    intro e;cases ao with
    | none=>cases e
    | some n=>
     have h1:=HAo.out n rfl;have:blk (aA p K[j])=n.block:=by simpa [Value.ownBlock] using e
     omega
   have hbw:blk (aA p K[j])<wr.heap.size:=Zd n0;generalize blk (aA p K[j])=bp at *;generalize hkj:K[j]=kj at *;clear hkj;generalize hdd:L[i].data=dd at *;clear hdd;have hcD:∀W:World,W.cell? (Za bp 0)=some (.map o)->Zc 162 #[Zp bp] W fun e w'=>e=.returned (.bool o.isSome)/\W=w':=fun W hW=>eX bp o W hW;have HCD:Hid _:=hcD;clear hcD;have hws:Hid (w.heap.size<=wr.heap.size):=Nat.le_trans hw3.out Rj.out.size;generalize dm ((K.take j).map (vz L p))=xs at *;have hjj:j<=40000:=by omega
   go_wp2;go_region_held3 (fun w'=>w'.cell? (Za bp 0)=some (.map o)/\w'.cell? (Za bp 1)=some (.string dd)) ((first|exact⟨n0,n2⟩|(go_split_ands;refine⟨by go_keep,by go_keep⟩)|(go_split_ands;refine⟨by rw[aN.cell_far _ (by simp;omega) nbp];assumption,by rw[aN.cell_far _ (by simp;omega) nbp];assumption⟩))) ((first|(go_at_call 162;go_split_ands;refine Calls.mono (HCD.out _ (by assumption)) ?_;rintro e w6 ⟨rfl,rfl⟩)|(refine step_append_lies _ (by rfl) _ _ _ (by rfl) w.heap.size 52 i0 _ 3 32 underlying48 hi0 hz0 hz1 hz2 rfl (by omega) (.slice ao j co) j xs (by rfl) (World.ownsRow.alloc HO.out _) (Za wr.heap.size 0) 1 1 [.string kj,.bool o.isSome,Zi dd.size] (by rfl) (by rfl) (World.news_of_block (cs:=#[.string kj,.bool o.isSome,Zi dd.size]) (t:=52) (fr:=(0,0)) (heap_alloc_new wr _)) (by simp[Value.oneCell']) (by omega) (by unfold maxLen;omega) (by omega) (by have:=hws.out;simp;omega) (wr.heap.size+1) (by simp) ?_;intro gg cap w7 aY aN hat hlt7)))
   all_goals
    go_wp2;refine⟨⟨j+1,some (Za gg 0),cap,rfl,by go_num,by omega,by rw[HE.out];exact aY,?_,?_⟩,by simp[intOf];omega⟩
    ·have hszz:=Rj.out.size;refine⟨aN.os.trans Rj.out.os,aN.tape.trans Rj.out.tape,aN.output.trans Rj.out.output,by have h2:=aN.size;simp at h2;omega,fun n hn=>?_⟩;refine(aN.block n (by simp;omega) (fun e=>?_)).trans (Eq.trans (by first|exact heap_alloc_old _ _ (by omega)|exact heap_alloc_old _ _ _ (by omega)) (Rj.out.block n hn));cases ao with
     | none=>cases e
     | some m=>
      have h1:=HAo.out m rfl;have:n=m.block:=by simpa [Value.ownBlock] using e
      omega
    ·intro m hm;cases hm
     show w3.heap.size<=gg;rcases hat with e|e
     ·cases ao with
      | none=>cases e
      | some m=>
       have h1:=HAo.out m rfl;have:m.block=gg:=by simpa [Value.ownBlock] using e
       omega
     ·have:=Rj.out.size;omega
  ·have ej:j=K.length:=by omega
   subst ej;have HO:Hid _:=ho;have Rj:Hid _:=hbr;clear ho hbr;have kk1:¬(K.length:Int)<(K.length:Int):=by omega
   go_wp2;go_ret;refine⟨_,rfl,?_,Vw.out.trans (Rj.out.mono Vw.out.size)⟩;have:=HO.out;rw[take_length] at this;rw[HKK.out];exact this
end
end
section
open Go.RowKit Go.Maps Go.Lib
def uI(c:dz)(d:Zy):List (Nat × Zy):=(bR d).map (fun t=>(1,t))++[(2,kL c d)]
def Dr.puts(c:dz)(T:List Ob)(s:Dr)(l:List (Nat × Zy)):Dr:=l.foldl (fun s x=>s.object c T x.1 x.2) s
theorem Dr.puts_append(c:dz)(T:List Ob)(s:Dr)(l m:List (Nat × Zy)):s.puts c T (l++m)=(s.puts c T l).puts c T m:=by
 unfold Dr.puts;rw[foldl_append]
theorem Dr.file_puts(c:dz)(T:List Ob)(s:Dr)(d:Zy):s.file c T d=s.puts c T (uI c d):=by
 unfold Dr.file uI;rw[Dr.puts_append];unfold Dr.puts Dr.objs;rw[foldl_map];rfl
def qV(L:List It)(x:Zy):Bool:=iY L (bJ L x)
def vB(L:List It)(x:Zy):Zy:=vP L (bJ L x)
def kF(c:dz)(L:List It):Nat->Zy->Zy
 | 0,_=>⟨#[]⟩
 | f+1,x=>kS ((aj x L).map fun k=>⟨k,qV L (aA x k),c.of (if qV L (aA x k)=true then kF c L f (aA x k) else kL c (vB L (aA x k)))⟩)
def iD(c:dz)(L:List It)(f:Nat)(x k:Zy):Ln:=⟨k,qV L (aA x k),c.of (if qV L (aA x k)=true then kF c L f (aA x k) else kL c (vB L (aA x k)))⟩
theorem sN(c:dz)(L:List It)(f:Nat)(x:Zy):kF c L (f+1) x=kS ((aj x L).map (iD c L f x)):=rfl
def iM(c:dz)(L:List It):Nat->Zy->List (Nat × Zy)
 | 0,_=> []
 | f+1,x=>((aj x L).flatMap fun k=>if qV L (aA x k)=true then iM c L f (aA x k) else uI c (vB L (aA x k)))++[(3,kF c L (f+1) x)]
def gq(c:dz)(L:List It)(f:Nat)(x k:Zy):List (Nat × Zy):=if qV L (aA x k)=true then iM c L f (aA x k) else uI c (vB L (aA x k))
theorem nP(c:dz)(L:List It)(f:Nat)(x:Zy):iM c L (f+1) x=(aj x L).flatMap (gq c L f x)++[(3,kF c L (f+1) x)]:=rfl
def fP(L:List It):Prop:=∀p,(aj p L).length<=16
theorem KG:∀(l:List Ln) (_:∀x∈l,x.sum.size=32/\x.name.size<=16),(kS l).size<=50*l.length:=by
 intro l h;have:∀(l:List Ln) (a:Zy),(∀x∈l,x.sum.size=32/\x.name.size<=16)->((l.map pF).foldl (·++·) a).size<=a.size+50*l.length:=by
  intro l;induction l with
  | nil=>intro a _;simp
  | cons x l ih=>
   intro a hx;rw[map_cons,foldl_cons];have h1:=ih (a++pF x) (fun y hy=>hx y (by simp[hy]));have h2:=hx x (by simp);rw[ByteArray.size_append,uh _ h2.1] at h1;rw[length_cons];omega
 have h2:=this l ⟨#[]⟩ h;unfold kS rO;have h0:(⟨#[]⟩:Zy).size=0:=rfl;omega
theorem Cq(ok:aC L)(hk:fP L)(f:Nat)(x:Zy):(kF c L f x).size<=800:=by
 cases f with
 | zero=>exact Nat.zero_le _
 | succ f=>
  have h1:=KG ((aj x L).map (iD c L f x)) (fun y hy=>by
   obtain⟨k,hm,rfl⟩:=mem_map.1 hy;exact⟨c.size _,by have:=ic ((bD ok x k).1 hm).1;exact this⟩)
  have h2:=hk x;rw[length_map] at h1;rw[sN];omega
theorem zu(ok:aC L)(x:Zy):(vB L x).size<=1536:=by
 unfold vB vP;cases h:L[(bJ L x).toNat]? with
 | none=>exact Nat.zero_le _
 | some y=>exact ok.data y (mem_of_getElem? h)
theorem Hq(c:dz)(d:Zy)(h:d.size<=1536):∀x∈uI c d,x.1<4/\x.2.size<=1000:=by
 intro x hx;rcases mem_append.1 hx with h1|h1
 ·obtain⟨t,ht,rfl⟩:=mem_map.1 h1;have:=vO d t ht;exact⟨by show 1<4;omega,by show t.size<=1000;omega⟩
 ·rw[Zm.1 h1];have:=yx c d;exact⟨by show 2<4;omega,by show(kL c d).size<=1000;omega⟩
theorem sO(ok:aC L)(hk:fP L):∀(f:Nat) (x:Zy),∀y∈iM c L f x,y.1<4/\y.2.size<=1000
 | 0,_,y,hy=>by cases hy
 | f+1,x,y,hy=>by
  rw[nP] at hy;rcases mem_append.1 hy with h1|h1
  ·obtain⟨k,_,hm⟩:=mem_flatMap.1 h1;unfold gq at hm;split at hm
   ·exact sO ok hk f _ y hm
   ·exact Hq c _ (zu ok _) y hm
  ·rw[Zm.1 h1];have:=Cq (c:=c) ok hk (f+1) x;exact⟨by show 3<4;omega,by show(kF c L (f+1) x).size<=1000;omega⟩
theorem Dr.Fit.puts:∀(l:List (Nat × Zy)) {s:Dr} {m:Nat},s.Fit m->(∀x∈l,x.1<4/\x.2.size<=1000)->(s.puts c T l).Fit (m+l.length)
 |[],_,_,h,_=>h
 | x::l,_,m,h,hl=>by
  have:=Dr.Fit.puts l (h.object (c:=c) (T:=T) x.1 (hl x (by simp)).2) (fun y hy=>hl y (by simp[hy]));rw[length_cons,show m+(l.length+1)=m+1+l.length by omega];exact this
structure Ao(w3 wr:World)(p p':iQ)(T:List Ob)(s:Dr)(j:Nat)(xs:List Value)(ao:Option Addr)(co:Nat):Prop where
 own:wr.ownsRow w3.heap.size 353 34 (.slice ao j co) j xs
 dr:jK wr p' T s
 same:p'.q=p.q/\p'.tm=p.tm/\p'.am=p.am
 sub:∀b∈p'.blocks,b∈p.blocks\/w3.heap.size<=b
 apart:∀g,(Value.slice ao 0 0).ownBlock=some g->g∉p'.blocks
 fr:Fr w3 wr p.blocks
 lt:∀b∈p.blocks,b<w3.heap.size
 tm:∀b∈p.tm,b<w3.heap.size
theorem Ao.step(h:Ao w3 wr p p' T s j xs ao co)(f:Below wr.heap.size wr w2):Ao w3 w2 p p' T s j xs ao co:=
 ⟨aT h.own (Fr.of_below f []) (by simp),h.dr.below f,h.same,h.sub,h.apart,h.fr.trans (Fr.of_below f []) (by simp),h.lt,h.tm⟩
theorem Ao.put(h:Ao w3 wr p p' T s j xs ao co)(d:j6 wr w2 p' T s2):∃p2,Ao w3 w2 p p2 T s2 j xs ao co/\∀b,b<wr.heap.size->b∉p'.blocks->b∉p2.blocks:=by
 obtain⟨p2,hd,e1,e2,e3,hsub,hf⟩:=d;have hs:=h.fr.size;refine⟨p2,⟨aT h.own hf (fun g hg=>h.apart g (by rw[bO ao 0 0 j co];exact hg)),hd,⟨e1.trans h.same.1,e2.trans h.same.2.1,e3.trans h.same.2.2⟩,fun b hb=>?_,fun g hg hm=>?_,h.fr.trans hf (fun x hx hl=>?_),h.lt,h.tm⟩,fun b hl hn hm=>by rcases hsub b hm with h1|h1;exact hn h1;omega⟩
 ·rcases hsub b hb with h1|h1
  ·exact h.sub b h1
  ·exact .inr (by omega)
 ·rcases hsub g hm with h1|h1
  ·exact h.apart g hg h1
  ·have:=(World.ownsRow.lt h.own g (by rw[bO ao j co 0 0];exact hg)).2;omega
 ·rcases h.sub x hx with h1|h1
  ·exact h1
  ·omega
theorem Ao.mine(h:Ao w3 wr p p' T s j xs ao co)(f:Fr wr w2 [b])(hb:w3.heap.size<=b)(hn:b∉p'.blocks)(ho:(Value.slice ao 0 0).ownBlock≠some b):Ao w3 w2 p p' T s j xs ao co:=by
 refine⟨aT h.own f (fun g hg hm=>?_),h.dr.fr f (fun x hx hm=>?_) (fun x hx hm=>?_),h.same,h.sub,h.apart,h.fr.trans f (fun x hx hl=>?_),h.lt,h.tm⟩
 ·rw[Zm.1 hm,bO ao j co 0 0] at hg;exact ho hg
 ·rw[Zm.1 hm] at hx;exact hn hx
 ·rw[Zm.1 hm,h.same.2.1] at hx;have:=h.tm b hx;omega
 ·rw[Zm.1 hx] at hl;omega
theorem Ao.grow(h:Ao w3 wr p p' T s j xs ao co)(hg:wr.grownBy w4 (Value.slice ao j co).ownBlock)(aY:w4.ownsRow w3.heap.size 353 34 (.slice (Zs g) (j+1) cap) (j+1) ys)(hat:(Value.slice ao j co).ownBlock=some g\/g=wr.heap.size):
  Ao w3 w4 p p' T s (j+1) ys (Zs g) cap:=by
 have hs:=h.fr.size;have Pq:∀k,(Value.slice ao j co).ownBlock=some k->w3.heap.size<=k/\k∉p'.blocks:=fun k hk=>⟨(World.ownsRow.lt h.own k hk).1,h.apart k (by rw[bO ao 0 0 j co];exact hk)⟩;have f1:Fr wr w4 (Value.slice ao j co).ownBlock.toList:=(Fr.refl _ _).grown hg (fun k hk=>.inl (by rw[hk];simp));refine⟨aY,h.dr.fr f1 (fun b hb hm=>(Pq b (Zo.1 hm)).2 hb) (fun b hb hm=>?_),h.same,h.sub,fun k hk hm=>?_,h.fr.trans f1 (fun x hx hl=>?_),h.lt,h.tm⟩
 ·have ht:=h.tm b (by rw[<-h.same.2.1];exact hb);have:=(Pq _ (Zo.1 hm)).1;omega
 ·simp only[Value.ownBlock,Option.some.injEq] at hk;subst hk;rcases hat with h1|h1
  ·exact(Pq _ h1).2 hm
  ·have:=h.dr.lt _ hm;omega
 ·have:=(Pq _ (Zo.1 hx)).1;omega
theorem yA:∀(V Z A:List Value),Z.length=V.length->mQ (A++Z) A.length V=A++V
 |[],[],A,_=>by simp[mQ]
 | v::V,z::Z,A,h=>by
  rw[mQ];have e1:(A++z::Z).set A.length v=(A++[v])++Z:=by
   rw[set_append_right _ _ (Zn),Nat.sub_self];simp
  rw[e1,show A.length+1=(A++[v]).length by simp,yA V Z (A++[v]) (by simpa using h)];simp
def jZ(name:Zy)(d:Bool):List Value:=.string name :: .bool d::bytes (replicate 32 0)
theorem Ct(name:Zy)(d:Bool)(w:World):(Instr.build 353 #[(0,.string name),(1,.bool d)]).run prog w=.ok (.agg (jZ name d).toArray) w:=by
 unfold jZ bytes;simp only[replicate,List.map];go_simp
theorem FC(name:Zy)(d:Bool):(prog.info? 353).map (·.size)=some (jZ name d).toArray.size:=by
 show _=some 34
 kernel_rfl
theorem KH(name:Zy)(d:Bool):(jZ name d).toArray.all Value.oneCell'=true:=by
 unfold jZ;rw[all_toArray,all_cons,all_cons];have:=bY (replicate 32 0);rw[all_toArray] at this;rw[this];rfl
theorem vQ{ops:Array Oper}{rest:List Oper}{o:Oper}{Q:Exit->Act->World->Prop}(hg:o.guard=none)(t:TypeId)(x y:Operand)(ho:o.op=.build t #[(0,x),(1,y)])(u v r:Value)(hx:a.eval x=u)(hy:a.eval y=v)(hr:(Instr.build t #[(0,u),(1,v)]).run P w=.ok r w)
  (h:wpList P ops Q rest (a.put o.dst r) w):wpList P ops Q (o::rest) a w:=by
 refine wpList_plain hg fun _ hK=>?_;unfold Oper.wp execOp;simp only[ho,Sem.run_bind,map_toArray,map_cons,map_nil,hx,hy,hr];exact hK _ _ h
theorem Rk(g:Zy->List (Nat × Zy))(h:j<K.length):s.puts c T ((K.take (j+1)).flatMap g)=(s.puts c T ((K.take j).flatMap g)).puts c T (g K[j]):=by
 rw[take_succ_eq_append_getElem h,flatMap_append,Dr.puts_append,flatMap_singleton]
theorem Uu(g:Zy->Ln)(h:j<K.length):fO ((K.take (j+1)).map g)=fO ((K.take j).map g)++(g K[j]).cells:=by
 rw[take_succ_eq_append_getElem h,map_append];simp[fO]
theorem Uv{α:Type}(g:Zy->List α)(h:j<K.length):((K.take j).flatMap g).length+(g K[j]).length<=(K.flatMap g).length:=by
 have e1:K.flatMap g=(K.take (j+1)).flatMap g++(K.drop (j+1)).flatMap g:=by rw[<-flatMap_append,take_append_drop]
 rw[e1,length_append,take_succ_eq_append_getElem h,flatMap_append,length_append,flatMap_singleton];omega
theorem KI(r:ai w b 353 (jZ name d))(h:CS.length=32):ai (w.setCells b 2 CS) b 353 (.string name :: .bool d::CS):=by
 have:=JE CS 2 r;have e:=yA CS (bytes (replicate 32 0)) [.string name,.bool d] (by rw[h];rfl);have e2:mQ (jZ name d) 2 CS=.string name :: .bool d::CS:=e;rw[e2] at this;exact this
theorem FD(h:ai w g t vs)(o n:Nat)(hn:o+n<=vs.length):w.there g o n:=fun j hj=>⟨by rw[h.cell (o+j),getElem?_eq_getElem (by omega)];rfl,h.frozen _⟩
theorem FE(name:Zy)(d:Bool):(jZ name d).length=34:=rfl
theorem drFr(h:j6 w w' p T s):Fr w w' p.blocks:=by
 obtain⟨_,_,_,_,_,_,h⟩:=h;exact h
structure YC(w:World)(L:List It)(blk mblk:Zy->Nat)(x k:Zy):Prop where
 map:w.cell? (Za (blk x) 0)=some (.map (some (mblk x)))
 look:(Instr.lookup 175 (.map (some (mblk x))) (.string k) false).run prog w=.ok ((Zp (blk (aA x k)))) w
 node:∃o:Option Nat,o.isSome=qV L (aA x k)/\w.cell? (Za (blk (aA x k)) 0)=some (.map o)/\w.cell? (Za (blk (aA x k)) 1)=some (.string (vB L (aA x k)))
 dir:qV L (aA x k)=true->bC L (aA x k)
theorem aaH{x:Zy}(h:dD w L blk mblk)(ok:aC L)(hd:bC L x)(hk:k∈aj x L):YC w L blk mblk x k:=by
 obtain⟨e0,_,edr⟩:=h.dir x hd;have hname:=((bD ok x k).1 hk).1;refine⟨e0,edr.get k (by have:=ic hname;omega) hk,?_,?_⟩
 ·rcases pJ ok (p:=x) hname with⟨_,hno⟩|⟨i,hi,hfi,uo,_⟩
  ·exact absurd hk hno
  ·obtain⟨o,n0,n1,n2⟩:=wT h ok hi;rw[uo] at n0 n2;refine⟨o,?_,n0,?_⟩
   ·rw[n1];unfold qV iY;rw[hfi,Int.toNat_natCast,getElem?_eq_getElem hi];rfl
   ·rw[n2];unfold vB vP;rw[hfi,Int.toNat_natCast,getElem?_eq_getElem hi];rfl
 ·intro hdp;rcases pJ ok (p:=x) hname with⟨_,hno⟩|⟨i,hi,hfi,uo,_⟩
  ·exact absurd hk hno
  ·refine .inr ⟨L[i],Zg hi,uo,?_⟩;unfold qV iY at hdp;rw[hfi,Int.toNat_natCast,getElem?_eq_getElem hi] at hdp;exact hdp
theorem Xc(ok:aC L){x:Zy}(hk:k∈aj x L):oL L (aA x k)+1<=oL L x:=by
 rw[uj ok x];generalize aj x L=K at *;induction K with
 | nil=>cases hk
 | cons a K ih=>
  rw[map_cons,sum_cons];rcases mem_cons.1 hk with rfl|h
  ·omega
  ·have:=ih h;omega
theorem aa4:(prog.info? 353).map (fun i=>(i.zero,i.size,i.bytes))=some (some (.agg (au ⟨#[]⟩ false (aI 32)).toArray),34,56):=by kernel_rfl
def Cu(c:dz)(L:List It)(blk mblk:Zy->Nat)(T:List Ob)(f:Nat)(x:Zy):Prop:=
 ∀{w:World} {p:iQ} {s:Dr} {m:Nat},dI c w->dD w L blk mblk->jK w p T s->(∀b∈aP L blk mblk,b∉p.blocks)->(∀b∈p.blocks,18<=b)->18<=w.heap.size->s.Fit m->m+(iM c L f x).length<=19000->
  Zc 166 #[Zp p.q,(Zp (blk x))] w fun e w'=>e=.returned (dA (c.of (kF c L f x)))/\j6 w w' p T (s.puts c T (iM c L f x))
theorem Ht(ok:aC L)(k16:fP L)(f:Nat)(x:Zy)(hd:bC L x)(ih:∀k∈aj x L,qV L (aA x k)=true->Cu c L blk mblk T f (aA x k)):Cu c L blk mblk T (f+1) x:=by
 intro w p s m hC hT h htp Sd hG hfit hm;obtain⟨c0,_,hdr⟩:=hT.dir x hd;have Xa:=hdr;obtain⟨D,ho,hh,ha⟩:=hdr;have hsz:=pG ok ho hh;have YB:(aj x L).length<=16:=k16 x;have HKs:Hid (∀ss:List (List UInt8),ss.Perm (strKeys D)->ss.length=(aj x L).length/\(ss.mergeSort (fun x y=>decide (x<=y))).map encStr=bN (aj x L)):=fun ss hs=>by
  have hp:=hs.trans (uP ok ho hh).symm;refine⟨by rw[hp.length_eq,length_map],?_⟩;rw[Cm hp,KF]
 obtain⟨w0,hw0⟩:∃w0,w0=w.alloc (.cells (bytes (replicate 32 0)).toArray 121):=⟨_,rfl⟩;have b0:Below w.heap.size w w0:=by rw[hw0];exact(Zr).alloc (Zn) _
 have l0:w.heap.size<w0.heap.size:=by rw[hw0];simp
 have r40:ai w0 w.heap.size 121 (bytes (replicate 32 0)):=by rw[hw0];exact ai.new _ _ _
 have cK:Zc 232 #[.map (some (mblk x))] w0 _:=Pt (some (mblk x)) w0;have ho0:w0.ownsMap prog 9 eD (mblk x) _ D:=(by obtain⟨es,clock,h1,h2⟩:=ho;exact⟨es,clock,(b0.block _ (World.ownsMap.lt ⟨es,clock,h1,h2⟩)).trans h1,h2⟩);have cS:=FB (mblk x) _ D eD w0 ho0 (by rw[hsz];unfold maxLen;omega) (by omega);have cc0:w0.cell? (Za (blk x) 0)=some (.map (some (mblk x))):=ay c0 (b0.block _ (Zd c0));clear Xa hh ha hsz ho ho0 c0;obtain⟨R,HR⟩:∃R,Hid (s.puts c T (iM c L (f+1) x)=R):=⟨_,rfl⟩;rw[HR.out];obtain⟨t2,Ht2⟩:∃t2,Hid (kF c L (f+1) x=t2):=⟨_,rfl⟩;rw[Ht2.out];have hsv:dA (c.of t2)=.agg (bytes (af (c.of t2))).toArray:=rfl;rw[hsv];have hsz:(prog.info? 121).map (·.size)=some (bytes (af (c.of t2))).toArray.size:=by rw[size_toArray,dh _ (c.size t2)];kernel_rfl
 have hz32:(bytes (replicate 32 0)).toArray.size=(bytes (af (c.of t2))).toArray.size:=by rw[size_toArray,size_toArray,dh _ (c.size t2)];rfl
 have om:((bytes (af (c.of t2))).toArray.all Value.oneCell')=true:=bY _;obtain⟨C2,Vv⟩:∃C2,Hid (bytes (af (c.of t2))=C2):=⟨_,rfl⟩;rw[Vv.out] at hsz hz32 om;rw[Vv.out];clear hsv;go_enter func166,ntmps166;go_upto_region 2 with fail
 change Code.wp _ _ _ _ (w.alloc (.cells (bytes (replicate 32 0)).toArray 121))
 rw[<-hw0];clear hw0;go_wp2_with(first
  | (go_at_call 232;refine cK.mono ?_;rintro e w1 ⟨rfl,rfl⟩)
  | (go_at_call 231;refine cS.mono ?_;rintro e w3 ⟨v,ss,rfl,hS,hrow,_,hb3⟩;obtain⟨hsl,hsm⟩:=HKs.out ss hS;rw[hsl,hsm] at hrow;clear hsl hsm hS;obtain⟨ak,ck,rfl⟩:∃ak ck,v=.slice ak (aj x L).length ck:=aV hrow))
 have b3:Below w.heap.size w w3:=b0.trans (((Below.refl w0.heap.size w0).alloc (Zn) _).trans (hb3.mono (by simp)) |>.mono (by omega));have r43:ai w3 w.heap.size 121 (bytes (replicate 32 0)):=r40.below (((Below.refl w0.heap.size w0).alloc (Zn) _).trans (hb3.mono (by simp))) l0;have HKv:Hid _:=hrow;have hG3:18<=w3.heap.size:=Nat.le_trans hG b3.size;have L0:Ao w3 w3 p p T s 0 [] none 0:=⟨World.ownsRow_nil _ _ _ _,h.below b3,⟨rfl,rfl,rfl⟩,fun b hb=>.inl hb,fun g hg=>by simp[Value.ownBlock] at hg,Fr.refl _ _,fun b hb=>Nat.lt_of_lt_of_le (h.lt b hb) b3.size,fun b hb=>Nat.lt_of_lt_of_le (h.there.lt b hb) b3.size⟩;have Rl:Hid (∀b∈aP L blk mblk,b<w.heap.size):=hT.lt;have HT3:Hid (dD w3 L blk mblk):=hT.below b3;have HC3:Hid (dI c w3):=hC.fr (Fr.of_below b3 []) (by simp);have hw3:w.heap.size<w3.heap.size:=r43.lt;have HPl:Hid (∀b∈p.blocks,b<w.heap.size):=h.lt;have HTm:Hid (∀b∈p.tm,b<w.heap.size):=h.there.lt;clear hb3 hrow cK cS cc0 r40 l0 hT hC h;have HKid:Hid (∀{wr:World} {p':iQ} {s':Dr} {j:Nat} {xs:List Value} {ao:Option Addr} {co:Nat},Ao w3 wr p p' T s' j xs ao co->∀k∈aj x L,YC wr L blk mblk x k):=fun hX k hk=>aaH (HT3.out.fr hX.fr htp) ok hd hk;have HNp:Hid (∀{wr:World} {p':iQ} {s':Dr} {j:Nat} {xs:List Value} {ao:Option Addr} {co:Nat},Ao w3 wr p p' T s' j xs ao co->(∀b∈aP L blk mblk,b∉p'.blocks)/\(∀b∈p'.blocks,18<=b)/\dI c wr/\18<=wr.heap.size):=fun{wr p' s' j xs ao co} hX=>by
  refine⟨fun b hb hm=>?_,fun b hb=>?_,HC3.out.fr hX.fr Sd,Nat.le_trans hG3 hX.fr.size⟩
  ·rcases hX.sub b hm with h1|h1
   ·exact htp b hb h1
   ·have:=Rl.out b hb;omega
  ·rcases hX.sub b hb with h1|h1
   ·exact Sd b h1
   ·omega
 have HDir:Hid (∀{wr:World} {p':iQ} {s':Dr} {j:Nat} {xs:List Value} {ao:Option Addr} {co m':Nat} (k:Zy),Ao w3 wr p p' T s' j xs ao co->k∈aj x L->qV L (aA x k)=true->s'.Fit m'->m'+(gq c L f x k).length<=19000->Zc 166 #[Zp p.q,(Zp (blk (aA x k)))] wr fun e w'=>e=.returned (.agg (bytes (af (iD c L f x k).sum)).toArray)/\j6 wr w' p' T (s'.puts c T (gq c L f x k))):=fun{wr p' s' j xs ao co m'} k hX hk hdp hF hm'=>by
  obtain⟨n1,n2,n3,n4⟩:=HNp.out hX;have e1:gq c L f x k=iM c L f (aA x k):=if_pos hdp;have e2:(iD c L f x k).sum=c.of (kF c L f (aA x k)):=by unfold iD;simp only[hdp,if_true]
  rw[e1] at hm'⊢;rw[e2];have:=ih k hk hdp n3 (HT3.out.fr hX.fr htp) hX.dr n1 n2 n4 hF hm';rw[hX.same.1] at this;exact this
 have HFil:Hid (∀{wr:World} {p':iQ} {s':Dr} {j:Nat} {xs:List Value} {ao:Option Addr} {co m':Nat} (k:Zy),Ao w3 wr p p' T s' j xs ao co->qV L (aA x k)=false->s'.Fit m'->m'+(gq c L f x k).length<=19000->Zc 233 #[Zp p.q,.string (vB L (aA x k))] wr fun e w'=>e=.returned (.agg (bytes (af (iD c L f x k).sum)).toArray)/\j6 wr w' p' T (s'.puts c T (gq c L f x k))):=fun{wr p' s' j xs ao co m'} k hX hdp hF hm'=>by
  obtain⟨n1,n2,n3,n4⟩:=HNp.out hX;have e1:gq c L f x k=uI c (vB L (aA x k)):=if_neg (by rw[hdp];decide);have e2:(iD c L f x k).sum=c.of (kL c (vB L (aA x k))):=by unfold iD;simp[hdp]
  rw[e1,<-Dr.file_puts,e2];have:=Ut n3 hX.dr n2 n4 hF (by omega) (vB L (aA x k)) (zu ok _);rw[hX.same.1] at this;exact this
 clear ih;obtain⟨i0,hi0,hz0,hz1,hz2⟩:=info_parts aa4;have HOs:Hid (iM c L (f+1) x=(aj x L).flatMap (gq c L f x)++[(3,kF c L (f+1) x)]):=nP c L f x;have HTt:Hid (kF c L (f+1) x=kS ((aj x L).map (iD c L f x))):=sN c L f x;have htz:=Cq (c:=c) ok k16 (f+1) x;have HSm:Hid (∀y∈(aj x L).flatMap (gq c L f x),y.1<4/\y.2.size<=1000):=fun y hy=>sO ok k16 (f+1) x y (by rw[HOs.out];exact mem_append_left _ hy);have hmm:m+((aj x L).flatMap (gq c L f x)).length+1<=19000:=by rw[HOs.out,length_append] at hm;simpa [Nat.add_assoc] using hm
 have HNm:Hid (∀k∈aj x L,k.size<=16):=fun k hk=>ic ((bD ok x k).1 hk).1;clear hm;generalize Qi:aj x L=K at *;clear Qi;go_loopw [5,17] (fun lv iv wr=>∃(j:Nat) (ao:Option Addr) (co:Nat) (p':iQ),lv=.slice ao j co/\iv=(Zi j)/\j<=K.length/\Hid (Ao w3 wr p p' T (s.puts c T ((K.take j).flatMap (gq c L f x))) j (fO ((K.take j).map (iD c L f x))) ao co)) (fun _ iv _=>K.length-(RowKit.intOf iv).toNat)
 case atStart=>exact⟨0,none,0,p,rfl,rfl,Nat.zero_le _,L0⟩
 case round=>
  obtain⟨j,ao,co,p',rfl,rfl,hjl,HX⟩:=hrel;by_cases hlt:j<K.length
  ·have j1:(j:Int)<(K.length:Int):=by omega
   obtain⟨gk,ckk,hvk,hgk0,Xb⟩:=World.ownsRow.form HKv.out (by omega);simp only[Value.slice.injEq] at hvk;obtain⟨rfl,_,rfl⟩:=hvk;have hkm:K[j]∈K:=Zg hlt;obtain⟨e0,hget,⟨o,n1,n0,n2⟩,hisd⟩:=HKid.out HX.out K[j] hkm;have ck:wr.cell? (Za gk j)=some (.string K[j]):=by
    obtain⟨hh,_,_⟩:=jA (EH HKv.out);have hc:=hh.cell j (by rw[ni];exact hlt);have:w3.cell? (Za gk j)=some (.string K[j]):=by rw[hc];simp[bN,hlt]
    refine ay this (HX.out.fr.block gk Xb (fun hm=>?_));have:=HPl.out gk hm;have:w.heap.size<=gk:=by have:=b0.size;simp at hgk0;omega
    omega
   have hCD:∀W:World,W.cell? (Za (blk (aA x K[j])) 0)=some (.map o)->Zc 162 #[(Zp (blk (aA x K[j])))] W fun e w'=>e=.returned (.bool o.isSome)/\W=w':=fun W hW=>eX _ o W hW;have HCD:Hid _:=hCD;clear hCD;rw[n1] at HCD;have hnx1:Hid (_=_):=Rk (c:=c) (T:=T) (s:=s) (gq c L f x) hlt;have hnx2:Hid (_=_):=Uu (iD c L f x) hlt;have hFj:(s.puts c T ((K.take j).flatMap (gq c L f x))).Fit (m+((K.take j).flatMap (gq c L f x)).length):=Dr.Fit.puts _ hfit (fun y hy=>HSm.out y (by
    obtain⟨k,hk,hy⟩:=mem_flatMap.1 hy;exact mem_flatMap.2 ⟨k,mem_of_mem_take hk,hy⟩))
   have hlen:m+((K.take j).flatMap (gq c L f x)).length+(gq c L f x K[j]).length<=19000:=by
    have:=Uv (gq c L f x) hlt;omega
   have hxs:(iD c L f x K[j]).sum.size=32:=c.size _;have hln:Hid ((iD c L f x K[j]).cells=.string K[j] :: .bool (qV L (aA x K[j]))::bytes (af (iD c L f x K[j]).sum)):=rfl;have qy:(iD c L f x K[j]).cells.length=1*34:=j5 _ hxs;have Qn:∀u∈(iD c L f x K[j]).cells,u.oneCell'=true:=(fun u hu=>by have:=vI (iD c L f x K[j]);rw[all_toArray,all_eq_true] at this;exact this u hu);have HC1:Hid _:=Qn;have xE:=fun w'=>bH (P:=prog) w' 349 353 underlying349 (iD c L f x K[j]).cells i0 _ hi0 hz0 (by rw[hz1,qy]) (by omega) (by omega);have hbs:Hid _:=xE;have jR:(prog.info? 353).map (·.size)=some (iD c L f x K[j]).cells.toArray.size:=fM hxs _ _;have hiS:(prog.info? 121).map (·.size)=some (bytes (af (iD c L f x K[j]).sum)).toArray.size:=by rw[size_toArray,dh _ hxs];kernel_rfl
   have hoS:((bytes (af (iD c L f x K[j]).sum)).toArray.all Value.oneCell')=true:=bY _;have Xd:=dh _ hxs;clear xE Qn;have Sj:Hid _:=HX.out;have WX:Hid (∀(w7:World) (p5:iQ) (g cap:Nat),Ao w3 w7 p p5 T ((s.puts c T ((K.take j).flatMap (gq c L f x))).puts c T (gq c L f x K[j])) (j+1) (fO ((K.take j).map (iD c L f x))++(iD c L f x K[j]).cells) (Zs g) cap->Hid (Ao w3 w7 p p5 T (s.puts c T ((K.take (j+1)).flatMap (gq c L f x))) (j+1) (fO ((K.take (j+1)).map (iD c L f x))) (Zs g) cap)):=fun w7 p5 g cap F=>by
    show Ao _ _ _ _ _ _ _ _ _ _;rw[hnx1.out,hnx2.out];exact F
   have HD1:Hid (qV L (aA x K[j])=true->∀{wr:World} {xs:List Value} {p':iQ},Ao w3 wr p p' T (s.puts c T ((K.take j).flatMap (gq c L f x))) j xs ao co->_):=fun hdp {wr xs p'} hX=>HDir.out K[j] hX hkm hdp hFj hlen;have Uw:Hid (qV L (aA x K[j])=false->∀{wr:World} {xs:List Value} {p':iQ},Ao w3 wr p p' T (s.puts c T ((K.take j).flatMap (gq c L f x))) j xs ao co->_):=fun hdp {wr xs p'} hX=>HFil.out K[j] hX hdp hFj hlen;have hbl:blk (aA x K[j])<wr.heap.size:=Zd n0;clear HX hnx1 hnx2 hisd HSm HNm hFj hlen;generalize(s.puts c T ((K.take j).flatMap (gq c L f x))).puts c T (gq c L f x K[j])=s2 at *;generalize s.puts c T ((K.take j).flatMap (gq c L f x))=s1 at *;generalize hCC:(iD c L f x K[j]).cells=C at *;generalize bytes (af (iD c L f x K[j]).sum)=CS at *;generalize fO ((K.take j).map (iD c L f x))=xs at *;generalize blk (aA x K[j])=bp at *;generalize vB L (aA x K[j])=dd at *;generalize qV L (aA x K[j])=db at *;generalize hkj:K[j]=kj at *;clear hkj hCC;cases db with
   | true=>
    have HG:Hid (∀{wr:World} {xs:List Value} {p':iQ},Ao w3 wr p p' T s1 j xs ao co->_):=fun{wr xs p'} hX=>HD1.out rfl hX;clear HD1 Uw;go_upto_region 7 with(first
     | (go_at_call 162;refine Calls.mono (HCD.out _ n0) ?_;rintro e w6 ⟨rfl,rfl⟩)
     | (refine vQ rfl 353 _ _ rfl (.string kj) (.bool true) _ rfl rfl (Ct kj true _) ?_)
     | (refine aJ rfl 353 _ _ rfl wr.heap.size _ (jZ kj true).toArray rfl rfl rfl (FC _ _) rfl (KH _ _) ?_))
    have r9:=ai.new wr 353 (jZ kj true);have X9:=Sj.out.step ((Zr).alloc (Zn) (.cells (jZ kj true).toArray 353));have n29:(wr.alloc (.cells (jZ kj true).toArray 353)).cell? (Za bp 1)=some (.string dd):=by rw[World.cell?_alloc_lt _ _ _ hbl];exact n2
    have hb9:wr.heap.size∉p'.blocks:=fun hm=>by have:=Sj.out.dr.lt _ hm;omega
    have ho9:(Value.slice ao 0 0).ownBlock≠some wr.heap.size:=fun e=>by rw[bO ao 0 0 j co] at e;have:=(World.ownsRow.lt Sj.out.own _ e).2;omega
    have h39:w3.heap.size<=wr.heap.size:=Sj.out.fr.size;have l9:wr.heap.size<(wr.alloc (.cells (jZ kj true).toArray 353)).heap.size:=by simp
    have c91:(wr.alloc (.cells (jZ kj true).toArray 353)).cell? (Za wr.heap.size 1)=some (.bool true):=r9.cell 1;generalize hW9:wr.alloc (.cells (jZ kj true).toArray 353)=W9 at *;generalize hB9:wr.heap.size=B9 at *;have R9:Hid _:=r9;clear r9 hW9 Sj n0 n2 hget e0 ck HCD;go_upto_region 10 with(first
     | (go_at_call 166;refine Calls.mono (HG.out X9) ?_;rintro e w5 ⟨rfl,hd5⟩;obtain⟨p5,X5,Xe⟩:=X9.put hd5;have Xf:=(drFr hd5).row R9.out hb9;have hth:=FD Xf 2 32 (by rw[FE];exact Zn))
     | (refine wpList_store_mid rfl 121 _ _ rfl B9 2 CS.toArray rfl rfl (by rw[size_toArray,Xd];exact hth) hiS hoS ?_))
    have r96:=KI Xf Xd;rw[<-hln.out] at r96;have hb95:B9<w5.heap.size:=Xf.lt;have Q6:Fr w5 (w5.setCells B9 2 CS) [B9]:=Au CS B9 2 (Fr.refl _ _) (.inl (by simp));have hb5':B9∉p5.blocks:=Xe B9 l9 hb9;have X6:=X5.mine Q6 h39 hb5' ho9;clear Q6 Xf hth
    change Code.wp _ _ _ _ (w5.setCells B9 2 CS)
    generalize w5.setCells B9 2 CS=w6 at *;have R96:Hid _:=r96;clear r96;go_wp2_with(first
     | (refine wpList_load_row rfl 353 _ rfl B9 rfl _ _ _ _ R96.out.heap underlying353 rfl jR ?_)
     | (refine vV rfl 349 _ rfl (.agg C.toArray) _ _ rfl (hbs.out w6) ?_)
     | (at_builtin;(refine wpList_append_lies _ rfl _ _ 349 rfl w3.heap.size 353 i0 _ 34 56 underlying349 hi0 hz0 hz1 hz2 rfl (by decide) (.slice ao j co) j xs rfl (X6.own.alloc _) (Za w6.heap.size 0) 1 1 C rfl qy (World.news_of_block (cs:=C.toArray) (heap_alloc_new w6 _)) HC1.out (by decide) (by unfold maxLen;omega) (by omega) (by simp;have:=X6.fr.size;omega) _ rfl ?_;intro g cap w7 aY aN hat hlt3)))
    exact⟨⟨j+1,some (Za g 0),cap,p5,rfl,by push_cast;rfl,by omega,WX.out _ _ _ _ ((X6.step ((Zr).alloc (Zn) _)).grow aN aY hat)⟩,by simp[RowKit.intOf];omega⟩
   | false=>
    have HG:Hid (∀{wr:World} {xs:List Value} {p':iQ},Ao w3 wr p p' T s1 j xs ao co->_):=fun{wr xs p'} hX=>Uw.out rfl hX;clear HD1 Uw;go_upto_region 7 with(first
     | (go_at_call 162;refine Calls.mono (HCD.out _ n0) ?_;rintro e w6 ⟨rfl,rfl⟩)
     | (refine vQ rfl 353 _ _ rfl (.string kj) (.bool false) _ rfl rfl (Ct kj false _) ?_)
     | (refine aJ rfl 353 _ _ rfl wr.heap.size _ (jZ kj false).toArray rfl rfl rfl (FC _ _) rfl (KH _ _) ?_))
    have r9:=ai.new wr 353 (jZ kj false);have X9:=Sj.out.step ((Zr).alloc (Zn) (.cells (jZ kj false).toArray 353));have n29:(wr.alloc (.cells (jZ kj false).toArray 353)).cell? (Za bp 1)=some (.string dd):=by rw[World.cell?_alloc_lt _ _ _ hbl];exact n2
    have hb9:wr.heap.size∉p'.blocks:=fun hm=>by have:=Sj.out.dr.lt _ hm;omega
    have ho9:(Value.slice ao 0 0).ownBlock≠some wr.heap.size:=fun e=>by rw[bO ao 0 0 j co] at e;have:=(World.ownsRow.lt Sj.out.own _ e).2;omega
    have h39:w3.heap.size<=wr.heap.size:=Sj.out.fr.size;have l9:wr.heap.size<(wr.alloc (.cells (jZ kj false).toArray 353)).heap.size:=by simp
    have c91:(wr.alloc (.cells (jZ kj false).toArray 353)).cell? (Za wr.heap.size 1)=some (.bool false):=r9.cell 1;generalize hW9:wr.alloc (.cells (jZ kj false).toArray 353)=W9 at *;generalize hB9:wr.heap.size=B9 at *;have R9:Hid _:=r9;clear r9 hW9 Sj n0 n2 hget e0 ck HCD;go_upto_region 10 with(first
     | (go_at_call 233;refine Calls.mono (HG.out X9) ?_;rintro e w5 ⟨rfl,hd5⟩;obtain⟨p5,X5,Xe⟩:=X9.put hd5;have Xf:=(drFr hd5).row R9.out hb9;have hth:=FD Xf 2 32 (by rw[FE];exact Zn))
     | (refine wpList_store_mid rfl 121 _ _ rfl B9 2 CS.toArray rfl rfl (by rw[size_toArray,Xd];exact hth) hiS hoS ?_))
    have r96:=KI Xf Xd;rw[<-hln.out] at r96;have hb95:B9<w5.heap.size:=Xf.lt;have Q6:Fr w5 (w5.setCells B9 2 CS) [B9]:=Au CS B9 2 (Fr.refl _ _) (.inl (by simp));have hb5':B9∉p5.blocks:=Xe B9 l9 hb9;have X6:=X5.mine Q6 h39 hb5' ho9;clear Q6 Xf hth
    change Code.wp _ _ _ _ (w5.setCells B9 2 CS)
    generalize w5.setCells B9 2 CS=w6 at *;have R96:Hid _:=r96;clear r96;go_wp2_with(first
     | (refine wpList_load_row rfl 353 _ rfl B9 rfl _ _ _ _ R96.out.heap underlying353 rfl jR ?_)
     | (refine vV rfl 349 _ rfl (.agg C.toArray) _ _ rfl (hbs.out w6) ?_)
     | (at_builtin;(refine wpList_append_lies _ rfl _ _ 349 rfl w3.heap.size 353 i0 _ 34 56 underlying349 hi0 hz0 hz1 hz2 rfl (by decide) (.slice ao j co) j xs rfl (X6.own.alloc _) (Za w6.heap.size 0) 1 1 C rfl qy (World.news_of_block (cs:=C.toArray) (heap_alloc_new w6 _)) HC1.out (by decide) (by unfold maxLen;omega) (by omega) (by simp;have:=X6.fr.size;omega) _ rfl ?_;intro g cap w7 aY aN hat hlt3)))
    exact⟨⟨j+1,some (Za g 0),cap,p5,rfl,by push_cast;rfl,by omega,WX.out _ _ _ _ ((X6.step ((Zr).alloc (Zn) _)).grow aN aY hat)⟩,by simp[RowKit.intOf];omega⟩
  ·have Ux:j=K.length:=by omega
   subst Ux;have kk1:¬(K.length:Int)<(K.length:Int):=by omega
   rw[take_length] at HX;have hFn:(s.puts c T (K.flatMap (gq c L f x))).Fit (m+(K.flatMap (gq c L f x)).length):=Dr.Fit.puts _ hfit HSm.out;have cT:Hid (Zc 235 #[.slice ao K.length co] wr fun e w'=>e=.returned (.string (kF c L (f+1) x))/\Below wr.heap.size wr w'):=by
    have:=Mx (K.map (iD c L f x)) (fun y hy=>by
     obtain⟨k,hk,rfl⟩:=mem_map.1 hy;exact⟨c.size _,by have:k.size<=16:=HNm.out k hk;show k.size<256;omega⟩) (by rw[length_map];omega) ao co w3.heap.size wr
    rw[length_map] at this;have h2:=this HX.out.own;rw[<-HTt.out] at h2;exact h2
   have HRR:Hid (R=(s.puts c T (K.flatMap (gq c L f x))).object c T 3 t2):=by
    show _=_;rw[<-HR.out,HOs.out,Dr.puts_append,<-Ht2.out];rfl
   have Pk:Hid (Fr w w3 p.blocks):=Fr.of_below b3 _;have YA:Hid (∀{w4:World},Below wr.heap.size wr w4->Zc 234 #[Zp p.q,.int .u8 (3:Nat),.string (kF c L (f+1) x)] w4 fun e w'=>e=.returned (dA (c.of (kF c L (f+1) x)))/\j6 w4 w' p' T ((s.puts c T (K.flatMap (gq c L f x))).object c T 3 (kF c L (f+1) x))):=fun{w4} hb=>by
    have hX:=HX.out.step hb;obtain⟨_,_,n3,_⟩:=HNp.out hX;have:=Fy n3 hX.dr 3 (by omega) (kF c L (f+1) x) (by omega) (by have:=hFn.a;omega) (by have:=hFn.num;omega) hFn.crc (by have:=hFn.pos;omega) (by have:=hFn.data;omega);rw[hX.same.1] at this;exact this
   rw[Ht2.out] at YA cT;have hsv:dA (c.of t2)=.agg C2.toArray:=by unfold dA;rw[Vv.out]
   rw[hsv] at YA;go_wp2_with(first
    | (go_at_call 235;refine Calls.mono cT.out ?_;rintro e w4 ⟨rfl,hb4⟩;have X4:=HX.out.step hb4)
    | (go_at_call 234;refine Calls.mono (YA.out hb4) ?_;rintro e w5 ⟨rfl,hd5⟩;obtain⟨p5,X5,Xe⟩:=X4.put hd5;have r45:=X5.fr.row r43 (fun hm=>by have:=HPl.out _ hm;omega))
    | (refine wpList_store_row rfl 121 _ _ rfl w.heap.size _ rfl rfl _ _ r45.heap hsz hz32 om ?_))
   refine bodyPost_ret (v:=.agg C2.toArray) ?_ rfl ⟨rfl,?_⟩
   ·exact results_cell_row (P:=prog) results166 _ _ w.heap.size _ _ _ _ rfl (setRow_heap _ w.heap.size _ C2.toArray _ _ r45.heap) underlying121 rfl hsz
   ·rw[HRR.out];have n4:w.heap.size∉p5.blocks:=fun hm=>by
     rcases X5.sub _ hm with h1|h1
     ·have:=HPl.out _ h1;omega
     ·omega
    have fs:Fr w5 (w5.setRow w.heap.size C2.toArray) [w.heap.size]:=⟨rfl,rfl,rfl,by simp,fun y _ hy=>setRow_other _ _ _ _ (fun e=>hy (by simp[e]))⟩;refine⟨p5,X5.dr.fr fs (fun b hb hm=>by rw[Zm.1 hm] at hb;exact n4 hb) (fun b hb hm=>by rw[Zm.1 hm,X5.same.2.1] at hb;have:=HTm.out _ hb;omega),X5.same.1,X5.same.2.1,X5.same.2.2,fun b hb=>?_,(Pk.out.trans X5.fr (fun y hy _=>hy)).trans fs (fun y hy hl=>by rw[Zm.1 hy] at hl;omega)⟩;rcases X5.sub b hb with h1|h1
    ·exact .inl h1
    ·exact .inr (by omega)
theorem Pv(ok:aC L)(k16:fP L):∀(f:Nat) (x:Zy),bC L x->oL L x<f->Cu c L blk mblk T f x
 | 0,_,_,h=>absurd h (by omega)
 | f+1,x,hd,h=>Ht ok k16 f x hd (fun k hk hdp=>Pv ok k16 f (aA x k) (by
   have hname:=((bD ok x k).1 hk).1;rcases pJ ok (p:=x) hname with⟨_,hno⟩|⟨i,hi,hfi,uo,_⟩
   ·exact absurd hk hno
   ·refine .inr ⟨L[i],Zg hi,uo,?_⟩;unfold qV iY at hdp;rw[hfi,Int.toNat_natCast,getElem?_eq_getElem hi] at hdp;exact hdp) (by have:=Xc ok hk;omega))
def yB(MT MA TL:List Value):List Value:=MT++MA++[.pointer none,.slice none 0 0]++TL
def mg(at_ num crc:Nat):List Value:=[Zi at_,.int .u32 (num:Nat),.int .u32 (crc:Nat)]
theorem KJ(tm am:List Nat)(h1:tm.length=4)(h2:am.length=4)(at_ num crc:Nat)(w:World):(Instr.build 277 #[(0,.agg (aG tm).toArray),(1,.agg (aG am).toArray),(3,.agg (mg at_ num crc).toArray)]).run prog w=.ok (.agg (yB (aG tm) (aG am) (mg at_ num crc)).toArray) w:=by
 obtain⟨a0,a1,a2,a3,rfl⟩:∃m0 m1 m2 m3,tm=[m0,m1,m2,m3]:=(by match tm,h1 with|[m0,m1,m2,m3],_=>exact⟨_,_,_,_,rfl⟩);obtain⟨b0,b1,b2,b3,rfl⟩:∃m0 m1 m2 m3,am=[m0,m1,m2,m3]:=(by match am,h2 with|[m0,m1,m2,m3],_=>exact⟨_,_,_,_,rfl⟩);simp only[yB,aG,mg,map_cons,map_nil,cons_append,nil_append];go_simp
theorem KL(q:Nat)(tm am:List Nat)(at_ num crc:Nat):yB (aG tm) (aG am) (mg at_ num crc)=iQ.cells ⟨q,tm,am,false,none,0⟩ ⟨[],⟨#[]⟩,at_,num,crc⟩:=by
 unfold yB iQ.cells mg vN;rw[append_assoc];rfl
theorem KM(h:fF w tm T)(at_ num crc:Nat):
  Zc 165 #[.agg (aG tm).toArray,iZ at_ num crc] w fun e w'=>∃p:iQ,e=.returned (Zp p.q)/\jK w' p T ⟨[],⟨#[]⟩,at_,num,crc⟩/\p.tm=tm/\(∀b∈p.blocks,w.heap.size<=b)/\Below w.heap.size w w':=by
 have hiM:(prog.info? 114).map (·.size)=some (aG tm).length:=by simp only[aG,length_map,h.len];kernel_rfl
 have hiT:(prog.info? 117).map (·.size)=some (mg at_ num crc).length:=by show _=some 3;kernel_rfl
 have hbd:Hid (∀ms:List Nat,ms.length=4->∀w,(Instr.build 277 #[(0,.agg (aG tm).toArray),(1,.agg (aG ms).toArray),(3,.agg (mg at_ num crc).toArray)]).run prog w=.ok (.agg (yB (aG tm) (aG ms) (mg at_ num crc)).toArray) w):=fun ms hms w=>KJ tm ms h.len hms at_ num crc w;have htv:iZ at_ num crc=.agg (mg at_ num crc).toArray:=rfl;rw[htv];have HO:Hid _:=h;have HBc:Hid (∀q am,yB (aG tm) (aG am) (mg at_ num crc)=iQ.cells ⟨q,tm,am,false,none,0⟩ ⟨[],⟨#[]⟩,at_,num,crc⟩):=fun q am=>KL q tm am at_ num crc;have Rl:Hid _:=h.lt;generalize hTT:mg at_ num crc=TL at *;generalize Yn:aG tm=MT at *;clear h htv hTT Yn;go_enter func165,ntmps165;go_upto_region 1 with fail
 have r2:=(ai.new w 114 MT).below ((Zr).alloc (Zn) (.cells TL.toArray 117)) (by simp);have r3:=ai.new (w.alloc (.cells MT.toArray 114)) 117 TL;rw[show(w.alloc (.cells MT.toArray 114)).heap.size=w.heap.size+1 by simp] at r3;have bV:Below w.heap.size w ((w.alloc (.cells MT.toArray 114)).alloc (.cells TL.toArray 117)):=((Zr).alloc (Zn) _).alloc (by simp) _;generalize((w.alloc (.cells MT.toArray 114)).alloc (.cells TL.toArray 117))=V at *;have l2:=r2.lt;have l3:=r3.lt;have g2:V.rangeAt w.heap.size 0 MT:=fun i v hv=>by rw[Nat.zero_add];exact(r2.cell i).trans hv
 have g3:V.rangeAt (w.heap.size+1) 0 TL:=fun i v hv=>by rw[Nat.zero_add];exact(r3.cell i).trans hv
 refine bF ?_;refine wp_region_held_drew (S:=fun w'=>Below V.heap.size V w') (by kernel_rfl) (Zr).drew (fun ah=>?_);refine Zt 0 (.agg (MT).toArray) ?_ (hy:=yieldsIf_load_mid (by rfl) _ _ rfl (w.heap.size) (0) rfl MT _ (fun w h=>aU g2 l2 h) underlying114 rfl hiM);refine Zt 2 (.agg (TL).toArray) ?_ (hy:=yieldsIf_load_mid (by rfl) _ _ rfl (w.heap.size+1) (0) rfl TL _ (fun w h=>aU g3 l3 h) underlying117 rfl hiT);refine Zh 1 fun K hK=>?_;go_simp;go_at_call 149;refine Calls.mono (vM _) ?_;rintro e w5 ⟨ms,hl4,rfl,hN,hb5⟩;refine hK.out _ _ (ah.trans (hb5.mono ah.size)) (fun ah=>?_);clear hK K;(try simp only[Act.put,lA,lZ,lS]);refine Zt 3 (.agg (yB MT (aG ms) TL).toArray) ?_ (hy:=Or.inl ⟨by rfl,by intro w hSw;unfold execOp;simp only[Sem.run_bind,map_toArray,map_cons,map_nil];erw[hbd.out ms hl4 w];rfl⟩);refine Zh 4 fun K hK=>?_;refine aD rfl (v:=(Zp w5.heap.size)) (w':=w5.alloc (.cells (yB MT (aG ms) TL).toArray 277)) (by go_simp) ?_;refine hK.out _ _ (ah.alloc ah.size _) (fun ah=>?_);clear hK K;(try simp only[Act.put,lA,lZ,lS]);refine Zt 5 (Zp w5.heap.size) ?_;refine Zx ?_;simp only[At];have hb5w:=hb5.size;have hb5d:=hb5;have hvs:V.drew.heap.size=V.heap.size:=rfl;have Q8:∀m∈ms,m<w5.heap.size:=hN.lt;have kV:∀m∈ms,V.heap.size<=m:=hN.far;have hwV:=bV.size;have hB:Below w.heap.size w (w5.alloc (.cells (yB MT (aG ms) TL).toArray 277)):=bV.trans (ah.mono hwV);go_wp2;refine bodyPost_ret (results_tmp rfl _ _ _) rfl ⟨⟨w5.heap.size,tm,ms,false,none,0⟩,rfl,⟨?_,?_,?_,World.ownsRow_nil _ _ _ _,⟨fun hm=>?_,fun hm=>?_,fun b hb hm=>?_,fun g hg=>by simp[Value.ownBlock] at hg⟩⟩,rfl,fun b hb=>?_,hB⟩
 ·rw[<-HBc.out w5.heap.size ms];exact ai.new _ _ _
 ·exact HO.out.fr (Fr.of_below hB []) (by simp)
 ·refine⟨hl4,qm hN.apart,fun k hk=>⟨.map [],wR ?_,Dn.empty k⟩⟩;rw[heap_alloc_old _ _ (Q8 _ (Zg _))];exact hN.empty _ (Zg _)
 ·have:=Rl.out _ hm;have h2:w5.heap.size<w.heap.size:=this;omega
 ·have h2:w5.heap.size<w5.heap.size:=Q8 _ hm;omega
 ·have:=Rl.out b hm;have:=kV b hb;omega
 ·simp only[iQ.blocks,Value.ownBlock,Option.toList_none,append_nil,mem_cons] at hb;rcases hb with rfl|hb
  ·omega
  ·have:=kV b hb;omega
theorem pV:∀(n:Nat) (S:Dk) (i:Nat) (t:Zy),S.Ok->S.fuse<=9223372036854775807->t.size=64*n->i+n<=S.safe.length->S.wait.length+n<=999999->
  (gY n S i t).1.Ok/\(gY n S i t).1.fuse<=9223372036854775807/\(gY n S i t).1.safe.length=S.safe.length/\(gY n S i t).1.wait.length<=S.wait.length+n
 | 0,S,i,t,ok,hf,_,_,_=>⟨BD ok,xU hf,xP S,by have:=xQ S;unfold gY;omega⟩
 | n+1,S,i,t,ok,hf,ht,hi,hw=>by
  have h1:(t.extract 0 64).size=64:=by rw[ByteArray.size_extract];omega
  have a1:=oW ok i (by omega) (t.extract 0 64) h1 (by omega);have a2:=jV hf i (t.extract 0 64);have a3:=lN S i (t.extract 0 64);have a4:=og S i (t.extract 0 64);unfold gY;split
  ·exact⟨a1,a2,by rw[a3],by omega⟩
  ·have ih:=pV n (bK S i (t.extract 0 64)).1 (i+1) (t.extract 64 t.size) a1 a2 (by rw[ByteArray.size_extract];omega) (by rw[a3];omega) (by omega);exact⟨ih.1,ih.2.1,by rw[ih.2.2.1,a3],by have:=ih.2.2.2;omega⟩
def kG(S:Dk)(i:Nat)(data:Zy)(j:Nat)(last:Zy):Dk × Nat:=
 if data.size=0 then gY (last.size / 64) S j last
 else if(gY (data.size / 64) S i data).2≠0 then gY (data.size / 64) S i data
 else gY (last.size / 64) (gY (data.size / 64) S i data).1 j last
def yC(w w':World)(d:DP)(S':Dk)(bs:List Nat):Prop:=∃d',aB w' d' S'/\d'.p=d.p/\(∀b∈d'.blocks,b∈d.blocks\/w.heap.size<=b)/\Fr w w' (d.blocks++bs)
theorem Xg{a:Nat->Addr}{d:DP}{S:Dk}(G:eO a w)(hG:18<=w.heap.size)(h:aB w d S)(hF:wY d)(ok:S.Ok)(hf:S.fuse<=9223372036854775807)(hms:ms.length=4)
  (hA:ai w qa 119 (pU root d.p ms sn i0 num crc dn)) (hD:jK w p T s) (Sd:∀b∈p.blocks,18<=b) (Yw:qa∉d.blocks) (hqp:qa∉p.blocks) (Um:∀b∈p.blocks,b∉d.blocks)
  (last:Zy) (n1 n2:Nat) (h1:s.data.size=64*n1) (h2:last.size=64*n2) (hi1:i0+n1<=S.safe.length) (hi2:s.pos+n2<=S.safe.length) (hw:S.wait.length<=880000):
  Zc 169 #[Zp qa,Zp p.q,.string last] w fun e w'=>e=.returned (dx a (kG S i0 s.data s.pos last).2)/\yC w w' d (kG S i0 s.data s.pos last).1 (Value.slice p.ao 0 0).ownBlock.toList:=by
 have jD:=ok.most;have hL13:=hD.cellsL;have h9:(p.cells s)[9]? =some (.slice p.ao s.data.size p.co):=by
  have:=hD.tailAt 1 _ rfl;rw[hD.row.cell 9] at this;exact this
 have hds1:s.data.size / 64=n1:=by omega
 have hls2:last.size / 64=n2:=by omega
 have ho:=hD.own;have hKF:kG S i0 s.data s.pos last=if s.data.size=0 then gY n2 S s.pos last else if(gY n1 S i0 s.data).2≠0 then gY n1 S i0 s.data else gY n2 (gY n1 S i0 s.data).1 s.pos last:=by unfold kG;rw[hds1,hls2]
 obtain⟨R,HR⟩:∃R,Hid (kG S i0 s.data s.pos last=R):=⟨_,rfl⟩;rw[HR.out];have HRR:Hid _:=HR.out.symm.trans hKF;have hOP:∀x∈(Value.slice p.ao 0 0).ownBlock.toList,x∈p.blocks:=fun x hx=>by simp only[iQ.blocks,mem_append];exact .inr hx
 have hlt:=h.lt;have cLen:Hid _:=WU hD.row h9;have HD:Hid _:=hD;have HDv:Hid _:=h;have xV:Hid _:=hF;have Lu:Hid _:=G;have a1:w.cell? (Za qa 1)=some (Zp d.p):=hA.cell 1;have a7:w.cell? (Za qa 7)=some (Zi i0):=by
  obtain⟨m0,m1,m2,m3,rfl⟩:∃m0 m1 m2 m3,ms=[m0,m1,m2,m3]:=(by match ms,hms with|[m0,m1,m2,m3],_=>exact⟨_,_,_,_,rfl⟩);exact hA.cell 7
 have p10:w.cell? (Za p.q 10)=some (Zi s.pos):=hD.tailAt 2 _ rfl;have lqa:=hA.lt;have lp:=hD.row.lt;have hpq:p.q∈p.blocks:=by simp[iQ.blocks]
 by_cases hz:s.data.size=0
 ·have HE:Hid (R=gY n2 S s.pos last):=HRR.out.trans (if_pos hz);have hgt:¬(s.data.size:Int)>0:=by omega
  have YD:Hid (∀w1,Below w.heap.size w w1->Zc 237 #[Zp d.p,Zi s.pos,.string last] w1 fun e w'=>e=.returned (dx a (gY n2 S s.pos last).2)/\dW w1 w' d (gY n2 S s.pos last).1):=fun w1 hb=>GU (Lu.out.fr (Fr.of_below hb []) (by simp)) (HDv.out.fr (Fr.of_below hb []) (by simp)) xV.out ok hf (by omega) (Nat.le_trans hG hb.size) s.pos n2 last h2 hi2;clear hA h9 h hF G ho hD hKF;go_enter func169,ntmps169;go_upto_region 5 with(go_at_call 214;refine Calls.mono cLen.out ?_;rintro e V ⟨rfl,rfl⟩)
  have nqa2:=Yw;have lqa2:=lqa;have b1:=a1;have b10:=p10;have lp2:=lp;have np2:p.q∉d.blocks:=Um _ hpq;obtain⟨S2,hS2⟩:∃S2,S2=S:=⟨_,rfl⟩;rw[<-hS2] at YD HE;refine bF ?_;refine wp_region_held_drew (S:=fun w'=>Fr V w' d.blocks) (by kernel_rfl) (Fr.refl _ _).drew (fun ah=>?_);refine Zt 0 (Zp qa) ?_;refine Zt 1 (Zp qa) ?_;refine Zt 2 (.pointer (some (Za qa 1))) ?_;refine wpAnyH_take (i:=3) (oi:=⟨some 33,.load 30 (.tmp 32),_,_,_,none⟩) (v:=(Zp d.p)) rfl (by kernel_rfl) (by kernel_rfl) (by kernel_rfl) (fun _ _ _ h=>h) (Or.inl ⟨by rfl,by intro w hSw;have h1:=(World.cell?_of_block (hSw.block _ lqa2 nqa2)).trans b1;go_simp⟩) ah ?_;simp only[Act.put,lA,lZ,lS];refine Zt 4 (Zp p.q) ?_;refine Zt 5 (Zp p.q) ?_;refine Zt 6 (.pointer (some (Za p.q 10))) ?_;refine Zt 7 (.pointer (some (Za p.q 10))) ?_;refine wpAnyH_take (i:=8) (oi:=⟨some 38,.load 3 (.tmp 37),_,_,_,none⟩) (v:=(Zi s.pos)) rfl (by kernel_rfl) (by kernel_rfl) (by kernel_rfl) (fun _ _ _ h=>h) (Or.inl ⟨by rfl,by intro w hSw;have h1:=(World.cell?_of_block (hSw.block _ lp2 np2)).trans b10;go_simp⟩) ah ?_;simp only[Act.put,lA,lZ,lS];refine Zt 9 (.string last) ?_;refine Zh 10 fun K hK=>?_;go_simp;go_at_call 237;refine Calls.mono (YD.out _ (Zr).drew) ?_;rintro e w2 ⟨rfl,hd2⟩;refine hK.out _ _ (ah.trans hd2.choose_spec.2.2.2 (fun x hx _=>hx)) (fun ah=>?_);clear hK K;(try simp only[Act.put,lA,lZ,lS]);refine Zt 11 (dx a (gY n2 S2 s.pos last).2) ?_;refine Zx ?_;simp only[At];go_wp2;go_ret;rw[HE.out];obtain⟨d3,v1,v2,v3,v4⟩:=hd2;exact⟨rfl,d3,v1,v2,v3,((Fr.of_below (Zr).drew _).trans v4 (fun x hx _=>hx)).wider (fun x hx=>mem_append_left _ hx)⟩
 ·have hgt:(s.data.size:Int)>0:=by omega
  have hL1:=pV n1 S i0 s.data ok hf h1 hi1 (by omega);have cS:Hid (∀w1,Below w.heap.size w w1->Zc 215 #[.pointer (some (Za p.q 8))] w1 fun e w'=>e=.returned (.string s.data)/\Fr w1 w' (Value.slice p.ao 0 0).ownBlock.toList):=fun w1 hb=>ND (HD.out.below hb).row h9 (HD.out.below hb).own (by omega);have hOd:∀b∈d.blocks,b∉(Value.slice p.ao 0 0).ownBlock.toList:=fun b hb hm=>Um b (hOP b hm) hb;have Vx:Hid (∀w1,Fr w w1 (Value.slice p.ao 0 0).ownBlock.toList->Zc 237 #[Zp d.p,Zi i0,.string s.data] w1 fun e w'=>e=.returned (dx a (gY n1 S i0 s.data).2)/\dW w1 w' d (gY n1 S i0 s.data).1):=fun w1 hb=>GU (Lu.out.fr hb (fun b hm=>Sd b (hOP b hm))) (HDv.out.fr hb hOd) xV.out ok hf (by omega) (Nat.le_trans hG hb.size) i0 n1 s.data h1 hi1;have YD:Hid (∀w1 d1,aB w1 d1 (gY n1 S i0 s.data).1->d1.p=d.p->wY d1->eO a w1->18<=w1.heap.size->Zc 237 #[Zp d.p,Zi s.pos,.string last] w1 fun e w'=>e=.returned (dx a (gY n2 (gY n1 S i0 s.data).1 s.pos last).2)/\dW w1 w' d1 (gY n2 (gY n1 S i0 s.data).1 s.pos last).1):=fun w1 d1 hv hp hfr hg hg2=>by
   have:=GU hg hv hfr hL1.1 hL1.2.1 (by omega) hg2 s.pos n2 last h2 (by rw[hL1.2.2.1];exact hi2);rw[hp] at this;exact this
  obtain⟨ow,how⟩:∃ow,ow=(Value.slice p.ao 0 0).ownBlock.toList:=⟨_,rfl⟩;rw[<-how] at cS hOd Vx hOP;have how':Hid _:=how;rw[<-how];have HRR2:Hid (R=if(gY n1 S i0 s.data).2≠0 then gY n1 S i0 s.data else gY n2 (gY n1 S i0 s.data).1 s.pos last):=HRR.out.trans (if_neg hz);have nqa:qa∉d.blocks++ow:=fun hm=>by
   rcases mem_append.1 hm with h3|h3
   ·exact Yw h3
   ·exact hqp (hOP qa h3)
  have Uy:∀x∈ow,x∈d.blocks++ow:=fun x hx=>mem_append_right _ hx;have Pw:∀x∈d.blocks,x∈d.blocks++ow:=fun x hx=>mem_append_left _ hx;have hqo:p.q∉ow:=fun hm=>by
   rw[how,Zo] at hm;exact(HD.out.apart.2.2.2 _ hm).1 rfl
  have np:p.q∉d.blocks++ow:=fun hm=>by
   rcases mem_append.1 hm with h3|h3
   ·exact Um _ hpq h3
   ·exact hqo h3
  have H1:Hid _:=h1;have H2:Hid _:=h2;have hGo:∀b∈d.blocks++ow,18<=b:=fun b hb=>by
   rcases mem_append.1 hb with h3|h3
   ·exact xV.out b h3
   ·exact Sd b (hOP b h3)
  clear hA h9 h hF G ho hD hKF HRR how h1 h2;obtain⟨KB,hKB⟩:∃KB,KB=d.blocks++ow:=⟨_,rfl⟩;rw[<-hKB] at nqa Uy Pw np hGo;have HKB:Hid _:=hKB;clear hKB;generalize hLL:gY n1 S i0 s.data=LL at *;obtain⟨S2,c2⟩:=LL;simp only at Vx YD hL1 HRR2;by_cases hc:c2=0
  ·subst hc;have HE:Hid (R=gY n2 S2 s.pos last):=HRR2.out.trans (if_neg (by simp));rw[jI] at Vx;go_enter func169,ntmps169;go_upto_region 2 with(go_at_call 214;refine Calls.mono cLen.out ?_;rintro e V ⟨rfl,rfl⟩)
   refine bF ?_;refine wp_region_held_drew (S:=fun w'=>Fr V w' KB) (by kernel_rfl) (Fr.refl _ _).drew (fun ah=>?_);refine Zt 0 (Zp qa) ?_;refine Zt 1 (Zp qa) ?_;refine Zt 2 (.pointer (some (Za qa 1))) ?_;refine wpAnyH_take (i:=3) (oi:=⟨some 16,.load 30 (.tmp 15),_,_,_,none⟩) (v:=(Zp d.p)) rfl (by kernel_rfl) (by kernel_rfl) (by kernel_rfl) (fun _ _ _ h=>h) (Or.inl ⟨by rfl,by intro w hSw;have h1:=(World.cell?_of_block (hSw.block _ lqa nqa)).trans a1;go_simp⟩) ah ?_;simp only[Act.put,lA,lZ,lS];refine Zt 4 (Zp qa) ?_;refine Zt 5 (Zp qa) ?_;refine Zt 6 (.pointer (some (Za qa 7))) ?_;refine Zt 7 (.pointer (some (Za qa 7))) ?_;refine wpAnyH_take (i:=8) (oi:=⟨some 21,.load 3 (.tmp 20),_,_,_,none⟩) (v:=(Zi i0)) rfl (by kernel_rfl) (by kernel_rfl) (by kernel_rfl) (fun _ _ _ h=>h) (Or.inl ⟨by rfl,by intro w hSw;have h1:=(World.cell?_of_block (hSw.block _ lqa nqa)).trans a7;go_simp⟩) ah ?_;simp only[Act.put,lA,lZ,lS];refine Zt 9 (Zp p.q) ?_;refine Zt 10 (Zp p.q) ?_;refine Zt 11 (.pointer (some (Za p.q 8))) ?_;refine Zh 12 fun K hK=>?_;go_simp;go_at_call 215;refine Calls.mono (cS.out _ (Zr).drew) ?_;rintro e ws ⟨rfl,hfs⟩;refine hK.out _ _ (ah.trans hfs (fun x hx _=>Uy x hx)) (fun ah=>?_);clear hK K;(try simp only[Act.put,lA,lZ,lS]);refine Zh 13 fun K hK=>?_;go_simp;go_at_call 237;refine Calls.mono (Vx.out _ ((Fr.of_below (Zr).drew _).trans hfs (fun x hx _=>hx))) ?_;rintro e w1 ⟨rfl,hd1⟩;refine hK.out _ _ (ah.trans hd1.choose_spec.2.2.2 (fun x hx _=>Pw x hx)) (fun ah=>?_);clear hK K;(try simp only[Act.put,lA,lZ,lS]);refine Zt 14 .nilIface ?_;refine Zx ?_;simp only[At];have YE:Fr V w1 KB:=ah;obtain⟨d2,v1,v2,v3,v4⟩:=hd1;have nqa2:qa∉d2.blocks:=fun hm=>by
    rcases v3 qa hm with h3|h3
    ·exact Yw h3
    ·have:=hfs.size;have hdr:V.drew.heap.size=V.heap.size:=rfl;omega
   have np2:p.q∉d2.blocks:=fun hm=>by
    rcases v3 _ hm with h3|h3
    ·exact Um _ hpq h3
    ·have:=hfs.size;have hdr:V.drew.heap.size=V.heap.size:=rfl;omega
   have b1:w1.cell? (Za qa 1)=some (Zp d.p):=ay a1 (YE.block _ lqa nqa);have b10:w1.cell? (Za p.q 10)=some (Zi s.pos):=ay p10 (YE.block _ lp np);have lqa2:qa<w1.heap.size:=Nat.lt_of_lt_of_le lqa YE.size;have lp2:p.q<w1.heap.size:=Nat.lt_of_lt_of_le lp YE.size;have hsz1:=hfs.size;have aaI:wY d2:=wY.step (w:=V) xV.out hG (fun b hb=>by rcases v3 b hb with h3|h3;exact .inl h3;exact .inr (Nat.le_trans hsz1 h3));have hGl2:eO a w1:=Lu.out.fr YE hGo;have hG1:18<=w1.heap.size:=Nat.le_trans hG YE.size;have cL2':Hid (∀w',Below w1.heap.size w1 w'->_):=fun w' hb=>YD.out w' d2 (v1.fr (Fr.of_below hb []) (by simp)) v2 aaI (hGl2.fr (Fr.of_below hb []) (by simp)) (Nat.le_trans hG1 hb.size);clear YD Vx cS;have YD:=cL2';have HV3:Hid _:=v3;clear v3 v4 ah;generalize hV2:w1=V2 at *;go_upto_region 5 with fail
   refine bF ?_;refine wp_region_held_drew (S:=fun w'=>Fr V2 w' d2.blocks) (by kernel_rfl) (Fr.refl _ _).drew (fun ah=>?_);refine Zt 0 (Zp qa) ?_;refine Zt 1 (Zp qa) ?_;refine Zt 2 (.pointer (some (Za qa 1))) ?_;refine wpAnyH_take (i:=3) (oi:=⟨some 33,.load 30 (.tmp 32),_,_,_,none⟩) (v:=(Zp d.p)) rfl (by kernel_rfl) (by kernel_rfl) (by kernel_rfl) (fun _ _ _ h=>h) (Or.inl ⟨by rfl,by intro w hSw;have h1:=(World.cell?_of_block (hSw.block _ lqa2 nqa2)).trans b1;go_simp⟩) ah ?_;simp only[Act.put,lA,lZ,lS];refine Zt 4 (Zp p.q) ?_;refine Zt 5 (Zp p.q) ?_;refine Zt 6 (.pointer (some (Za p.q 10))) ?_;refine Zt 7 (.pointer (some (Za p.q 10))) ?_;refine wpAnyH_take (i:=8) (oi:=⟨some 38,.load 3 (.tmp 37),_,_,_,none⟩) (v:=(Zi s.pos)) rfl (by kernel_rfl) (by kernel_rfl) (by kernel_rfl) (fun _ _ _ h=>h) (Or.inl ⟨by rfl,by intro w hSw;have h1:=(World.cell?_of_block (hSw.block _ lp2 np2)).trans b10;go_simp⟩) ah ?_;simp only[Act.put,lA,lZ,lS];refine Zt 9 (.string last) ?_;refine Zh 10 fun K hK=>?_;go_simp;go_at_call 237;refine Calls.mono (YD.out _ (Zr).drew) ?_;rintro e w2 ⟨rfl,hd2⟩;refine hK.out _ _ (ah.trans hd2.choose_spec.2.2.2 (fun x hx _=>hx)) (fun ah=>?_);clear hK K;(try simp only[Act.put,lA,lZ,lS]);refine Zt 11 (dx a (gY n2 S2 s.pos last).2) ?_;refine Zx ?_;simp only[At];go_wp2;go_ret;rw[HE.out];obtain⟨d3,u1,u2,u3,u4⟩:=hd2;refine⟨rfl,d3,u1,u2.trans v2,fun b hb=>?_,?_⟩
   ·rcases u3 b hb with h3|h3
    ·rcases HV3.out b h3 with h4|h4
     ·exact .inl h4
     ·exact .inr (Nat.le_trans hsz1 h4)
    ·exact .inr (Nat.le_trans YE.size h3)
   ·rw[<-HKB.out];refine YE.trans ((Fr.of_below (Zr).drew _).trans u4 (fun x hx _=>hx)) (fun x hx hl=>?_);rcases HV3.out x hx with h4|h4
    ·exact Pw x h4
    ·have hdr:V.drew.heap.size=V.heap.size:=rfl;omega
  ·have HE:Hid (R=(S2,c2)):=HRR2.out.trans (if_pos hc);obtain⟨ea,M9⟩:=zq a hc;rw[M9] at Vx;have HEA:Hid _:=M9;clear M9;go_enter func169,ntmps169;go_upto_region 2 with(go_at_call 214;refine Calls.mono cLen.out ?_;rintro e V ⟨rfl,rfl⟩)
   refine bF ?_;refine wp_region_held_drew (S:=fun w'=>Fr V w' KB) (by kernel_rfl) (Fr.refl _ _).drew (fun ah=>?_);refine Zt 0 (Zp qa) ?_;refine Zt 1 (Zp qa) ?_;refine Zt 2 (.pointer (some (Za qa 1))) ?_;refine wpAnyH_take (i:=3) (oi:=⟨some 16,.load 30 (.tmp 15),_,_,_,none⟩) (v:=(Zp d.p)) rfl (by kernel_rfl) (by kernel_rfl) (by kernel_rfl) (fun _ _ _ h=>h) (Or.inl ⟨by rfl,by intro w hSw;have h1:=(World.cell?_of_block (hSw.block _ lqa nqa)).trans a1;go_simp⟩) ah ?_;simp only[Act.put,lA,lZ,lS];refine Zt 4 (Zp qa) ?_;refine Zt 5 (Zp qa) ?_;refine Zt 6 (.pointer (some (Za qa 7))) ?_;refine Zt 7 (.pointer (some (Za qa 7))) ?_;refine wpAnyH_take (i:=8) (oi:=⟨some 21,.load 3 (.tmp 20),_,_,_,none⟩) (v:=(Zi i0)) rfl (by kernel_rfl) (by kernel_rfl) (by kernel_rfl) (fun _ _ _ h=>h) (Or.inl ⟨by rfl,by intro w hSw;have h1:=(World.cell?_of_block (hSw.block _ lqa nqa)).trans a7;go_simp⟩) ah ?_;simp only[Act.put,lA,lZ,lS];refine Zt 9 (Zp p.q) ?_;refine Zt 10 (Zp p.q) ?_;refine Zt 11 (.pointer (some (Za p.q 8))) ?_;refine Zh 12 fun K hK=>?_;go_simp;go_at_call 215;refine Calls.mono (cS.out _ (Zr).drew) ?_;rintro e ws ⟨rfl,hfs⟩;refine hK.out _ _ (ah.trans hfs (fun x hx _=>Uy x hx)) (fun ah=>?_);clear hK K;(try simp only[Act.put,lA,lZ,lS]);refine Zh 13 fun K hK=>?_;go_simp;go_at_call 237;refine Calls.mono (Vx.out _ ((Fr.of_below (Zr).drew _).trans hfs (fun x hx _=>hx))) ?_;rintro e w1 ⟨rfl,hd1⟩;refine hK.out _ _ (ah.trans hd1.choose_spec.2.2.2 (fun x hx _=>Pw x hx)) (fun ah=>?_);clear hK K;(try simp only[Act.put,lA,lZ,lS]);refine Zt 14 (.iface 452 (.pointer (some ea))) ?_;refine Zx ?_;simp only[At];go_wp2;go_ret;rw[HE.out];obtain⟨d2,v1,v2,v3,v4⟩:=hd1;refine⟨by rw[HEA.out];rfl,d2,v1,v2,fun b hb=>?_,?_⟩
   ·rcases v3 b hb with h3|h3
    ·exact .inl h3
    ·have:=hfs.size;have hdr:V.drew.heap.size=V.heap.size:=rfl;exact .inr (by omega)
   ·rw[<-HKB.out];exact ah
theorem mapM_each{α β:Type}{f:α->Option β}:∀{l:List α} {r:List β},l.mapM f=some r->∀x∈l,∃y,f x=some y
 |[],_,_,x,hx=>by cases hx
 | a::l,r,h,x,hx=>by
  rw[mapM_cons] at h;cases hfa:f a with
  | none=>rw[hfa] at h;cases h
  | some y=>
   rw[hfa] at h;cases hm:l.mapM f with
   | none=>simp[hm] at h
   | some r'=>
    rcases mem_cons.1 hx with rfl|h2
    ·exact⟨y,hfa⟩
    ·exact mapM_each hm x h2
theorem KN:∀(L:List Value),(∀v∈L,∃n:Nat,n<256/\v=.int .u8 (n:Nat))->∃l:List Nat,(∀x∈l,x<256)/\L=bytes l
 |[],_=>⟨[],by simp,rfl⟩
 | v::L,h=>by
  obtain⟨n,hn,rfl⟩:=h v (by simp);obtain⟨l,h1,h2⟩:=KN L (fun x hx=>h x (by simp[hx]));exact⟨n::l,by intro x hx;rcases mem_cons.1 hx with rfl|h3;exact hn;exact h1 x h3,by rw[h2];rfl⟩
theorem qB{kl:Go.Lit}(h:keyOf prog 121 key=some kl):∃s:Zy,s.size=32/\key=dA s/\kl=.string s.data.toList:=by
 obtain⟨c1,c2,c3,c4⟩:=wG;have hu:prog.underlying 121=some (.array 32 5):=underlying121;have hb:prog.underlying 5=some (.int .u8):=underlying5;have h0:=h;obtain⟨d,hd⟩:∃d,prog.types.size=d+1:=⟨prog.types.size-1,by have:=of_decide_eq_true c4;omega⟩;unfold keyOf at h;simp only[hu,c3,Bool.true_and,hd] at h;split at h
 case isFalse=>cases h
 case isTrue hf=>
  cases key with
  | agg cs=>
   unfold Value.formed at hf;simp only[hu,c1,beq_iff_eq] at hf;obtain⟨ls,hls,_⟩:=Option.map_eq_some_iff.1 h;simp only[Value.cells] at hls;unfold Program.keyLits at hls;simp only[hu,c1,c2,Array.length_toList,hf,if_true] at hls;obtain⟨r,hr,_⟩:=Option.map_eq_some_iff.1 hls;have hcell:∀i (hi:i<32),∃n:Nat,n<256/\cs[i]'(by omega)=.int .u8 (n:Nat):=fun i hi=>by
    obtain⟨y,hy⟩:=mapM_each hr i (mem_range.2 hi);have e1:(cs.toList.drop (i*1)).take 1=[cs[i]'(by omega)]:=by
     rw[Nat.mul_one,drop_eq_getElem_cons (by simp;omega)];simp
    rw[e1] at hy;generalize cs[i]'(by omega)=v at hy⊢;cases v with
    | int q n=>
     simp only[Program.keyLits,hb] at hy;split at hy
     ·rename_i hw;obtain⟨hq,hwf⟩:=hw;subst hq;simp[Go.Lit.wf,IntKind.min,IntKind.max,IntKind.signed,IntKind.bits] at hwf;have hn:((n.toNat:Nat):Int)=n:=Int.toNat_of_nonneg hwf.1;refine⟨n.toNat,?_,by rw[hn]⟩;have:=hwf.2;omega
     ·cases hy
    | _=>simp[Program.keyLits,hb] at hy
   obtain⟨l,hl1,hl2⟩:=KN cs.toList (fun v hv=>by
    obtain⟨i,hi,e⟩:=getElem_of_mem hv;obtain⟨n,hn,e2⟩:=hcell i (by simp at hi;omega);exact⟨n,hn,by rw[<-e];simpa using e2⟩)
   have hll:l.length=32:=by
    have:=congrArg List.length hl2;rw[aF] at this;simp at this;omega
   have e1:af (text l)=l:=ug l hl1;have hs:(text l).size=32:=by rw[<-aM,e1];exact hll
   have e2:Value.agg cs=dA (text l):=by
    unfold dA;rw[e1,<-hl2]
   refine⟨text l,hs,e2,?_⟩;rw[e2,jW _ hs] at h0;exact(Option.some.inj h0).symm
  | _=>simp[Value.formed,hu] at hf
theorem yD(w:World)(a b:Obj):((w.alloc a).alloc b).heap[w.heap.size]? =some a:=(heap_alloc_old _ _ (by simp)).trans (heap_alloc_new w a)
theorem Cv(w1:World)(A:Array Value)(B CK:List Value)(t1 t2:TypeId):ai (((w1.alloc (.cells A t1)).alloc (.cells B.toArray t2)).setRow w1.heap.size CK.toArray) w1.heap.size t1 CK/\ai (((w1.alloc (.cells A t1)).alloc (.cells B.toArray t2)).setRow w1.heap.size CK.toArray) (w1.heap.size+1) t2 B/\Fr w1 (((w1.alloc (.cells A t1)).alloc (.cells B.toArray t2)).setRow w1.heap.size CK.toArray) []:=by
 refine⟨⟨setRow_heap _ _ _ _ _ _ (yD w1 _ _)⟩,⟨?_⟩,?_⟩
 ·rw[setRow_other _ _ _ _ (by omega)];have:=heap_alloc_new (w1.alloc (.cells A t1)) (.cells B.toArray t2);rw[show(w1.alloc (.cells A t1)).heap.size=w1.heap.size+1 by simp] at this;exact this
 ·exact⟨rfl,rfl,rfl,by simp;omega,fun k hk _=>by rw[setRow_other _ _ _ _ (by omega),heap_alloc_old _ _ (by simp;omega),heap_alloc_old _ _ hk]⟩
theorem uY(h:Fr w w' bs)(g:Nat)(cs:Array Value)(hg:g∈bs\/w.heap.size<=g):Fr w (w'.setRow g cs) bs:=
 ⟨h.os,h.tape,h.output,by simpa using h.size,fun k hk hn=>by rw[setRow_other _ _ _ _ (fun e=>by rcases hg with h1|h1;exact hn (e▸h1);omega)];exact h.block k hk hn⟩
theorem NI{bs:Nat}(hd:cu w bd nd Dd)(hs:cu w bs ns Ds)(hne:bd≠bs)(hroom:nd+Maps.size Ds<=maxLen):
  Zc 238 #[.map (some bd),.map (some bs)] w fun e w'=>e=.returned (.tuple #[])/\(∃Dout,cu w' bd (nd+Maps.size Ds) Dout/\Merged Dout Dd Ds (fun _=>false))/\cu w' bs ns Ds/\w.grownBy w' (some bd):=by
 have hbd:=hd.lt;have hbs:=hs.lt;go_enter func238,ntmps238;go_wp2_with(at_range;refine wpList_range_own _ rfl _ 112 rfl 121 290 iJ underlying112 sF bs ns _ rfl hs ?_;intro w0 hrg0 hg0 hs0);go_frame;go_loopw [8] (fun _ wr=>∃(left:Go.Lit->Bool) (oL:Nat) (Dout:DataW Unit),wr.ranges prog 121 sF bs w.heap.size ns Ds left oL/\oL<=Maps.size Ds/\
   cu wr bd (nd+(Maps.size Ds-oL)) Dout/\Merged Dout Dd Ds left/\w.grownBy wr (some bd))
  (fun _ wr=>wr.rangeLeft bs w.heap.size)
 case atStart=>
  exact⟨_,_,Dd,hrg0,Zn,(World.ownsMap.kept hd hg0 (by simp)).mono (by omega),merged_start Dd Ds,hg0.but _⟩
 case round=>
  obtain⟨left,oL,Dout,hrg,hcs,hout,hM,hgw⟩:=hrel;go_wp2_with(at_next;refine wpList_next_ranges (α:={s:Zy // s.size=32}) (β:=Nat × Nat) _ rfl _ rfl 121 iJ sF (fun x=>dA x.1) (fun y=>kU y.1 y.2) (fun key _ h=>by obtain⟨s,h1,h2,_⟩:=qB h;exact⟨⟨s,h1⟩,h2⟩) (fun v _ h=>by obtain⟨a,n,h1,_⟩:=pK h;exact⟨(a,n),h1⟩) bs w.heap.size ns _ _ _ rfl hrg ?_ ?_)
  ·intro hc0 hl0;go_wp2;go_end0;subst hc0;have hlf:left=fun _=>false:=funext hl0;rw[hlf] at hM;exact⟨rfl,⟨Dout,by simpa using hout,hM⟩,hrg.owns,hgw⟩
  ·intro x hx oa on kl yd yp w1 cnt1 hkey hlx hv hat hrg1 hlt hg1 hs1 hen;have hkey':Hid (keyOf prog 121 (.agg (bytes (af x)).toArray)=some kl):=hkey;have hv':Hid (sF (.agg #[.int .i64 (oa:Nat),.int .i64 (on:Nat)])=some (yd,yp)):=hv;have hen':(Instr.entry (Zp w.heap.size)).run prog w1=.ok (.tuple #[.agg (bytes (af x)).toArray,.agg #[.int .i64 (oa:Nat),.int .i64 (on:Nat)]]) w1:=hen;have hout1:=World.ownsMap.kept hout hg1 (fun e=>by have:=Option.some.inj e;omega);have hsz:(prog.info? 121).map (·.size)=some (bytes (af x)).toArray.size:=by rw[size_toArray,dh _ hx];kernel_rfl
   have hz32:(bytes (replicate 32 0)).toArray.size=(bytes (af x)).toArray.size:=by rw[size_toArray,size_toArray,dh _ hx];rfl
   have om:((bytes (af x)).toArray.all Value.oneCell')=true:=bY _;have hsO:(prog.info? 290).map (·.size)=some 2:=by kernel_rfl
   clear hkey hv hen;simp only[dA,kU];generalize bytes (af x)=CK at *;have HM:Hid _:=hM;have HOut:Hid _:=hout;have HRg1:Hid (w1.ranges prog 121 sF bs w.heap.size ns Ds (fun z=>left z && !z.sameKey kl) cnt1):=hrg1;have HAt:Hid _:=hat;have HO1:Hid _:=hout1;have Hs1:Hid _:=hs1;have HG1:Hid _:=hg1;clear hM hat hout hout1 hrg1 hs1 hg1;go_wp2_with(first
    | (refine wpList_store_row rfl 121 _ _ rfl w1.heap.size _ rfl rfl _ _ (yD w1 _ _) hsz hz32 om ?_;obtain⟨r4,r5,f2⟩:=Cv w1 _ [.int .i64 0,.int .i64 0] CK _ _;generalize World.setRow _ w1.heap.size CK.toArray=W2 at r4 r5 f2⊢;have k50:=r5.cell 0;have k51:=r5.cell 1;have z50:=r5.frozen 0;have z51:=r5.frozen 1)
    | (refine wpList_load_row rfl 121 _ rfl w1.heap.size rfl _ _ _ _ ((r4.other (a:=(Za (w1.heap.size+1) 0)) _ (by show w1.heap.size≠w1.heap.size+1;omega)).other (a:=(Za (w1.heap.size+1) 1)) _ (by show w1.heap.size≠w1.heap.size+1;omega)).heap underlying121 rfl hsz ?_)
    | (at_mapUpdate;refine wpList_mapUpdate_own _ rfl _ _ _ 112 rfl 121 290 iJ underlying112 sF bd _ _ rfl (cu.fr HO1.out ((f2.setCell (Za (w1.heap.size+1) 0) _ (.inr (by show w1.heap.size<=w1.heap.size+1;omega))).setCell (Za (w1.heap.size+1) 1) _ (.inr (by show w1.heap.size<=w1.heap.size+1;omega))) (by simp)) (by omega) _ _ _ rfl rfl hkey'.out yd yp hv'.out ?_;intro w2 hout2 hg2))
   have f3:Fr w1 ((W2.setCell (Za (w1.heap.size+1) 0) (.int .i64 (oa:Nat))).setCell (Za (w1.heap.size+1) 1) (.int .i64 (on:Nat))) []:=(f2.setCell (Za (w1.heap.size+1) 0) _ (.inr (by show w1.heap.size<=w1.heap.size+1;omega))).setCell (Za (w1.heap.size+1) 1) _ (.inr (by show w1.heap.size<=w1.heap.size+1;omega));have g3:w1.grownBy _ none:=⟨f3.os,f3.tape,f3.output,f3.size,fun i hi _=>f3.block i hi (by simp)⟩;have hrg1:w1.ranges prog 121 sF bs w.heap.size ns Ds (fun z=>left z && !z.sameKey kl) cnt1:=HRg1.out;have hrg2:=(hrg1.kept g3 (by simp) (by simp)).kept hg2 (fun e=>hne (Option.some.inj e).symm) (fun e=>by have:=Option.some.inj e;omega);have hfin:∃left oL Dout,w2.ranges prog 121 sF bs w.heap.size ns Ds left oL/\oL<=Maps.size Ds/\cu w2 bd (nd+(Maps.size Ds-oL)) Dout/\Merged Dout Dd Ds left/\w.grownBy w2 (some bd):=⟨_,cnt1,_,hrg2,by omega,World.ownsMap.mono hout2 (by omega),merged_step HM.out (World.ownsMap.isMap HOut.out) (iJ.key hkey'.out) HAt.out,((hgw.andThen HG1.out (fun j hj=>.inl (by cases hj;exact Zn))).andThen g3 (fun j hj=>by cases hj)).andThen hg2 (fun j hj=>.inr hj)⟩;have hms:w2.rangeLeft bs w.heap.size<wr.rangeLeft bs w.heap.size:=by
    rw[hrg2.left_eq,hrg.left_eq];exact hlt
   go_roundw
   case rel=>exact⟨_,_,_,_,_,_,_,_,_,_,hfin,rfl⟩
   case measure=>exact hms
theorem NJ(h:cu w b n D):Maps.size D<=n:=by
 obtain⟨es,clock,h1,h2,h3,rfl⟩:=h;simpa [Maps.size,length_sorted] using h3
theorem Dn.merge{k:Nat}(h1:Dn Dd H k)(h2:Dn Ds A k)(sI:∀s,hasO A k s=true->hasO H k s=false)(hM:Merged Dout Dd Ds (fun _=>false))(ht:Tidy Dout)(hsz:Maps.size Dout<=Maps.size Dd+Maps.size Ds):Dn Dout (H++A) k:=by
 have hf:∀s,gH (H++A) k s=(gH H k s).or (gH A k s):=fun s=>by unfold gH;rw[find?_append]
 refine⟨ht,?_,fun s=>?_,fun s o ho z=>?_⟩
 ·have:=h1.few;have:=h2.few;rw[length_append];omega
 ·rw[hM.1,h1.has,h2.has];unfold hasO;rw[hf];cases gH H k s<;>simp
 ·rw[hM.2,h2.has];rw[hf] at ho;cases hA:hasO A k s with
  | true=>
   have hH:=sI s hA;unfold hasO at hH;have hn:gH H k s=none:=by simpa using hH
   rw[hn,Option.none_or] at ho;simp;exact h2.get s o ho z
  | false=>
   unfold hasO at hA;have hn:gH A k s=none:=by simpa using hA
   rw[hn,Option.or_none] at ho;simp;exact h1.get s o ho z
structure qW(w:World)(tm am:List Nat)(H A:List Ob)(j:Nat):Prop where
 lt:tm.length=4
 la:am.length=4
 nd:tm.Nodup
 na:am.Nodup
 dis:∀b∈am,b∉tm
 old:∀k (hk:k<4),j<=k->∃D,cu w (tm[k]'(by omega)) (Maps.size D) D/\Dn D H k
 new:∀k (hk:k<4),k<j->∃D,cu w (tm[k]'(by omega)) (Maps.size D) D/\Dn D (H++A) k
 add:∀k (hk:k<4),∃D,cu w (am[k]'(by omega)) (Maps.size D) D/\Dn D A k
theorem qW.start(h1:fF w tm H)(h2:fF w am A)(hd:∀b∈am,b∉tm):qW w tm am H A 0:=
 ⟨h1.len,h2.len,h1.nodup,h2.nodup,hd,fun k hk _=>h1.at_ k hk,fun k _ h=>absurd h (by omega),fun k hk=>h2.at_ k hk⟩
theorem qW.done(h:qW w tm am H A 4):fF w tm (H++A):=⟨h.lt,h.nd,fun k hk=>h.new k hk hk⟩
theorem qW.fr(h:qW w tm am H A j)(f:Fr w w' bs)(h1:∀b∈tm,b∉bs)(h2:∀b∈am,b∉bs):qW w' tm am H A j:=
 ⟨h.lt,h.la,h.nd,h.na,h.dis,fun k hk hj=>by obtain⟨D,a,b⟩:=h.old k hk hj;exact⟨D,a.fr f (h1 _ (Zg _)),b⟩,fun k hk hj=>by obtain⟨D,a,b⟩:=h.new k hk hj;exact⟨D,a.fr f (h1 _ (Zg _)),b⟩,fun k hk=>by obtain⟨D,a,b⟩:=h.add k hk;exact⟨D,a.fr f (h2 _ (Zg _)),b⟩⟩
theorem qW.step(h:qW w tm am H A j)(hj:j<4)(sI:∀k s,hasO A k s=true->hasO H k s=false)(h1:Dn Dd H j)(h2:Dn Ds A j)(ho:cu w' (tm[j]'(by have:=h.lt;omega)) (Maps.size Dd+Maps.size Ds) Dout)(hM:Merged Dout Dd Ds (fun _=>false))(g:w.grownBy w' (some (tm[j]'(by have:=h.lt;omega)))):qW w' tm am H A (j+1):=by
 have hl:=h.lt;have hla:=h.la;have f:Fr w w' [tm[j]'(by omega)]:=(Fr.refl _ _).grown g (fun k hk=>.inl (by cases hk;simp));refine⟨h.lt,h.la,h.nd,h.na,h.dis,fun k hk hjk=>?_,fun k hk hjk=>?_,fun k hk=>?_⟩
 ·obtain⟨D,a,b⟩:=h.old k hk (by omega);exact⟨D,a.fr f (by rw[Zm];exact BH h.nd _ _ _ _ (by omega)),b⟩
 ·by_cases e:k=j
  ·subst e;exact⟨Dout,wI ho,h1.merge h2 (sI k) hM (World.ownsMap.tidy ho iJ) (NJ ho)⟩
  ·obtain⟨D,a,b⟩:=h.new k hk (by omega);exact⟨D,a.fr f (by rw[Zm];exact BH h.nd _ _ _ _ e),b⟩
 ·obtain⟨D,a,b⟩:=h.add k hk;exact⟨D,a.fr f (by rw[Zm];exact fun e2=>h.dis (am[k]'(by omega)) (Zg _) (by rw[e2];exact Zg _)),b⟩
theorem Rm(h1:fF w tm H)(h2:fF w am A)(hd:∀b∈am,b∉tm)(sI:∀k s,hasO A k s=true->hasO H k s=false)(hf:H.length+A.length<=100000):
  Zc 170 #[.agg (aG tm).toArray,.agg (aG am).toArray] w fun e w'=>e=.returned (.tuple #[])/\fF w' tm (H++A)/\Fr w w' tm:=by
 have htl:tm.length=4:=h1.len;have hal:am.length=4:=h2.len;have hlt:=h1.lt;have hlta:=h2.lt;have A0:=qW.start h1 h2 hd;clear h1 h2;go_enter func170,ntmps170;go_upto_region 1 with fail
 have r2:=(ai.new w 114 (aG tm)).below ((Zr).alloc (Zn) (.cells (aG am).toArray 114)) (by simp);have r3:=ai.new (w.alloc (.cells (aG tm).toArray 114)) 114 (aG am);rw[show(w.alloc (.cells (aG tm).toArray 114)).heap.size=w.heap.size+1 by simp] at r3;have bW:Below w.heap.size w ((w.alloc (.cells (aG tm).toArray 114)).alloc (.cells (aG am).toArray 114)):=((Zr).alloc (Zn) _).alloc (by simp) _;generalize((w.alloc (.cells (aG tm).toArray 114)).alloc (.cells (aG am).toArray 114))=W at *;have AW:=A0.fr (Fr.of_below bW []) (by simp) (by simp);have nT:w.heap.size∉tm/\w.heap.size+1∉tm:=⟨fun hm=>by have:=hlt _ hm;omega,fun hm=>by have:=hlt _ hm;omega⟩;go_wp2;go_loopw [5] (fun iv wr=>∃j:Nat,iv=(Zi j)/\j<=4/\Hid (qW wr tm am H A j)/\Hid (Fr W wr tm)) (fun iv _=>4-(RowKit.intOf iv).toNat)
 case atStart=>exact⟨0,rfl,by omega,AW,Fr.refl _ _⟩
 case round=>
  obtain⟨j,rfl,hj,HA,Pk⟩:=hrel;by_cases tJ:j<4
  ·have j1:(j:Int)<4:=by omega
   have j0:(0:Int)<=(j:Int):=by omega
   have hA:=HA.out;obtain⟨Dd,od,rd⟩:=hA.old j tJ (Zn);obtain⟨Ds,os_,rs⟩:=hA.add j tJ;have c2:wr.cell? (Za w.heap.size j)=some (.map (some (tm[j]'(by omega)))):=by
    rw[(Pk.out.row r2 nT.1).cell j];simp[aG,htl,tJ]
   have c3:wr.cell? (Za (w.heap.size+1) j)=some (.map (some (am[j]'(by omega)))):=by
    rw[(Pk.out.row r3 nT.2).cell j];simp[aG,hal,tJ]
   have hbdm:tm[j]'(by omega)∈tm:=Zg _;have hne:tm[j]'(by omega)≠am[j]'(by omega):=fun e=>hA.dis _ (Zg (by omega)) (e▸hbdm);have l2:w.heap.size<wr.heap.size:=(Pk.out.row r2 nT.1).lt;have l3:w.heap.size+1<wr.heap.size:=(Pk.out.row r3 nT.2).lt;have n2:=nT.1;have n3:=nT.2;have Hst:Hid (∀w6 Dout,cu w6 (tm[j]'(by omega)) (Maps.size Dd+Maps.size Ds) Dout->Merged Dout Dd Ds (fun _=>false)->wr.drew.grownBy w6 (some (tm[j]'(by omega)))->qW w6 tm am H A (j+1)):=fun w6 Dout ho hM g=>(hA.fr (Fr.refl _ [] |>.drew) (by simp) (by simp)).step tJ sI rd rs ho hM g;have fd:=rd.few;have fs:=rs.few;have cC:Hid (∀w1,Below wr.heap.size wr w1->_):=fun w1 hb=>NI (od.fr (Fr.of_below hb []) (by simp)) (os_.fr (Fr.of_below hb []) (by simp)) hne (by unfold maxLen;omega);generalize tm[j]'(by omega)=bd at *;generalize am[j]'(by omega)=bs at *;clear HA hA od os_ rd rs;go_upto_region 4 with fail
   have HFr2:Hid _:=Pk.out;clear Pk;generalize hVV:wr=V at *;refine bF ?_;refine wp_region_held_drew (S:=fun w'=>Fr V w' tm) (by kernel_rfl) (Fr.refl _ _).drew (fun ah=>?_);refine Zt 0 (Zi j) ?_;refine Zt 1 (.pointer (some (Za w.heap.size j))) ?_;refine wpAnyH_take (i:=2) (oi:=⟨some 10,.load 112 (.tmp 9),_,_,_,none⟩) (v:=.map (some bd)) rfl (by kernel_rfl) (by kernel_rfl) (by kernel_rfl) (fun _ _ _ h=>h) (Or.inl ⟨by rfl,by intro w hSw;have h1:=(World.cell?_of_block (hSw.block _ l2 n2)).trans c2;go_simp⟩) ah ?_;simp only[Act.put,lA,lZ,lS];refine Zt 3 (Zi j) ?_;refine Zt 4 (.pointer (some (Za (w.heap.size+1) j))) ?_;refine wpAnyH_take (i:=5) (oi:=⟨some 13,.load 112 (.tmp 12),_,_,_,none⟩) (v:=.map (some bs)) rfl (by kernel_rfl) (by kernel_rfl) (by kernel_rfl) (fun _ _ _ h=>h) (Or.inl ⟨by rfl,by intro w hSw;have h1:=(World.cell?_of_block (hSw.block _ l3 n3)).trans c3;go_simp⟩) ah ?_;simp only[Act.put,lA,lZ,lS];refine Zh 6 fun K hK=>?_;go_simp;go_at_call 238;refine Calls.mono (cC.out _ (Zr).drew) ?_;rintro e w6 ⟨rfl,hD6,hs6,hg6⟩;refine hK.out _ _ (ah.grown hg6 (fun k hk=>.inl (by cases hk;exact hbdm))) (fun ah=>?_);clear hK K;(try simp only[Act.put,lA,lZ,lS]);refine Zx ?_;simp only[At];go_wp2;obtain⟨Dout,Yv,hM6⟩:=hD6;refine⟨⟨j+1,by push_cast;rfl,by omega,Hst.out _ _ Yv hM6 hg6,HFr2.out.trans ah (fun x hx _=>hx)⟩,by simp[RowKit.intOf];omega⟩
  ·have j1:¬(j:Int)<4:=by omega
   have hj4:j=4:=by omega
   subst hj4;go_wp2;go_end0;exact⟨rfl,HA.out.done,(Fr.of_below bW tm).trans Pk.out (fun x hx _=>hx)⟩
theorem NK(c:dz)(d:Zy)(h:d.size<=1536):(uI c d).length<=17:=by
 unfold uI;rw[length_append,length_map,uD];simp;omega
theorem Xh{α:Type}(K:List Zy)(g:Zy->List α)(f:Zy->Nat)(h:∀k∈K,(g k).length<=f k):(K.flatMap g).length<=(K.map f).sum:=by
 induction K with
 | nil=>exact Nat.le_refl _
 | cons a K ih=>
  rw[flatMap_cons,length_append,map_cons,sum_cons];have:=h a (by simp);have:=ih (fun k hk=>h k (by simp[hk]));omega
theorem Xi(K:List Zy)(f:Zy->Nat)(m:Nat):(K.map fun k=>m*f k).sum=m*(K.map f).sum:=by
 induction K with
 | nil=>rfl
 | cons a K ih=>rw[map_cons,sum_cons,map_cons,sum_cons,ih,Nat.mul_add]
theorem wU(ok:aC L):∀(f:Nat) (x:Zy),(iM c L f x).length<=17*oL L x+1
 | 0,_=>Nat.zero_le _
 | f+1,x=>by
  rw[nP,length_append,length_singleton,uj ok x,<-Xi];have:=Xh (aj x L) (gq c L f x) (fun k=>17*(1+oL L (aA x k))) (fun k _=>by
   unfold gq;split
   ·have:=wU ok f (aA x k);omega
   ·have:=NK c (vB L (aA x k)) (zu ok _);omega)
  omega
structure Dr.Al(s:Dr)(T:List Ob)(i:Nat):Prop where
 pos:i<=s.pos
 data:s.data.size=64*(s.pos-i)
 new:∀k x,hasO s.A k x=true->hasO T k x=false
theorem Dr.Al.object(h:s.Al T i)(k:Nat)(t:Zy):(s.object c T k t).Al T i:=by
 unfold Dr.object;split
 ·exact h
 ·rename_i hn;refine⟨?_,?_,fun k' x hx=>?_⟩
  ·have:=h.pos;simp only;omega
  ·have:=h.pos;have:=h.data;simp only[ByteArray.size_append,oJ];omega
  ·rw[uq] at hx;rcases Bool.or_eq_true _ _▸hx with h1|h1
   ·exact h.new k' x h1
   ·obtain⟨e1,e2⟩:=of_decide_eq_true h1;simp only at e1 e2;subst e1 e2;cases hh:hasO T k (c.of t) with
    | true=>exact absurd (.inl hh) hn
    | false=>rfl
theorem Dr.Al.puts:∀(l:List (Nat × Zy)) {s:Dr},s.Al T i->(s.puts c T l).Al T i
 |[],_,h=>h
 | x::l,_,h=>Dr.Al.puts l (h.object x.1 x.2)
structure jc where
 S:Dk
 L:List It
 H:List Ob
 I:List (Zy × Zy)
 pos:Nat
 num:Nat
 crc:Nat
 dn:Bool
structure aS where
 q:Nat
 d:DP
 ms:List Nat
 ao:Option Addr
 co:Nat
 blk:Zy->Nat
 mblk:Zy->Nat
def aS.own(p:aS):List Nat:=(Value.slice p.ao 0 0).ownBlock.toList
def aS.mine(p:aS):List Nat:=p.q::p.ms++p.own++p.d.blocks
def aS.row(p:aS)(A:jc):List Value:=pU (.pointer (some ⟨p.blk ⟨#[]⟩,0,none⟩)) p.d.p p.ms (.slice p.ao A.I.length p.co) A.pos A.num A.crc A.dn
structure eP(w:World)(p:aS)(A:jc):Prop where
 row:ai w p.q 119 (p.row A)
 objs:fF w p.ms A.H
 snaps:w.ownsRow 0 123 34 (.slice p.ao A.I.length p.co) A.I.length (bG A.I)
 tree:dD w A.L p.blk p.mblk
 dev:aB w p.d A.S
 nq:p.q∉p.ms/\p.q∉p.own/\p.q∉p.d.blocks
 nm:∀b∈p.ms,b∉p.own/\b∉p.d.blocks
 no:∀b∈p.own,b∉p.d.blocks
 nt:∀b∈aP A.L p.blk p.mblk,b∉p.mine
theorem eP.fr{p:aS}{A:jc}(h:eP w p A)(f:Fr w w' bs)(h1:∀b∈p.mine,b∉bs)(h2:∀b∈aP A.L p.blk p.mblk,b∉bs):eP w' p A:=
 ⟨f.row h.row (h1 _ (by simp[aS.mine])),h.objs.fr f (fun b hb=>h1 b (by simp[aS.mine,hb])),aT h.snaps f (fun g hg=>h1 g (by rw[bO p.ao _ _ 0 0] at hg;simp[aS.mine,aS.own,hg])),h.tree.fr f h2,h.dev.fr f (fun b hb=>h1 b (by simp[aS.mine,hb])),h.nq,h.nm,h.no,h.nt⟩
theorem eP.below{p:aS}{A:jc}(h:eP w p A)(f:Below w.heap.size w w'):eP w' p A:=h.fr (Fr.of_below f []) (by simp) (by simp)
theorem eP.lt{p:aS}{A:jc}(h:eP w p A):∀b∈p.mine,b<w.heap.size:=fun b hb=>by
 simp only[aS.mine,cons_append,mem_cons,mem_append] at hb;rcases hb with rfl|(hb|hb)|hb
 ·exact h.row.lt
 ·exact h.objs.lt b hb
 ·have:=Option.mem_toList.1 hb;rw[bO p.ao 0 0 A.I.length p.co] at this;exact(World.ownsRow.lt h.snaps b this).2
 ·exact h.dev.lt b hb
theorem eP.maps{p:aS}{A:jc}(h:eP w p A):w.rangeAt p.q 2 (aG p.ms):=fun j v hv=>by
 have hj:j<(aG p.ms).length:=(List.getElem?_eq_some_iff.1 hv).1;rw[h.row.cell (2+j)];unfold aS.row pU;rw[append_assoc,getElem?_append_right (by simp),show 2+j- [Value.pointer (some ⟨p.blk ⟨#[]⟩,0,none⟩),Value.pointer (some ⟨p.d.p,0,none⟩)].length=j by simp,getElem?_append_left hj];exact hv
theorem eP.rest{p:aS}{A:jc}(h:eP w p A):w.rangeAt p.q 6 [.slice p.ao A.I.length p.co,.int .i64 (A.pos:Nat),.int .u32 (A.num:Nat),.int .u32 (A.crc:Nat),.bool A.dn]:=fun j v hv=>by
 have h4:([Value.pointer (some ⟨p.blk ⟨#[]⟩,0,none⟩),Zp p.d.p]++aG p.ms).length=6:=by simp[aG,h.objs.len]
 rw[h.row.cell (6+j)];unfold aS.row pU;rw[getElem?_append_right (by omega),h4,show 6+j-6=j by omega];exact hv
theorem eP.tl{p:aS}{A:jc}(h:eP w p A):w.rangeAt p.q 7 (mg A.pos A.num A.crc):=fun j v hv=>by
 have hj:j<3:=(List.getElem?_eq_some_iff.1 hv).1;have:=h.rest (1+j) v (by
  rw[show 1+j=j+1 by omega,getElem?_cons_succ];rw[show([.int .i64 (A.pos:Nat),.int .u32 (A.num:Nat),.int .u32 (A.crc:Nat),.bool A.dn]:List Value)=mg A.pos A.num A.crc++[.bool A.dn] from rfl,getElem?_append_left (by exact hj)];exact hv)
 rw[show 6+(1+j)=7+j by omega] at this;exact this
theorem Cw{o:Oper}(ho:o.op=.alloc t)(hz:(P.info? t).map (fun i=>i.zero)=some (some (.agg C0)))(hs:(P.info? t).map (fun i=>i.size)=some (C0.size))(_h0:C0.size≠0):(execOp a.eval o).run P w=.ok (.value (.pointer (some ⟨w.heap.size,0,none⟩))) (w.alloc (.cells C0 t)):=by
 obtain⟨i,hi,hz'⟩:=Option.map_eq_some_iff.1 hz;obtain⟨i',hi',hs'⟩:=Option.map_eq_some_iff.1 hs;rw[hi] at hi';cases hi'
 unfold execOp;simp only[ho,Sem.run_bind,Instr.alloc,zeroValue,typeInfo];simp[newVar,newRow,hi,hz',Value.cells]
theorem zW{o:Oper}{x y z:Operand}{s:Value}(ho:o.op=.build t #[(0,x),(1,y),(2,z)])(hx:a.eval x=u)(hy:a.eval y=v)(hz:a.eval z=s)(hr:(Instr.build t #[(0,u),(1,v),(2,s)]).run P w=.ok r w):(execOp a.eval o).run P w=.ok (.value r) w:=by
 unfold execOp;simp only[ho,Sem.run_bind,map_toArray,map_cons,map_nil,hx,hy,hz,hr,Result.andThen_ok,Sem.run_pure]
def jd(w w':World)(p:aS)(A:jc):Prop:=∃p',eP w' p' A/\p'.q=p.q/\p'.blk=p.blk/\p'.mblk=p.mblk/\p'.d.p=p.d.p/\(∀b∈p'.mine,b∈p.mine\/w.heap.size<=b)/\Fr w w' p.mine
theorem jd.same{p:aS}{A:jc}(h:eP w p A)(f:Below w.heap.size w w'):jd w w' p A:=⟨p,h.below f,rfl,rfl,rfl,rfl,fun _ hb=>.inl hb,Fr.of_below f _⟩
theorem aS.own_in{p:aS}(h:b∈p.own):b∈p.mine:=by simp[aS.mine,h]
theorem aS.d_in{p:aS}(h:b∈p.d.blocks):b∈p.mine:=by simp[aS.mine,h]
theorem aS.ms_in{p:aS}(h:b∈p.ms):b∈p.mine:=by simp[aS.mine,h]
theorem aS.q_in{p:aS}:p.q∈p.mine:=by simp[aS.mine]
theorem eP.kept{p:aS}{A:jc}{S':Dk}(h:eP w p A)(hm:yC w w' p.d S' bs)(hb:∀b∈bs,b∉p.mine/\b∉aP A.L p.blk p.mblk):
  ∃d',eP w' {p with d:=d'} {A with S:=S'}/\d'.p=p.d.p/\(∀b∈d'.blocks,b∈p.d.blocks\/w.heap.size<=b)/\Fr w w' (p.d.blocks++bs):=by
 obtain⟨d',h1,h2,h3,h4⟩:=hm;have hlt:=h.lt;have no:∀b,b∈p.mine->b∉p.d.blocks->b∉p.d.blocks++bs:=fun b hb1 hb2 hm=>by
  rcases mem_append.1 hm with h5|h5
  ·exact hb2 h5
  ·exact(hb b h5).1 hb1
 have nd:∀b,b∈p.mine->b∉p.d.blocks->b∉d'.blocks:=fun b hb1 hb2 hm=>by
  rcases h3 b hm with h5|h5
  ·exact hb2 h5
  ·have:=hlt b hb1;omega
 have nt':∀b∈aP A.L p.blk p.mblk,b∉p.d.blocks:=fun b hb1 hm=>h.nt b hb1 (aS.d_in hm);refine⟨d',⟨?_,?_,?_,?_,h1,?_,?_,?_,?_⟩,h2,h3,h4⟩
 ·have:=h4.row h.row (no _ aS.q_in h.nq.2.2);show ai w' p.q _ (pU _ d'.p p.ms _ _ _ _ _);rw[h2];exact this
 ·exact h.objs.fr h4 (fun b hb1=>no b (aS.ms_in hb1) (h.nm b hb1).2)
 ·refine aT h.snaps h4 (fun g hg=>?_);have hg':g∈p.own:=by rw[bO p.ao _ _ 0 0] at hg;exact Zo.2 hg
  exact no g (aS.own_in hg') (h.no g hg')
 ·refine h.tree.fr h4 (fun b hb1 hm=>?_);rcases mem_append.1 hm with h5|h5
  ·exact nt' b hb1 h5
  ·exact(hb b h5).2 hb1
 ·exact⟨h.nq.1,h.nq.2.1,nd _ aS.q_in h.nq.2.2⟩
 ·exact fun b hb1=>⟨(h.nm b hb1).1,nd b (aS.ms_in hb1) (h.nm b hb1).2⟩
 ·exact fun b hb1=>nd b (aS.own_in hb1) (h.no b hb1)
 ·intro b hb1 hm;have hl:=h.tree.lt b hb1;have hn:=h.nt b hb1;simp only[aS.mine,aS.own,cons_append,mem_cons,mem_append,not_or] at hm hn;rcases hm with e|(e|e)|e
  ·exact hn.1 e
  ·exact hn.2.1.1 e
  ·exact hn.2.1.2 e
  ·rcases h3 b e with h5|h5
   ·exact hn.2.2 h5
   ·omega
theorem eP.rowTo{p:aS}{A:jc}(h:eP w p A)(f:Fr w w' [p.q])(r:ai w' p.q 119 (p.row {A with pos:=i,num:=num,crc:=crc,dn:=dn})):eP w' p {A with pos:=i,num:=num,crc:=crc,dn:=dn}:=by
 refine⟨r,h.objs.fr f (fun b hb hm=>?_),aT h.snaps f (fun g hg hm=>?_),h.tree.fr f (fun b hb hm=>?_),h.dev.fr f (fun b hb hm=>?_),h.nq,h.nm,h.no,h.nt⟩
 ·rw[Zm.1 hm] at hb;exact h.nq.1 hb
 ·rw[bO p.ao _ _ 0 0,Zm.1 hm] at hg;exact h.nq.2.1 (Zo.2 hg)
 ·rw[Zm.1 hm] at hb;exact h.nt _ hb aS.q_in
 ·rw[Zm.1 hm] at hb;exact h.nq.2.2 hb
theorem eP.objsTo{p:aS}{A:jc}(h:eP w p A)(ho:fF w' p.ms H')(f:Fr w w' p.ms):eP w' p {A with H:=H'}:=
 ⟨f.row h.row h.nq.1,ho,aT h.snaps f (fun g hg hm=>by rw[bO p.ao _ _ 0 0] at hg;exact(h.nm g hm).1 (Zo.2 hg)),h.tree.fr f (fun b hb hm=>h.nt b hb (aS.ms_in hm)),h.dev.fr f (fun b hb hm=>(h.nm b hm).2 hb),h.nq,h.nm,h.no,h.nt⟩
theorem Hu(h:ms.length=4):∃a b c d,ms=[a,b,c,d]:=by
 match ms,h with
 |[a,b,c,d],_=>exact⟨a,b,c,d,rfl⟩
theorem aa5{p:aS}(h:p.ms.length=4)(A:jc)(b:Bool):(p.row A).set 10 (.bool b)=p.row {A with dn:=b}:=by
 obtain⟨q,d,ms,ao,co,blk,mblk⟩:=p;obtain⟨a1,a2,a3,a4,rfl⟩:=Hu h;rfl
theorem Uz{p:aS}(h:p.ms.length=4)(A:jc)(i num crc:Nat):(((p.row A).set 7 (Zi i)).set 8 (.int .u32 (num:Nat))).set 9 (.int .u32 (crc:Nat))=p.row {A with pos:=i,num:=num,crc:=crc}:=by
 obtain⟨q,d,ms,ao,co,blk,mblk⟩:=p;obtain⟨a1,a2,a3,a4,rfl⟩:=Hu h;rfl
theorem UA{p:aS}(h:p.ms.length=4)(A:jc)(x:Zy × Zy)(g cap:Nat):(p.row A).set 6 (.slice (Zs g) (A.I.length+1) cap)=aS.row {p with ao:=some (Za g 0),co:=cap} {A with I:=A.I++[x]}:=by
 obtain⟨q,d,ms,ao,co,blk,mblk⟩:=p;obtain⟨a1,a2,a3,a4,rfl⟩:=Hu h;unfold aS.row;simp only[length_append,length_singleton];rfl
theorem eP.snapped{p:aS}{A:jc}{x:Zy × Zy}(h:eP w p A)(hC:bG (A.I++[x])=bG A.I++C)
  (aY:w4.ownsRow 0 123 34 (.slice (Zs g) (A.I.length+1) cap) (A.I.length+1) (bG A.I++C))
  (aN:(w.alloc (.cells C.toArray 123)).grownBy w4 (Value.slice p.ao A.I.length p.co).ownBlock)
  (hat:(Value.slice p.ao A.I.length p.co).ownBlock=some g\/g=(w.alloc (.cells C.toArray 123)).heap.size):
  eP (w4.setCell (Za p.q 6) (.slice (Zs g) (A.I.length+1) cap)) {p with ao:=some (Za g 0),co:=cap} {A with I:=A.I++[x]}/\(∀b∈aS.mine {p with ao:=some (Za g 0),co:=cap},b∈p.mine\/w.heap.size<=b)/\Fr w (w4.setCell (Za p.q 6) (.slice (Zs g) (A.I.length+1) cap)) (p.q::p.own):=by
 have hgs:(w.alloc (.cells C.toArray 123)).heap.size=w.heap.size+1:=by simp
 rw[hgs] at hat;have hlt:=h.lt;have e0:(Value.slice p.ao A.I.length p.co).ownBlock.toList=p.own:=by rw[bO p.ao _ _ 0 0];rfl
 have hgo:g∈p.own\/g=w.heap.size+1:=by
  rcases hat with e|e
  ·exact .inl (e0▸Zo.2 e)
  ·exact .inr e
 have fg:Fr w w4 p.own:=by
  have:=(((Fr.refl w []).alloc (.cells C.toArray 123)).wider (cs:=p.own) (by simp)).grown aN (fun k e=>.inl (e0▸Zo.2 e));exact this
 have fq:Fr w4 (w4.setCell (Za p.q 6) (.slice (Zs g) (A.I.length+1) cap)) [p.q]:=(Fr.refl _ _).setCell _ _ (.inl (by simp));have f2:Fr w (w4.setCell (Za p.q 6) (.slice (Zs g) (A.I.length+1) cap)) (p.q::p.own):=(fg.wider (fun x hx=>mem_cons_of_mem _ hx)).trans fq (fun x hx _=>by rw[Zm.1 hx];simp);have own':aS.own {p with ao:=some (Za g 0),co:=cap}=[g]:=by simp[aS.own,Value.ownBlock]
 have hnq:g≠p.q:=by
  rcases hgo with e|e
  ·exact fun e2=>h.nq.2.1 (e2▸e)
  ·have:=hlt _ aS.q_in;omega
 have hns:∀b,b∈p.mine->b∉p.own->b≠g:=fun b hb hn e=>by
  rcases hgo with e2|e2
  ·exact hn (e▸e2)
  ·have:=hlt b hb;omega
 have KO:∀b∈aS.mine {p with ao:=some (Za g 0),co:=cap},b∈p.mine\/w.heap.size<=b:=fun b hb=>by
  unfold aS.mine at hb;rw[own'] at hb;simp only[cons_append,mem_cons,mem_append,not_mem_nil,or_false] at hb;rcases hb with e|(e|e)|e
  ·exact .inl (e▸aS.q_in)
  ·exact .inl (aS.ms_in e)
  ·rcases hgo with e2|e2
   ·exact .inl (e▸aS.own_in e2)
   ·exact .inr (by omega)
  ·exact .inl (aS.d_in e)
 have nc:∀b,b≠p.q->b∉p.own->b∉p.q::p.own:=fun b h1 h2 hm=>by
  rcases mem_cons.1 hm with e|e
  ·exact h1 e
  ·exact h2 e
 refine⟨⟨?_,?_,?_,?_,?_,?_,?_,?_,?_⟩,KO,f2⟩
 ·have:=(fg.row h.row h.nq.2.1).set 6 (.slice (Zs g) (A.I.length+1) cap);rw[UA h.objs.len A x g cap] at this;exact this
 ·exact h.objs.fr f2 (fun b hb=>nc b (fun e=>h.nq.1 (e▸hb)) (h.nm b hb).1)
 ·show World.ownsRow _ 0 _ 34 (.slice (Zs g) (A.I++[x]).length cap) (A.I++[x]).length (bG (A.I++[x]));rw[hC,length_append,length_singleton];exact aT aY fq (fun k hk hm=>by
   have e1:g=k:=by simpa [Value.ownBlock] using hk
   exact hnq (e1.trans (Zm.1 hm)))
 ·exact h.tree.fr f2 (fun b hb=>nc b (fun e=>h.nt b hb (e▸aS.q_in)) (fun e=>h.nt b hb (aS.own_in e)))
 ·exact h.dev.fr f2 (fun b hb=>nc b (fun e=>h.nq.2.2 (e▸hb)) (fun e=>h.no b e hb))
 ·rw[own'];exact⟨h.nq.1,by simp;exact fun e=>hnq e.symm,h.nq.2.2⟩
 ·intro b hb;rw[own'];exact⟨by simp;exact hns b (aS.ms_in hb) (h.nm b hb).1,(h.nm b hb).2⟩
 ·intro b hb hd;rw[own'] at hb;rw[Zm.1 hb] at hd;exact hns g (aS.d_in hd) (fun e=>h.no g e hd) rfl
 ·intro b hb hm;rcases KO b hm with e|e
  ·exact h.nt b hb e
  ·have:=h.tree.lt b hb;omega
theorem jL{o:Oper}{x y:Operand}(ho:o.op=.store ty x y)(hx:a.eval x=(Zp g))(hy:a.eval y=.agg ce0)(hg:w.heap[g]? =some (.cells old t (0,0)))(hi:(P.info? ty).map (·.size)=some ce0.size)(hold:old.size=ce0.size)(h1:ce0.all (·.oneCell')=true):(execOp a.eval o).run P w=.ok .skip (w.setRow g ce0):=by
 unfold execOp;simp only[ho,hx,hy,Instr.storeAt,Instr.sureAddr,Sem.run_bind,Sem.run_pure,Result.andThen_ok,run_storeVar_row w g t ty old ce0 hg hi hold h1]
end
end Go.Proofs.YtdidjdoifpfmmaaGreatDoor
