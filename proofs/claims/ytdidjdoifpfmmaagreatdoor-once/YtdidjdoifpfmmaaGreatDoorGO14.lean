import Derived.Test.YtdidjdoifpfmmaaGreatDoorGAShelfSplit
import Derived.Test.YtdidjdoifpfmmaaGreatDoorGO12
import Derived.Sort.KeysCollected
import Derived.WalkSpells
import Derived.Maps.RangeWalk
import Derived.Laws.IdiomRangeMap
set_option maxRecDepth 100000
set_option maxHeartbeats 16000000
namespace Go.Proofs.YtdidjdoifpfmmaaGreatDoor
open Go.Proofs.Tryz List
variable{v ev kv:Value}{b i r B bd mb m nb nm H dp o:Nat}{D:DataW Unit}{n p s q k d:Zy}{w' w w1 w2 w0:World}{L:List It}{x y:It}{blk mblk:Zy->Nat}{bs dB:List Nat}{a:Nat->Addr}{dir:Bool}{S:Dk}{N:World->Prop}
section
open Go.RowKit
def nine(s:Zy):List Zy:=Lib.splitB sl 0 (min 9 (s.size+1)-1) s
def eF(a:Nat->Addr)(k:Nat):Value:=.iface 452 (.pointer (some (a k)))
theorem Qt(s:Zy)(m:Int)(w:World)(hs:s.size<=1000000)(hm:w.cell? (Za 15 0)=some (.int .i64 m)):
  Zc 227 #[.string s,.string ⟨#[47]⟩,.int .i64 9] w fun e w'=>
   e=.returned (.slice (Zs w.heap.size) (nine s).length (min 9 (s.size+1)))/\w.alloc (.cells (Lib.cellsOf (nine s) (min 9 (s.size+1))) 9)=w':=
 (Any.strings_SplitN Tryz.lays147 (by kernel_rfl) s sl 9 m w (by omega) hm (by decide) (by decide) (by decide)).mono fun _ _ h=>⟨h.1,h.2.symm⟩
theorem JH(s:Zy):(nine s).length<=min 9 (s.size+1):=by
 have:=Lib.splitB_length_le sl 0 (min 9 (s.size+1)-1) s;unfold nine;omega
theorem Wt(s:Zy)(w:World):iF (w.alloc (.cells (Lib.cellsOf (nine s) (min 9 (s.size+1))) 9)) (.slice (Zs w.heap.size) (nine s).length (min 9 (s.size+1))) (nine s):=by
 refine⟨_,w.heap.size,_,rfl,JH s,fun _=>rfl,fun j x hj=>?_⟩;rw[cell_of_row _ _ _ _ _ _ (heap_alloc_new w _),<-Array.getElem?_toList];have hl:j<(nine s).length:=by
  have:=(List.getElem?_eq_some_iff.1 hj).1
  rwa [ni] at this
 unfold Lib.cellsOf;rw[getElem?_append_left (by simpa using hl)];exact hj
theorem Bu(s:Zy)(h0:s≠⟨#[]⟩)(h:8<(fT s).length):(ax s).2=false:=by
 unfold ax;rw[if_neg h0];split
 ·exact decide_eq_false (by omega)
 ·rfl
theorem Bv(s:Zy)(h0:s≠⟨#[]⟩)(h:ku (fT s)=false):(ax s).2=false:=by
 unfold ax;rw[if_neg h0,h];rfl
theorem MK(s:Zy)(h0:s≠⟨#[]⟩)(h:ku (fT s)=true)(h8:(fT s).length<=8):ax s=(fT s,true):=by
 unfold ax;rw[if_neg h0,if_pos h,decide_eq_true h8]
def Qu(_w w':World)(s:Zy)(a:Nat->Addr)(v:Value):Prop:=((ax s).2=true/\∃v1,v=.tuple #[v1,.nilIface]/\iF w' v1 (ax s).1)\/((ax s).2=false/\v=.tuple #[.slice none 0 0,eF a 4])
theorem oo(s:Zy)(m:Int)(a:Nat->Addr)(w:World)(hs:s.size<=1000000)(hm:w.cell? (Za 15 0)=some (.int .i64 m))(h4:w.cell? (Za 4 0)=some (eF a 4)):
  Zc 159 #[.string s] w fun e w'=>∃v,e=.returned v/\Qu w w' s a v/\Below w.heap.size w w':=by
 by_cases h0:s=⟨#[]⟩
 ·have hn:Hid (ax s=([],true)):=by show ax s=_;unfold ax;rw[if_pos h0]
  have he:s.toList.isEmpty=true:=by rw[dP,decide_eq_true h0]
  go_enter func159,ntmps159;go_wp2;refine bodyPost_ret (results_tmp2 rfl _ _ _) rfl ?_;refine⟨_,rfl,.inl ⟨by rw[hn.out],_,rfl,?_⟩,Zr⟩;rw[hn.out];exact⟨none,0,0,rfl,Zn,fun h=>absurd h (Nat.lt_irrefl 0),fun j x hj=>by simp[bN] at hj⟩
 ·have he:s.toList.isEmpty=false:=by rw[dP,decide_eq_false h0]
  have c:=Qt s m w hs hm;have O6:=MJ s;have hB:Hid (Below w.heap.size w (w.alloc (.cells (Lib.cellsOf (nine s) (min 9 (s.size+1))) 9))):=(Below.refl _ w).alloc (Zn) _;have hA:Hid _:=Wt s w;have hl9:=JH s;generalize hw1:w.alloc (.cells (Lib.cellsOf (nine s) (min 9 (s.size+1))) 9)=w1 at c hB hA;have h4':w1.cell? (Za 4 0)=some (eF a 4):=by rw[hB.out.cell (Zd h4)];exact h4
  generalize hN:min 9 (s.size+1)=cap at c hA hl9;rcases Nat.lt_or_ge 8 (fT s).length with h8|h8
  ·have hbad:Hid _:=Bu s h0 h8;have e9:Hid ((nine s).length=9):=O6.2 h8;have i9:(8:Int)<((nine s).length:Int):=by rw[e9.out];decide
   clear O6 hl9;go_enter func159,ntmps159;go_wp2_with(go_at_call 227;refine c.mono ?_;rintro e w' ⟨rfl,rfl⟩);go_region;go_wp2;refine bodyPost_ret (results_tmp2 rfl _ _ _) rfl ?_;exact⟨_,rfl,.inr ⟨hbad.out,rfl⟩,hB.out.drew⟩
  ·have e9:Hid (nine s=fT s):=O6.1 h8;have i9:¬(8:Int)<((nine s).length:Int):=by rw[e9.out];omega
   have l9:(nine s).length<=8:=by rw[e9.out];exact h8
   clear O6 hl9;go_enter func159,ntmps159;go_wp2_with(go_at_call 227;refine c.mono ?_;rintro e w' ⟨rfl,rfl⟩);go_loopw [17,6] (fun iv _ wr=>∃i:Nat,i<=(nine s).length/\iv=.int .i64 i/\Below w1.heap.size w1 wr/\ku ((nine s).take i)=true) (fun iv _ _=>(nine s).length-(intOf iv).toNat)
   case atStart=>exact⟨0,Nat.zero_le _,rfl,Zr,rfl⟩
   case round=>
    obtain⟨i,hi,rfl,hb,hall⟩:=hrel;have HA:Hid _:=hall;clear hall;obtain⟨ag,g,cp,hv,hcp,hag,hcell⟩:=hA.out;simp only[Value.slice.injEq] at hv;obtain⟨hv1,_,hv3⟩:=hv;subst hv1 hv3;by_cases hlt:i<(nine s).length
    ·have i1:(i:Int)<((nine s).length:Int):=by omega
     have hg:g=w.heap.size:=by
      have:=hag (by omega);simp at this;exact this.symm
     subst hg;have hc0:=hcell i (.string (nine s)[i]) (by rw[jy _ _ hlt,getD_eq_getElem?_getD,getElem?_eq_getElem hlt];rfl);have hc1:wr.cell? (Za w.heap.size i)=some (.string (nine s)[i]):=by rw[hb.cell (Zd hc0)];exact hc0
     have cN:=vH (nine s)[i] wr;have h4'':wr.cell? (Za 4 0)=some (eF a 4):=by rw[hb.cell (Zd h4')];exact h4'
     cases hnm:aO (af (nine s)[i])
     ·rw[hnm] at cN;have hbad:Hid _:=Bv s h0 (by
       rw[<-e9.out];unfold ku;rw[all_eq_false];exact⟨(nine s)[i],Zg hlt,by rw[hnm];decide⟩)
      go_wp2_with(go_at_call 228;refine cN.mono ?_;rintro e w' ⟨rfl,hb2⟩);have h4w:w'.cell? (Za 4 0)=some (eF a 4):=by rw[hb2.cell (Zd h4'')];exact h4''
      go_region;go_wp2;refine bodyPost_ret (results_tmp2 rfl _ _ _) rfl ?_;have hs1:=hB.out.size;have hs2:=hb.size;exact⟨_,rfl,.inr ⟨hbad.out,rfl⟩,(hB.out.trans ((hb.trans (hb2.mono hs2)).mono hs1)).drew⟩
     ·rw[hnm] at cN;have hst:Hid (ku ((nine s).take (i+1))=true):=by
       show ku _=true;rw[take_succ_eq_append_getElem hlt];unfold ku at HA⊢;rw[all_append,HA.out];simp[hnm]
      go_wp2_with(go_at_call 228;refine cN.mono ?_;rintro e w' ⟨rfl,hb2⟩);have hs2:=hb.size;exact⟨⟨i+1,by omega,by go_num,hb.trans (hb2.mono hs2),hst.out⟩,by simp[intOf];omega⟩
    ·have ei:i=(nine s).length:=by omega
     have i1:¬(i:Int)<((nine s).length:Int):=by omega
     have hgood:Hid (ax s=(nine s,true)):=by
      show ax s=_;have:=HA.out;rw[ei,take_length,e9.out] at this;rw[MK s h0 this h8,e9.out]
     go_wp2;refine bodyPost_ret (results_tmp2 rfl _ _ _) rfl ?_;have hs1:=hB.out.size;refine⟨_,rfl,.inl ⟨by rw[hgood.out],_,rfl,?_⟩,hB.out.trans (hb.mono hs1)⟩;rw[hgood.out];exact iF.below hA.out hb (Zn)
def eD:Value->Option (DataW Unit × List MemPlace)
 | .pointer none=>some (.lit (.int .i64 (-1)),[])
 | .pointer (some a)=>if a.off=0/\a.spot=none then some (.lit (.int .i64 (a.block:Nat)),[]) else none
 | _=>none
theorem TG(b:Nat):eD (Zp b)=some (.lit (.int .i64 (b:Nat)),[]):=by
 simp[eD]
theorem yZ{ps:List MemPlace}(h:eD v=some (.lit (.int .i64 (b:Nat)),ps)):v=(Zp b):=by
 unfold eD at h;split at h
 ·simp at h
 ·rename_i a;split at h
  ·rename_i hc;simp at h;obtain⟨x,y,z⟩:=a;simp only at hc h;rw[hc.1,hc.2,show x=b by omega]
  ·cases h
 ·cases h
theorem ML{ps:List MemPlace}(h:eD v=some (.lit (.int .i64 (-1)),ps)):v=.pointer none:=by
 unfold eD at h;split at h
 ·rfl
 ·split at h
  ·simp at h
  ·cases h
 ·cases h
theorem Qv{z:DataW Unit × List MemPlace}(h:eD v=some z):∃o,v=.pointer o:=by
 unfold eD at h;split at h
 ·exact⟨_,rfl⟩
 ·exact⟨_,rfl⟩
 ·cases h
theorem nI:Maps.Keyed prog 9:=Maps.string_keyed underlying9
theorem JI:(prog.info? 111).map (fun i=>(i.zero,i.size))=some (some (.pointer none),1):=by kernel_rfl
theorem rQ(k:Zy)(h:k.size<=1000000):keyOf prog 9 (.string k)=some (.string k.data.toList):=by
 have hs:k.size<=maxLen:=by simp[maxLen];omega
 simp[keyOf,underlying9,mapKey,hs]
def Bw(L:List It)(p k:Zy):Bool:=(aj p L).any fun x=>decide (x=k)
theorem rR(L:List It)(p k:Zy):Bw L p k=true↔k∈aj p L:=by
 unfold Bw;rw[any_eq_true];constructor
 ·rintro⟨x,hx,e⟩;rw[<-of_decide_eq_true e];exact hx
 ·intro h;exact⟨k,h,decide_eq_true rfl⟩
theorem vX(L:List It)(p k:Zy):Bw L p k=false↔k∉aj p L:=by
 rw[<-rR,Bool.not_eq_true]
def lC(w:World)(L:List It)(p:Zy)(mb:Nat)(blk:Zy->Nat):Prop:=
 ∃D:DataW Unit,w.ownsMap prog 9 eD mb (Maps.size D) D/\(∀k:Zy,Maps.has D (.string k.data.toList)=true↔k∈aj p L)/\∀k∈aj p L,∀z,D.atKey (.string k.data.toList) z=.lit (.int .i64 (blk (aA p k):Nat))
section
variable {w:World}{L:List It}{p:Zy}{mb:Nat}{blk:Zy->Nat}
theorem lC.look(h:lC w L p mb blk)(k:Zy)(hk:k.size<=1000000):∃v,(Instr.lookup 175 (.map (some mb)) (.string k) true).run prog w=.ok (.tuple #[v,.bool (Bw L p k)]) w/\
  (k∈aj p L->v=(Zp (blk (aA p k))))/\(k∉aj p L->v=.pointer none):=by
 obtain⟨D,ho,hh,ha⟩:=h;obtain⟨hz,_⟩:=zero_of_info JI;obtain⟨v,ps,hrun,hv⟩:=ho.look_ok (t:=175) (e:=111) nI underlying175 (hz w) (zd:=.lit (.int .i64 (-1))) (zp:=[]) rfl (rQ k hk);have hb:Maps.has D (.string k.data.toList)=Bw L p k:=by
  rw[Bool.eq_iff_iff,rR];exact hh k
 rw[hb] at hrun;refine⟨v,hrun,fun hm=>?_,fun hm=>?_⟩
 ·rw[ha k hm] at hv;exact yZ hv
 ·rw[Maps.atKey_of_not_has (by rw[hb];exact(vX L p k).2 hm)] at hv;exact ML hv
theorem lC.get(h:lC w L p mb blk)(k:Zy)(hk:k.size<=1000000)(hm:k∈aj p L):(Instr.lookup 175 (.map (some mb)) (.string k) false).run prog w=.ok ((Zp (blk (aA p k)))) w:=by
 obtain⟨D,ho,hh,ha⟩:=h;obtain⟨hz,_⟩:=zero_of_info JI;obtain⟨v,ps,hrun,hv⟩:=ho.lookup (t:=175) (e:=111) nI underlying175 (hz w) (zd:=.lit (.int .i64 (-1))) (zp:=[]) rfl (rQ k hk);rw[ha k hm] at hv;rw[yZ hv] at hrun;exact hrun
theorem uP{n:Nat}(ok:aC L)(ho:w.ownsMap prog 9 eD mb n D)(hh:∀k:Zy,Maps.has D (.string k.data.toList)=true↔k∈aj p L):((aj p L).map (fun k=>k.data.toList)).Perm (strKeys D):=by
 obtain⟨es,hD,hpw,_⟩:=ho.entries nI;obtain⟨es',hD',hko⟩:=ho.keysOf;obtain rfl:es=es':=by rw[hD] at hD';simpa using hD'
 subst hD;refine perm_strKeys hpw (fun p hp=>by obtain⟨v,hv⟩:=hko p hp;obtain⟨x,_,hx,_⟩:=Maps.keyOf_str underlying9 hv;exact⟨x,hx⟩) ?_ fun x=>?_
 ·have hn:=Br ok p;unfold List.Nodup at hn⊢;rw[pairwise_map];exact hn.imp fun hne e=>hne (ji e)
 ·rw[show x=(⟨x.toArray⟩:Zy).data.toList by simp,hh,mem_map];constructor
  ·rintro⟨k,hk,e⟩;rw[<-ji e];exact hk
  ·intro hk;exact⟨_,hk,rfl⟩
theorem pG{n:Nat}(ok:aC L)(ho:w.ownsMap prog 9 eD mb n D)(hh:∀k:Zy,Maps.has D (.string k.data.toList)=true↔k∈aj p L):Maps.size D=(aj p L).length:=by
 have h1:=(uP ok ho hh).length_eq;obtain⟨es,rfl⟩:=ho.isMap;rw[length_map] at h1;rw[h1];simp[strKeys,Maps.size]
theorem lC.len(h:lC w L p mb blk)(ok:aC L)(ty:TypeId):(Builtin.len_ #[175] ty #[.map (some mb)]).run prog w=.ok (.int .i64 (aj p L).length) w:=by
 obtain⟨D,ho,hh,ha⟩:=h;have:=ho.len underlying175 ty;rw[pG ok ho hh] at this;exact this
theorem lC.lt(h:lC w L p mb blk):mb<w.heap.size:=by
 obtain⟨D,ho,_⟩:=h;exact ho.lt
theorem lC.kept(h:lC w L p mb blk)(hb:w'.heap[mb]? =w.heap[mb]?):lC w' L p mb blk:=by
 obtain⟨D,⟨es,clock,h1,h2⟩,r⟩:=h;exact⟨D,⟨es,clock,hb.trans h1,h2⟩,r⟩
end
structure dD(w:World)(L:List It)(blk mblk:Zy->Nat):Prop where
 dir:∀p,bC L p->w.cell? (Za (blk p) 0)=some (.map (some (mblk p)))/\w.cell? (Za (blk p) 1)=some (.string ⟨#[]⟩)/\lC w L p (mblk p) blk
 file:∀x∈L,x.dir=false->w.cell? (Za (blk x.path) 0)=some (.map none)/\w.cell? (Za (blk x.path) 1)=some (.string x.data)
 apart:∀p q,bC L p->bC L q->mblk p=mblk q->p=q
def aP(L:List It)(blk mblk:Zy->Nat):List Nat:=blk ⟨#[]⟩::mblk ⟨#[]⟩::L.flatMap (fun x=>if x.dir then [blk x.path,mblk x.path] else [blk x.path])
theorem Av(blk mblk:Zy->Nat)(h:bC L p):blk p∈aP L blk mblk/\mblk p∈aP L blk mblk:=by
 unfold aP;rcases h with rfl|⟨y,hy,rfl,hd⟩
 ·simp
 ·constructor
  ·refine mem_cons_of_mem _ (mem_cons_of_mem _ (mem_flatMap.2 ⟨y,hy,by rw[if_pos hd];simp⟩))
  ·refine mem_cons_of_mem _ (mem_cons_of_mem _ (mem_flatMap.2 ⟨y,hy,by rw[if_pos hd];simp⟩))
theorem Gw(blk mblk:Zy->Nat)(h:x∈L):blk x.path∈aP L blk mblk:=by
 unfold aP;refine mem_cons_of_mem _ (mem_cons_of_mem _ (mem_flatMap.2 ⟨x,h,?_⟩));split<;>simp
theorem ay(h:w.cell? (Za b i)=some v)(hb:w'.heap[b]? =w.heap[b]?):w'.cell? (Za b i)=some v:=by
 rw[<-h];unfold World.cell?;rw[hb]
theorem dD.fr(h:dD w L blk mblk)(f:Fr w w' bs)(hn:∀b∈aP L blk mblk,b∉bs):dD w' L blk mblk:=by
 refine⟨fun p hp=>?_,fun x hx hd=>?_,h.apart⟩
 ·obtain⟨h1,h2,h3⟩:=h.dir p hp;obtain⟨m1,m2⟩:=Av blk mblk hp;have e1:=f.block _ (Zd h1) (hn _ m1);exact⟨ay h1 e1,ay h2 e1,h3.kept (f.block _ h3.lt (hn _ m2))⟩
 ·obtain⟨h1,h2⟩:=h.file x hx hd;have e1:=f.block _ (Zd h1) (hn _ (Gw blk mblk hx));exact⟨ay h1 e1,ay h2 e1⟩
theorem dD.below(h:dD w L blk mblk)(hb:Below w.heap.size w w'):dD w' L blk mblk:=h.fr (Fr.of_below hb []) (by simp)
theorem dD.lt(h:dD w L blk mblk):∀b∈aP L blk mblk,b<w.heap.size:=by
 intro b hb;unfold aP at hb;obtain⟨r1,_,r3⟩:=h.dir ⟨#[]⟩ (.inl rfl);rcases mem_cons.1 hb with rfl|hb
 ·exact Zd r1
 ·rcases mem_cons.1 hb with rfl|hb
  ·exact r3.lt
  ·obtain⟨x,hx,hm⟩:=mem_flatMap.1 hb;cases hd:x.dir
   ·rw[hd] at hm;simp at hm;rw[hm];exact Zd (h.file x hx hd).1
   ·rw[hd] at hm;obtain⟨r1,_,r3⟩:=h.dir x.path (.inr ⟨x,hx,rfl,hd⟩);simp at hm;rcases hm with rfl|rfl
    ·exact Zd r1
    ·exact r3.lt
theorem eX(b:Nat)(o:Option Nat)(w:World)(c:w.cell? (Za b 0)=some (.map o)):
  Zc 162 #[Zp b] w fun e w'=>e=.returned (.bool o.isSome)/\w=w':=by
 have qT:∀(w:World) (r:Option Nat),(binOp .neq 175 (.map r) (.map none)).run prog w=.ok (.bool r.isSome) w:=fun w r=>by cases r<;>exact run_neq_map_nil w _ _ _ _ underlying175
 cases o
 ·go_enter func162,ntmps162;go_wp2;go_ret;exact⟨rfl,rfl⟩
 ·go_enter func162,ntmps162;go_wp2;go_ret;exact⟨rfl,rfl⟩
def za(L:List It)(p:Zy)(a:Int):Prop:=(p=⟨#[]⟩/\a= -1)\/∃i,∃h:i<L.length,a=(i:Nat)/\L[i].path=p
theorem vY(_ok:aC L){a:Int}(h:za L p a):(0<=a/\iY L a=false/\∃x∈L,x.path=p/\x.dir=false)\/(¬(0<=a/\iY L a=false)/\bC L p):=by
 rcases h with⟨rfl,rfl⟩|⟨i,hi,rfl,hp⟩
 ·exact .inr ⟨by omega,.inl rfl⟩
 ·have hd:iY L (i:Nat)=L[i].dir:=by
   unfold iY;rw[Int.toNat_natCast,getElem?_eq_getElem hi];rfl
  cases hx:L[i].dir
  ·exact .inl ⟨by omega,by rw[hd,hx],L[i],Zg hi,hp,hx⟩
  ·exact .inr ⟨fun h=>by rw[hd,hx] at h;simp at h,.inr ⟨L[i],Zg hi,hp,hx⟩⟩
theorem JJ(ok:aC L)(hn:aO (af n)=true):(bJ L (aA p n)<0/\n∉aj p L)\/(¬bJ L (aA p n)<0/\n∈aj p L/\za L (aA p n) (bJ L (aA p n))):=by
 rcases iA L (aA p n) with⟨e,h⟩|⟨i,hi,e,h⟩
 ·refine .inl ⟨by omega,fun hm=>?_⟩;obtain⟨_,x,hx,e2⟩:=(bD ok p n).1 hm;exact h x hx e2
 ·exact .inr ⟨by omega,(bD ok p n).2 ⟨hn,L[i],Zg hi,h⟩,.inr ⟨i,hi,e,h⟩⟩
def TH(a:Nat->Addr)(L:List It)(blk:Zy->Nat)(ns:List Zy)(v:Value):Prop:=
 ((dw L ⟨#[]⟩ (-1) ns).2=0/\v=.tuple #[(Zp (blk (pathOf ns))),.nilIface]/\za L (pathOf ns) (dw L ⟨#[]⟩ (-1) ns).1)\/
 ((dw L ⟨#[]⟩ (-1) ns).2=6/\v=.tuple #[.pointer none,eF a 5])\/((dw L ⟨#[]⟩ (-1) ns).2=7/\v=.tuple #[.pointer none,eF a 6])
theorem JK(ns:List Zy)(i:Nat)(h:i<ns.length):pathOf (ns.take (i+1))=aA (pathOf (ns.take i)) ns[i]:=by
 rw[take_succ_eq_append_getElem h,zK]
theorem TI(ns:List Zy)(i:Nat)(h:i<ns.length):ns.drop i=ns[i]::ns.drop (i+1):=drop_eq_getElem_cons h
theorem zM(h:dD w L blk mblk)(ok:aC L)(a:Nat->Addr)(ns:List Zy)(v:Value)(hv:iF w v ns)(hns:∀n∈ns,aO (af n)=true)(hl:ns.length<=100)
  (h5:w.cell? (Za 5 0)=some (eF a 5)) (h6:w.cell? (Za 6 0)=some (eF a 6)):
  Zc 161 #[.pointer (some ⟨blk ⟨#[]⟩,0,none⟩),v] w fun e w'=>∃r,e=.returned r/\TH a L blk ns r/\Below w.heap.size w w':=by
 obtain⟨ag,g,cap,rfl,hcap,hag,hcell⟩:=hv;have HD:Hid _:=hcell;have HG:Hid _:=hag;have HN:Hid _:=hns;clear hcell hag hns;go_enter func161,ntmps161;go_wp2;go_loopw [6,14] (fun nv iv wr=>w=wr/\∃(i:Nat) (at':Int),i<=ns.length/\iv=.int .i64 i/\nv=(Zp (blk (pathOf (ns.take i))))/\za L (pathOf (ns.take i)) at'/\dw L ⟨#[]⟩ (-1) ns=dw L (pathOf (ns.take i)) at' (ns.drop i)) (fun _ iv _=>ns.length-(intOf iv).toNat)
 case atStart=>exact⟨rfl,0, -1,Nat.zero_le _,rfl,rfl,.inl ⟨rfl,rfl⟩,rfl⟩
 case round=>
  obtain⟨rfl,i,at',hi,rfl,rfl,hst,hF⟩:=hrel;by_cases hlt:i<ns.length
  ·have i1:(i:Int)<(ns.length:Int):=by omega
   have hg:=HG.out (by omega);subst hg;have hc1:w.cell? (Za g i)=some (.string ns[i]):=HD.out i _ (by rw[jy _ _ hlt,getD_eq_getElem?_getD,getElem?_eq_getElem hlt];rfl);have hname:=HN.out ns[i] (Zg hlt);rw[TI ns i hlt,dw] at hF;rcases vY ok hst with⟨ha,hda,x,hx,hxp,hxd⟩|⟨hnd,vZ⟩
   ·have cm:=(h.file x hx hxd).1;rw[hxp] at cm;have cD:=eX _ _ w cm;rw[if_pos ⟨ha,hda⟩] at hF;have HF:Hid _:=hF;clear hF;go_wp2_with(go_at_call 162;refine cD.mono ?_;rintro e w' ⟨rfl,rfl⟩);go_region;go_wp2;refine bodyPost_ret (results_tmp2 rfl _ _ _) rfl ?_;refine⟨_,rfl,.inr (.inr ⟨by rw[HF.out],rfl⟩),(Zr).drew⟩
   ·obtain⟨cm,_,hdr⟩:=h.dir _ vZ;have cD:=eX _ _ w cm;rw[if_neg hnd] at hF;obtain⟨nv,Bf,TJ,hno⟩:=hdr.look ns[i] (by have:=ic hname;omega);rcases JJ ok hname with⟨hneg,hk⟩|⟨hpos,hk,tX⟩
    ·rw[if_pos hneg] at hF;rw[(vX L _ _).2 hk] at Bf;have HF:Hid _:=hF;have hnv:=hno hk;subst hnv;clear hF TJ hno;go_wp2_with(go_at_call 162;refine cD.mono ?_;rintro e w' ⟨rfl,rfl⟩);go_region;go_wp2;refine bodyPost_ret (results_tmp2 rfl _ _ _) rfl ?_;refine⟨_,rfl,.inr (.inl ⟨by rw[HF.out],rfl⟩),(Zr).drew⟩
    ·rw[if_neg hpos] at hF;rw[(rR L _ _).2 hk] at Bf;have hnv:=TJ hk;subst hnv;rw[<-JK ns i hlt] at Bf tX hF;have HF:Hid _:=hF;have HS:Hid _:=tX;clear hF TJ hno tX;go_wp2_with(go_at_call 162;refine cD.mono ?_;rintro e w' ⟨rfl,rfl⟩);exact⟨⟨trivial,i+1,_,by omega,by go_num,rfl,HS.out,HF.out⟩,by simp[intOf];omega⟩
  ·have ei:i=ns.length:=by omega
   have i1:¬(i:Int)<(ns.length:Int):=by omega
   subst ei;rw[drop_length,take_length,dw] at hF;rw[take_length] at hst;have e1:Hid (ns.take ns.length=ns):=take_length;have HF:Hid _:=hF;have HS:Hid _:=hst;clear hF hst;go_wp2;refine bodyPost_ret (results_tmp2 rfl _ _ _) rfl ?_;refine⟨_,rfl,.inl ⟨by rw[HF.out],rfl,by rw[HF.out];exact HS.out⟩,Zr⟩
theorem rT:∀(ns:List Zy) (p:Zy) (a:Int),za L p a->(dw L p a ns).2=0->za L (ns.foldl aA p) (dw L p a ns).1:=by
 intro ns;induction ns with
 | nil=>intro p a h _;exact h
 | cons n ns ih=>
  intro p a h h0;unfold dw at h0⊢;split at h0
  ·cases h0
  ·rename_i h1;rw[if_neg h1];split at h0
   ·cases h0
   ·rename_i h2;rw[if_neg h2,foldl_cons];refine ih _ _ ?_ h0;rcases iA L (aA p n) with⟨e,_⟩|⟨i,hi,e,he⟩
    ·omega
    ·exact .inr ⟨i,hi,e,he⟩
section
variable {w:World}{L:List It}{blk mblk:Zy->Nat}
theorem pI(h:dD w L blk mblk)(ok:aC L)(a:Nat->Addr)(ns:List Zy)(v:Value)(hv:iF w v ns)(hns:∀n∈ns,aO (af n)=true)(hl:ns.length<=100)
  (h5:w.cell? (Za 5 0)=some (eF a 5)) (h6:w.cell? (Za 6 0)=some (eF a 6)) (h0:(dw L ⟨#[]⟩ (-1) ns).2=0):
  Zc 161 #[.pointer (some ⟨blk ⟨#[]⟩,0,none⟩),v] w fun e w'=>e=.returned (.tuple #[(Zp (blk (pathOf ns))),.nilIface])/\Below w.heap.size w w':=by
 refine(zM h ok a ns v hv hns hl h5 h6).mono ?_;rintro e w' ⟨r,rfl,hd|hd|hd,hb⟩
 ·exact⟨by rw[hd.2.1],hb⟩
 ·have:=hd.1;omega
 ·have:=hd.1;omega
theorem zN(h:dD w L blk mblk)(ok:aC L)(a:Nat->Addr)(ns:List Zy)(v:Value)(hv:iF w v ns)(hns:∀n∈ns,aO (af n)=true)(hl:ns.length<=100)
  (h5:w.cell? (Za 5 0)=some (eF a 5)) (h6:w.cell? (Za 6 0)=some (eF a 6)) (h0:(dw L ⟨#[]⟩ (-1) ns).2≠0):
  Zc 161 #[.pointer (some ⟨blk ⟨#[]⟩,0,none⟩),v] w fun e w'=>e=.returned (.tuple #[.pointer none,eF a ((dw L ⟨#[]⟩ (-1) ns).2-1)])/\Below w.heap.size w w':=by
 refine(zM h ok a ns v hv hns hl h5 h6).mono ?_;rintro e w' ⟨r,rfl,hd|hd|hd,hb⟩
 ·exact absurd hd.1 h0
 ·exact⟨by rw[hd.2,hd.1],hb⟩
 ·exact⟨by rw[hd.2,hd.1],hb⟩
end
def qf(L:List It)(ns:List Zy):Nat:=
 if(dw L ⟨#[]⟩ (-1) (ns.take (ns.length-1))).2≠0 then(dw L ⟨#[]⟩ (-1) (ns.take (ns.length-1))).2
 else if 0<=(dw L ⟨#[]⟩ (-1) (ns.take (ns.length-1))).1/\iY L (dw L ⟨#[]⟩ (-1) (ns.take (ns.length-1))).1=false then 7 else 0
theorem TK(L:List It)(s:Zy)(h:(ax s).2=true)(h0:(ax s).1.length≠0):bS L s=qf L (ax s).1:=by
 unfold bS qf;rw[if_neg (by rw[h];simp;exact fun e=>h0 (by rw[e];rfl))]
theorem EW(ok:aC L)(ns:List Zy)(h:qf L ns=0):bC L (gy ns):=by
 unfold qf at h;split at h
 ·rename_i h1;exact absurd h h1
 ·rename_i h1;split at h
  ·cases h
  ·rename_i h2;have hs:=rT (L:=L) (ns.take (ns.length-1)) ⟨#[]⟩ (-1) (.inl ⟨rfl,rfl⟩) (Classical.not_not.1 h1);rcases vY ok hs with⟨ha,hb,_⟩|⟨_,hd⟩
   ·exact absurd ⟨ha,hb⟩ h2
   ·exact hd
section
variable {w:World}{L:List It}{blk mblk:Zy->Nat}
theorem nJ(h:dD w L blk mblk)(ok:aC L)(a:Nat->Addr)(ns:List Zy)(n:Zy)(hn:ns=ns.take (ns.length-1)++[n])(v:Value)(hv:iF w v ns)(hns:∀n∈ns,aO (af n)=true)(hl:ns.length<=100)
  (h5:w.cell? (Za 5 0)=some (eF a 5)) (h6:w.cell? (Za 6 0)=some (eF a 6)) (h0:qf L ns=0):
  Zc 156 #[.pointer (some ⟨blk ⟨#[]⟩,0,none⟩),v] w fun e w'=>e=.returned (.tuple #[(Zp (blk (gy ns))),.string n,.nilIface])/\Below w.heap.size w w':=by
 obtain⟨m,hm⟩:∃m,ns.length=m+1:=⟨ns.length-1,by have:=congrArg List.length hn;simp at this;omega⟩;have vZ:=EW ok ns h0;obtain⟨ag,g,cap,rfl,hcap,hag,hcell⟩:=hv;have hg:=hag (by omega);subst hg;rw[hm] at hcap⊢;have hstr:iF w (.slice (Zs g) m cap) (ns.take m):=zG hm ⟨_,g,cap,by rw[hm],by omega,fun _=>rfl,hcell⟩;have hlast:w.cell? (Za g m)=some (.string n):=by
  refine hcell m _ ?_;rw[hn,bN,getElem?_map,hm,Nat.add_sub_cancel,getElem?_append_right (by simp[hm])];simp[hm]
 have hz:(dw L ⟨#[]⟩ (-1) (ns.take m)).2=0:=by
  unfold qf at h0;rw[hm,Nat.add_sub_cancel] at h0;split at h0
  ·rename_i h1;exact absurd h0 h1
  ·rename_i h1;exact Classical.not_not.1 h1
 have cF:=pI h ok a (ns.take m) _ hstr (fun x hx=>hns x (mem_of_mem_take hx)) (by simp;omega) h5 h6 hz;have eup:gy ns=pathOf (ns.take m):=by unfold gy pathOf;rw[hm,Nat.add_sub_cancel]
 rw[eup] at vZ⊢;obtain⟨cm,_,_⟩:=h.dir _ vZ;have HC:Hid _:=hcell;clear hcell hag hn hns;have hml:m<=100:=by omega
 clear hl hm;have hk:((m+1:Nat):Int)-1=(m:Nat):=by omega
 go_enter func156,ntmps156;go_wp2_with(go_at_call 161;refine cF.mono ?_;rintro e w1 ⟨rfl,hb⟩);have cm1:w1.cell? (Za (blk (pathOf (ns.take m))) 0)=some (.map (some (mblk (pathOf (ns.take m))))):=by rw[hb.cell (Zd cm)];exact cm
 have hl1:w1.cell? (Za g m)=some (.string n):=by rw[hb.cell (Zd hlast)];exact hlast
 have cD:=eX _ _ w1 cm1;go_wp2_with(go_at_call 162;refine cD.mono ?_;rintro e w' ⟨rfl,rfl⟩);go_region;go_wp2;refine bodyPost_ret (results_tmp3 rfl _ _ _) rfl ?_;exact⟨rfl,hb.drew⟩
theorem xJ(h:dD w L blk mblk)(ok:aC L)(a:Nat->Addr)(ns:List Zy)(hpos:ns.length≠0)(v:Value)(hv:iF w v ns)(hns:∀n∈ns,aO (af n)=true)(hl:ns.length<=100)
  (h5:w.cell? (Za 5 0)=some (eF a 5)) (h6:w.cell? (Za 6 0)=some (eF a 6)) (h0:qf L ns≠0):
  Zc 156 #[.pointer (some ⟨blk ⟨#[]⟩,0,none⟩),v] w fun e w'=>e=.returned (.tuple #[.pointer none,.string ⟨#[]⟩,eF a (qf L ns-1)])/\Below w.heap.size w w':=by
 obtain⟨m,hm⟩:∃m,ns.length=m+1:=⟨ns.length-1,by omega⟩;obtain⟨ag,g,cap,rfl,hcap,hag,hcell⟩:=hv;have hg:=hag (by omega);subst hg;have hstr:iF w (.slice (Zs g) m cap) (ns.take m):=zG hm ⟨_,g,cap,by rw[hm],by omega,fun _=>rfl,hcell⟩;rw[hm] at hcap⊢;have HS:Hid (qf L ns=if(dw L ⟨#[]⟩ (-1) (ns.take m)).2≠0 then(dw L ⟨#[]⟩ (-1) (ns.take m)).2 else 7):=by
  show qf L ns=_;unfold qf at h0⊢;rw[hm,Nat.add_sub_cancel] at h0⊢;split
  ·rfl
  ·rename_i h1;rw[if_neg h1] at h0;split
   ·rfl
   ·rename_i h2;rw[if_neg h2] at h0;exact absurd rfl h0
 clear hcell hag;have hml:m<=100:=by omega
 have hall:∀x∈ns.take m,aO (af x)=true:=fun x hx=>hns x (mem_of_mem_take hx);have hk:((m+1:Nat):Int)-1=(m:Nat):=by omega
 by_cases hz:(dw L ⟨#[]⟩ (-1) (ns.take m)).2=0
 ·have cF:=pI h ok a (ns.take m) _ hstr hall (by simp;omega) h5 h6 hz;rw[if_neg (by simp[hz])] at HS;have hst:=rT (L:=L) (ns.take m) ⟨#[]⟩ (-1) (.inl ⟨rfl,rfl⟩) hz;have um:∃x∈L,x.path=pathOf (ns.take m)/\x.dir=false:=by
   rcases vY ok hst with⟨_,_,hx⟩|⟨hx,_⟩
   ·exact hx
   ·exfalso;have:=HS.out;unfold qf at this;rw[hm,Nat.add_sub_cancel,if_neg (by simp[hz]),if_neg hx] at this;cases this
  obtain⟨x,hx,hxp,hxd⟩:=um;have cm:=(h.file x hx hxd).1;rw[hxp] at cm;clear hl hm hns hall hpos h0;rw[HS.out];go_enter func156,ntmps156;go_wp2_with(go_at_call 161;refine cF.mono ?_;rintro e w1 ⟨rfl,hb⟩);have cm1:w1.cell? (Za (blk (pathOf (ns.take m))) 0)=some (.map none):=by rw[hb.cell (Zd cm)];exact cm
  have h61:w1.cell? (Za 6 0)=some (eF a 6):=by rw[hb.cell (Zd h6)];exact h6
  have cD:=eX _ _ w1 cm1;go_wp2_with(go_at_call 162;refine cD.mono ?_;rintro e w' ⟨rfl,rfl⟩);go_region;go_wp2;refine bodyPost_ret (results_tmp3 rfl _ _ _) rfl ?_;exact⟨rfl,hb.drew⟩
 ·have cF:=zN h ok a (ns.take m) _ hstr hall (by simp;omega) h5 h6 hz;rw[if_pos hz] at HS;rw[HS.out];clear HS;generalize(dw L ⟨#[]⟩ (-1) (ns.take m)).2-1=j at cF;unfold eF at cF⊢;clear hl hm hns hall hpos h0 hz;go_enter func156,ntmps156;go_wp2_with(go_at_call 161;refine cF.mono ?_;rintro e w1 ⟨rfl,hb⟩);refine bodyPost_ret (results_tmp3 rfl _ _ _) rfl ?_;exact⟨rfl,hb⟩
end
end
section
open Go.RowKit open Go.Proofs (encStr)
theorem ZY(hh:∀k:Zy,Maps.has D (.string k.data.toList)=true↔k∈aj p L)
  (ha:∀k∈aj p L,∀z,D.atKey (.string k.data.toList) z=.lit (.int .i64 (blk (aA p k):Nat))) {x:List UInt8} {c:Option Addr} {y:DataW Unit × List MemPlace} (hv:eD (.pointer c)=some y) (hat:∀zd,D.atKey (.string x) zd=y.1):
  (⟨x.toArray⟩:Zy)∈aj p L/\c=some ⟨blk (aA p ⟨x.toArray⟩),0,none⟩:=by
 have e1:x=(⟨x.toArray⟩:Zy).data.toList:=by simp
 have hm:(⟨x.toArray⟩:Zy)∈aj p L:=by
  rw[<-hh,<-e1];exact Maps.has_true_of_atKey hat
 refine⟨hm,?_⟩;have h1:=ha _ hm (.lit (.int .i64 0));rw[<-e1,hat] at h1;obtain⟨y1,y2⟩:=y;simp only at h1;subst h1;have:=yZ hv;simpa using this
noncomputable def rU(L:List It)(p:Zy)(ss:List (List UInt8)):Nat:=(ss.map fun x=>oL L (aA p ⟨x.toArray⟩)).sum
theorem JL(L:List It)(p:Zy)(ss:List (List UInt8))(x:List UInt8):rU L p (ss++[x])=rU L p ss+oL L (aA p ⟨x.toArray⟩):=by simp[rU]
theorem TM{α:Type}(f:α->Nat){l l':List α}(h:l.Perm l'):(l.map f).sum=(l'.map f).sum:=by
 induction h with
 | nil=>rfl
 | cons x _ ih=>simp only[map_cons,sum_cons,ih]
 | swap x y l=>simp only[map_cons,sum_cons];omega
 | trans _ _ h1 h2=>exact h1.trans h2
theorem wm(ok:aC L)(p:Zy){ss:List (List UInt8)}(h:ss.Perm ((aj p L).map fun k=>k.data.toList)):(aj p L).length+rU L p ss=oL L p:=by
 rw[uj ok p,sum_add];congr 1
 ·generalize aj p L=l;induction l with
  | nil=>rfl
  | cons y l ih=>rw[map_cons,sum_cons,length_cons,ih];omega
 ·unfold rU;rw[TM _ h,map_map];rfl
theorem MN(L:List It)(p:Zy):oL L p<=L.length:=by
 unfold oL;induction L with
 | nil=>exact Zn
 | cons x L ih=>
  rw[map_cons,sum_cons,length_cons];have:Gu (fZ p x.path)<=1:=by unfold Gu;split<;>omega
  omega
theorem Qw(ok:aC L)(p:Zy)(ss:List (List UInt8)):rU L p ss<=ss.length*256:=by
 unfold rU;induction ss with
 | nil=>exact Zn
 | cons x ss ih=>
  rw[map_cons,sum_cons,length_cons];have:=MN L (aA p ⟨x.toArray⟩);have:=ok.few;omega
theorem lU(ok:aC L)(p:Zy):(aj p L).length<=256:=by
 have h1:=wm ok p (Perm.refl _);have h2:=MN L p;have h3:=ok.few;omega
theorem Qx{α:Type} [DecidableEq α]:∀(l l':List α),l.Nodup->(∀x∈l,x∈l')->l.length<=l'.length:=by
 intro l;induction l with
 | nil=>intro l' _ _;exact Nat.zero_le _
 | cons x l ih=>
  intro l' hn hs;rw[nodup_cons] at hn;have h1:=ih (l'.erase x) hn.2 (fun y hy=>(mem_erase_of_ne (fun e=>hn.1 (by rw[<-e];exact hy))).2 (hs y (by simp[hy])));have h2:=length_erase_of_mem (hs x (by simp));have h3:=length_pos_of_mem (hs x (by simp));rw[length_cons];omega
theorem DU{left:Go.Lit->Bool}{ss:List (List UInt8)}(hh:∀k:Zy,Maps.has D (.string k.data.toList)=true↔k∈aj p L)(h:Collected D left ss)(ok:aC L):ss.length<=256:=by
 have h1:ss.length<=((aj p L).map fun k=>k.data.toList).length:=by
  refine Qx _ _ h.1 ?_;intro x hx;have:=((h.2 x).1 hx).1;rw[show x=(⟨x.toArray⟩:Zy).data.toList by simp,hh] at this;exact mem_map.2 ⟨_,this,by simp⟩
 rw[length_map] at h1;have:=lU ok p;omega
theorem Gx{n:Nat}{left:Go.Lit->Bool}{c:Nat}(h:w.ranges prog 9 eD b r n D left c)(hb:Below w.heap.size w w'):w'.ranges prog 9 eD b r n D left c:=
 h.kept (row:=none) ⟨hb.os,hb.tape,hb.output,hb.size,fun i hi _=>hb.block i hi⟩ (by simp) (by simp)
theorem MO(hb:Below B w w1)(hg:w1.grownBy w2 (some r))(hr:B<=r)(hB:B<=w1.heap.size):Below B w w2:=
 ⟨hg.os.trans hb.os,hg.tape.trans hb.tape,hg.output.trans hb.output,Nat.le_trans hb.size hg.size,fun k hk=>(hg.block k (by omega) (by simp;omega)).trans (hb.block k hk)⟩
theorem DV(b:Nat)(w:World)(c0:w.cell? (Za b 0)=some (.map none)):
  Zc 157 #[Zp b] w fun e w'=>e=.returned (.int .i64 0)/\Below w.heap.size w w':=by
 have hl:∀ty w,(Builtin.len_ #[175] ty #[.map none]).run prog w=.ok (.int .i64 0) w:=fun ty w=>Maps.len_nil underlying175 ty;have hr:(Instr.range 175 (.map none)).run prog w=_:=run_range_nilMap w _ _ _ underlying175;have hx:∀ty,(Instr.next (Zp w.heap.size) false ty).run prog (w.alloc (.mapIter none 0 #[] 0))=_:=fun ty=>run_next_nilMap w ty 0 0 #[];go_enter func157,ntmps157;go_wp2;go_loopw [3] (fun nv wr=>nv=.int .i64 0/\wr=w.alloc (.mapIter none 0 #[] 0)) (fun _ _=>0)
 case atStart=>exact⟨rfl,rfl⟩
 case round=>
  obtain⟨rfl,rfl⟩:=hrel;go_wp2;go_ret;exact⟨rfl,(Below.refl _ w).alloc (Zn) _⟩
theorem Gy(ok:aC L):∀(m:Nat) (p:Zy) (w:World),300000-p.size<=m->dD w L blk mblk->(bC L p\/∃x∈L,x.path=p)->
  Zc 157 #[(Zp (blk p))] w fun e w'=>e=.returned ((Zi (oL L p)))/\Below w.heap.size w w':=by
 intro m;induction m with
 | zero=>
  intro p w hm _ hp;exfalso;rcases hp with(rfl|⟨y,hy,rfl,_⟩)|⟨y,hy,rfl⟩
  ·have h0:(⟨#[]⟩:Zy).size=0:=rfl;omega
  ·have:=ok.size y hy;omega
  ·have:=ok.size y hy;omega
 | succ m ih=>
  intro p w hm hT hp;have hcase:bC L p\/∃x∈L,x.path=p/\x.dir=false:=by
   rcases hp with hp|⟨x,hx,e⟩
   ·exact .inl hp
   ·cases hd:x.dir
    ·exact .inr ⟨x,hx,e,hd⟩
    ·exact .inl (.inr ⟨x,hx,e,hd⟩)
  rcases hcase with vZ|⟨x,hx,rfl,hd⟩
  ·obtain⟨c0,_,hdr⟩:=hT.dir p vZ;have hlen:=hdr.len ok;obtain⟨D,ho,hh,ha⟩:=hdr;have hsz:=pG ok ho hh;have gV:=lU ok p;have HH:Hid _:=hh;have HA:Hid _:=ha;have HZ:Hid _:=hsz;have HI:Hid _:=ih;clear hh ha hsz ih;go_enter func157,ntmps157;go_wp2_with(at_range;refine wpList_range_own _ rfl _ 175 rfl 9 111 nI underlying175 _ (mblk p) (Maps.size D) D rfl ho ?_;intro w0 hrg0 hg0 hs0);go_frame;go_loopw [3] (fun nv wr=>∃(left:Go.Lit->Bool) (c:Nat) (ss:List (List UInt8)),wr.ranges prog 9 eD (mblk p) w.heap.size (Maps.size D) D left c/\Collected D left ss/\nv=.int .i64 (((aj p L).length+rU L p ss:Nat):Int)/\Below w.heap.size w wr) (fun _ wr=>wr.rangeLeft (mblk p) w.heap.size)
   case atStart=>exact⟨Maps.has D,Maps.size D,[],hrg0,Collected.start D,rfl,⟨hg0.os,hg0.tape,hg0.output,hg0.size,fun k hk=>hg0.block k hk (by simp)⟩⟩
   case round=>
    obtain⟨left,c,ss,hrg,hC,rfl,hb⟩:=hrel;have hsl:=DU HH.out hC ok;have hsum:=Qw ok p ss;have HC:Hid _:=hC;clear hC;go_wp2_with(at_next;refine wpList_next_ranges _ rfl _ rfl 9 nI eD encStr Value.pointer (fun key kl hk=>by obtain⟨x,hx,_⟩:=Maps.keyOf_str underlying9 hk;exact⟨x,hx⟩) (fun v y hv=>Qv hv) (mblk p) w.heap.size (Maps.size D) D left c rfl hrg ?_ ?_)
    ·intro h0 hl0;have hall:Hid ((aj p L).length+rU L p ss=oL L p):=wm ok p ((Collected.perm HC.out ho nI underlying9 hl0).trans (uP ok ho HH.out).symm);go_wp2;go_ret;exact⟨FR (congrArg (Value.int .i64) (by rw[<-hall.out];omega)),hb⟩
    ·intro x cv kl y1 y2 w1 c1 hkey hlk hv hat hrg1 hlt1 hg1 hs1 hen;obtain⟨x',ex,rfl,hxl⟩:=Maps.keyOf_str underlying9 hkey;have ex':=encStr_inj ex;subst ex';obtain⟨hmem,rfl⟩:=ZY (y:=(y1,y2)) HH.out HA.out hv hat;obtain⟨hname,z,hz,hzp⟩:=(bD ok p _).1 hmem;have hsB:=hb.size;have hb1:Below w.heap.size w w1:=MO hb hg1 (Zn) hsB;have hT1:dD w1 L blk mblk:=hT.below hb1;have hgt:=gN p _ hname;have cR:=HI.out (aA p ⟨x.toArray⟩) w1 (by have:=ok.size z hz;rw[hzp] at this;omega) hT1 (.inr ⟨z,hz,hzp⟩);have hcl:=MN L (aA p ⟨x.toArray⟩);have hLf:=ok.few;have hst:Hid _:=Collected.step HC.out hlk hat;have hsn:Hid _:=JL L p ss x;go_wp2_with(go_at_call 157;refine cR.mono ?_;rintro e w2 ⟨rfl,hb2⟩);have hrg2:=Gx hrg1 hb2;refine⟨⟨_,c1,ss++[x],hrg2,hst.out,?_,hb1.trans (hb2.mono (by have:=hb1.size;omega))⟩,?_⟩
     ·rw[hsn.out];go_num
     ·rw[hrg2.left_eq,hrg.left_eq];omega
  ·rw[JG ok x hx hd];exact DV _ w (hT.file x hx hd).1
end
section
open Go.RowKit
theorem xK(s:Zy)(w:World)(h:s.size<=1000000):Zc 158 #[.string s] w fun e w'=>e=.returned (.string s)/\Below w.heap.size w w':=by
 have c:Zc 226 #[.string s] w fun e w'=>e=.returned (.string s)/\Below w.heap.size w w':=Any.stringslite_Clone Tryz.laysM316 s w (by omega);go_enter func158,ntmps158;go_wp2_with(go_at_call 226;refine c.mono ?_;rintro e w' ⟨rfl,hb⟩);go_ret;exact⟨rfl,hb⟩
theorem DW{n:Nat}(h:w.ownsMap prog 9 eD b n D)(hb:Below w.heap.size w w'):w'.ownsMap prog 9 eD b n D:=
 h.kept (row:=none) ⟨hb.os,hb.tape,hb.output,hb.size,fun i hi _=>hb.block i hi⟩ (by simp)
theorem rV{n:Nat}(ho:w.ownsMap prog 9 eD mb n D)(hn:n<=1000000)(c0:w.cell? (Za bd 0)=some (.map (some mb)))(k:Zy)(hk:k.size<=1000)(nb:Nat):
  Zc 91 #[Zp bd,.string k,Zp nb] w fun e w'=>
   e=.returned (.tuple #[])/\w'.ownsMap prog 9 eD mb (n+1) (D.put (.string k.data.toList) (.lit (.int .i64 (nb:Nat))))/\Fr w w' [mb]:=by
 have hcl:∀w,Zc 158 #[.string k] w fun e w'=>e=.returned (.string k)/\Below w.heap.size w w':=fun w=>xK k w (by omega);have l0:bd<w.drew.heap.size:=Zd c0;have hne:bd≠mb:=by
  rintro rfl;obtain⟨es,clock,h1,_⟩:=ho;simp[World.cell?,h1] at c0
 go_enter func91,ntmps91;go_region_held3 (fun w'=>w'.cell? (Za bd 0)=some (.map (some mb))) ((first|exact c0|exact ay (ay c0 (hb.block _ l0)) (ht2.grown.block _ (Nat.lt_of_lt_of_le l0 hb.size) (by simpa using hne))|exact ay c0 (hb.block _ l0)|go_keep)) ((go_at_call 158;refine(hcl _).mono ?_;rintro e w1 ⟨rfl,hb⟩;obtain⟨w2,hupd,ho2,ht2⟩:=(DW ho.drew hb).store (t:=175) (e:=111) nI underlying175 (by simp[maxLen];omega) (rQ k (by omega)) (TG nb)));go_end0;exact⟨rfl,ho2,((Fr.refl w [mb]).drew.trans (Fr.of_below hb []) (by simp)).grown ht2.grown (fun k hk=>.inl (by simp at hk;simp[hk]))⟩
def Aw(w w':World)(v:Value)(m:Option Nat)(d:Zy):Prop:=∃b,v=(Zp b)/\w.heap.size<=b/\b<w'.heap.size/\w'.cell? (Za b 0)=some (.map m)/\w'.cell? (Za b 1)=some (.string d)
theorem JM:(prog.info? 177).map (fun i=>(i.zero,i.size,i.bytes))=some (some (.agg #[.map none,.string ByteArray.empty]),2,24):=by kernel_rfl
theorem EX(W:World)(t:TypeId)(a b:Value):(W.alloc (.cells #[a,b] t)).cell? (Za W.heap.size 0)=some a/\(W.alloc (.cells #[a,b] t)).cell? (Za W.heap.size 1)=some b:=by
 have:=World.news_of_block (cs:=#[a,b]) (t:=t) (fr:=(0,0)) (heap_alloc_new W (.cells #[a,b] t));exact⟨this 0 a rfl,this 1 b rfl⟩
theorem wo(s:Zy)(w:World)(h:s.size<=1000000):Zc 164 #[.string s] w fun e w'=>∃v,e=.returned v/\Aw w w' v none s/\Below w.heap.size w w':=by
 obtain⟨i0,hi,hz0,hz1,hz2⟩:=info_parts JM;have c:=xK s w h;go_enter func164,ntmps164;go_wp2_with(go_at_call 158;refine c.mono ?_;rintro e w1 ⟨rfl,hb⟩);go_ret;have hs:=hb.size;obtain⟨n0,n1⟩:=EX w1 177 (.map none) (.string s);exact⟨_,rfl,⟨w1.heap.size,rfl,hs,by simp,n0,n1⟩,hb.alloc hs _⟩
theorem zb(w:World):Zc 92 #[] w fun e w'=>∃v mb,e=.returned v/\Aw w w' v (some mb) ⟨#[]⟩/\w.heap.size<=mb/\w'.ownsMap (H:=Unit) prog 9 eD mb 0 (.map [])/\Below w.heap.size w w':=by
 obtain⟨i0,hi,hz0,hz1,hz2⟩:=info_parts JM;have hmm:∀(t:TypeId) (w:World),(Instr.makeMap t none).run prog w=.ok (.map (some w.heap.size)) (w.alloc (.map #[] 0)):=fun t w=>run_makeMap t w;go_enter func92,ntmps92;go_wp2;go_ret;obtain⟨n0,n1⟩:=EX (w.alloc (.map #[] 0)) 177 (.map (some w.heap.size)) (.string ⟨#[]⟩);exact⟨_,w.heap.size,rfl,⟨(w.alloc (.map #[] 0)).heap.size,by simp,by simp,by simp,n0,n1⟩,Zn,(World.ownsMap_made w prog 9 eD).alloc _,((Below.refl _ w).alloc (Zn) _).alloc (by simp) _⟩
def gD(L:List It)(s:Zy):List It × Nat:=
 if bS L s≠0 then(L,bS L s) else if 0<=bJ L s then(L,8) else if tZ L s=false then(L,10) else(L++[⟨s,true,⟨#[]⟩⟩],0)
theorem oM(h:bS L s=0):(ax s).2=true/\(ax s).1.length≠0:=by
 unfold bS at h;split at h
 ·cases h
 ·rename_i hb;refine⟨?_,fun e=>hb (.inr e)⟩;cases hq:(ax s).2 with
  | false=>exact absurd (.inl hq) hb
  | true=>rfl
theorem wu(L:List It)(s:Zy):bS L s<=7:=by
 unfold bS;split
 ·omega
 ·split
  ·exact Jb _ _ _ _
  ·split<;>omega
structure eO(a:Nat->Addr)(w:World):Prop where
 err:∀k,k<12->w.cell? (Za k 0)=some (eF a k)
 maxl:∃m,w.cell? (Za 15 0)=some (.int .i64 m)
theorem eO.up(h:eO a w)(hb:Below w.heap.size w w'):eO a w':=
 ⟨fun k hk=>ay (h.err k hk) (hb.block k (Zd (h.err k hk))),by obtain⟨m,hm⟩:=h.maxl;exact⟨m,ay hm (hb.block _ (Zd hm))⟩⟩
theorem zO(s:Zy)(h:(ax s).2=true):(ax s).1.length=0↔s=⟨#[]⟩:=by
 constructor
 ·intro h0;have:=mH s h;rw[length_eq_zero_iff.1 h0] at this;exact this.symm
 ·rintro rfl;rfl
def nX(s:Zy):Prop:=(ax s).2=true/\(ax s).1.length≠0
theorem Wu(h:¬nX s):s=⟨#[]⟩\/(s≠⟨#[]⟩/\(ax s).2=false):=by
 by_cases h0:s=⟨#[]⟩
 ·exact .inl h0
 ·refine .inr ⟨h0,?_⟩;cases hn:(ax s).2
  ·rfl
  ·exact absurd ⟨hn,fun e=>h0 ((zO s hn).1 e)⟩ h
theorem iP(G:eO a w)(s:Zy)(hs:s.size<=1000000)(h:nX s):
  Zc 155 #[.string s] w fun e w'=>∃v,e=.returned (.tuple #[v,.nilIface])/\iF w' v (ax s).1/\Below w.heap.size w w':=by
 obtain⟨m,hm⟩:=G.maxl;have h0:s≠⟨#[]⟩:=fun e=>h.2 ((zO s h.1).2 e);have he:s.toList.isEmpty=false:=by rw[dP,decide_eq_false h0]
 have c:Zc 159 #[.string s] w fun e w'=>∃v,e=.returned (.tuple #[v,.nilIface])/\iF w' v (ax s).1/\Below w.heap.size w w':=by
  refine(oo s m a w hs hm (G.err 4 (by decide))).mono ?_;rintro e w' ⟨v,rfl,⟨_,v1,rfl,h1⟩|⟨hf,_⟩,hb⟩
  ·exact⟨v1,rfl,h1,hb⟩
  ·rw[h.1] at hf;cases hf
 go_enter func155,ntmps155;go_wp2_with(go_at_call 159;refine c.mono ?_;rintro e w' ⟨v,rfl,h1,hb⟩);refine bodyPost_ret (results_tmp2 rfl _ _ _) rfl ?_;exact⟨v,rfl,h1,hb⟩
theorem xL(G:eO a w)(s:Zy)(hs:s.size<=1000000)(h:¬nX s):
  Zc 155 #[.string s] w fun e w'=>e=.returned (.tuple #[.slice none 0 0,eF a 4])/\Below w.heap.size w w':=by
 obtain⟨m,hm⟩:=G.maxl;have h4:=G.err 4 (by decide);rcases Wu h with h0|⟨h0,hf⟩
 ·have he:s.toList.isEmpty=true:=by rw[dP,decide_eq_true h0]
  go_enter func155,ntmps155;go_wp2;go_region;go_wp2;refine bodyPost_ret (results_tmp2 rfl _ _ _) rfl ?_;exact⟨rfl,(Zr).drew⟩
 ·have he:s.toList.isEmpty=false:=by rw[dP,decide_eq_false h0]
  have c:Zc 159 #[.string s] w fun e w'=>e=.returned (.tuple #[.slice none 0 0,eF a 4])/\Below w.heap.size w w':=by
   refine(oo s m a w hs hm h4).mono ?_;rintro e w' ⟨v,rfl,⟨ht,v1,rfl,h1⟩|⟨_,rfl⟩,hb⟩
   ·rw[hf] at ht;cases ht
   ·exact⟨rfl,hb⟩
  go_enter func155,ntmps155;go_wp2_with(go_at_call 159;refine c.mono ?_;rintro e w' ⟨rfl,hb⟩);refine bodyPost_ret (results_tmp2 rfl _ _ _) rfl ?_;exact⟨rfl,hb⟩
theorem nK(h:nX s):bS L s=qf L (ax s).1:=TK L s h.1 h.2
theorem Qy(h:¬nX s):bS L s=5:=by
 unfold bS;rw[if_pos];cases hn:(ax s).2
 ·exact .inl rfl
 ·exact .inr (Classical.not_not.1 fun h0=>h ⟨hn,h0⟩)
structure eH(w:World)(q:Nat)(L:List It)(blk mblk:Zy->Nat):Prop where
 root:w.cell? (Za q 0)=some (.pointer (some ⟨blk ⟨#[]⟩,0,none⟩))
 tree:dD w L blk mblk
 ok:aC L
theorem eH.below{q:Nat}(h:eH w q L blk mblk)(hb:Below w.heap.size w w'):eH w' q L blk mblk:=
 ⟨ay h.root (hb.block _ (Zd h.root)),h.tree.below hb,h.ok⟩
section
variable {a:Nat->Addr}{w:World}{q:Nat}{L:List It}{blk mblk:Zy->Nat}
theorem lD(G:eO a w)(h:eH w q L blk mblk)(s:Zy)(hs:s.size<=1000000)(h0:bS L s=0)(n:Zy)(hn:(ax s).1=(ax s).1.take ((ax s).1.length-1)++[n]):
  Zc 89 #[Zp q,.string s] w fun e w'=>e=.returned (.tuple #[(Zp (blk (gy (ax s).1))),.string n,.nilIface])/\Below w.heap.size w w':=by
 have hlow:nX s:=oM h0;rw[nK hlow] at h0;have c:=iP G s hs hlow;have hr:=h.root;have hsz:=Ja s;have gV:=gJ s hlow.1;have HN:Hid _:=hn;clear hn;go_enter func89,ntmps89;go_wp2_with(go_at_call 155;refine c.mono ?_;rintro e w1 ⟨v,rfl,h1,hb⟩;have hr':=(h.below hb).root);have h':=h.below hb;have G':=G.up hb;have cA:=nJ h'.tree h'.ok a (ax s).1 n HN.out v h1 (iq s) (by omega) (G'.err 5 (by decide)) (G'.err 6 (by decide)) h0;go_wp2_with(go_at_call 156;refine cA.mono ?_;rintro e w2 ⟨rfl,hb2⟩);refine bodyPost_ret (results_tmp3 rfl _ _ _) rfl ?_;exact⟨rfl,hb.trans (hb2.mono hb.size)⟩
theorem xM(G:eO a w)(h:eH w q L blk mblk)(s:Zy)(hs:s.size<=1000000)(h0:bS L s≠0):
  Zc 89 #[Zp q,.string s] w fun e w'=>e=.returned (.tuple #[.pointer none,.string ⟨#[]⟩,eF a (bS L s-1)])/\Below w.heap.size w w':=by
 by_cases hlow:nX s
 ·rw[nK hlow] at h0⊢;have c:=iP G s hs hlow;have hr:=h.root;have gV:=gJ s hlow.1;have hne:=hlow.2;clear hlow;go_enter func89,ntmps89;go_wp2_with(go_at_call 155;refine c.mono ?_;rintro e w1 ⟨v,rfl,h1,hb⟩;have hr':=(h.below hb).root);have h':=h.below hb;have G':=G.up hb;have cA:=xJ h'.tree h'.ok a (ax s).1 hne v h1 (iq s) (by omega) (G'.err 5 (by decide)) (G'.err 6 (by decide)) h0;go_wp2_with(go_at_call 156;refine cA.mono ?_;rintro e w2 ⟨rfl,hb2⟩);refine bodyPost_ret (results_tmp3 rfl _ _ _) rfl ?_;exact⟨rfl,hb.trans (hb2.mono hb.size)⟩
 ·rw[Qy hlow];have c:=xL G s hs hlow;unfold eF at c;go_enter func89,ntmps89;go_wp2_with(go_at_call 155;refine c.mono ?_;rintro e w1 ⟨rfl,hb⟩);refine bodyPost_ret (results_tmp3 rfl _ _ _) rfl ?_;exact⟨rfl,hb⟩
theorem qg(h:eH w q L blk mblk)(p:Zy)(hd:bC L p):
  Zc 90 #[Zp q,(Zp (blk p))] w fun e w'=>e=.returned (.bool (!(decide ((aj p L).length<16)&&decide (L.length<256))))/\Below w.heap.size w w':=by
 obtain⟨c0,_,hdr⟩:=h.tree.dir p hd;have hlen:=hdr.len h.ok;have hr:=h.root;have gV:=lU h.ok p;have cC:=Gy h.ok 300000 ⟨#[]⟩ w (by omega) h.tree (.inl (.inl rfl));rw[xH h.ok] at cC;have hL:=h.ok.few;by_cases h16:(aj p L).length<16
 ·have i16:¬(16:Int)<=((aj p L).length:Int):=by omega
  rw[decide_eq_true h16,Bool.true_and];go_enter func90,ntmps90;go_wp2_with(go_at_call 157;refine cC.mono ?_;rintro e w1 ⟨rfl,hb⟩);go_ret;refine⟨FR (congrArg Value.bool ?_),hb⟩;rw[Bool.eq_iff_iff];simp;omega
 ·have i16:(16:Int)<=((aj p L).length:Int):=by omega
  rw[decide_eq_false h16,Bool.false_and];go_enter func90,ntmps90;go_wp2;go_ret;exact⟨rfl,Zr⟩
end
def eY(L:List It)(s:Zy):List It × Nat:=
 if bS L s≠0 then(L,bS L s) else if bJ L s<0 then(L,6) else if 0<(aj s L).length then(L,9) else(L.eraseIdx (bJ L s).toNat,0)
theorem mU{n:Nat}(h:w.ownsMap prog 9 eD b n D):w.ownsMap prog 9 eD b (Maps.size D) D:=by
 obtain⟨es,clock,h1,h2,h3,rfl⟩:=h;exact⟨es,clock,h1,h2,by simp[Maps.size,length_sorted],rfl⟩
theorem ze(h:k≠n):(Lit.string k.data.toList)≠ .string n.data.toList:=fun e=>h (ji (by simpa using e))
theorem isKey(k:Zy):WideAt.IsKeyLit (.string k.data.toList):=by simp[WideAt.IsKeyLit]
section
variable {w w':World}{L L':List It}{p:Zy}{mb:Nat}{blk mr:Zy->Nat}
theorem O7(hh:∀k:Zy,Maps.has D (.string k.data.toList)=true↔k∈aj p L)(ha:∀k∈aj p L,∀z,D.atKey (.string k.data.toList) z=.lit (.int .i64 (blk (aA p k):Nat)))
  (hm:Maps.IsMap D) (ho:w'.ownsMap prog 9 eD mb m (D.put (.string n.data.toList) (.lit (.int .i64 (nb:Nat))))) (hk:∀k,k∈aj p L'↔k∈aj p L\/k=n) (hb:∀k,k∈aj p L->k≠n->mr (aA p k)=blk (aA p k)) (hn:mr (aA p n)=nb):lC w' L' p mb mr:=by
 refine⟨_,mU ho,fun k=>?_,fun k hk' z=>?_⟩
 ·rw[hk k];by_cases e:k=n
  ·subst e;rw[Maps.has_put_same hm (isKey _)];simp
  ·rw[Maps.has_put_other (ze e),hh k];simp[e]
 ·by_cases e:k=n
  ·subst e;rw[Maps.atKey_put_same hm (isKey _),hn]
  ·have hk2:k∈aj p L:=by
    rcases(hk k).1 hk' with h|h
    ·exact h
    ·exact absurd h e
   rw[Maps.atKey_put_other (ze e),ha k hk2,hb k hk2 e]
theorem Wv(hh:∀k:Zy,Maps.has D (.string k.data.toList)=true↔k∈aj p L)(ha:∀k∈aj p L,∀z,D.atKey (.string k.data.toList) z=.lit (.int .i64 (blk (aA p k):Nat)))
  (ho:w'.ownsMap prog 9 eD mb m (D.del (.string n.data.toList))) (hk:∀k,k∈aj p L'↔k∈aj p L/\k≠n):lC w' L' p mb blk:=by
 refine⟨_,mU ho,fun k=>?_,fun k hk' z=>?_⟩
 ·rw[hk k];by_cases e:k=n
  ·subst e;rw[Maps.has_del_same];simp
  ·rw[Maps.has_del_other (ze e),hh k];simp[e]
 ·obtain⟨h1,h2⟩:=(hk k).1 hk';rw[Maps.atKey_del_other (ze h2),ha k h1]
theorem Bz(h:lC w L p mb blk)(hw:w'.heap[mb]? =w.heap[mb]?)(hk:∀k,k∈aj p L'↔k∈aj p L)(hb:∀k,k∈aj p L->mr (aA p k)=blk (aA p k)):lC w' L' p mb mr:=by
 obtain⟨D,ho,hh,ha⟩:=h.kept hw;exact⟨D,ho,fun k=>by rw[hk,hh],fun k hk' z=>by rw[ha k ((hk k).1 hk'),hb k ((hk k).1 hk')]⟩
end
def Dm(f:Zy->Nat)(s:Zy)(v:Nat):Zy->Nat:=fun x=>if x=s then v else f x
theorem jF(f:Zy->Nat)(s:Zy)(v:Nat):Dm f s v s=v:=by unfold Dm;rw[if_pos rfl]
theorem fD(f:Zy->Nat){x:Zy}(v:Nat)(h:x≠s):Dm f s v x=f x:=by unfold Dm;rw[if_neg h]
theorem kT:bC (L++[y]) q↔bC L q\/(y.path=q/\y.dir=true):=by
 unfold bC;constructor
 ·rintro(h|⟨z,hz,h1,h2⟩)
  ·exact .inl (.inl h)
  ·rcases mem_append.1 hz with hz|hz
   ·exact .inl (.inr ⟨z,hz,h1,h2⟩)
   ·rw[Zm.1 hz] at h1 h2;exact .inr ⟨h1,h2⟩
 ·rintro((h|⟨z,hz,h1,h2⟩)|⟨h1,h2⟩)
  ·exact .inl h
  ·exact .inr ⟨z,by simp[hz],h1,h2⟩
  ·exact .inr ⟨y,by simp,h1,h2⟩
theorem aC.snoc(ok:aC L)(hn:aO (af n)=true)(hd:bC L p)(hno:n∉aj p L)(hs:(aA p n).size<=262144)(hl:L.length<256)(dir:Bool)(d:Zy)(hd1:d.size<=1536)(hd2:dir=true->d=⟨#[]⟩):aC (L++[⟨aA p n,dir,d⟩]):=by
 have hnot:∀x∈L,x.path≠aA p n:=fun x hx e=>hno ((bD ok p n).2 ⟨hn,x,hx,e⟩);refine⟨?_,?_,?_,?_,by simp;omega,?_⟩
 ·rw[map_append,nodup_append];refine⟨ok.apart,by simp,fun a ha b hb=>?_⟩;simp at hb;obtain⟨x,hx,rfl⟩:=mem_map.1 ha;rw[hb];exact hnot x hx
 ·intro x hx;rcases mem_append.1 hx with hx|hx
  ·obtain⟨q,k,e,hk,hdq⟩:=ok.up x hx;exact⟨q,k,e,hk,kT.2 (.inl hdq)⟩
  ·rw[Zm.1 hx];exact⟨p,n,rfl,hn,kT.2 (.inl hd)⟩
 ·intro x hx;rcases mem_append.1 hx with hx|hx
  ·exact ok.size x hx
  ·rw[Zm.1 hx];exact hs
 ·intro x hx;rcases mem_append.1 hx with hx|hx
  ·exact ok.data x hx
  ·rw[Zm.1 hx];exact hd1
 ·intro x hx hxd;rcases mem_append.1 hx with hx|hx
  ·exact ok.bare x hx hxd
  ·rw[Zm.1 hx] at hxd⊢;exact hd2 hxd
theorem uQ(ok:aC L)(hn:aO (af n)=true)(dir:Bool)(d:Zy)(ok':aC (L++[⟨aA p n,dir,d⟩]))(q k:Zy):k∈aj q (L++[⟨aA p n,dir,d⟩])↔k∈aj q L\/(q=p/\k=n):=by
 rw[bD ok',bD ok];constructor
 ·rintro⟨hk,x,hx,e⟩;rcases mem_append.1 hx with hx|hx
  ·exact .inl ⟨hk,x,hx,e⟩
  ·rw[Zm.1 hx] at e;obtain⟨e1,e2⟩:=ig hn hk e;exact .inr ⟨e1.symm,e2.symm⟩
 ·rintro(⟨hk,x,hx,e⟩|⟨rfl,rfl⟩)
  ·exact⟨hk,x,by simp[hx],e⟩
  ·exact⟨hn,⟨aA q k,dir,d⟩,by simp,rfl⟩
theorem dD.snoc(h:dD w L blk mblk)(ok:aC L)(hn:aO (af n)=true)(hd:bC L p)(hno:n∉aj p L)(ok':aC (L++[⟨aA p n,dir,d⟩]))
  (f:Fr w w' [mblk p]) (nb nm:Nat) (hnm:∀q,bC L q->mblk q≠nm) (D:DataW Unit) (hh:∀k:Zy,Maps.has D (.string k.data.toList)=true↔k∈aj p L) (ha:∀k∈aj p L,∀z,D.atKey (.string k.data.toList) z=.lit (.int .i64 (blk (aA p k):Nat)))
  (hm:Maps.IsMap D) (m:Nat) (ho:w'.ownsMap prog 9 eD (mblk p) m (D.put (.string n.data.toList) (.lit (.int .i64 (nb:Nat)))))
  (um:dir=false->w'.cell? (Za nb 0)=some (.map none)/\w'.cell? (Za nb 1)=some (.string d))
  (vZ:dir=true->w'.cell? (Za nb 0)=some (.map (some nm))/\w'.cell? (Za nb 1)=some (.string ⟨#[]⟩)/\∃m,w'.ownsMap (H:=Unit) prog 9 eD nm m (.map [])):
  dD w' (L++[⟨aA p n,dir,d⟩]) (Dm blk (aA p n) nb) (Dm mblk (aA p n) nm):=by
 have hnot:∀x∈L,x.path≠aA p n:=fun x hx e=>hno ((bD ok p n).2 ⟨hn,x,hx,e⟩);have TN:∀q,bC L q->q≠aA p n:=by
  rintro q (rfl|⟨y,hy,rfl,_⟩) e
  ·exact ja p n hn e.symm
  ·exact hnot y hy e
 have hkne:∀q k,k∈aj q L->aA q k≠aA p n:=by
  intro q k hk e;obtain⟨_,x,hx,e2⟩:=(bD ok q k).1 hk;exact hnot x hx (e2.trans e)
 have blt:∀q,bC L q->blk q≠mblk p:=by
  intro q hq e;obtain⟨c0,_,_⟩:=h.dir q hq;obtain⟨_,_,D',⟨es,clock,h1,_⟩,_⟩:=h.dir p hd;rw[e] at c0;simp[World.cell?,h1] at c0
 refine⟨?_,?_,?_⟩
 ·intro q hq;by_cases e:q=aA p n
  ·subst e;have hdd:dir=true:=by
    rcases kT.1 hq with hq|⟨_,hq⟩
    ·exact absurd rfl (TN _ hq)
    ·exact hq
   obtain⟨c0,c1,m',hm'⟩:=vZ hdd;rw[jF,jF];refine⟨c0,c1,.map [],mU hm',fun k=>?_,fun k hk=>?_⟩
   ·constructor
    ·intro hx;cases hx
    ·intro hk;exfalso;rw[uQ ok hn dir d ok'] at hk;rcases hk with hk|⟨e1,_⟩
     ·obtain⟨hkn,x,hx,ex⟩:=(bD ok _ k).1 hk;have hx2:=fZ.dir ok (p:=aA p n) (x:=x.path) (by rw[ex];exact .one k hkn) ⟨x,hx,rfl⟩;exact TN _ hx2 rfl
     ·have:=gN p n hn;rw[e1] at this;omega
   ·exfalso;rw[uQ ok hn dir d ok'] at hk;rcases hk with hk|⟨e1,_⟩
    ·obtain⟨hkn,x,hx,ex⟩:=(bD ok _ k).1 hk;have hx2:=fZ.dir ok (p:=aA p n) (x:=x.path) (by rw[ex];exact .one k hkn) ⟨x,hx,rfl⟩;exact TN _ hx2 rfl
    ·have:=gN p n hn;rw[e1] at this;omega
  ·have hq2:bC L q:=by
    rcases kT.1 hq with hq|⟨hq,_⟩
    ·exact hq
    ·exact absurd hq.symm e
   obtain⟨c0,c1,hdr⟩:=h.dir q hq2;have hb:=f.block _ (Zd c0) (by simpa using blt q hq2);rw[fD blk nb e,fD mblk nm e];refine⟨ay c0 hb,ay c1 hb,?_⟩;by_cases eq:q=p
   ·subst eq;refine O7 hh ha hm ho (fun k=>?_) (fun k hk _=>fD blk nb (hkne _ k hk)) (jF _ _ _);rw[uQ ok hn dir d ok'];simp
   ·refine Bz hdr (f.block _ hdr.lt (by simp;exact fun e2=>eq (h.apart q p hq2 hd e2))) (fun k=>?_) (fun k hk=>fD blk nb (hkne _ k hk));rw[uQ ok hn dir d ok'];simp[eq]
 ·intro x hx hxd;rcases mem_append.1 hx with hx|hx
  ·obtain⟨c0,c1⟩:=h.file x hx hxd;have hb:=f.block _ (Zd c0) (by
    simp;intro e;obtain⟨_,_,D',⟨es,clock,h1,_⟩,_⟩:=h.dir p hd;rw[e] at c0;simp[World.cell?,h1] at c0)
   rw[fD blk nb (hnot x hx)];exact⟨ay c0 hb,ay c1 hb⟩
  ·rw[Zm.1 hx] at hxd⊢;rw[jF];exact um hxd
 ·intro q r hq hr e;by_cases e1:q=aA p n
  ·by_cases e2:r=aA p n
   ·rw[e1,e2]
   ·exfalso;have hr2:bC L r:=by
     rcases kT.1 hr with hr|⟨hr,_⟩
     ·exact hr
     ·exact absurd hr.symm e2
    rw[e1,jF,fD mblk nm e2] at e;exact hnm r hr2 e.symm
  ·have hq2:bC L q:=by
    rcases kT.1 hq with hq|⟨hq,_⟩
    ·exact hq
    ·exact absurd hq.symm e1
   by_cases e2:r=aA p n
   ·exfalso;rw[e2,jF,fD mblk nm e1] at e;exact hnm q hq2 e
   ·have hr2:bC L r:=by
     rcases kT.1 hr with hr|⟨hr,_⟩
     ·exact hr
     ·exact absurd hr.symm e2
    rw[fD mblk nm e1,fD mblk nm e2] at e;exact h.apart q r hq2 hr2 e
theorem JN(hb:H<=nb)(hm:H<=nm):∀b∈aP (L++[⟨s,dir,d⟩]) (Dm blk s nb) (Dm mblk s nm),b∈aP L blk mblk\/H<=b:=by
 have key:∀x:Zy,(Dm blk s nb x=blk x\/H<=Dm blk s nb x)/\(Dm mblk s nm x=mblk x\/H<=Dm mblk s nm x):=by
  intro x;unfold Dm;split
  ·exact⟨.inr hb,.inr hm⟩
  ·exact⟨.inl rfl,.inl rfl⟩
 intro b hb';unfold aP at hb'⊢;rcases mem_cons.1 hb' with rfl|hb'
 ·rcases(key ⟨#[]⟩).1 with e|e
  ·rw[e];exact .inl (by simp)
  ·exact .inr e
 ·rcases mem_cons.1 hb' with rfl|hb'
  ·rcases(key ⟨#[]⟩).2 with e|e
   ·rw[e];exact .inl (by simp)
   ·exact .inr e
  ·obtain⟨x,hx,hmem⟩:=mem_flatMap.1 hb';rcases mem_append.1 hx with hx|hx
   ·cases hd:x.dir
    ·rw[hd] at hmem;simp at hmem;rw[hmem];rcases(key x.path).1 with e|e
     ·rw[e];exact .inl (mem_cons_of_mem _ (mem_cons_of_mem _ (mem_flatMap.2 ⟨x,hx,by rw[hd];simp⟩)))
     ·exact .inr e
    ·rw[hd] at hmem;simp at hmem;rcases hmem with rfl|rfl
     ·rcases(key x.path).1 with e|e
      ·rw[e];exact .inl (mem_cons_of_mem _ (mem_cons_of_mem _ (mem_flatMap.2 ⟨x,hx,by rw[hd];simp⟩)))
      ·exact .inr e
     ·rcases(key x.path).2 with e|e
      ·rw[e];exact .inl (mem_cons_of_mem _ (mem_cons_of_mem _ (mem_flatMap.2 ⟨x,hx,by rw[hd];simp⟩)))
      ·exact .inr e
   ·rw[Zm.1 hx] at hmem;have:b=nb\/b=nm:=by
     cases dir
     ·simp[jF] at hmem;exact .inl hmem
     ·simp[jF] at hmem;exact hmem
    rcases this with rfl|rfl
    ·exact .inr hb
    ·exact .inr hm
theorem wB(hi:i<L.length)(h:x∈setDat L i d):(x=⟨L[i].path,L[i].dir,d⟩)\/x∈L:=by
 unfold setDat at h;obtain⟨j,hj,e⟩:=mem_iff_getElem.1 h;rw[getElem_modify] at e;split at e
 ·rename_i e2;subst e2;exact .inl e.symm
 ·exact .inr (by rw[<-e];exact Zg _)
theorem rY(L:List It)(i:Nat)(d:Zy):(setDat L i d).map It.path=L.map It.path:=by
 apply ext_getElem
 ·simp[setDat]
 ·intro j h1 h2;simp only[getElem_map,setDat,getElem_modify];split
  ·rfl
  ·rfl
theorem zP(L:List It)(i:Nat)(d:Zy):(setDat L i d).map (fun x=>(x.path,x.dir))=L.map (fun x=>(x.path,x.dir)):=by
 apply ext_getElem
 ·simp[setDat]
 ·intro j h1 h2;simp only[getElem_map,setDat,getElem_modify];split
  ·rfl
  ·rfl
theorem oq:bC (setDat L i d) q↔bC L q:=by
 have h:∀L:List It,bC L q↔q=⟨#[]⟩\/(q,true)∈L.map (fun x=>(x.path,x.dir)):=by
  intro L;unfold bC;simp only[mem_map,Prod.mk.injEq]
 rw[h,h,zP]
theorem wD:(∃x∈setDat L i d,x.path=q)↔∃x∈L,x.path=q:=by
 have h:∀L:List It,(∃x∈L,x.path=q)↔q∈L.map It.path:=by intro L;simp only[mem_map]
 rw[h,h,rY]
theorem aC.setDat(ok:aC L)(hi:i<L.length)(hd:L[i].dir=false)(h1:d.size<=1536):aC (setDat L i d):=by
 refine⟨by rw[rY];exact ok.apart,?_,?_,?_,by rw[vC];exact ok.few,?_⟩
 ·intro x hx;have:∃y∈L,y.path=x.path:=wD.1 ⟨x,hx,rfl⟩;obtain⟨y,hy,e⟩:=this;obtain⟨p,k,e2,hk,hdp⟩:=ok.up y hy;exact⟨p,k,by rw[<-e,e2],hk,oq.2 hdp⟩
 ·intro x hx;obtain⟨y,hy,e⟩:=wD.1 ⟨x,hx,rfl⟩;rw[<-e];exact ok.size y hy
 ·intro x hx;rcases wB hi hx with rfl|hx
  ·exact h1
  ·exact ok.data x hx
 ·intro x hx hxd;rcases wB hi hx with rfl|hx
  ·rw[hd] at hxd;cases hxd
  ·exact ok.bare x hx hxd
theorem zQ(ok:aC L)(ok':aC (setDat L i d))(q k:Zy):k∈aj q (setDat L i d)↔k∈aj q L:=by
 rw[bD ok',bD ok,wD]
theorem dD.setDat(h:dD w L blk mblk)(ok:aC L)(hn:aO (af n)=true)(hd:bC L p)(hi:i<L.length)(hp:L[i].path=aA p n)(hxd:L[i].dir=false)(ok':aC (setDat L i d))
  (f:Fr w w' [mblk p]) (nb:Nat) (D:DataW Unit) (hh:∀k:Zy,Maps.has D (.string k.data.toList)=true↔k∈aj p L) (ha:∀k∈aj p L,∀z,D.atKey (.string k.data.toList) z=.lit (.int .i64 (blk (aA p k):Nat)))
  (hm:Maps.IsMap D) (m:Nat) (ho:w'.ownsMap prog 9 eD (mblk p) m (D.put (.string n.data.toList) (.lit (.int .i64 (nb:Nat)))))
  (um:w'.cell? (Za nb 0)=some (.map none)/\w'.cell? (Za nb 1)=some (.string d)):
  dD w' (setDat L i d) (Dm blk (aA p n) nb) mblk:=by
 have hmem:n∈aj p L:=(bD ok p n).2 ⟨hn,L[i],Zg hi,hp⟩;have TN:∀q,bC L q->q≠aA p n:=by
  rintro q (rfl|⟨y,hy,rfl,MP⟩) e
  ·exact ja p n hn e.symm
  ·rw[ok.one hy (Zg hi) (e.trans hp.symm),hxd] at MP;cases MP
 have JO:∀b v,w.cell? (Za b 0)=some v->b≠mblk p:=by
  intro b v c0 e;obtain⟨_,_,D',⟨es,clock,h1,_⟩,_⟩:=h.dir p hd;rw[e] at c0;simp[World.cell?,h1] at c0
 refine⟨?_,?_,fun q r hq hr=>h.apart q r (oq.1 hq) (oq.1 hr)⟩
 ·intro q hq;have hq2:=oq.1 hq;obtain⟨c0,c1,hdr⟩:=h.dir q hq2;have hb:=f.block _ (Zd c0) (by simpa using JO _ _ c0);rw[fD blk nb (TN q hq2)];refine⟨ay c0 hb,ay c1 hb,?_⟩;by_cases eq:q=p
  ·subst eq;refine O7 hh ha hm ho (fun k=>?_) (fun k hk hkn=>fD blk nb (fun e=>hkn (ig ((bD ok _ k).1 hk).1 hn e).2)) (jF _ _ _);rw[zQ ok ok'];constructor
   ·exact .inl
   ·rintro(h|rfl)
    ·exact h
    ·exact hmem
  ·refine Bz hdr (f.block _ hdr.lt (by simp;exact fun e2=>eq (h.apart q p hq2 hd e2))) (fun k=>zQ ok ok' q k) (fun k hk=>fD blk nb (fun e=>eq (ig ((bD ok _ k).1 hk).1 hn e).1))
 ·intro x hx Ww;rcases wB hi hx with rfl|hx2
  ·simp only at Ww⊢;rw[hp,jF];exact um
  ·by_cases e:x.path=aA p n
   ·have hxx:x=⟨L[i].path,L[i].dir,d⟩\/True:=.inr trivial;rw[e,jF];have hone:=(aC.one ok' hx (y:=⟨L[i].path,L[i].dir,d⟩) (by
     refine mem_iff_getElem.2 ⟨i,by rw[vC];exact hi,?_⟩;unfold Go.Proofs.YtdidjdoifpfmmaaGreatDoor.setDat;rw[getElem_modify,if_pos rfl]) (by rw[e,hp]))
    rw[hone];exact um
   ·obtain⟨c0,c1⟩:=h.file x hx2 Ww;have hb:=f.block _ (Zd c0) (by simpa using JO _ _ c0);rw[fD blk nb e];exact⟨ay c0 hb,ay c1 hb⟩
theorem vL(L:List It)(blk mblk:Zy->Nat):aP L blk mblk=blk ⟨#[]⟩::mblk ⟨#[]⟩::(L.map fun x=>(x.path,x.dir)).flatMap (fun y=>if y.2 then [blk y.1,mblk y.1] else [blk y.1]):=by
 unfold aP;rw[flatMap_map]
theorem DX(hb:H<=nb):∀b∈aP (setDat L i d) (Dm blk s nb) mblk,b∈aP L blk mblk\/H<=b:=by
 have key:∀x:Zy,(Dm blk s nb x=blk x\/H<=Dm blk s nb x):=by
  intro x;unfold Dm;split
  ·exact .inr hb
  ·exact .inl rfl
 intro b hb';rw[vL,zP] at hb';rw[vL];rcases mem_cons.1 hb' with rfl|hb'
 ·rcases key ⟨#[]⟩ with e|e
  ·rw[e];exact .inl (by simp)
  ·exact .inr e
 ·rcases mem_cons.1 hb' with rfl|hb'
  ·exact .inl (by simp)
  ·obtain⟨y,hy,hmem⟩:=mem_flatMap.1 hb';have:b=mblk y.1/\y.2=true\/b=Dm blk s nb y.1:=by
    cases hd:y.2
    ·rw[hd] at hmem;simp at hmem;exact .inr hmem
    ·rw[hd] at hmem;simp at hmem;rcases hmem with h|h
     ·exact .inr h
     ·exact .inl ⟨h,rfl⟩
   rcases this with⟨rfl,hd⟩|rfl
   ·exact .inl (mem_cons_of_mem _ (mem_cons_of_mem _ (mem_flatMap.2 ⟨y,hy,by rw[if_pos hd];simp⟩)))
   ·rcases key y.1 with e|e
    ·rw[e];exact .inl (mem_cons_of_mem _ (mem_cons_of_mem _ (mem_flatMap.2 ⟨y,hy,by split<;>simp⟩)))
    ·exact .inr e
theorem jh(ok:aC L)(hi:i<L.length):x∈L.eraseIdx i↔x∈L/\x.path≠L[i].path:=by
 rw[mem_eraseIdx_iff_getElem];constructor
 ·rintro⟨j,hj,hne,rfl⟩;refine⟨Zg _,fun e=>hne ?_⟩;have h1:=ok.apart;have h2:=pairwise_iff_getElem.1 h1;rcases Nat.lt_trichotomy j i with hlt|he|hlt
  ·exact absurd (by rw[getElem_map,getElem_map];exact e) (h2 j i (by simpa using hj) (by simpa using hi) hlt)
  ·exact he
  ·exact absurd (by rw[getElem_map,getElem_map];exact e.symm) (h2 i j (by simpa using hi) (by simpa using hj) hlt)
 ·rintro⟨hx,hne⟩;obtain⟨j,hj,rfl⟩:=mem_iff_getElem.1 hx;exact⟨j,hj,fun e=>hne (by subst e;rfl),rfl⟩
section
variable {L:List It}{i:Nat}{p n:Zy}
theorem qh(ok:aC L)(hi:i<L.length)(hp:L[i].path=aA p n)(hn:aO (af n)=true):bC (L.eraseIdx i) q↔bC L q/\q≠aA p n:=by
 unfold bC;constructor
 ·rintro(rfl|⟨y,hy,rfl,MP⟩)
  ·exact⟨.inl rfl,fun e=>ja p n hn e.symm⟩
  ·obtain⟨h1,h2⟩:=(jh ok hi).1 hy;exact⟨.inr ⟨y,h1,rfl,MP⟩,by rw[<-hp];exact h2⟩
 ·rintro⟨rfl|⟨y,hy,rfl,MP⟩,hne⟩
  ·exact .inl rfl
  ·exact .inr ⟨y,(jh ok hi).2 ⟨hy,by rw[hp];exact hne⟩,rfl,MP⟩
theorem aC.erase(ok:aC L)(hi:i<L.length)(hp:L[i].path=aA p n)(hn:aO (af n)=true)(h0:aj (aA p n) L=[]):aC (L.eraseIdx i):=by
 refine⟨?_,?_,fun x hx=>ok.size x ((jh ok hi).1 hx).1,fun x hx=>ok.data x ((jh ok hi).1 hx).1,?_,fun x hx=>ok.bare x ((jh ok hi).1 hx).1⟩
 ·exact ok.apart.sublist ((eraseIdx_sublist _ _).map _)
 ·intro x hx;obtain⟨q,k,e,hk,hd⟩:=ok.up x ((jh ok hi).1 hx).1;refine⟨q,k,e,hk,(qh ok hi hp hn).2 ⟨hd,fun e2=>?_⟩⟩;have:=(bD ok q k).2 ⟨hk,x,((jh ok hi).1 hx).1,e⟩;rw[e2,h0] at this;cases this
 ·have:=(eraseIdx_sublist L i).length_le;have:=ok.few;omega
theorem BA(ok:aC L)(hi:i<L.length)(hp:L[i].path=aA p n)(hn:aO (af n)=true)(ok':aC (L.eraseIdx i))(q k:Zy):k∈aj q (L.eraseIdx i)↔k∈aj q L/\¬(q=p/\k=n):=by
 rw[bD ok',bD ok];constructor
 ·rintro⟨hk,x,hx,e⟩;obtain⟨h1,h2⟩:=(jh ok hi).1 hx;exact⟨⟨hk,x,h1,e⟩,fun⟨e1,e2⟩=>h2 (by rw[e,hp,e1,e2])⟩
 ·rintro⟨⟨hk,x,hx,e⟩,hne⟩;refine⟨hk,x,(jh ok hi).2 ⟨hx,fun e2=>hne ?_⟩,e⟩;rw[hp,e] at e2;exact ig hk hn e2
theorem dD.erase(h:dD w L blk mblk)(ok:aC L)(hi:i<L.length)(hp:L[i].path=aA p n)(hn:aO (af n)=true)(hd:bC L p)(ok':aC (L.eraseIdx i))
  (f:Fr w w' [mblk p]) (D:DataW Unit) (hh:∀k:Zy,Maps.has D (.string k.data.toList)=true↔k∈aj p L) (ha:∀k∈aj p L,∀z,D.atKey (.string k.data.toList) z=.lit (.int .i64 (blk (aA p k):Nat)))
  (m:Nat) (ho:w'.ownsMap prog 9 eD (mblk p) m (D.del (.string n.data.toList))):dD w' (L.eraseIdx i) blk mblk:=by
 have JO:∀b v,w.cell? (Za b 0)=some v->b≠mblk p:=by
  intro b v c0 e;obtain⟨_,_,D',⟨es,clock,h1,_⟩,_⟩:=h.dir p hd;rw[e] at c0;simp[World.cell?,h1] at c0
 refine⟨?_,?_,fun q r hq hr=>h.apart q r ((qh ok hi hp hn).1 hq).1 ((qh ok hi hp hn).1 hr).1⟩
 ·intro q hq;have hq2:=((qh ok hi hp hn).1 hq).1;obtain⟨c0,c1,hdr⟩:=h.dir q hq2;have hb:=f.block _ (Zd c0) (by simpa using JO _ _ c0);refine⟨ay c0 hb,ay c1 hb,?_⟩;by_cases eq:q=p
  ·subst eq;refine Wv hh ha ho (fun k=>?_);rw[BA ok hi hp hn ok'];simp
  ·refine Bz hdr (f.block _ hdr.lt (by simp;exact fun e2=>eq (h.apart q p hq2 hd e2))) (fun k=>?_) (fun k hk=>rfl);rw[BA ok hi hp hn ok'];simp[eq]
 ·intro x hx hxd;obtain⟨c0,c1⟩:=h.file x ((jh ok hi).1 hx).1 hxd;have hb:=f.block _ (Zd c0) (by simpa using JO _ _ c0);exact⟨ay c0 hb,ay c1 hb⟩
theorem Gz(blk mblk:Zy->Nat):∀b∈aP (L.eraseIdx i) blk mblk,b∈aP L blk mblk:=by
 intro b hb;unfold aP at hb⊢;rcases mem_cons.1 hb with rfl|hb
 ·simp
 ·rcases mem_cons.1 hb with rfl|hb
  ·simp
  ·obtain⟨x,hx,hm⟩:=mem_flatMap.1 hb;exact mem_cons_of_mem _ (mem_cons_of_mem _ (mem_flatMap.2 ⟨x,(eraseIdx_sublist _ _).subset hx,hm⟩))
end
def dx(a:Nat->Addr)(c:Nat):Value:=if c=0 then .nilIface else eF a (c-1)
theorem jT(a:Nat->Addr){c:Nat}(h:c≠0):dx a c=eF a (c-1):=by unfold dx;rw[if_neg h]
def jU(w w':World)(q:Nat)(L L':List It)(blk mblk:Zy->Nat):Prop:=
 ∃mr qi,eH w' q L' mr qi/\(∀b∈aP L' mr qi,b∈aP L blk mblk\/w.heap.size<=b)/\Fr w w' (aP L blk mblk)
section
variable {a:Nat->Addr}{w:World}{q:Nat}{L:List It}{blk mblk:Zy->Nat}
theorem eH.same(h:eH w q L blk mblk)(hb:Below w.heap.size w w'):jU w w' q L L blk mblk:=
 ⟨blk,mblk,h.below hb,fun _ hb=>.inl hb,Fr.of_below hb _⟩
theorem eH.look(h:eH w q L blk mblk)(hn:aO (af n)=true)(hd:bC L p)(w2:World)(hb:Below w.heap.size w w2):
  w2.cell? (Za (blk p) 0)=some (.map (some (mblk p)))/\(n∈aj p L->(Instr.lookup 175 (.map (some (mblk p))) (.string n) true).run prog w2=.ok (.tuple #[(Zp (blk (aA p n))),.bool true]) w2)/\
  (n∉aj p L->(Instr.lookup 175 (.map (some (mblk p))) (.string n) true).run prog w2=.ok (.tuple #[.pointer none,.bool false]) w2):=by
 obtain⟨c0,_,hdr⟩:=(h.below hb).tree.dir p hd;obtain⟨v,hl,hy,hno⟩:=hdr.look n (by have:=ic hn;omega);refine⟨c0,fun hm=>?_,fun hm=>?_⟩
 ·rw[hy hm,(rR L p n).2 hm] at hl;exact hl
 ·rw[hno hm,(vX L p n).2 hm] at hl;exact hl
theorem pJ(ok:aC L)(hn:aO (af n)=true):(bJ L (aA p n)<0/\n∉aj p L)\/∃i,∃hi:i<L.length,bJ L (aA p n)=(i:Nat)/\L[i].path=aA p n/\n∈aj p L:=by
 rcases iA L (aA p n) with⟨e,h⟩|⟨i,hi,e,h⟩
 ·refine .inl ⟨by omega,fun hm=>?_⟩;obtain⟨_,x,hx,e2⟩:=(bD ok p n).1 hm;exact h x hx e2
 ·exact .inr ⟨i,hi,e,h,(bD ok p n).2 ⟨hn,L[i],Zg hi,h⟩⟩
theorem DY(G:eO a w)(_h:eH w q L blk mblk)(s d:Zy)(hs:s.size<=1000000)(hlow:¬nX s):
  Zc 95 #[Zp q,.string s,.string d] w fun e w'=>e=.returned (eF a 4)/\Below w.heap.size w w':=by
 have c:=xL G s hs hlow;unfold eF at c;go_enter func95,ntmps95;go_wp2_with(go_at_call 155;refine c.mono ?_;rintro e w1 ⟨rfl,hb⟩);go_ret;exact⟨rfl,hb⟩
theorem GA(G:eO a w)(_h:eH w q L blk mblk)(s d:Zy)(hs:s.size<=1000000)(hlow:nX s)(hbig:1536<d.size):
  Zc 95 #[Zp q,.string s,.string d] w fun e w'=>e=.returned (eF a 10)/\Below w.heap.size w w':=by
 have c:=iP G s hs hlow;have ib:(1536:Int)<(d.size:Int):=by omega
 go_enter func95,ntmps95;go_wp2_with(go_at_call 155;refine c.mono ?_;rintro e w1 ⟨v,rfl,h1,hb⟩;have h10:=(G.up hb).err 10 (by decide));go_ret;exact⟨rfl,hb⟩
theorem DZ(G:eO a w)(h:eH w q L blk mblk)(s d:Zy)(hs:s.size<=1000000)(hlow:nX s)(hbig:¬1536<d.size)(h0:bS L s≠0):
  Zc 95 #[Zp q,.string s,.string d] w fun e w'=>e=.returned (eF a (bS L s-1))/\Below w.heap.size w w':=by
 have c:=iP G s hs hlow;have ib:¬(1536:Int)<(d.size:Int):=by omega
 rw[nK hlow] at h0⊢;have gV:=gJ s hlow.1;have hne:=hlow.2;clear hlow;generalize hj:qf L (ax s).1-1=j;have HJ:Hid _:=hj;clear hj;go_enter func95,ntmps95;go_wp2_with(go_at_call 155;refine c.mono ?_;rintro e w1 ⟨v,rfl,h1,hb⟩;have hr':=(h.below hb).root);have h':=h.below hb;have G':=G.up hb;have cA:=xJ h'.tree h'.ok a (ax s).1 hne v h1 (iq s) (by omega) (G'.err 5 (by decide)) (G'.err 6 (by decide)) h0;rw[HJ.out] at cA;unfold eF at cA;go_wp2_with(go_at_call 156;refine cA.mono ?_;rintro e w2 ⟨rfl,hb2⟩);go_ret;exact⟨rfl,hb.trans (hb2.mono hb.size)⟩
theorem Ay(ok:aC L)(h0:bS L s=0):∃n,(ax s).1=(ax s).1.take ((ax s).1.length-1)++[n]/\aO (af n)=true/\s=aA (gy (ax s).1) n/\bC L (gy (ax s).1):=by
 have hlow:nX s:=oM h0;obtain⟨n,e,hn,hs⟩:=Jr s hlow.1 hlow.2;rw[nK hlow] at h0;exact⟨n,e,hn,hs,EW ok _ h0⟩
theorem D7(G:eO a w)(h:eH w q L blk mblk)(s d:Zy)(hs:s.size<=1000000)(hbig:¬1536<d.size)(h0:bS L s=0)(p n:Zy)(hp:gy (ax s).1=p)(hnn:(ax s).1=(ax s).1.take ((ax s).1.length-1)++[n])(hn:aO (af n)=true)(hd:bC L p)(i:Nat)(hi:i<L.length)(uo:L[i].path=aA p n)(hid:L[i].dir=true):
  Zc 95 #[Zp q,.string s,.string d] w fun e w'=>e=.returned (eF a 6)/\Below w.heap.size w w':=by
 have hlow:nX s:=oM h0;have c:=iP G s hs hlow;have ib:¬(1536:Int)<(d.size:Int):=by omega
 rw[nK hlow] at h0;have gV:=gJ s hlow.1;have hmem:n∈aj p L:=(bD h.ok p n).2 ⟨hn,L[i],Zg hi,uo⟩;have hnd:bC L (aA p n):=.inr ⟨L[i],Zg hi,uo,hid⟩;clear hlow;have HN:Hid _:=hnn;clear hnn;go_enter func95,ntmps95;go_wp2_with(go_at_call 155;refine c.mono ?_;rintro e w1 ⟨v,rfl,h1,hb⟩;have hr':=(h.below hb).root);have h':=h.below hb;have G':=G.up hb;have cA:=nJ h'.tree h'.ok a (ax s).1 n HN.out v h1 (iq s) (by omega) (G'.err 5 (by decide)) (G'.err 6 (by decide)) h0;rw[hp] at cA;have HL:Hid _:=h'.look hn hd;have HT:Hid (∀w2,Below w1.heap.size w1 w2->w2.cell? (Za (blk (aA p n)) 0)=some (.map (some (mblk (aA p n))))/\w2.cell? (Za 6 0)=some (eF a 6)):=fun w2 hb2=>⟨((h'.below hb2).tree.dir _ hnd).1,(G'.up hb2).err 6 (by decide)⟩;go_wp2_with(go_at_call 156;refine cA.mono ?_;rintro e w2 ⟨rfl,hb2⟩;obtain⟨e0,ey,_⟩:=HL.out w2 hb2;have ey:=ey hmem;obtain⟨e1,e6⟩:=HT.out w2 hb2);have cD:=eX _ _ w2 e1;go_wp2_with(go_at_call 162;refine cD.mono ?_;rintro e w' ⟨rfl,rfl⟩);go_ret;exact⟨rfl,hb.trans (hb2.mono hb.size)⟩
theorem D8(G:eO a w)(h:eH w q L blk mblk)(s d:Zy)(hs:s.size<=1000000)(hbig:¬1536<d.size)(h0:bS L s=0)(p n:Zy)(hp:gy (ax s).1=p)(hnn:(ax s).1=(ax s).1.take ((ax s).1.length-1)++[n])(hn:aO (af n)=true)(hd:bC L p)(hno:n∉aj p L)(hroom:(decide ((aj p L).length<16)&&decide (L.length<256))=false):
  Zc 95 #[Zp q,.string s,.string d] w fun e w'=>e=.returned (eF a 9)/\Below w.heap.size w w':=by
 have hlow:nX s:=oM h0;have c:=iP G s hs hlow;have ib:¬(1536:Int)<(d.size:Int):=by omega
 rw[nK hlow] at h0;have gV:=gJ s hlow.1;clear hlow;have HN:Hid _:=hnn;have HR:Hid _:=hroom;clear hnn hroom;go_enter func95,ntmps95;go_wp2_with(go_at_call 155;refine c.mono ?_;rintro e w1 ⟨v,rfl,h1,hb⟩;have hr':=(h.below hb).root);have h':=h.below hb;have G':=G.up hb;have cA:=nJ h'.tree h'.ok a (ax s).1 n HN.out v h1 (iq s) (by omega) (G'.err 5 (by decide)) (G'.err 6 (by decide)) h0;rw[hp] at cA;have HL:Hid _:=h'.look hn hd;go_wp2_with(go_at_call 156;refine cA.mono ?_;rintro e w2 ⟨rfl,hb2⟩;obtain⟨e0,_,ey⟩:=HL.out w2 hb2;have ey:=ey hno);have h'':=h'.below hb2;have cF:=qg h'' p hd;rw[HR.out] at cF;have HG:Hid (∀w3,Below w2.heap.size w2 w3->w3.cell? (Za 9 0)=some (eF a 9)):=fun w3 hb3=>((G'.up hb2).up hb3).err 9 (by decide);go_wp2_with(go_at_call 90;refine cF.mono ?_;rintro e w3 ⟨rfl,hb3⟩;have e9:=HG.out w3 hb3);go_ret;have hs1:=hb.size;have hs2:=hb2.size;exact⟨rfl,hb.trans ((hb2.trans (hb3.mono hs2)).mono hs1)⟩
end
def xO(ws:List (Nat × Zy))(l:List Zy)(k:Int):List Zy:=if 0<=k/\k<ws.length then l.set (ws.getD k.toNat (0,ByteArray.empty)).1 (ws.getD k.toNat (0,ByteArray.empty)).2 else l
def jG(ws:List (Nat × Zy))(l:List Zy)(ks:List Int):List Zy:=ks.foldl (xO ws) l
theorem Qz(ws:List (Nat × Zy))(l:List Zy)(k:Int):(xO ws l k).length=l.length:=by unfold xO;split<;>simp
theorem EY(ws:List (Nat × Zy))(l:List Zy)(ks:List Int):(jG ws l ks).length=l.length:=by
 induction ks generalizing l with
 | nil=>rfl
 | cons k ks ih=>simp only[jG,foldl_cons] at ih⊢;rw[ih,Qz]
theorem MQ(ws:List (Nat × Zy))(l:List Zy)(ks:List Int)(k:Int):jG ws l (ks++[k])=xO ws (jG ws l ks) k:=by simp[jG]
theorem QA{α:Type}(l:List α)(j:Nat)(d:α)(h:j<l.length):l.take (j+1)=l.take j++[l.getD j d]:=by
 rw[take_succ_eq_append_getElem h];simp[getD_eq_getElem?_getD,h]
def MR(w:World)(a0:Option Addr)(g off:Nat)(ks:List Int):Prop:=(0<ks.length->a0=some (Za g off))/\∀j,j<ks.length->w.cell? (Za g (off+j))=some (.int .i64 (ks.getD j 0))
noncomputable def crA:Code:=Ga (jQ (jQ Tt))
theorem MS(ws:List (Nat × Zy))(l:List Zy)(ks:List Int)(h:∀x∈l,x.size=64)(hw:∀x∈ws,x.2.size=64):∀x∈jG ws l ks,x.size=64:=by
 induction ks generalizing l with
 | nil=>exact h
 | cons k ks ih=>
  intro x hx;refine ih (xO ws l k) ?_ x hx;intro y hy;unfold xO at hy;split at hy
  ·rename_i hin;rcases mem_or_eq_of_mem_set hy with hy|hy
   ·exact h y hy
   ·rw[hy,getD_eq_getElem?_getD,getElem?_eq_getElem (by omega)];exact hw _ (getElem_mem _)
  ·exact h y hy
theorem Wy{df:List Deferred}{x2 x3 x4 x5 x6 x7 x8 x9 x10 Mi OU OV qx EL EM EN x18 DK x20 x21 Bh x23 x24 x25 Jl x27 x28 x29 x30 x31 x32 ME x34 MF MG Qq x38 x39 x40 x41 Vm x43 Vn Vo Vp Tv RX RY RZ R3 R8 Sb x54 x55:Value}{d:DP}(h:gW w d S)(ok:S.Ok)(a0:Option Addr)(g off ck:Nat)(ks:List Int)(hks:ks.length<=1000000)(hkp:MR w a0 g off ks)(hg:g∉d.blocks)(R:Act->World->Prop)
  (hQ:Hid (∀(y5 y6 OZ O0 O1 O3 O4 Vl y20 y21 y22 y23 y24 y25 y26 y27 y28 y29 y30 y31 y32 y33 y34 y35 y36 y37 y38 y39 Yb Tw Tx Tz TA TB TD Ye:Value) (w':World),ai w' d.gs 190 (jv (jG S.wait S.safe ks))->Fr w w' [d.gs]->R ⟨#[.pointer (some ⟨d.p,0,none⟩),.slice a0 ks.length ck,x2,x3,x4,y5,y6,x7,x8,x9,x10,Mi,OU,OV,OZ,O0,O1,O3,O4,Vl,y20,y21,y22,y23,y24,y25,y26,y27,y28,y29,y30,y31,y32,y33,y34,y35,y36,y37,y38,y39,Yb,Tw,Tx,Tz,TA,TB,TD,Ye,RX,RY,RZ,R3,R8,Sb,x54,x55],df⟩ w')):
  Code.wp prog crA (At R) ⟨#[.pointer (some ⟨d.p,0,none⟩),.slice a0 ks.length ck,x2,x3,x4,x5,x6,x7,x8,x9,x10,Mi,OU,OV,qx,EL,EM,EN,x18,DK,x20,x21,Bh,x23,x24,x25,Jl,x27,x28,x29,x30,x31,x32,ME,x34,MF,MG,Qq,x38,x39,x40,x41,Vm,x43,Vn,Vo,Vp,Tv,RX,RY,RZ,R3,R8,Sb,x54,x55],df⟩ w:=by
 conv=>arg 2;whnf
 obtain⟨np,Yc,Ws,ZU⟩:=h.ne;obtain⟨aw,cw,hwv⟩:=h.slice;have gV:=ok.few;have jD:=ok.most;have Ls:g≠d.gs:=fun e=>hg (by rw[e];simp[DP.blocks]);have HW:Hid _:=h;have HK:Hid _:=hkp.2;have HA:Hid _:=hkp.1;clear h hkp;refine dM ?_;go_wp2;show Code.wp _ _ _ _ _;refine wp_block ?_;go_loopw [16] (fun i wr=>∃j:Nat,j<=ks.length/\i=.int .i64 j/\ai wr d.gs 190 (jv (jG S.wait S.safe (ks.take j)))/\Fr w wr [d.gs]) (fun i _=>ks.length-(intOf i).toNat)
 case atStart=>exact⟨0,Nat.zero_le _,rfl,by simpa [jG] using HW.out.safe,Fr.refl _ _⟩
 case round=>
  obtain⟨j,hj,rfl,hs,hf⟩:=hrel;by_cases hlt:j<ks.length
  ·obtain rfl:=HA.out (by omega);have ck0:wr.cell? ⟨g,off+j,none⟩=some (.int .i64 (ks.getD j 0)):=by
    have:=HK.out j hlt;rw[World.cell?_of_block (hf.block g (World.block_lt_of_cell? w _ this) (by simpa using Ls))];exact this
   have hstep:Hid (jG S.wait S.safe (ks.take (j+1))=xO S.wait (jG S.wait S.safe (ks.take j)) (ks.getD j 0)):=by
    show _=_;rw[QA ks j 0 hlt,MQ]
   have hlk:=EY S.wait S.safe (ks.take j);have hsz:=fun x hx=>(ok.wr x hx).2;have hos:=MS S.wait S.safe (ks.take j) ok.sec hsz;have rp:=hf.row HW.out.row (by simpa using np);have c3:wr.cell? ⟨d.p,3,none⟩=some (.slice aw S.wait.length cw):=by rw[<-hwv];exact rp.cell 3
   generalize ks.getD j 0=kk at ck0 hstep;generalize jG S.wait S.safe (ks.take j)=l at hs hstep hlk hos;by_cases hin:0<=kk/\kk<S.wait.length
   ·obtain⟨kn,rfl⟩:=Int.eq_ofNat_of_zero_le hin.1;have hkn:kn<S.wait.length:=by omega
    obtain⟨gw,cap,ZV,hw,hlc,hcm,m1,m2,m3⟩:=HW.out.waits (by omega);have e:=hwv.symm.trans ZV;injection e with e1 _ e2
    subst e1 e2;have hwr:=hw.fr hf (by simpa using m2.symm);have hrg:=rJ hwr hsz kn hkn;have hat:=(ok.wr _ (getElem_mem hkn)).1;have Gt:=hsz _ (getElem_mem hkn);have tX:jG S.wait S.safe (ks.take (j+1))=l.set S.wait[kn].1 S.wait[kn].2:=by
     rw[hstep.out];unfold xO;rw[if_pos hin,Int.toNat_natCast,getD_eq_getElem?_getD,getElem?_eq_getElem hkn];rfl
    generalize S.wait[kn].1=k at *;generalize S.wait[kn].2=x at *;have vo:=dZ x Gt;have hB:∀o,Below wr.heap.size wr (wr.alloc o):=fun o=>(Below.refl _ _).alloc (Nat.le_refl _) _;have cp2:∀o,(wr.alloc o).cell? ⟨d.p,2,none⟩=some (.slice (some ⟨d.gs,0,none⟩) S.safe.length S.safe.length):=fun o=>(rp.below (hB o) rp.lt).cell 2;have hs2:∀o,ai (wr.alloc o) d.gs 190 (jv l):=fun o=>hs.below (hB o) hs.lt;have ht2:=fun o=>Bd (hs2 o) hos k (by omega);have ZW:=ai.new wr 192 (.int .i64 (k:Nat)::bytes (af x));have ca2:(wr.alloc (.cells (.int .i64 (k:Nat)::bytes (af x)).toArray 192)).cell? ⟨wr.heap.size,0,none⟩=some (.int .i64 (k:Nat)):=ZW.cell 0;have hrg2:(wr.alloc (.cells (.int .i64 (k:Nat)::bytes (af x)).toArray 192)).rangeAt wr.heap.size 1 (bytes (af x)):=by
     intro i v hv;rw[ZW.cell,Nat.add_comm 1 i,getElem?_cons_succ,hv]
    have hsl:=hs.lt;have HN:Hid (ai ((wr.alloc (.cells (.int .i64 (k:Nat)::bytes (af x)).toArray 192)).drew.setCells d.gs (k*64) (bytes (af x))) d.gs 190 (jv (jG S.wait S.safe (ks.take (j+1))))):=by
     rw[tX];exact Bo (hs2 _).drew hos k (by omega) x Gt
    have HF:Hid (Fr w ((wr.alloc (.cells (.int .i64 (k:Nat)::bytes (af x)).toArray 192)).drew.setCells d.gs (k*64) (bytes (af x))) [d.gs]):=Au _ _ _ (hf.alloc _).drew (.inl (by simp));have hone:∀v∈bytes (af x),v.oneCell'=true:=by
     intro v hv;obtain⟨n,_,rfl⟩:=mem_map.1 hv;rfl
    have om:(.int .i64 (k:Nat)::bytes (af x):List Value).toArray.all (·.oneCell')=true:=all_oneCell_toArray (by
     intro v hv;rcases mem_cons.1 hv with rfl|hv
     ·rfl
     ·exact hone v hv)
    have hlC:(.int .i64 (k:Nat)::bytes (af x):List Value).length=65:=by rw[length_cons,vo]
    generalize bytes (af x)=D at *;generalize(.int .i64 (k:Nat)::D:List Value)=C at *;have jR:(prog.info? 192).map (·.size)=some C.length:=by rw[hlC];exact Gb
    have ZX:(prog.info? 192).map (·.size)=some C.toArray.size:=jR;have vv:(zeroCells192).size=C.toArray.size:=by rw[show C.toArray.size=65 from hlC,Jk];simp
    have HT:Hid _:=ht2;have HR2:Hid _:=hrg2;have HO:Hid _:=hone;clear hs hs2 ZW rp hB hwr hf hw hos ht2 hrg2 hone hsz hstep tX;go_wp2_with(first
     | (refine wpList_load_mid rfl 192 _ rfl gw (kn*65) rfl _ _ hrg underlying192 rfl jR ?_)
     | (refine aJ rfl 192 _ _ rfl wr.heap.size _ C.toArray rfl rfl rfl ZX vv om ?_))
    refine bF (Wp d.p d.gs wr.heap.size S.safe.length k D _ _ (cp2 _) ca2 HR2.out vo HO.out hat jD (HT.out _) np (by omega) ?_);refine fun y38 y39 Yb Tw Tx Tz TA TB TD=>?_;unfold Zp;go_wp2;exact⟨⟨j+1,by omega,by go_num,HN.out,HF.out⟩,by simp[intOf];omega⟩
   ·have tX:jG S.wait S.safe (ks.take (j+1))=l:=by
     rw[hstep.out];unfold xO;rw[if_neg hin]
    rw[<-tX] at hs;have HS:Hid _:=hs;have HF:Hid _:=hf;clear hs hf rp hstep tX;by_cases hneg:kk<0
    ·go_wp2;exact⟨⟨j+1,by omega,by go_num,HS.out,HF.out⟩,by simp[intOf];omega⟩
    ·have hge:¬kk<(S.wait.length:Int):=by omega
     go_wp2;exact⟨⟨j+1,by omega,by go_num,HS.out,HF.out⟩,by simp[intOf];omega⟩
  ·have ej:j=ks.length:=by omega
   subst ej;rw[take_length] at hs;have HS:Hid _:=hs;clear hs;go_wp2;exact hQ.out _ _ _ _ _ _ _ _ _ _ _ _ _ _ _ _ _ _ _ _ _ _ _ _ _ _ _ _ _ _ _ _ _ _ _ _ _ HS.out hf
theorem GD{d:DP}(h:aB w d S)(ok:S.Ok)(a0:Option Addr)(g off ck:Nat)(ks:List Int)(hks:ks.length<=1000000)(hkp:MR w a0 g off ks)(hg:g∉d.blocks):
  Zc 59 #[Zp d.p,.slice a0 ks.length ck] w fun e w'=>
   e=.returned (.tuple #[])/\(∃d',aB w' d' ⟨jG S.wait S.safe ks,[],0,false⟩/\d'.p=d.p/\(∀b∈d'.blocks,b∈d.blocks\/w.heap.size<=b))/\Fr w w' d.blocks:=by
 have z0:w.cell? (Za d.p 0)=some (.int .i32 0):=h.row.cell 0;have z1:=h.row.frozen 0;have hL:=h.lock;obtain⟨np,Yc,Ws,ZU⟩:=h.ne;have MC:Fr w (w.setCell (Za d.p 0) (.int .i32 1)) d.blocks:=(Fr.refl _ _).setCell _ _ (.inl (by simp[DP.blocks]));have hkL:MR (w.setCell (Za d.p 0) (.int .i32 1)) a0 g off ks:=⟨hkp.1,fun j hj=>by
  rw[World.cell?_setCell_other _ _ _ _ (by simp;intro e _;exact hg (by rw[<-e];simp[DP.blocks]))];exact hkp.2 j hj⟩
 have hlk:=EY S.wait S.safe ks;generalize hWL:w.setCell (Za d.p 0) (.int .i32 1)=L at *;have HL:Hid _:=hL;have HK:Hid _:=hkL;have HB:Hid _:=MC;clear h hkp hL hkL MC;go_enter_defers func59,ntmps59;refine dM ?_;go_wp2_with(go_at_call 57;refine(jf (Za d.p 0) _ z0 z1).mono ?_;rintro e w' ⟨rfl,rfl⟩);show Code.wp _ _ _ _ _;refine dM ?_;go_wp2;show Code.wp _ _ _ _ _;refine dM (Wy HL.out ok a0 g off ck ks hks HK.out hg _ ?_);refine fun y5 y6 OZ O0 O1 O3 O4 Vl y20 y21 y22 y23 y24 y25 y26 y27 y28 y29 y30 y31 y32 y33 y34 y35 y36 y37 y38 y39 Yb Tw Tx Tz TA TB TD Ye w1 hs f1=>?_;show Code.wp _ _ _ _ _;have h:=HL.out;have rp:=f1.row h.row (by simpa using np);have hm1:=rP h.last f1 (by simpa using Ws.symm);have hfo:=vJ rp hm1 Yc;have HQ:Hid (∀w2,ai w2 d.p 88 ({d with wv:=.slice none 0 0}.cells S 1)->w2.ownsMap (H:=Unit) prog 3 (plainElem prog 3) d.gm 0 (.map [])->Fr w1 w2 [d.p,d.gm]->gW ((w2.setCell (Za d.p 5) (.int .i64 0)).setCell (Za d.p 6) (.bool false)) {d with wv:=.slice none 0 0} ⟨jG S.wait S.safe ks,[],0,false⟩/\Fr w ((w2.setCell (Za d.p 5) (.int .i64 0)).setCell (Za d.p 6) (.bool false)) d.blocks):=by
  intro w2 hr hm f2;have f3:Fr w2 ((w2.setCell (Za d.p 5) (.int .i64 0)).setCell (Za d.p 6) (.bool false)) [d.p]:=((Fr.refl _ _).setCell _ _ (.inl (by simp))).setCell _ _ (.inl (by simp));refine⟨⟨?_,f3.row (f2.row hs (by simp;exact⟨np.symm,Ws⟩)) (by simpa using np.symm),World.ownsRow_nil _ _ _ _,rP hm f3 (by simpa using Yc.symm),?_⟩,((HB.out.trans f1 (by simp[DP.blocks])).trans f2 (by intro y hy _;simp at hy;rcases hy with rfl|rfl<;>simp[DP.blocks])).trans f3 (by simp[DP.blocks])⟩
  ·show ai _ _ _ [_,_,.slice (Zs d.gs) (jG S.wait S.safe ks).length (jG S.wait S.safe ks).length,_,_,_,_];rw[hlk];exact(hr.set 5 (.int .i64 0)).set 6 (.bool false)
  ·show(d.p::d.gs::d.gm::[]).Nodup;simp only[nodup_cons,mem_cons,not_mem_nil,or_false,not_or,not_false_eq_true,nodup_nil,and_true];exact⟨⟨np,Yc⟩,Ws⟩
 clear h rp hm1 hs f1;refine dM ?_;go_wp2_with(go_at_call 104;refine hfo.mono ?_;rintro e w' ⟨rfl,h1,h2,h3⟩);show Code.wp _ _ _ _ _;have c5:w'.cell? (Za d.p 5)=some (Zi S.fuse):=h1.cell 5;have f5:=h1.frozen 5;have h15:=h1.set 5 (.int .i64 0);have c6:(w'.setCell (Za d.p 5) (.int .i64 0)).cell? (Za d.p 6)=some (.bool S.down):=h15.cell 6;have f6:=h15.frozen 6;have HE:Hid _:=HQ.out w' h1 h2 h3;have h16:=h15.set 6 (.bool false);have q0:((w'.setCell (Za d.p 5) (.int .i64 0)).setCell (Za d.p 6) (.bool false)).cell? (Za d.p 0)=some (.int .i32 1):=h16.cell 0;have q1:=h16.frozen 0;clear h1 h2 h3 h15 h16;go_wp2;refine leaves_cons (f:=58) (args:=#[Zp d.p]) (by simp) (by simp[go_sem]) ?_;refine(dV (Za d.p 0) .returning _ q0 q1).mono ?_;rintro e u' w'' ⟨rfl,rfl,rfl⟩;simp[Leaves,settle,results,results59];refine⟨⟨_,HE.out.1.free,rfl,?_⟩,HE.out.2.setCell _ _ (.inl (by simp[DP.blocks]))⟩;intro b hb;have hb':b∈(d.p::d.gs::d.gm::[]):=hb;simp only[mem_cons,not_mem_nil,or_false] at hb';left;rcases hb' with rfl|rfl|rfl<;>simp[DP.blocks]
theorem TP(h:lT a w)(k:Nat)(hk:k<12):
  Zc 43 #[.iface 452 (.pointer (some (a k)))] w fun e w'=>e=.returned (.tuple #[(Zi (k+1)),.int .i64 (-1)])/\Below w.heap.size w w':=by
 have hI:∀j,j<12->Zc 78 #[.iface 452 (.pointer (some (a k))),.iface 452 (.pointer (some (a j)))] (w.alloc (.cells (Gs a) 92)) fun e w'=>e=.returned (.bool (decide (j=k)))/\w.alloc (.cells (Gs a) 92)=w':=
  fun j hj=>(ZM (h.below ((Zr).alloc (Zn) _)) k j hk hj).mono fun e w' hh=>⟨hh.1,hh.2.symm⟩
 have hA:=Wn (a k) (Za (w.heap.size+1) 0) ((w.alloc (.cells (Gs a) 92)).alloc (.cells #[.pointer none] 152)) (h.below (((Zr).alloc (Zn) _).alloc (by simp) _)).et;have h0:=h.var 0 (by decide);have h1:=h.var 1 (by decide);have h2:=h.var 2 (by decide);have h3:=h.var 3 (by decide);have h4:=h.var 4 (by decide);have h5:=h.var 5 (by decide);have h6:=h.var 6 (by decide);have h7:=h.var 7 (by decide);have h8:=h.var 8 (by decide);have h9:=h.var 9 (by decide);have h10:=h.var 10 (by decide);have h11:=h.var 11 (by decide);go_enter func43,ntmps43;go_wp2;clear h0 h1 h2 h3 h4 h5 h6 h7 h8 h9 h10 h11;go_loop [4,24] (fun n i=>∃j:Nat,j<=12/\i=.int .i64 j/\((j<=k/\n=.int .i64 0)\/(k<j/\n=(Zi (k+1))))) (fun _ i=>12-(intOf i).toNat)
 case atStart=>exact⟨0,by omega,rfl,Or.inl ⟨by omega,rfl⟩⟩
 case round=>
  obtain⟨j,hj,rfl,hn⟩:=hrel;by_cases hlt:j<12
  ·have hc:=Qp a w 92 j hlt;have hIj:=hI j hlt;rcases hn with⟨hjk,rfl⟩|⟨hjk,rfl⟩
   ·by_cases e:j=k
    ·subst e;go_wp2_with(go_at_call 78;refine hIj.mono ?_;rintro e w' ⟨rfl,rfl⟩);go_round
     case rel=>exact⟨j+1,by omega,by go_num,Or.inr ⟨by omega,by go_num⟩⟩
     case measure=>simp[intOf];omega
    ·have hd:decide (j=k)=false:=by simpa using e
     go_wp2_with(go_at_call 78;refine hIj.mono ?_;rintro e w' ⟨rfl,rfl⟩);go_round
     case rel=>exact⟨j+1,by omega,by go_num,Or.inl ⟨by omega,rfl⟩⟩
     case measure=>simp[intOf];omega
   ·have hd:decide (j=k)=false:=by simp;omega
    go_wp2_with(go_at_call 78;refine hIj.mono ?_;rintro e w' ⟨rfl,rfl⟩);go_round
    case rel=>exact⟨j+1,by omega,by go_num,Or.inr ⟨by omega,rfl⟩⟩
    case measure=>simp[intOf];omega
  ·rcases hn with⟨hjk,rfl⟩|⟨hjk,rfl⟩
   ·omega
   ·have hk0:((↑(k+1):Int)==0)=false:=by simp;omega
    go_wp2_with(go_at_call 79;refine hA.mono ?_;rintro e w' ⟨rfl,rfl⟩);go_ret2;exact⟨rfl,(((((Zr).alloc (Zn) _).alloc (by simp) _).alloc (by simp;omega) _).alloc (by simp;omega) _).alloc (by simp;omega) _⟩
theorem rZ(w:World):Zc 43 #[.nilIface] w fun e w'=>e=.returned (.tuple #[.int .i64 0,.int .i64 (-1)])/\w=w':=by
 go_enter func43,ntmps43;go_wp2;refine bodyPost_ret (results_tmp2 rfl _ _ _) rfl ?_;exact⟨rfl,rfl⟩
theorem MU{a:Int}{x:Zy}{n m:Int}
  (hW:Zc 84 #[Zp dp,.int .i64 a] w fun e w'=>e=.returned (.tuple #[.string x,ev])/\N w'/\Fr w w' dB)
  (hN:∀w1,N w1->Zc 43 #[ev] w1 fun e w'=>e=.returned (.tuple #[.int .i64 n,.int .i64 m])/\N w'/\Fr w1 w' []):
  Zc 63 #[Zp dp,.int .i64 a] w fun e w'=>e=.returned (.tuple #[.string x,.int .i64 n])/\N w'/\Fr w w' dB:=by
 have HN:Hid _:=hN;clear hN;go_enter func63,ntmps63;go_wp2_with(first
  | (go_at_call 84;refine hW.mono ?_;rintro e w1 ⟨rfl,h1,f1⟩)
  | (go_at_call 43;refine(HN.out _ h1).mono ?_;rintro e w2 ⟨rfl,h2,f2⟩))
 refine bodyPost_ret (results_tmp2 rfl _ _ _) rfl ?_;exact⟨rfl,h2,f1.trans f2 (by simp)⟩
theorem JQ
  (hW:Zc 59 #[Zp dp,kv] w fun e w'=>e=.returned (.tuple #[])/\N w'/\Fr w w' dB):
  Zc 34 #[Zp dp,kv] w fun e w'=>e=.returned (.tuple #[])/\N w'/\Fr w w' dB:=by
 go_enter func34,ntmps34;go_wp2_with(go_at_call 59;refine hW.mono ?_;rintro e w1 ⟨rfl,h1,f1⟩);go_end0;exact⟨rfl,h1,f1⟩
theorem GH{cs:List Value}(h:w.rangeAt b o (v::cs)):w.rangeAt b (o+1) cs:=by
 intro j u hu;rw[show o+1+j=o+(j+1) by omega];exact h (j+1) u (by simpa using hu)
theorem aB.waits{d:DP}(h:aB w d S)(hne:0<S.wait.length):∃g cap,d.wv=.slice (Zs g) S.wait.length cap/\Has w g 192 cap 65 (j4 S.wait)/\S.wait.length<=cap/\cap<=maxLen/\d.p≠g/\d.gs≠g/\d.gm≠g:=by
 rcases h.wait.2 with⟨e,e0⟩|⟨g,cap,cur,e,_⟩
 ·omega
 ·have hw:=h.wait;rw[e] at hw;obtain⟨h1,h2,h3⟩:=jA hw;exact⟨g,cap,e,h1,h2,h3,h.ne.2.2.2 g (by rw[e];rfl)⟩
theorem GI{d:DP}(h:aB w d S)(ok:S.Ok)(k:Nat)(hk:k<S.safe.length)(TJ:Maps.has (nC S.wait) (.int .i64 (k:Nat))=true)(i:Nat)(y:Zy)(hi:S.wait[i]? =some (k,y))
  (hat:∀z,(nC S.wait).atKey (.int .i64 (k:Nat)) z=.lit (.int .i64 (i:Nat))):
  Zc 84 #[Zp d.p,Zi k] w fun e w'=>
   e=.returned (.tuple #[.string y,.nilIface])/\aB w' d S/\Fr w w' [d.p]:=by
 obtain⟨hil,hiy⟩:=List.getElem?_eq_some_iff.1 hi;obtain⟨g,cap,hwv,hw,hlc,hcm,n1,n2,n3⟩:=h.waits (by omega);have z0:w.cell? (Za d.p 0)=some (.int .i32 0):=h.row.cell 0;have z1:=h.row.frozen 0;have h1:=h.row.set 0 (.int .i32 1);have c2:(w.setCell (Za d.p 0) (.int .i32 1)).cell? (Za d.p 2)=some (.slice (Zs d.gs) S.safe.length S.safe.length):=h1.cell 2;have hn:=ok.most;have gV:=ok.few;have hh:=o5 (d:=d) (S:=S) (lk:=1) h1 ok k;rw[decide_eq_true (by omega)] at hh;have Tc:=ok.sec;have hr1:ai (w.setCell (Za d.p 0) (.int .i32 1)) d.gs 190 (jv S.safe):=h.safe.other _ (by simpa using h.ne.1.symm);have vo:(bytes (af S.safe[k])).length=64:=dZ _ (Tc _ (Zg hk));have Z6:(bytes (af y)).length=64:=dZ _ (ok.wr (k,y) (mem_of_getElem? hi)).2;have hrg:=Bc hr1 Tc k hk;have hi1:(prog.info? 190).map (·.size)=some (bytes (af S.safe[k])).length:=by rw[vo];exact xw
 have hi3:(prog.info? 190).map (·.size)=some (bytes (af y)).length:=by rw[Z6];exact xw
 have hw3:=ai.new (w.setCell (Za d.p 0) (.int .i32 1)) 190 (bytes (af y));have hB:∀o,Below (w.setCell (Za d.p 0) (.int .i32 1)).heap.size (w.setCell (Za d.p 0) (.int .i32 1)) ((w.setCell (Za d.p 0) (.int .i32 1)).alloc o):=fun o=>(Zr).alloc (Zn) _;have h2:=h1.below (hB (.cells (bytes (af S.safe[k])).toArray 190)) h1.lt;have h3:=h1.below (hB (.cells (bytes (af y)).toArray 190)) h1.lt;have c4:((w.setCell (Za d.p 0) (.int .i32 1)).alloc (.cells (bytes (af S.safe[k])).toArray 190)).cell? (Za d.p 4)=some (.map (some d.gm)):=h2.cell 4;have c3:((w.setCell (Za d.p 0) (.int .i32 1)).alloc (.cells (bytes (af S.safe[k])).toArray 190)).cell? (Za d.p 3)=some (.slice (Zs g) S.wait.length cap):=by rw[<-hwv];exact h2.cell 3
 have hm2:((w.setCell (Za d.p 0) (.int .i32 1)).alloc (.cells (bytes (af S.safe[k])).toArray 190)).ownsMap (H:=Unit) prog 3 (plainElem prog 3) d.gm S.wait.length (nC S.wait):=(h.last.setCell (by simpa using h.ne.2.1.symm) _).alloc _;obtain⟨c,Bf,hc⟩:=EK hm2 k (by omega);rw[TJ] at Bf;rw[hat] at hc;injection hc with hc
 injection hc with _ hc
 subst hc;have hwr:=(hw.other (a:=(Za d.p 0)) (.int .i32 1) (by simpa using n1.symm)).keep ((hB (.cells (bytes (af S.safe[k])).toArray 190)).block g (by simpa using hw.lt));have hrw:=GH (rJ hwr (fun x hx=>(ok.wr x hx).2) i hil);rw[hiy] at hrw;have qH:=qF (P:=prog) 124 9 5 underlying124 underlying5 underlying9 _ _ 64 190 (af y) [] (by rw[append_nil];exact hw3) (jP _);rw[lg,show(af y).length=64 by rw[<-aF];exact Z6] at qH;have hs0:(w.setCell (Za d.p 0) (.int .i32 1)).heap.size=w.heap.size:=by simp
 rw[hs0] at qH;have hone:=bY (af S.safe[k]);have aaw:=bY (af y);have hsz:(bytes (af S.safe[k])).toArray.size=64:=vo;have Z8:(bytes (af y)).toArray.size=64:=Z6;have hi2:(prog.info? 190).map (·.size)=some (bytes (af S.safe[k])).toArray.size:=hi1;have hi4:(prog.info? 190).map (·.size)=some (bytes (af y)).toArray.size:=hi3;have HF:Hid (Fr w (((w.setCell (Za d.p 0) (.int .i32 1)).alloc (.cells (bytes (af y)).toArray 190)).setCell (Za d.p 0) (.int .i32 0)) [d.p]):=(((Fr.refl _ _).setCell _ _ (.inl (by simp))).alloc _).setCell _ _ (.inl (by simp));have HD:Hid (aB (((w.setCell (Za d.p 0) (.int .i32 1)).alloc (.cells (bytes (af y)).toArray 190)).setCell (Za d.p 0) (.int .i32 0)) d S):=h.turn rfl rfl (h3.set 0 (.int .i32 0)) HF.out;have H3:Hid _:=h3;clear hw3 hm2 h2 h3 hB hwr hiy;generalize bytes (af S.safe[k])=C at *;generalize bytes (af y)=Y at *;go_enter_defers func84,ntmps84;go_wp2_with(first
  | (go_at_call 57;refine(jf (Za d.p 0) _ z0 z1).mono ?_;rintro e w' ⟨rfl,rfl⟩)
  | (go_at_call 142;refine hh.mono ?_;rintro e w' ⟨rfl,rfl⟩)
  | (refine wpList_load_mid rfl 190 _ rfl d.gs (k*64) rfl _ _ hrg underlying190 rfl hi1 ?_)
  | (refine wpList_load_mid rfl 190 _ rfl g (i*65+1) rfl _ _ hrw underlying190 rfl hi3 ?_)
  | (refine aJ rfl 190 _ _ rfl w.heap.size _ _ (by simp) rfl rfl hi2 (by rw[hsz];rfl) hone ?_)
  | (refine aJ rfl 190 _ _ rfl w.heap.size _ _ (by simp) rfl rfl hi4 (by rw[Z8,hsz]) aaw ?_))
 refine leaves_cons (f:=58) (args:=#[Zp d.p]) (by simp) (by simp[go_sem]) ?_;refine(dV (Za d.p 0) .returning _ (H3.out.cell 0) (H3.out.frozen 0)).mono ?_;rintro e u' w'' ⟨rfl,rfl,rfl⟩;exact⟨_,results_tmp2 rfl _ _ _,rfl,HD.out,HF.out⟩
theorem aB.fr{d:DP}(h:aB w d S)(f:Fr w w' bs)(hn:∀b∈d.blocks,b∉bs):aB w' d S:=
 ⟨f.row h.row (hn _ (by simp[DP.blocks])),f.row h.safe (hn _ (by simp[DP.blocks])),aT h.wait f (fun g hg=>hn g (by simp[DP.blocks,hg])),rP h.last f (hn _ (by simp[DP.blocks])),h.apart⟩
theorem aB.lt{d:DP}(h:aB w d S):∀b∈d.blocks,b<w.heap.size:=by
 intro b hb;simp only[DP.blocks,mem_cons,Zo] at hb;rcases hb with rfl|rfl|rfl|hb
 ·exact h.row.lt
 ·exact h.safe.lt
 ·exact h.last.lt
 ·exact vW h.wait b hb
theorem BB(hb:Below B w0 w1)(f:Fr w1 w' bs)(hB:B<=w1.heap.size)(hn:∀b∈bs,B<=b):Below B w0 w':=
 ⟨f.os.trans hb.os,f.tape.trans hb.tape,f.output.trans hb.output,Nat.le_trans hb.size f.size,fun k hk=>(f.block k (by omega) (fun hx=>by have:=hn k hx;omega)).trans (hb.block k hk)⟩
theorem jH{d:DP}(h:aB w d S)(ok:S.Ok)(k:Nat)(hk:k<S.safe.length):
  Zc 84 #[Zp d.p,Zi k] w fun e w'=>e=.returned (.tuple #[.string (S.seen.getD k ByteArray.empty),.nilIface])/\aB w' d S/\Fr w w' [d.p]:=by
 rcases Ta S.wait k with⟨h1,h2⟩|⟨i,y,h0,h1,h2,h3⟩
 ·have e:S.seen.getD k ByteArray.empty=S.safe[k]:=by rw[getD_eq_getElem?_getD,Dk.seen,h2,getElem?_eq_getElem hk];rfl
  rw[e];exact Gc h ok k hk h1
 ·have e:S.seen.getD k ByteArray.empty=y:=by rw[getD_eq_getElem?_getD,Dk.seen,h3 S.safe hk];rfl
  rw[e];exact GI h ok k hk h1 i y h0 h2
end
end Go.Proofs.YtdidjdoifpfmmaaGreatDoor
