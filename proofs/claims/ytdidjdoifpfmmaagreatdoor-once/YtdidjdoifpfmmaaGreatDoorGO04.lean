import Derived.Test.YtdidjdoifpfmmaaGreatDoorGO01
import Derived.Laws.Tables
import Derived.Defers
import Derived.Laws.Pointers
import Derived.Laws.LoneSync
import Derived.RegionCalls
import Derived.Laws.NewBlocks
import Derived.Laws.AppendOwn
import Derived.Deep.AppendLies
import Derived.Laws.IdiomStrings
import Derived.Laws.Runes
set_option maxRecDepth 100000
set_option maxHeartbeats 16000000
namespace Go.Proofs.YtdidjdoifpfmmaaGreatDoor
open Go.Proofs.Tryz List
variable{B g cap size n base:Nat}{a:Addr}{w w1 w2 w' w0:World}{bs cs:List Nat}{t e:TypeId}{vs xs:List Value}{v x:Value}{P:Program}{Q:Exit->Act->World->Prop}{ns:List Zy}
section
theorem LV(a b:Nat):oO (a ^^^ b)=oO a ^^^ oO b:=by
 have h1:(a ^^^ b) / 2=a / 2 ^^^ b / 2:=Nat.xor_div_two;have h2:(a ^^^ b) % 2=(a % 2) ^^^ (b % 2):=Nat.xor_mod_two_pow (n:=1);unfold oO;rw[h1,h2];rcases Nat.mod_two_eq_zero_or_one a with ha|ha<;>rcases Nat.mod_two_eq_zero_or_one b with hb|hb<;>rw[ha,hb]
 ·rw[if_neg (by decide),if_neg (by decide),if_neg (by decide)]
 ·rw[if_pos (by decide),if_neg (by decide),if_pos (by decide),Nat.xor_assoc]
 ·rw[if_pos (by decide),if_pos (by decide),if_neg (by decide),Nat.xor_assoc,Nat.xor_assoc,Nat.xor_comm (b / 2)]
 ·rw[if_neg (by decide),if_pos (by decide),if_pos (by decide),Nat.xor_assoc,Nat.xor_comm (b / 2),<-Nat.xor_assoc 3988292384,Nat.xor_self,Nat.zero_xor]
theorem IU(n a b:Nat):bP n (a ^^^ b)=bP n a ^^^ bP n b:=by
 induction n with
 | zero=>rfl
 | succ n ih=>simp only[bP,ih,LV]
theorem Dx(n q:Nat):bP n (2 ^ n*q)=q:=by
 induction n generalizing q with
 | zero=>simp[bP]
 | succ n ih=>
  rw[bP,show 2 ^ (n+1)*q=2 ^ n*(2*q) by rw[Nat.pow_succ,Nat.mul_assoc],ih];unfold oO;rw[if_neg (by omega)];omega
theorem VP(r:Nat):r=(2 ^ 4*(r / 2 ^ 4)) ^^^ (r % 2 ^ 4):=by
 apply Nat.eq_of_testBit_eq;intro i;rw[Nat.testBit_xor,Nat.testBit_two_pow_mul,Nat.testBit_div_two_pow,Nat.testBit_mod_two_pow];by_cases h:4<=i
 ·have e:i-4+4=i:=by omega
  have e2:¬i<4:=by omega
  simp[h,e,e2]
 ·have e2:i<4:=by omega
  simp[e2,h]
theorem FW(r:Nat):bP 4 r=(r / 16) ^^^ bP 4 (r % 16):=by
 conv=>lhs;rw[VP r,IU,Dx]
def lJ:List Nat:=(List.range 16).map (bP 4)
theorem IV(j:Nat)(h:j<16):lJ.getD j 0=bP 4 j:=by
 simp[lJ,getD_eq_getElem?_getD,h]
end
section
open Go.RowKit
def aQ(l:List Nat):List Value:=l.map fun n:Nat=>Value.int .u32 (n:Int)
def bytes(l:List Nat):List Value:=l.map fun n:Nat=>Value.int .u8 (n:Int)
theorem kg(l:List Nat)(j:Nat)(h:j<l.length):(aQ l)[j]? =some (.int .u32 (l.getD j 0:Nat)):=by
 simp[aQ,getD_eq_getElem?_getD,h]
theorem xg(l:List Nat)(j x:Nat):(aQ l).set j (.int .u32 (x:Nat))=aQ (l.set j x):=by simp[aQ,map_set]
theorem qE(l:List Nat)(j:Nat)(h:j<l.length):(bytes l)[j]? =some (.int .u8 (l.getD j 0:Nat)):=by
 simp[bytes,getD_eq_getElem?_getD,h]
theorem aF(l:List Nat):(bytes l).length=l.length:=by simp[bytes]
theorem bI(l:List Nat):(aQ l).length=l.length:=by simp[aQ]
theorem oP(l:List Nat):(aQ l).toArray.all (·.oneCell')=true:=by
 simp[aQ,Value.oneCell']
theorem _root_.Go.RowKit.Below.setRow{a:World}(h:Below B a w)(cs:Array Value)(hg:B<=g):Below B a (w.setRow g cs):=
 h.trans ⟨rfl,rfl,rfl,by simp,fun k hk=>setRow_other w g k cs (by omega)⟩
theorem EF(w:World)(t e:TypeId)(n:Nat)(vs:List Value)(i:Nat)(v:Value)(h:prog.underlying t=some (.array n e))(hi:i<n)(hsz:∀w,(sizeOf e).run prog w=.ok 1 w)(hag:∀w,(isAgg e).run prog w=.ok false w)(hv:vs[i]? =some v):
  (Instr.index t (.agg vs.toArray) (.int .i64 (i:Int))).run prog w=.ok v w:=by
 have hn:(0:Int)<=i/\(i:Int)<(n:Int):=by omega
 simp[Instr.index,run_underlying h,asIntOf,hn,go_sem,hsz,hag,hi,hv]
theorem OO(p x:Nat)(hp:p<16777216)(hx:x<256):bits .or .u32 ((p:Int)*256) (x:Int)=((256*p+x:Nat):Int):=by
 have h:=u32_or_nat (p*256) x (by omega) (by omega);rw[Int.natCast_mul] at h;rw[show(((256:Nat)):Int)=256 from rfl] at h;rw[h,nat_join 8 (p*256) x (by omega) (by omega),Nat.mul_comm]
theorem LW(b:List Nat)(hb:b.length=64)(hd:∀x∈b,x<256)(w:World):
  Zc 248 #[.agg (bytes b).toArray] w fun e w'=>e=.returned (.agg (aQ (laid b 48)).toArray)/\Below w.heap.size w w':=by
 go_enter func248,ntmps248;go_upto_region 2 with fail
 show Code.wp _ _ _ _ (((w.alloc (.cells (bytes b).toArray 189)).alloc (.cells (aQ (replicate 64 0)).toArray 379)).alloc (.cells (aQ (replicate 64 0)).toArray 379));have hb0:Below w.heap.size w (((w.alloc (.cells (bytes b).toArray 189)).alloc (.cells (aQ (replicate 64 0)).toArray 379)).alloc (.cells (aQ (replicate 64 0)).toArray 379)):=(((Zr).alloc (Zn) _).alloc (by simp) _).alloc (by simp;omega) _;have h1:=((ai.new w 189 (bytes b)).below ((Zr).alloc (Zn) (.cells (aQ (replicate 64 0)).toArray 379)) (by simp)).below ((Zr).alloc (Zn) (.cells (aQ (replicate 64 0)).toArray 379)) (by simp;omega);have h2:=(ai.new (w.alloc (.cells (bytes b).toArray 189)) 379 (aQ (replicate 64 0))).below ((Zr).alloc (Zn) (.cells (aQ (replicate 64 0)).toArray 379)) (by simp);have h3:=ai.new ((w.alloc (.cells (bytes b).toArray 189)).alloc (.cells (aQ (replicate 64 0)).toArray 379)) 379 (aQ (replicate 64 0));generalize(((w.alloc (.cells (bytes b).toArray 189)).alloc (.cells (aQ (replicate 64 0)).toArray 379)).alloc (.cells (aQ (replicate 64 0)).toArray 379))=W at *;simp only[World.size_alloc] at h2 h3;have hsz:(prog.info? 189).map (·.size)=some (bytes b).toArray.size:=by rw[size_toArray,aF,hb];kernel_rfl
 rw[<-IA b] at h3;go_wp2_with(refine wpList_load_row rfl 189 _ rfl w.heap.size rfl _ _ _ _ h1.heap underlying189 rfl hsz ?_);go_loopw [12] (fun i wr=>∃n:Nat,n<=64/\i=.int .i64 n/\ai wr (w.heap.size+1) 379 (aQ (replicate 64 0))/\ai wr (w.heap.size+1+1) 379 (aQ (filled b n))/\Below w.heap.size w wr) (fun i _=>64-(intOf i).toNat)
 case atStart=>exact⟨0,by omega,rfl,h2,h3,hb0⟩
 case round=>
  clear h1 h2 h3 hb0 hsz;obtain⟨n,hn,rfl,h2,h3,hbw⟩:=hrel;by_cases hlt:n<64
  ·have hx:(Instr.index 189 (.agg (bytes b).toArray) (.int .i64 (n:Int))).run prog wr=.ok (.int .u8 (b.getD n 0:Nat)) wr:=
    EF wr _ _ 64 _ n _ underlying189 hlt (fun _=>by kernel_rfl) (fun _=>by kernel_rfl) (qE b n (by omega))
   have hc:=h3.cell (n / 4);rw[kg _ _ (by rw[LD];omega),LF _ _ _ (by omega)] at hc;have hf:=h3.frozen (n / 4);have hst:Hid _:=IB b n hb hlt;have l3:=Y8 b n hd;have lb:b.getD n 0<256:=hd _ (Sq b n (by omega));generalize pw b n (n / 4)=p at *;generalize b.getD n 0=x at *;have hor:=OO p x l3 lb;go_wp2;go_roundw
   case rel=>exact⟨n+1,by omega,by go_num,h2.other _ (by simp),by rw[<-hst.out,<-xg];exact h3.set _ _,hbw.setCell (by simp;omega) _⟩
   case measure=>simp[intOf];omega
  ·have en:n=64:=by omega
   have Zj:(n:Int)=64:=by omega
   rw[Zj];subst en;rw[LG] at h3;go_wp2;go_loopw [28] (fun i wr=>∃n:Nat,n<=48/\i=.int .i64 n/\ai wr (w.heap.size+1) 379 (aQ (replicate 64 0))/\ai wr (w.heap.size+1+1) 379 (aQ (laid b n))/\Below w.heap.size w wr) (fun i _=>48-(intOf i).toNat)
   case atStart=>exact⟨0,by omega,rfl,h2,h3,hbw⟩
   case round=>
    clear h2 h3 hbw;obtain⟨n,hn,rfl,h2,h3,hbw⟩:=hrel;have hln:=IC b n hn;by_cases hlt:n<48
    ·have c1:=h3.cell (n+1);have c14:=h3.cell (n+14);have c0:=h3.cell n;have c9:=h3.cell (n+9);have f16:=h3.frozen (n+16);rw[kg _ _ (by omega),Sv _ _ _ (by omega)] at c1 c14 c0 c9;have c16:=h3.cell (n+16);rw[kg _ _ (by omega)] at c16;have hst:Hid _:=PU b n hlt;have hs:=AQ (dU b) (fun y hy=>Sw b hd y hy) n;have hext:Hid _:=Zf (dU b) n (lI b);have l0:=kX _ hs n;have l1:=kX _ hs (n+1);have l9:=kX _ hs (n+9);have l14:=kX _ hs (n+14);generalize ext (sched (dU b) n)=ex at *;generalize(sched (dU b) n).getD n 0=x0 at *;generalize(sched (dU b) n).getD (n+1) 0=x1 at *;generalize(sched (dU b) n).getD (n+9) 0=x9 at *;generalize(sched (dU b) n).getD (n+14) 0=qx at *;clear hs;have r7:∀w,Zc 275 #[.int .u32 (x1:Int),.int .i64 7] w fun e w'=>e=.returned (.int .u32 (iT x1 7:Nat))/\w=w':=fun w=>mD x1 7 l1 (by decide) (by decide) w;have r18:∀w,Zc 275 #[.int .u32 (x1:Int),.int .i64 18] w fun e w'=>e=.returned (.int .u32 (iT x1 18:Nat))/\w=w':=fun w=>mD x1 18 l1 (by decide) (by decide) w;have r17:∀w,Zc 275 #[.int .u32 (qx:Int),.int .i64 17] w fun e w'=>e=.returned (.int .u32 (iT qx 17:Nat))/\w=w':=fun w=>mD qx 17 l14 (by decide) (by decide) w;have r19:∀w,Zc 275 #[.int .u32 (qx:Int),.int .i64 19] w fun e w'=>e=.returned (.int .u32 (iT qx 19:Nat))/\w=w':=fun w=>mD qx 19 l14 (by decide) (by decide) w;have e1:=u32_xor_nat (iT x1 7) (iT x1 18) (eU _ _) (eU _ _);have e2:bits .xor .u32 ((iT x1 7 ^^^ iT x1 18:Nat):Int) ((x1:Int) / 8)=((Dq x1:Nat):Int):=u32_xor_nat (iT x1 7 ^^^ iT x1 18) (x1 / 8) (jw _ _ (eU _ _) (eU _ _)) (by omega);have e3:=u32_xor_nat (iT qx 17) (iT qx 19) (eU _ _) (eU _ _);have e4:bits .xor .u32 ((iT qx 17 ^^^ iT qx 19:Nat):Int) ((qx:Int) / 1024)=((Dt qx:Nat):Int):=u32_xor_nat (iT qx 17 ^^^ iT qx 19) (qx / 1024) (jw _ _ (eU _ _) (eU _ _)) (by omega);have g0:=VH x1 l1;have g1:=VI qx l14;go_wp2;go_region;go_wp2_with(first|(go_at_call 275;refine(r7 _).mono ?_;rintro e w' ⟨rfl,rfl⟩;clear r7)|(go_at_call 275;refine(r18 _).mono ?_;rintro e w' ⟨rfl,rfl⟩;clear r18)|(go_at_call 275;refine(r17 _).mono ?_;rintro e w' ⟨rfl,rfl⟩;clear r17)|(go_at_call 275;refine(r19 _).mono ?_;rintro e w' ⟨rfl,rfl⟩;clear r19));go_region;have hv:((x0:Int)+(Dq x1:Nat)+x9+(Dt qx:Nat)) % 4294967296=(ex:Int):=by rw[hext.out];omega
     have h2':=h2.other (a:=(Za (w.heap.size+1+1) (n+16))) (.int .u32 (((x0:Int)+(Dq x1:Nat)+x9+(Dt qx:Nat)) % 4294967296)) (by simp);have h3':=h3.set (n+16) (.int .u32 (((x0:Int)+(Dq x1:Nat)+x9+(Dt qx:Nat)) % 4294967296));have hb':=hbw.setCell (p:=(Za (w.heap.size+1+1) (n+16))) (by simp;omega) (.int .u32 (((x0:Int)+(Dq x1:Nat)+x9+(Dt qx:Nat)) % 4294967296));have h3'':=h3'.drew.drew;rw[show(aQ (laid b n)).set (n+16) (.int .u32 (((x0:Int)+(Dq x1:Nat)+x9+(Dt qx:Nat)) % 4294967296))=aQ (laid b (n+1)) by rw[hv,xg,hst.out]] at h3'';have h2'':=h2'.drew.drew;have hb'':=hb'.drew.drew;clear c0 c1 c9 c14 c16 f16 h2 h3 hbw h3' h2' hb' hv e1 e2 e3 e4;generalize(wr.setCell (Za (w.heap.size+1+1) (n+16)) (.int .u32 (((x0:Int)+(Dq x1:Nat)+x9+(Dt qx:Nat)) % 4294967296))).drew.drew=w3 at *;go_wp2;go_roundw
     case rel=>exact⟨n+1,by omega,by go_num,h2'',h3'',hb''⟩
     case measure=>simp[intOf];omega
    ·have en:n=48:=by omega
     have Zj:(n:Int)=48:=by omega
     rw[Zj];subst en;have hsz:(prog.info? 379).map (·.size)=some (aQ (laid b 48)).toArray.size:=by rw[size_toArray,bI,hln];kernel_rfl
     have hz:(aQ (replicate 64 0)).toArray.size=(aQ (laid b 48)).toArray.size:=by rw[size_toArray,size_toArray,bI,bI,hln];simp
     have hone:=oP (laid b 48);have hB2:Below w.heap.size w (wr.setRow (w.heap.size+1) (aQ (laid b 48)).toArray):=hbw.setRow _ (by omega);have hg2:=setRow_heap wr (w.heap.size+1) _ (aQ (laid b 48)).toArray _ _ h2.heap;generalize hL:laid b 48=L at *;have HL:Hid (laid b 48=L):=hL;clear hL;go_wp2_with(first|(refine wpList_load_row rfl 379 _ rfl (w.heap.size+1+1) rfl _ _ _ _ h3.heap underlying379 rfl hsz ?_)|(refine wpList_store_row rfl 379 _ _ rfl (w.heap.size+1) _ rfl rfl _ _ h2.heap hsz hz hone ?_));refine bodyPost_ret (v:=.agg (aQ L).toArray) ?_ rfl ⟨by rw[HL.out],hB2⟩;exact results_cell_row (P:=prog) results248 _ _ (w.heap.size+1) _ _ _ _ rfl hg2 underlying379 rfl hsz
theorem VQ(e:Nat)(h:e<4294967296):4294967295 ^^^ e=4294967295-e:=by
 apply Nat.eq_of_testBit_eq;intro i;have h1:(4294967295:Nat)=2 ^ 32-1:=by decide
 have h2:4294967295-e=2 ^ 32-(e+1):=by omega
 rw[Nat.testBit_xor,h2,Nat.testBit_two_pow_sub_succ (by omega),h1,Nat.testBit_two_pow_sub_one];rcases Nat.lt_or_ge i 32 with hi|hi
 ·simp[hi]
 ·have:e.testBit i=false:=Nat.testBit_lt_two_pow (Nat.lt_of_lt_of_le h (Nat.le_trans (by decide) (Nat.pow_le_pow_right (by decide) hi)));simp[this,Nat.not_lt.2 hi]
theorem OP(e:Nat)(h:e<4294967296):bits .xor .u32 (if IntKind.u32.signed=true then -1 else IntKind.u32.max) (e:Int)=((4294967295-e:Nat):Int):=by
 have h1:=u32_xor_nat 4294967295 e (by decide) h;rw[VQ e h] at h1;have e1:(if IntKind.u32.signed=true then(-1:Int) else IntKind.u32.max)=((4294967295:Nat):Int):=by decide
 rw[e1];exact h1
theorem IW(x:Nat)(hx:x<4294967296)(w:World):
  Zc 291 #[.int .u32 (x:Nat)] w fun e w'=>e=.returned (.int .u32 (bP 4 x:Nat))/\w=w':=by
 go_enter func291,ntmps291;go_wp2;go_loop [0,4] (fun r i=>∃m:Nat,m<=4/\i=.int .i64 m/\r=.int .u32 (bP m x:Nat)) (fun _ i=>4-(intOf i).toNat)
 case atStart=>exact⟨0,by omega,rfl,rfl⟩
 case round=>
  obtain⟨m,hm,rfl,rfl⟩:=hrel;by_cases hm4:m<4
  ·have hl:=kN m x hx;have hnx:Hid (bP (m+1) x=oO (bP m x)):=rfl;generalize bP m x=q at hl hnx⊢;have hxo:=u32_xor_nat (q / 2) 3988292384 (by omega) (by decide);by_cases hodd:q % 2=1
   ·have hand:bits .and .u32 (q:Int) (1:Int)=(1:Int):=by
     have h:=u32_and_nat q 1 hl (by decide);rw[Nat.and_one_is_mod,hodd] at h;exact h
    have hq:Hid (bP (m+1) x=(q / 2) ^^^ 3988292384):=by rw[hnx.out];unfold oO;rw[if_pos hodd];rfl
    go_wp2;go_round
    case rel=>exact⟨m+1,by omega,by go_num,by rw[hq.out];exact congrArg (Value.int .u32) hxo⟩
    case measure=>simp[intOf];omega
   ·have hand:bits .and .u32 (q:Int) (1:Int)=(0:Int):=by
     have h:=u32_and_nat q 1 hl (by decide);rw[Nat.and_one_is_mod,show q % 2=0 by omega] at h;exact h
    have hq:Hid (bP (m+1) x=q / 2):=by rw[hnx.out];unfold oO;rw[if_neg hodd];rfl
    go_wp2;go_round
    case rel=>exact⟨m+1,by omega,by go_num,by rw[hq.out];rfl⟩
    case measure=>simp[intOf];omega
  ·have em:m=4:=by omega
   subst em;obtain⟨q,hq⟩:∃q,Hid (bP 4 x=q):=⟨_,rfl⟩;rw[hq.out];go_wp2;go_ret;exact⟨by rw[hq.out];rfl,rfl⟩
def lK(n:Nat):List Nat:=lJ.take n++replicate (16-n) 0
theorem LX(n:Nat)(h:n<16):(lK n).set n (bP 4 n)=lK (n+1):=by
 have hl:(lJ.take n).length=n:=by simp[lJ];omega
 have hg:lJ.take (n+1)=lJ.take n++[bP 4 n]:=by
  rw[take_succ_eq_append_getElem (by simp[lJ];exact h)];simp[lJ]
 unfold lK;rw[set_append_right _ _ (by omega),hl,Nat.sub_self,show 16-n=(16-(n+1))+1 by omega,replicate_succ,set_cons_zero,hg];simp
theorem EG(n:Nat)(h:n<=16):(lK n).length=16:=by simp[lK,lJ];omega
theorem SF(b B:Nat)(hB:B<=b)(c0 c1 c2:Value)(w:World)(h:ai w b 389 (c0::c1::c2::aQ (lK 0))):
  Zc 277 #[Zp b] w fun e w'=>e=.returned (.tuple #[])/\ai w' b 389 (c0::c1::c2::aQ (lK 16))/\Below B w w':=by
 go_enter func277,ntmps277;go_wp2;go_loopw [3] (fun i wr=>∃n:Nat,n<=16/\i=.int .i64 n/\ai wr b 389 (c0::c1::c2::aQ (lK n))/\Below B w wr) (fun i _=>16-(intOf i).toNat)
 case atStart=>exact⟨0,by omega,rfl,h,Zr⟩
 case round=>
  clear h;obtain⟨n,hn,rfl,hR,hb⟩:=hrel;by_cases hlt:n<16
  ·have hc:=hR.cell (n+3);have hf:=hR.frozen (n+3);have hl:=EG n hn;simp only[getElem?_cons_succ] at hc;rw[kg _ _ (by omega)] at hc;have e3:n+3=3+n:=by omega
   have hS:∀w,Zc 291 #[.int .u32 (n:Int)] w fun e w'=>e=.returned (.int .u32 (bP 4 n:Nat))/\w=w':=fun w=>IW n (by omega) w;have hst:Hid _:=LX n hlt;generalize bP 4 n=y at hS hst;have hR2:=(hR.set (n+3) (.int .u32 (y:Int)));simp only[set_cons_succ] at hR2;rw[xg,hst.out] at hR2;have hb2:=(hb.setCell (p:=(Za b (n+3))) hB (.int .u32 (y:Int)));rw[e3] at hc hf hR2 hb2;clear hR hb e3;generalize(lK n).getD n 0=old at hc;have hw:IntKind.u32.wrap (n:Int)=(n:Int):=by rw[IntKind.wrap_u32];omega
   have hS2:∀w,Zc 291 #[.int .u32 (IntKind.u32.wrap (n:Int))] w fun e w'=>e=.returned (.int .u32 (y:Nat))/\w=w':=by rw[hw];exact hS
   clear hw hS;go_wp2;go_region_with (go_at_call 291;refine(hS2 _).mono ?_;rintro e w' ⟨rfl,rfl⟩)
   all_goals go_wp2
   all_goals go_roundw
   all_goals first|exact⟨n+1,by omega,by go_num,hR2.drew,hb2.drew⟩|(simp[intOf];omega)
  ·have en:n=16:=by omega
   subst en;go_wp2;go_end0;exact⟨rfl,hR,hb⟩
theorem xk(w:World):(callFunc 172 #[]).run prog w=.ok (.value (.tuple #[])) w:=run_call_mark0 func172 (by kernel_rfl) (by kernel_rfl) (by kernel_rfl) .disable (by kernel_rfl) w
theorem zD(w:World):(callFunc 174 #[]).run prog w=.ok (.value (.tuple #[])) w:=run_call_mark0 func174 (by kernel_rfl) (by kernel_rfl) (by kernel_rfl) .enable (by kernel_rfl) w
theorem FY(a:Addr)(w:World):(callFunc 175 #[.pointer (some a)]).run prog w=.ok (.value (.tuple #[])) w:=run_call_marked func175 (by kernel_rfl) (by kernel_rfl) (by kernel_rfl) .acquire (by kernel_rfl) a w
theorem LY(a:Addr)(w:World):(callFunc 177 #[.pointer (some a)]).run prog w=.ok (.value (.tuple #[])) w:=run_call_marked func177 (by kernel_rfl) (by kernel_rfl) (by kernel_rfl) .releaseMerge (by kernel_rfl) a w
theorem jf(a:Addr)(w:World)(hc:w.cell? a=some (.int .i32 0))(hz:w.frozen? a=false):
  Zc 57 #[.pointer (some a)] w fun e w'=>e=.returned (.tuple #[])/\w'=w.setCell a (.int .i32 1):=by
 have hd:=xk;have he:=zD;have ha:=FY;have hcas:=run_call_cas_hit (P:=prog) func173 (by kernel_rfl) (by kernel_rfl) (by kernel_rfl) .i32 (by kernel_rfl) (y:=1) hc hz;have hc':(w.setCell a (.int .i32 1)).cell? a=some (.int .i32 1):=World.cell?_setCell_same w a _ hc;have hcv:=run_convert_to_unsafe (P:=prog) (src:=283) (dst:=239) underlying283 underlying239 (by kernel_rfl) hc';go_enter func57,ntmps57;go_wp2
 first|go_end0|(simp only[Exit.inBlock,Exit.then];refine bodyPost_ret (results_none rfl _ _ _) rfl ?_)|refine bodyPost_ret (results_none rfl _ _ _) rfl ?_
 go_wp2;go_end0;exact⟨rfl,rfl⟩
theorem dV(a:Addr)(u:FrameMode)(w:World)(hc:w.cell? a=some (.int .i32 1))(hz:w.frozen? a=false):
  CallsD prog 58 #[.pointer (some a)] u w fun e u' w'=>u'=u/\(e=.returned (.tuple #[])/\w'=w.setCell a (.int .i32 0)):=by
 have hd:=xk;have he:=zD;have hr:=LY;have hadd:=run_call_add (P:=prog) func178 (by kernel_rfl) (by kernel_rfl) (by kernel_rfl) .i32 (by kernel_rfl) (y:= -1) (s:=0) hc hz (by simp[go_sem];rfl);have hcv:=run_convert_to_unsafe (P:=prog) (src:=283) (dst:=239) underlying283 underlying239 (by kernel_rfl) hc;go_enter_d func58,ntmps58;go_wp2;go_end0;go_wp2;go_end0;exact⟨rfl,rfl⟩
theorem AU(a:Addr)(x:Value)(u:FrameMode)(w:World)(hc:w.cell? a=some x)(hz:w.frozen? a=false):
  CallsD prog 308 #[.pointer (some a),.bool true] u w fun e u' w'=>u'=u/\(e=.returned (.tuple #[])/\w'=w.drew.setCell a (.int .u32 1)):=by
 have hc':w.drew.cell? a=some x:=by go_simp
 have hz':w.drew.frozen? a=false:=by go_simp
 have hst:=run_call_store (P:=prog) func320 (by kernel_rfl) (by kernel_rfl) (by kernel_rfl) (by kernel_rfl) (k:=.u32) (y:=1) hc' hz';go_enter_d func308,ntmps308;go_wp2;go_region_calls
 all_goals(go_end0;exact⟨rfl,rfl⟩)
theorem SG(b B:Nat)(hB:B<=b)(c2:Value)(w:World)(h:ai w b 389 (.int .u32 0 :: .int .i32 0::c2::aQ (lK 0))):
  Zc 290 #[Zp b,.func (.func 277) #[Zp b] #[]] w fun e w'=>e=.returned (.tuple #[])/\ai w' b 389 (.int .u32 1 :: .int .i32 0::c2::aQ (lK 16))/\Below B w w':=by
 have h1:=h.set 1 (.int .i32 1);simp only[set_cons_succ,set_cons_zero] at h1;have hl:=run_call_load (P:=prog) func307 (by kernel_rfl) (by kernel_rfl) (by kernel_rfl) .u32 (by kernel_rfl) (w:=w.setCell (Za b 1) (.int .i32 1)) (a:=(Za b 0)) (x:=0) (h1.cell 0);have hf:=SF b B hB (.int .u32 0) (.int .i32 1) c2 _ h1;have hb1:Below B w (w.setCell (Za b 1) (.int .i32 1)):=(Zr).setCell hB _;have z0:w.cell? (Za b 1)=some (.int .i32 0):=h.cell 1;have z1:=h.frozen 1;have hnot:∀(x:Bool) (w:World),(Op.unary .not (.bool x)).run prog w=.ok (.bool (!x)) w:=fun _ _=>rfl;go_enter_defers func290,ntmps290;go_wp2_with(first|(go_at_call 57;refine(jf (Za b 1) _ z0 z1).mono ?_;rintro e w' ⟨rfl,rfl⟩)|(go_at_call 277;refine hf.mono ?_;rintro e w2 ⟨rfl,hr2,hb2⟩)|(go_at_call 289;go_in));refine leaves_cons (f:=308) (args:=#[Zp b,.bool true]) (by simp) (by simp[go_sem]) ?_;refine(AU (Za b 0) (.int .u32 0) .returning _ (hr2.cell 0) (hr2.frozen 0)).mono ?_;rintro e u' w'' ⟨rfl,rfl,rfl⟩;have hr3:=hr2.drew.set 0 (.int .u32 1);simp only[set_cons_zero] at hr3;refine leaves_cons (f:=58) (args:=#[.pointer (some (Za b 1))]) (by simp[settle]) (by simp[go_sem]) ?_;refine(dV (Za b 1) _ _ (hr3.cell 1) (hr3.frozen 1)).mono ?_;rintro e u' w'' ⟨rfl,rfl,rfl⟩;have hr4:=hr3.set 1 (.int .i32 0);simp only[set_cons_zero,set_cons_succ] at hr4;have hb4:=(((hb1.trans hb2).drew.setCell (p:=(Za b 0)) hB (.int .u32 1)).setCell (p:=(Za b 1)) hB (.int .i32 0));simp[Leaves,settle,results,results290];exact⟨hr4,hb4⟩
theorem SH(b B:Nat)(hB:B<=b)(c2:Value)(w:World)(h:ai w b 389 (.int .u32 0 :: .int .i32 0::c2::aQ (lK 0))):
  Zc 276 #[Zp b,.func (.func 277) #[Zp b] #[]] w fun e w'=>e=.returned (.tuple #[])/\ai w' b 389 (.int .u32 1 :: .int .i32 0::c2::aQ (lK 16))/\Below B w w':=by
 have h0:w.cell? (Za b 0)=some (.int .u32 0):=h.cell 0;have hl:=run_call_load (P:=prog) func307 (by kernel_rfl) (by kernel_rfl) (by kernel_rfl) .u32 (by kernel_rfl) h0;have hS:=SG b B hB c2 w h;have hnot:∀(x:Bool) (w:World),(Op.unary .not (.bool x)).run prog w=.ok (.bool (!x)) w:=fun _ _=>rfl;go_enter func276,ntmps276;go_wp2_with(first|(go_at_call 290;refine hS.mono ?_;rintro e w' ⟨rfl,hr,hb⟩)|(go_at_call 289;go_in));go_end0;exact⟨rfl,hr,hb⟩
theorem VR(b:Nat)(fv:Value)(w:World)(h0:w.cell? (Za b 0)=some (.int .u32 1)):
  Zc 276 #[Zp b,fv] w fun e w'=>e=.returned (.tuple #[])/\w=w':=by
 have hl:=run_call_load (P:=prog) func307 (by kernel_rfl) (by kernel_rfl) (by kernel_rfl) .u32 (by kernel_rfl) h0;have hnot:∀(x:Bool) (w:World),(Op.unary .not (.bool x)).run prog w=.ok (.bool (!x)) w:=fun _ _=>rfl;go_enter func276,ntmps276;go_wp2;go_end0;exact⟨rfl,rfl⟩
def IX(w:World)(b:Nat):Prop:=ai w b 389 (.int .u32 0 :: .int .i32 0 :: .int .u32 0::aQ (lK 0))\/ai w b 389 (.int .u32 1 :: .int .i32 0 :: .int .u32 0::aQ (lK 16))
theorem SI:lK 16=lJ:=by decide +kernel
theorem OQ(b B:Nat)(hB:B<=b)(j:Nat)(hj:j<16)(w:World)(h:IX w b):
  Zc 250 #[Zp b,.int .u32 (j:Nat)] w fun e w'=>e=.returned (.int .u32 (bP 4 j:Nat))/\IX w' b/\Below B w w':=by
 have hmf:∀(fn:Fn) (first cap:Array Value) (w:World),(Instr.makeFunc fn first cap).run prog w=.ok (.func fn first cap) w:=fun _ _ _ _=>rfl;have hget:Hid ((lK 16).getD j 0=bP 4 j):=by rw[SI];exact IV j hj
 have hD:Zc 276 #[Zp b,.func (.func 277) #[Zp b] #[]] w fun e w'=>e=.returned (.tuple #[])/\ai w' b 389 (.int .u32 1 :: .int .i32 0 :: .int .u32 0::aQ (lK 16))/\Below B w w':=by
  rcases h with h|h
  ·exact SH b B hB _ w h
  ·refine(VR b _ w (h.cell 0)).mono ?_;rintro e w' ⟨rfl,rfl⟩;exact⟨rfl,h,Zr⟩
 clear h;generalize bP 4 j=y at hget⊢;go_enter func250,ntmps250;go_wp2_with(go_at_call 276;refine hD.mono ?_;rintro e w' ⟨rfl,hr,hb⟩;have hc:=hr.cell (j+3);simp only[getElem?_cons_succ] at hc;rw[kg _ _ (by rw[EG 16 (Zn)];exact hj),hget.out,Nat.add_comm j 3] at hc);go_ret;exact⟨rfl,.inr hr,hb⟩
theorem AV(x:Nat)(hx:x<4294967296):∃j z:Nat,j<16/\bits .and .u32 (x:Int) 15=(j:Int)/\bP 4 j=z/\bits .xor .u32 ((x:Int) / 16) (z:Int)=(bP 4 x:Nat):=by
 refine⟨x % 16,bP 4 (x % 16),Nat.mod_lt _ (by decide),?_,rfl,?_⟩
 ·have h:=u32_and_nat x 15 hx (by decide);rw[show(15:Nat)=2 ^ 4-1 from rfl,Nat.and_two_pow_sub_one_eq_mod] at h;exact h
 ·have h:=u32_xor_nat (x / 16) (bP 4 (x % 16)) (by omega) (kN 4 _ (by omega));rw[<-FW] at h;exact h
theorem LZ(s:Zy)(w:World)(hs:s.size<=1000000):
  Zc 187 #[.string s] w fun e w'=>e=.returned (.int .u32 (crc (af s):Nat))/\Below w.heap.size w w':=by
 go_enter func187,ntmps187;go_wp2;go_loopw [4,8] (fun r i wr=>∃k:Nat,k<=s.size/\i=.int .i64 k/\r=.int .u32 (jO ((af s).take k) 4294967295:Nat)/\IX wr w.heap.size/\Below w.heap.size w wr) (fun _ i _=>s.size-(intOf i).toNat)
 case atStart=>exact⟨0,Nat.zero_le _,rfl,rfl,.inl (ai.new w 389 (.int .u32 0 :: .int .i32 0 :: .int .u32 0::aQ (lK 0))),(Zr).alloc (Zn) _⟩
 case round=>
  obtain⟨k,hk,rfl,rfl,hT,hb⟩:=hrel;have hlt:=AR ((af s).take k) 4294967295 (fun x hx=>jP s x (mem_of_mem_take hx)) (by decide);by_cases hks:k<s.size
  ·have hsn:Hid _:=tN s k hks;have hst:Hid _:=FT ((af s).take k) (s[k]).toNat 4294967295;have hbt:(s[k]).toNat<256:=(s[k]).toNat_lt;have hx:=u32_xor_nat (jO ((af s).take k) 4294967295) (s[k]).toNat (by omega) (by omega);have hxl:=jw (jO ((af s).take k) 4294967295) (s[k]).toNat hlt (by omega);have hfin:Hid (jO ((af s).take (k+1)) 4294967295=bP 4 (bP 4 (jO ((af s).take k) 4294967295 ^^^ (s[k]).toNat))):=by rw[hsn.out];exact hst.out
   clear hsn hst;generalize jO ((af s).take k) 4294967295=r at hlt hx hfin hxl⊢;generalize r ^^^ (s[k]).toNat=x at hxl hfin hx;obtain⟨j1,z1,hj1,a1,e1,q1⟩:=AV x hxl;have hyl:=kN 4 x hxl;generalize bP 4 x=y at hyl hfin q1;obtain⟨j2,z2,hj2,a2,e2,q2⟩:=AV y hyl;have hvl:=kN 4 y hyl;generalize bP 4 y=v at hvl hfin q2;have l1:z1<4294967296:=by rw[<-e1];exact kN 4 _ (by omega)
   have l2:z2<4294967296:=by rw[<-e2];exact kN 4 _ (by omega)
   have r1:=OQ w.heap.size w.heap.size (Zn) j1 hj1 wr hT;rw[e1] at r1;have r2:Hid (∀w1,IX w1 w.heap.size->Zc 250 #[Zp w.heap.size,.int .u32 (j2:Nat)] w1 fun e w'=>e=.returned (.int .u32 (z2:Nat))/\IX w' w.heap.size/\Below w.heap.size w1 w'):=fun w1 h1=>by
    have:=OQ w.heap.size w.heap.size (Zn) j2 hj2 w1 h1;rw[e2] at this;exact this
   clear e1 e2;go_wp2_with(first|(go_at_call 250;refine r1.mono ?_;rintro e w1 ⟨rfl,hT1,hb1⟩;clear r1)|(go_at_call 250;refine(r2.out w1 hT1).mono ?_;rintro e w2 ⟨rfl,VS,hb2⟩));exact⟨⟨k+1,by omega,by go_num,by rw[hfin.out],VS,hb.trans (hb1.trans hb2)⟩,by simp[intOf];omega⟩
  ·have hfull:Hid (crc (af s)=4294967295-jO ((af s).take k) 4294967295):=by
    show crc (af s)=_;rw[take_of_length_le (by rw[aM];omega)];rfl
   generalize jO ((af s).take k) 4294967295=r at hlt hfull⊢;have hn:=OP r hlt;go_wp2;go_ret;exact⟨by rw[hfull.out];exact FR (congrArg (Value.int .u32) (by omega)),hb⟩
theorem oQ(s:Zy)(w:World)(hs:s.size<=1000000):
  Zc 112 #[.string s] w fun e w'=>e=.returned (.int .u32 (crc (af s):Nat))/\Below w.heap.size w w':=by
 have h:=LZ s w hs;go_enter func112,ntmps112;go_wp2_with(go_at_call 187;refine h.mono ?_;rintro e w' ⟨rfl,hb⟩);go_ret;exact⟨rfl,hb⟩
theorem yO(l:List Nat):crc l<4294967296:=by unfold crc;omega
structure Dk where
 safe:List Zy
 wait:List (Nat × Zy)
 fuse:Nat
 down:Bool
def over(l:List Zy)(ws:List (Nat × Zy)):List Zy:=ws.foldl (fun l x=>l.set x.1 x.2) l
def Dk.seen(S:Dk):List Zy:=over S.safe S.wait
theorem ng(l:List Zy)(ws:List (Nat × Zy)):(over l ws).length=l.length:=by
 induction ws generalizing l with
 | nil=>rfl
 | cons x ws ih=>simp only[over,foldl_cons] at ih⊢;rw[ih,length_set]
theorem uM(l:List Zy)(ws:List (Nat × Zy))(x:Nat × Zy):over l (ws++[x])=(over l ws).set x.1 x.2:=by simp[over]
theorem Dk.seen_length(S:Dk):S.seen.length=S.safe.length:=ng _ _
def Dk.tick(S:Dk):Dk:=if S.fuse=0 then S else{S with fuse:=S.fuse-1,down:=S.down||decide (S.fuse=1)}
structure Dk.Ok(S:Dk):Prop where
 pos:0<S.safe.length
 most:S.safe.length<=4096
 sec:∀x∈S.safe,x.size=64
 wr:∀x∈S.wait,x.1<S.safe.length/\x.2.size=64
 few:S.wait.length<=1000000
structure Fr(w w':World)(bs:List Nat):Prop where
 os:w'.os=w.os
 tape:w'.tape=w.tape
 output:w'.output=w.output
 size:w.heap.size<=w'.heap.size
 block:∀k,k<w.heap.size->k∉bs->w'.heap[k]? =w.heap[k]?
theorem Fr.refl(w:World)(bs:List Nat):Fr w w bs:=⟨rfl,rfl,rfl,Zn,fun _ _ _=>rfl⟩
theorem Fr.trans(h:Fr w w1 bs)(k:Fr w1 w2 cs)(hc:∀x∈cs,x<w.heap.size->x∈bs):Fr w w2 bs:=
 ⟨k.os.trans h.os,k.tape.trans h.tape,k.output.trans h.output,Nat.le_trans h.size k.size,fun n hn hb=>(k.block n (Nat.lt_of_lt_of_le hn h.size) (fun hx=>hb (hc n hx hn))).trans (h.block n hn hb)⟩
theorem Fr.of_below(h:Below w.heap.size w w')(bs:List Nat):Fr w w' bs:=⟨h.os,h.tape,h.output,h.size,fun k hk _=>h.block k hk⟩
theorem Fr.setCell(h:Fr w w' bs)(a:Addr)(v:Value)(ha:a.block∈bs\/w.heap.size<=a.block):Fr w (w'.setCell a v) bs:=
 ⟨h.os,h.tape,h.output,by simpa [World.setCell] using h.size,fun k hk hb=>by
  rw[Below.heap_setCell _ _ _ _ (fun e=>by subst e;rcases ha with ha|ha;exact hb ha;omega)];exact h.block k hk hb⟩
theorem Fr.alloc(h:Fr w w' bs)(o:Obj):Fr w (w'.alloc o) bs:=
 ⟨h.os,h.tape,h.output,by have:=h.size;simp;omega,fun k hk hb=>(heap_alloc_old w' o (Nat.lt_of_lt_of_le hk h.size)).trans (h.block k hk hb)⟩
theorem Fr.drew(h:Fr w w' bs):Fr w w'.drew bs:=⟨h.os,h.tape,h.output,h.size,h.block⟩
theorem Fr.grown{r:Option Nat}(h:Fr w w1 bs)(g:w1.grownBy w' r)(hr:∀k,r=some k->k∈bs\/w.heap.size<=k):Fr w w' bs:=
 ⟨g.os.trans h.os,g.tape.trans h.tape,g.output.trans h.output,Nat.le_trans h.size g.size,fun k hk hb=>(g.block k (Nat.lt_of_lt_of_le hk h.size) (fun e=>by
  rcases hr k e.symm with hx|hx
  ·exact hb hx
  ·omega)).trans (h.block k hk hb)⟩
theorem Fr.row(h:Fr w w' bs)(r:ai w g t vs)(hg:g∉bs):ai w' g t vs:=⟨by rw[h.block g r.lt hg];exact r.heap⟩
def bN(l:List Zy):List Value:=l.map Value.string
theorem jy(l:List Zy)(j:Nat)(h:j<l.length):(bN l)[j]? =some (.string (l.getD j ByteArray.empty)):=by
 simp[bN,getD_eq_getElem?_getD,h]
theorem IY(l:List Zy)(j:Nat)(x:Zy):(bN l).set j (.string x)=bN (l.set j x):=by simp[bN,map_set]
theorem ni(l:List Zy):(bN l).length=l.length:=by simp[bN]
theorem PZ(l:List Zy)(x:Zy):bN l++[.string x]=bN (l++[x]):=by simp[bN]
structure Has(w:World)(g:Nat)(e:TypeId)(cap size:Nat)(xs:List Value):Prop where
 heap:∃cur:Array Value,w.heap[g]? =some (.cells cur e (0,0))/\cur.size=cap*size/\cur.toList.take xs.length=xs/\xs.length<=cap*size
theorem Has.lt(h:Has w g e cap size xs):g<w.heap.size:=by
 obtain⟨cur,h,_⟩:=h.heap;exact(Array.getElem?_eq_some_iff.1 h).1
theorem Has.cell(h:Has w g e cap size xs)(j:Nat)(hj:j<xs.length):w.cell? (Za g j)=xs[j]? :=by
 obtain⟨cur,h1,_,h3,_⟩:=h.heap;rw[cell_of_row w g j cur e (0,0) h1]
 conv=>rhs;rw[<-h3]
 rw[getElem?_take_of_lt hj];simp
theorem Has.frozen(h:Has w g e cap size xs)(j:Nat):w.frozen? (Za g j)=false:=by
 obtain⟨cur,h1,_⟩:=h.heap;simp[World.frozen?,h1]
theorem Has.set(h:Has w g e cap size xs)(j:Nat)(v:Value):Has (w.setCell (Za g j) v) g e cap size (xs.set j v):=by
 obtain⟨cur,h1,h2,h3,h4⟩:=h.heap;refine⟨⟨cur.setIfInBounds j v,by simp[World.setCell,Array.getElem?_modify,h1],by simpa using h2,?_,by simpa using h4⟩⟩;rw[Array.toList_setIfInBounds,length_set,take_set,h3]
theorem Has.keep(h:Has w g e cap size xs)(hk:w'.heap[g]? =w.heap[g]?):Has w' g e cap size xs:=by
 obtain⟨cur,h1,r⟩:=h.heap;exact⟨⟨cur,by rw[hk];exact h1,r⟩⟩
theorem Has.fr(h:Has w g e cap size xs)(f:Fr w w' bs)(hg:g∉bs):Has w' g e cap size xs:=h.keep (f.block g h.lt hg)
theorem Has.other(h:Has w g e cap size xs)(v:Value)(ha:g≠a.block):Has (w.setCell a v) g e cap size xs:=h.keep (Below.heap_setCell _ _ _ _ ha)
theorem Has.owns(h:Has w g e cap size xs)(hn:xs.length=n*size)(hs:0<size)(hc:cap<=maxLen):w.ownsRow 0 e size (.slice (Zs g) n cap) n xs:=by
 obtain⟨cur,h1,h2,h3,h4⟩:=h.heap;refine⟨hn,.inr ⟨g,cap,cur,rfl,Nat.zero_le _,h1,?_,hc,h2,by rw[<-hn];exact h3⟩⟩;rw[hn] at h4;exact Nat.le_of_mul_le_mul_right h4 hs
theorem jA(h:w.ownsRow 0 e size (.slice (Zs g) n cap) n xs):Has w g e cap size xs/\n<=cap/\cap<=maxLen:=by
 obtain⟨hl,h⟩:=h;rcases h with⟨h,_⟩|⟨g',cap',cur,hv,_,h1,h2,h3,h4,h5⟩
 ·cases h
 ·simp only[Value.slice.injEq,Option.some.injEq,Addr.mk.injEq] at hv;obtain⟨⟨rfl,_⟩,_,rfl⟩:=hv;exact⟨⟨⟨cur,h1,h4,by rw[hl];exact h5,by rw[hl];exact Nat.mul_le_mul_right _ h2⟩⟩,h2,h3⟩
structure RD where
 (q gS cS gE cE:Nat)
 wv:Value
def waits(l:List (Nat × Zy)):List Value:=l.flatMap fun x=> [Zi x.1,.string x.2]
def RD.blocks(r:RD):List Nat:=r.q::r.gS::r.gE::r.wv.ownBlock.toList
def Lit(S:Dk)(left:Int)(lit:Bool):Prop:=S.down=false->lit=decide (0<S.fuse)/\(0<S.fuse->left=(S.fuse:Int))
theorem Dk.tick_safe(S:Dk):S.tick.safe=S.safe:=by unfold Dk.tick;split<;>rfl
theorem Dk.tick_wait(S:Dk):S.tick.wait=S.wait:=by unfold Dk.tick;split<;>rfl
theorem Dk.tick_seen(S:Dk):S.tick.seen=S.seen:=by unfold Dk.seen;rw[S.tick_safe,S.tick_wait]
theorem Dk.Ok.tick{S:Dk}(h:S.Ok):S.tick.Ok:=⟨by rw[S.tick_safe];exact h.pos,by rw[S.tick_safe];exact h.most,by rw[S.tick_safe];exact h.sec,by rw[S.tick_safe,S.tick_wait];exact h.wr,by rw[S.tick_wait];exact h.few⟩
theorem L6(h:w.ownsRow 0 e size v n xs)(hne:∀g,v.ownBlock=some g->g≠a.block):(w.setCell a x).ownsRow 0 e size v n xs:=by
 refine h.kept (row:=some a.block) ⟨rfl,rfl,rfl,by simp[World.setCell],fun k _ hk=>Below.heap_setCell _ _ _ _ (fun e=>hk (by rw[e]))⟩ ?_;cases hv:v.ownBlock with
 | none=>exact .inl rfl
 | some g=>exact .inr (fun e=>hne g hv (by simpa using e))
theorem Fr.wider(h:Fr w w' bs)(hc:∀x∈bs,x∈cs):Fr w w' cs:=⟨h.os,h.tape,h.output,h.size,fun k hk hn=>h.block k hk (fun hx=>hn (hc k hx))⟩
end
section
def xq(n:Nat):Nat:=(119-n % 64) % 64
def rF(n i:Nat):Nat:=8*n / 2 ^ (8*(7-i)) % 256
def gK(n k:Nat):List Nat:=(List.range k).map (rF n)
theorem nY(n k:Nat):(gK n k).length=k:=by simp[gK]
theorem Dy(n k:Nat):gK n (k+1)=gK n k++[rF n k]:=by simp[gK,range_succ]
theorem L8(n i:Nat):rF n i<256:=Nat.mod_lt _ (by decide)
def pad(l:List Nat):List Nat:=l++[128]++replicate (xq l.length) 0++gK l.length 8
def iw(n:Nat):Nat:=(n+72) / 64
theorem IZ(n k:Nat):∀x∈gK n k,x<256:=by
 intro x hx;simp only[gK,mem_map] at hx;obtain⟨i,_,rfl⟩:=hx;exact L8 n i
def ofList(l:List Nat):St:=⟨l.getD 0 0,l.getD 1 0,l.getD 2 0,l.getD 3 0,l.getD 4 0,l.getD 5 0,l.getD 6 0,l.getD 7 0⟩
theorem SK(K:List Nat)(s:St)(b:List Nat):(ofList (Dl K s b)).list=Dl K s b:=rfl
theorem L9(K:List Nat)(s:St)(b:List Nat):(ofList (Dl K s b)).Ok:=⟨Nat.mod_lt _ (by decide),Nat.mod_lt _ (by decide),Nat.mod_lt _ (by decide),Nat.mod_lt _ (by decide),Nat.mod_lt _ (by decide),Nat.mod_lt _ (by decide),Nat.mod_lt _ (by decide),Nat.mod_lt _ (by decide)⟩
def fw(P:List Nat)(n:Nat):List Nat:=(P.drop (64*n)).take 64
def iO(K:List Nat)(s:St)(P:List Nat):Nat->St
 | 0=>s
 | n+1=>ofList (Dl K (iO K s P n) (fw P n))
theorem VT(K:List Nat)(s:St)(P:List Nat)(h:s.Ok):∀n,(iO K s P n).Ok
 | 0=>h
 | _+1=>L9 _ _ _
theorem I4(P:List Nat)(n:Nat)(h:64*n+64<=P.length):(fw P n).length=64:=by simp[fw];omega
theorem Ma(P:List Nat)(n:Nat)(h:∀x∈P,x<256):∀x∈fw P n,x<256:=fun x hx=>h x (mem_of_mem_drop (mem_of_mem_take hx))
theorem AX(K:List Nat)(s:St)(P Q:List Nat):∀n,(∀k,k<n->fw P k=fw Q k)->iO K s P n=iO K s Q n
 | 0,_=>rfl
 | n+1,h=>by
  unfold iO;rw[AX K s P Q n (fun k hk=>h k (by omega)),h n (by omega)]
theorem I5(l:List Nat)(n:Nat)(h:64*n+64<=l.length):fw (pad l) n=fw l n:=by
 unfold fw pad;rw[append_assoc,append_assoc,drop_append_of_le_length (by omega),take_append_of_le_length (by simp;omega)]
theorem FZ(l r:List Nat)(q:Nat)(hr:r=l.drop (64*q))(hq:64*q+r.length=l.length)(h:r.length<56):fw (pad l) q=r++[128]++replicate (55-r.length) 0++gK l.length 8:=by
 unfold fw pad;have hz:xq l.length=55-r.length:=by unfold xq;omega
 rw[hz,append_assoc,append_assoc,drop_append_of_le_length (by omega),<-hr,append_assoc,append_assoc];apply take_of_length_le;simp[nY];omega
theorem F8(l r:List Nat)(q:Nat)(hr:r=l.drop (64*q))(hq:64*q+r.length=l.length)(h:56<=r.length)(h2:r.length<64):fw (pad l) q=r++[128]++replicate (63-r.length) 0/\fw (pad l) (q+1)=replicate 56 0++gK l.length 8:=by
 have hz:xq l.length=(63-r.length)+56:=by unfold xq;omega
 have hp:(pad l).drop (64*q)=(r++[128]++replicate (63-r.length) 0)++(replicate 56 0++gK l.length 8):=by
  unfold pad;rw[hz,<-replicate_append_replicate,append_assoc,append_assoc,drop_append_of_le_length (by omega),<-hr];simp only[append_assoc]
 have hl:(r++[128]++replicate (63-r.length) 0).length=64:=by simp;omega
 constructor
 ·unfold fw;rw[hp,take_append_of_le_length (by omega),take_of_length_le (by omega)]
 ·unfold fw;rw[show 64*(q+1)=64*q+64 by omega,<-drop_drop,hp,drop_append_of_le_length (by omega),drop_eq_nil_of_le (by omega),nil_append];apply take_of_length_le;simp[nY]
def bE(x:Nat):List Nat:=[x / 16777216 % 256,x / 65536 % 256,x / 256 % 256,x % 256]
def outs(l:List Nat):List Nat:=l.flatMap bE
def text(l:List Nat):Zy:=⟨(l.map UInt8.ofNat).toArray⟩
def I6(K:List Nat)(s:St)(l:List Nat):Zy:=text (outs (iO K s (pad l) (iw l.length)).list)
end
section
open Go.RowKit
def ko(l:List Nat)(n:Nat):List Nat:=(outs l).take n++replicate (32-n) 0
theorem oU(s:St):(outs s.list).length=32:=rfl
theorem P5(s:St)(n:Nat)(h:n<=32):(ko s.list n).length=32:=by simp[ko,oU];omega
theorem SL(s:St)(n:Nat)(h:n<32):(outs s.list).getD n 0=s.list.getD (n / 4) 0 / 2 ^ (24-8*(n % 4)) % 256:=by
 obtain rfl|rfl|rfl|rfl|rfl|rfl|rfl|rfl|rfl|rfl|rfl|rfl|rfl|rfl|rfl|rfl|rfl|rfl|rfl|rfl|rfl|rfl|rfl|rfl|rfl|rfl|rfl|rfl|rfl|rfl|rfl|rfl:n=0\/n=1\/n=2\/n=3\/n=4\/n=5\/n=6\/n=7\/n=8\/n=9\/n=10\/n=11\/n=12\/n=13\/n=14\/n=15\/n=16\/n=17\/n=18\/n=19\/n=20\/n=21\/n=22\/n=23\/n=24\/n=25\/n=26\/n=27\/n=28\/n=29\/n=30\/n=31:=by omega
 all_goals simp[outs,bE,St.list]
theorem Mc(s:St)(n:Nat)(h:n<32):(ko s.list n).set n (s.list.getD (n / 4) 0 / 2 ^ (24-8*(n % 4)) % 256)=ko s.list (n+1):=by
 rw[<-SL s n h];have hl:((outs s.list).take n).length=n:=by simp[oU];omega
 have hg:(outs s.list).take (n+1)=(outs s.list).take n++[(outs s.list).getD n 0]:=by
  rw[take_succ_eq_append_getElem (by rw[oU];exact h)];simp[getD_eq_getElem?_getD,show n<(outs s.list).length by rw[oU];exact h]
 unfold ko;rw[set_append_right _ _ (by omega),hl,Nat.sub_self,show 32-n=(32-(n+1))+1 by omega,replicate_succ,set_cons_zero,hg];simp
theorem P6(s:St):ko s.list 32=outs s.list:=by
 unfold ko;rw[take_of_length_le (by rw[oU];exact Zn)];simp
theorem St.Ok.get2{s:St}(h:s.Ok)(n:Nat):s.list.getD n 0<4294967296:=by
 apply kX;intro x hx;simp only[St.list,mem_cons,not_mem_nil,or_false] at hx;rcases hx with rfl|rfl|rfl|rfl|rfl|rfl|rfl|rfl
 ·exact h.a
 ·exact h.b
 ·exact h.c
 ·exact h.d
 ·exact h.e
 ·exact h.f
 ·exact h.g
 ·exact h.h
theorem mF(l:List Nat)(j x:Nat):(bytes l).set j (.int .u8 (x:Nat))=bytes (l.set j x):=by simp[bytes,map_set]
theorem bY(l:List Nat):(bytes l).toArray.all (·.oneCell')=true:=by simp[bytes,Value.oneCell']
theorem SN(s:St)(ok:s.Ok)(w:World):
  Zc 184 #[.agg (aQ s.list).toArray] w fun e w'=>e=.returned (.agg (bytes (outs s.list)).toArray)/\Below w.heap.size w w':=by
 go_enter func184,ntmps184;go_upto_region 2 with fail
 show Code.wp _ _ _ _ (((w.alloc (.cells (aQ s.list).toArray 293)).alloc (.cells (bytes (replicate 32 0)).toArray 121)).alloc (.cells (bytes (replicate 32 0)).toArray 121));obtain⟨hb0,h1,h2,h3,hz⟩:=rE w 293 121 121 (aQ s.list) (bytes (replicate 32 0)) (bytes (replicate 32 0));generalize(((w.alloc (.cells (aQ s.list).toArray 293)).alloc (.cells (bytes (replicate 32 0)).toArray 121)).alloc (.cells (bytes (replicate 32 0)).toArray 121))=W at *;go_wp2;go_loopw [5] (fun i wr=>∃n:Nat,n<=32/\i=.int .i64 n/\ai wr w.heap.size 293 (aQ s.list)/\ai wr (w.heap.size+1) 121 (bytes (replicate 32 0))/\ai wr (w.heap.size+1+1) 121 (bytes (ko s.list n))/\Below w.heap.size w wr) (fun i _=>32-(intOf i).toNat)
 case atStart=>exact⟨0,by omega,rfl,h1,h2,h3,hb0⟩
 case round=>
  clear h1 h2 h3 hb0 hz;obtain⟨n,hn,rfl,h1,h2,h3,hb⟩:=hrel;by_cases hlt:n<32
  ·have c1:=h1.cell (n / 4);rw[kg _ _ (show n / 4<8 by omega)] at c1;have c3:=h3.cell n;rw[qE _ _ (by rw[P5 s n hn];exact hlt)] at c3;have f3:=h3.frozen n;have hst:Hid _:=Mc s n hlt;have hx:=ok.get2 (n / 4);generalize s.list.getD (n / 4) 0=x at c1 hst hx;generalize(ko s.list n).getD n 0=old at c3;rcases(by omega:n % 4=0\/n % 4=1\/n % 4=2\/n % 4=3) with e|e|e|e
   all_goals rw[e] at hst
   ·have e2:(n:Int) % 4=0:=by omega
    have tX:Hid ((ko s.list n).set n (x / 16777216 % 256)=ko s.list (n+1)):=hst;have key:∀v:Int,v=((x / 16777216 % 256:Nat):Int)->ai (wr.setCell (Za (w.heap.size+1+1) n) (.int .u8 v)) (w.heap.size+1+1) 121 (bytes (ko s.list (n+1))):=by
     intro v hv;rw[hv,<-tX.out,<-mF];exact h3.set _ _
    have hk:Hid _:=key;clear hst key;go_wp2;refine⟨⟨n+1,by omega,by go_num,h1.other _ (show w.heap.size≠w.heap.size+1+1 by omega),h2.other _ (show w.heap.size+1≠w.heap.size+1+1 by omega),hk.out _ (by omega),hb.setCell (show w.heap.size<=w.heap.size+1+1 by omega) _⟩,by simp[intOf];omega⟩
   ·have e2:(n:Int) % 4=1:=by omega
    have tX:Hid ((ko s.list n).set n (x / 65536 % 256)=ko s.list (n+1)):=hst;have key:∀v:Int,v=((x / 65536 % 256:Nat):Int)->ai (wr.setCell (Za (w.heap.size+1+1) n) (.int .u8 v)) (w.heap.size+1+1) 121 (bytes (ko s.list (n+1))):=by
     intro v hv;rw[hv,<-tX.out,<-mF];exact h3.set _ _
    have hk:Hid _:=key;clear hst key;go_wp2;refine⟨⟨n+1,by omega,by go_num,h1.other _ (show w.heap.size≠w.heap.size+1+1 by omega),h2.other _ (show w.heap.size+1≠w.heap.size+1+1 by omega),hk.out _ (by omega),hb.setCell (show w.heap.size<=w.heap.size+1+1 by omega) _⟩,by simp[intOf];omega⟩
   ·have e2:(n:Int) % 4=2:=by omega
    have tX:Hid ((ko s.list n).set n (x / 256 % 256)=ko s.list (n+1)):=hst;have key:∀v:Int,v=((x / 256 % 256:Nat):Int)->ai (wr.setCell (Za (w.heap.size+1+1) n) (.int .u8 v)) (w.heap.size+1+1) 121 (bytes (ko s.list (n+1))):=by
     intro v hv;rw[hv,<-tX.out,<-mF];exact h3.set _ _
    have hk:Hid _:=key;clear hst key;go_wp2;refine⟨⟨n+1,by omega,by go_num,h1.other _ (show w.heap.size≠w.heap.size+1+1 by omega),h2.other _ (show w.heap.size+1≠w.heap.size+1+1 by omega),hk.out _ (by omega),hb.setCell (show w.heap.size<=w.heap.size+1+1 by omega) _⟩,by simp[intOf];omega⟩
   ·have e2:(n:Int) % 4=3:=by omega
    have tX:Hid ((ko s.list n).set n (x % 256)=ko s.list (n+1)):=by
     have h:=hst.out;rw[show x / 2 ^ (24-8*3) % 256=x % 256 by rw[show 2 ^ (24-8*3)=1 from rfl,Nat.div_one]] at h;exact h
    have key:∀v:Int,v=((x % 256:Nat):Int)->ai (wr.setCell (Za (w.heap.size+1+1) n) (.int .u8 v)) (w.heap.size+1+1) 121 (bytes (ko s.list (n+1))):=by
     intro v hv;rw[hv,<-tX.out,<-mF];exact h3.set _ _
    have hk:Hid _:=key;clear hst key;go_wp2;refine⟨⟨n+1,by omega,by go_num,h1.other _ (show w.heap.size≠w.heap.size+1+1 by omega),h2.other _ (show w.heap.size+1≠w.heap.size+1+1 by omega),hk.out _ (by omega),hb.setCell (show w.heap.size<=w.heap.size+1+1 by omega) _⟩,by simp[intOf];omega⟩
  ·have en:n=32:=by omega
   have Zj:(n:Int)=32:=by omega
   rw[Zj];subst en;rw[P6] at h3;have AY:=oU s;obtain⟨M,HM⟩:∃M,Hid (outs s.list=M):=⟨_,rfl⟩;rw[HM.out] at h3 AY;have hsz:(prog.info? 121).map (·.size)=some (bytes M).toArray.size:=by rw[size_toArray,aF,AY];kernel_rfl
   have hz:(bytes (replicate 32 0)).toArray.size=(bytes M).toArray.size:=by rw[size_toArray,size_toArray,aF,aF,AY];simp
   have hone:=bY M;have hB2:Below w.heap.size w (wr.setRow (w.heap.size+1) (bytes M).toArray):=hb.setRow _ (by omega);have hg2:=setRow_heap wr (w.heap.size+1) _ (bytes M).toArray _ _ h2.heap;go_wp2_with(first|(refine wpList_load_row rfl 121 _ rfl (w.heap.size+1+1) rfl _ _ _ _ h3.heap underlying121 rfl hsz ?_)|(refine wpList_store_row rfl 121 _ _ rfl (w.heap.size+1) _ rfl rfl _ _ h2.heap hsz hz hone ?_));refine bodyPost_ret (v:=.agg (bytes M).toArray) ?_ rfl ⟨by rw[HM.out],hB2⟩;exact results_cell_row (P:=prog) results184 _ _ (w.heap.size+1) _ _ _ _ rfl hg2 underlying121 rfl hsz
theorem qF(src dst e:TypeId)(hs:P.underlying src=some (.slice e))(he:P.underlying e=some (.int .u8))(hd:P.underlying dst=some .string)(w:World)(g cap:Nat)(t:TypeId)(m:List Nat)(rest:List Value)(h:ai w g t (bytes m++rest))(hm:∀x∈m,x<256):
  (convert src dst (.slice (Zs g) m.length cap)).run P w=.ok (.string (text m)) w:=by
 have hr:=run_convert_bytes_back (P:=P) w src dst e (Za g 0) cap (m.map UInt8.ofNat) hs he hd (fun j hj=>by
  have hj':j<m.length:=by simpa using hj
  have hadd:((Za g 0):Addr).add j=(Za g j):=by unfold Addr.add;split<;>simp_all
  have hx:=hm m[j] (Zg hj');rw[hadd,h.cell j,getElem?_append_left (by rw[aF];exact hj')];simp[bytes,hj'];omega)
 rw[length_map] at hr;exact hr
theorem uN(n:Nat):∀x∈bE n,x<256:=by
 intro x hx;simp only[bE,mem_cons,not_mem_nil,or_false] at hx;rcases hx with rfl|rfl|rfl|rfl<;>exact Nat.mod_lt _ (by decide)
def At(R:Act->World->Prop):Exit->Act->World->Prop
 | .normal,a,w=>R a w
 | _,_,_=>False
theorem dM{x y:Code}{a:Act}(h:x.wp P (At (fun a w=>y.wp P Q a w)) a w):(Code.seq x y).wp P Q a w:=
 wp_seq (wp_mono h fun e a w h=>by
  cases e<;>first|exact h|exact h.elim)
theorem bF{x:Code}{a:Act}(h:x.wp P (At (fun a w=>Q .normal a w)) a w):x.wp P Q a w:=
 wp_mono h fun e a w h=>by
  cases e<;>first|exact h|exact h.elim
def Ga:Code->Code
 | .seq a _=>a
 | c=>c
def jQ:Code->Code
 | .seq _ b=>b
 | c=>c
def VU:Code->Code
 | .block _ c=>c
 | .loop c=>c
 | c=>c
theorem VW:(prog.info? 5).map (fun i=>(i.zero,i.size,i.bytes))=some (some (.int .u8 0),1,1):=by kernel_rfl
theorem P7(n:Nat):madeCells (Value.int .u8 0).cells n=(bytes (replicate n 0)).toArray:=by
 apply Array.ext
 ·simp[madeCells,bytes]
 ·intro i h1 h2;simp[madeCells,bytes,Value.cells,Nat.mod_one]
theorem P8(w:World)(n:Nat)(hn:n<=4194304):(Instr.makeSlice 124 (.int .i64 (n:Int)) (.int .i64 (n:Int))).run prog w
  =.ok (.slice (Zs w.heap.size) n n) (w.alloc (.cells (bytes (replicate n 0)).toArray 5)):=by
 obtain⟨i0,hi,hz0,hz1,hz2⟩:=info_parts VW;have h:=run_make (P:=prog) w 124 5 i0 (.int .u8 0) underlying124 hi hz0 .i64 .i64 n n (by omega) (by omega) (by rw[hz2];omega) (by omega);rw[hz1,Nat.mul_one,Int.toNat_natCast,P7] at h;exact h
def aX:Zy:=text (replicate 64 0)
theorem kY:aX.size=64:=by decide +kernel
theorem EH(h:w.ownsRow base e size v n xs):w.ownsRow 0 e size v n xs:=by
 refine⟨h.1,?_⟩;rcases h.2 with h|⟨g,cap,cur,a,_,r⟩
 ·exact .inl h
 ·exact .inr ⟨g,cap,cur,a,Nat.zero_le _,r⟩
def iy(c:Nat):Bool:=(decide (97<=c)&&decide (c<=122))||(decide (48<=c)&&decide (c<=57))||decide (c=46)||decide (c=95)||decide (c=45)
def aO(l:List Nat):Bool:=l.all iy&&decide (1<=l.length)&&decide (l.length<=16)
theorem Dz(s:Zy)(k:Nat)(h:k<s.size):((af s).take (k+1)).all iy=(((af s).take k).all iy&&iy (s[k]).toNat):=by
 rw[tN s k h,all_append];simp
end
section
theorem nk{α β:Type}(f:α->List β)(m:Nat)(l:List α)(hf:∀x∈l,(f x).length=m):(l.flatMap f).length=l.length*m:=by
 induction l with
 | nil=>simp
 | cons x l ih=>
  rw[flatMap_cons,length_append,ih (fun y hy=>hf y (mem_cons_of_mem _ hy)),hf x mem_cons_self,length_cons,Nat.add_mul];omega
theorem kr{α β:Type}(f:α->List β)(m:Nat)(l:List α)(hf:∀x∈l,(f x).length=m)(k:Nat)(hk:k<l.length)(j:Nat)(hj:j<m):(l.flatMap f)[k*m+j]? =(f l[k])[j]? :=by
 induction l generalizing k with
 | nil=>simp at hk
 | cons x l ih=>
  have hx:=hf x mem_cons_self;rw[flatMap_cons];cases k with
  | zero=>rw[getElem?_append_left (by omega)];simp
  | succ k=>
   rw[getElem?_append_right (by rw[hx,Nat.add_mul];omega),hx,show(k+1)*m+j-m=k*m+j by rw[Nat.add_mul];omega,
    ih (fun y hy=>hf y (mem_cons_of_mem _ hy)) k (by simpa using hk)]
   simp
theorem SQ{α β:Type}(f:α->List β)(m:Nat)(l:List α)(hf:∀x∈l,(f x).length=m)(k:Nat)(hk:k<l.length)(y:α)(hy:(f y).length=m)(i:Nat):
  ((l.set k y).flatMap f)[i]? =if k*m<=i/\i<k*m+m then(f y)[i-k*m]? else(l.flatMap f)[i]? :=by
 induction l generalizing k i with
 | nil=>simp at hk
 | cons x l ih=>
  have hx:=hf x mem_cons_self;cases k with
  | zero=>
   simp only[set_cons_zero,flatMap_cons,Nat.zero_mul,Nat.zero_le,true_and,Nat.zero_add,Nat.sub_zero];by_cases h:i<m
   ·rw[if_pos h,getElem?_append_left (by omega)]
   ·rw[if_neg h,getElem?_append_right (by omega),getElem?_append_right (by omega),hx,hy]
  | succ k=>
   simp only[set_cons_succ,flatMap_cons];have e:(k+1)*m=k*m+m:=by rw[Nat.add_mul];omega
   by_cases h:i<m
   ·rw[getElem?_append_left (by omega),getElem?_append_left (by omega),if_neg (by omega)]
   ·rw[getElem?_append_right (by omega),getElem?_append_right (by omega),hx,ih (fun y hy=>hf y (mem_cons_of_mem _ hy)) k (by simpa using hk),e];by_cases h2:k*m<=i-m/\i-m<k*m+m
    ·rw[if_pos h2,if_pos (by omega),show i-m-k*m=i-(k*m+m) by omega]
    ·rw[if_neg h2,if_neg (by omega)]
end
section
open Go.RowKit
theorem gP(a b:Zy):(a.toList==b.toList)=decide (a=b):=by
 rw[ByteArray.toList_eq,ByteArray.toList_eq];by_cases h:a=b
 ·rw[decide_eq_true h,h];simp
 ·rw[decide_eq_false h,beq_eq_false_iff_ne];intro e;exact h (WideShapes.bytes_inj e)
theorem dP(a:Zy):a.toList.isEmpty=decide (a=⟨#[]⟩):=by
 have:=gP a ⟨#[]⟩;rw[<-this,ByteArray.toList_eq,ByteArray.toList_eq];cases a.data.toList<;>rfl
def aA(p n:Zy):Zy:=if p=⟨#[]⟩ then n else p++⟨#[47]⟩++n
structure It where
 path:Zy
 dir:Bool
 data:Zy
def It.cells(x:It):List Value:=[.string x.path,.bool x.dir,.string x.data]
def aK(L:List It):List Value:=L.flatMap It.cells
def ny(p:Zy):Nat->List It->Int
 | _,[]=> -1
 | k,x::L=>if x.path=p then(k:Nat) else ny p (k+1) L
def bJ(L:List It)(p:Zy):Int:=ny p 0 L
def tY(w:World)(v:Value)(L:List It):Prop:=∃ag g cap,v=.slice ag L.length cap/\(0<L.length->ag=some (Za g 0))/\∀j v,(aK L)[j]? =some v->w.cell? (Za g j)=some v
theorem fJ(L:List It):(aK L).length=L.length*3:=nk _ 3 L fun _ _=>rfl
theorem kZ(L:List It)(k:Nat)(hk:k<L.length)(j:Nat)(hj:j<3):(aK L)[k*3+j]? =(L[k].cells)[j]? :=kr _ 3 L (fun _ _=>rfl) k hk j hj
def pieces(s:Zy):Nat->Nat->Nat->List Zy
 | 0,_,_=> []
 | f+1,a,i=>if i<s.size/\(af s).getD i 0≠47 then pieces s f a (i+1) else s.extract a i::pieces s f (i+1) (i+1)
def fT(s:Zy):List Zy:=pieces s (s.size+1) 0 0
def ku(L:List Zy):Bool:=L.all fun x=>aO (af x)
def ax(s:Zy):List Zy × Bool:=if s=⟨#[]⟩ then([],true) else if ku (fT s) then(fT s,decide ((fT s).length<=8)) else([],false)
theorem P9(s:Zy)(k:Nat)(h:k<s.size):(af s).getD k 0=(s[k]).toNat:=by
 rw[getD_eq_getElem?_getD,getElem?_eq_getElem (by rw[aM];exact h)];simp[af];rfl
theorem I7:(prog.info? 9).map (fun i=>(i.zero,i.size,i.bytes))=some (some (.string ByteArray.empty),1,16):=by kernel_rfl
theorem AZ(h:w.ownsRow base e size v n xs)(g:Nat)(hg:v.ownBlock=some g):base<=g:=by
 rcases h.2 with⟨hv,_⟩|⟨g',cap,cur,hv,hb,_⟩
 ·rw[hv] at hg;simp[Value.ownBlock] at hg
 ·rw[hv] at hg;simp[Value.ownBlock] at hg;omega
def lM(s:Zy):Nat->Int
 | 0=> -1
 | k+1=>if(af s).getD k 0=47 then(k:Nat) else lM s k
def qG(a b:Zy):Bool:=Op.bytesLess a.toList b.toList
def kQ(gI:List Zy)(x:Zy):Nat->Nat
 | 0=>0
 | m+1=>if qG x (gI.getD m ByteArray.empty) then kQ gI x m else m+1
def rG(gI:List Zy)(x:Zy):List Zy:=gI.take (kQ gI x gI.length)++x::gI.drop (kQ gI x gI.length)
theorem DC(gI:List Zy)(x:Zy)(k:Nat)(hk:k<=gI.length):(gI.take k++x::gI.drop k).getD k ByteArray.empty=x:=by
 rw[getD_eq_getElem?_getD,getElem?_append_right (by simp;omega)];simp[Nat.min_eq_left hk]
theorem A7(gI:List Zy)(x:Zy)(k:Nat)(hk:k<gI.length):(gI.take (k+1)++x::gI.drop (k+1)).getD k ByteArray.empty=gI.getD k ByteArray.empty:=by
 rw[getD_eq_getElem?_getD,getD_eq_getElem?_getD,getElem?_append_left (by simp;omega),getElem?_take_of_lt (by omega)]
theorem A8(gI:List Zy)(x:Zy)(k:Nat)(hk:k<gI.length):((gI.take (k+1)++x::gI.drop (k+1)).set (k+1) (gI.getD k ByteArray.empty)).set k x=gI.take k++x::gI.drop k:=by
 apply ext_getElem?;intro i;have hl:(gI.take (k+1)).length=k+1:=by simp;omega
 have hl2:(gI.take k).length=k:=by simp;omega
 by_cases h1:i=k
 ·subst h1;rw[getElem?_set_self (by simp;omega),getElem?_append_right (by omega),hl2];simp
 ·rw[getElem?_set_ne (fun e=>h1 e.symm)];by_cases h2:i=k+1
  ·subst h2;rw[getElem?_set_self (by simp;omega),getElem?_append_right (by omega),hl2,show k+1-k=0+1 by omega,getElem?_cons_succ,getElem?_drop];simp[getD_eq_getElem?_getD,hk]
  ·rw[getElem?_set_ne (fun e=>h2 e.symm)];rcases Nat.lt_or_ge i k with h3|h3
   ·rw[getElem?_append_left (by omega),getElem?_append_left (by omega),getElem?_take_of_lt (by omega),getElem?_take_of_lt h3]
   ·rw[getElem?_append_right (by omega),getElem?_append_right (by omega),hl,hl2,show i-(k+1)=(i-k-2)+1 by omega,show i-k=(i-k-1)+1 by omega,getElem?_cons_succ,getElem?_cons_succ,getElem?_drop,getElem?_drop];congr 1;omega
def I8(s:Zy):Int:=lM s s.size
def nZ(s:Zy):Zy:=if 0<=I8 s then s.extract 0 (I8 s).toNat else⟨#[]⟩
def oV(s:Zy):Zy:=s.extract (I8 s+1).toNat s.size
theorem SS(s:Zy)(k:Nat): -1<=lM s k/\lM s k<k:=by
 induction k with
 | zero=>unfold lM;omega
 | succ k ih=>unfold lM;split<;>omega
def aj(path:Zy)(L:List It):List Zy:=L.foldl (fun l x=>if nZ x.path=path then rG l (oV x.path) else l) []
theorem I9(l:List Zy)(x:Zy):(rG l x).length=l.length+1:=by
 unfold rG;simp;omega
theorem Has.ownsB(h:Has w g e cap size xs)(hn:xs.length=n*size)(hs:0<size)(hc:cap<=maxLen)(B:Nat)(hb:B<=g):w.ownsRow B e size (.slice (Zs g) n cap) n xs:=by
 obtain⟨h1,h2⟩:=h.owns hn hs hc;refine⟨h1,h2.imp id ?_⟩;rintro⟨g',cap',cur,hv,_,r⟩;have hv':=hv;simp only[Value.slice.injEq,Option.some.injEq,Addr.mk.injEq] at hv';exact⟨g',cap',cur,hv,by omega,r⟩
theorem vT(h:w.ownsRow base e size v n xs):w.ownsRow 0 e size v n xs:=
 ⟨h.1,h.2.imp id (fun⟨g,cap,cur,hv,_,r⟩=>⟨g,cap,cur,hv,Nat.zero_le _,r⟩)⟩
theorem zF(hb:Below B w0 w1)(f:Fr w1 w' bs)(hB:B<=w1.heap.size)(hn:∀b∈bs,B<=b):Below B w0 w':=
 ⟨f.os.trans hb.os,f.tape.trans hb.tape,f.output.trans hb.output,Nat.le_trans hb.size f.size,fun k hk=>(f.block k (by omega) (fun hx=>by have:=hn k hx;omega)).trans (hb.block k hk)⟩
theorem DF(path:Zy)(L:List It)(x:It):aj path (L++[x])=if nZ x.path=path then rG (aj path L) (oV x.path) else aj path L:=by simp[aj]
theorem Md(L:List It)(k:Nat)(h:k<L.length):L.take (k+1)=L.take k++[L[k]]:=by rw[take_succ_eq_append_getElem h]
theorem A9(p:Zy)(L:List It):∀k,ny p k L= -1/\(∀x∈L,x.path≠p)\/∃i,∃h:i<L.length,ny p k L=((k+i:Nat):Int)/\L[i].path=p:=by
 induction L with
 | nil=>intro k;exact .inl ⟨rfl,by simp⟩
 | cons x L ih=>
  intro k;rw[ny];by_cases h:x.path=p
  ·rw[if_pos h];exact .inr ⟨0,by simp,by simp,by simpa using h⟩
  ·rw[if_neg h];rcases ih (k+1) with⟨h1,h2⟩|⟨i,hi,h1,h2⟩
   ·refine .inl ⟨h1,?_⟩;intro y hy;rcases mem_cons.1 hy with rfl|hy
    ·exact h
    ·exact h2 y hy
   ·refine .inr ⟨i+1,by simpa using hi,by rw[h1];congr 1;omega,by simpa using h2⟩
theorem iA(L:List It)(p:Zy):bJ L p= -1/\(∀x∈L,x.path≠p)\/∃i,∃h:i<L.length,bJ L p=(i:Nat)/\L[i].path=p:=by
 have:=A9 p L 0;simpa [bJ] using this
def iY(L:List It)(a:Int):Bool:=(L[a.toNat]?.map It.dir).getD false
def dw(L:List It):Zy->Int->List Zy->Int × Nat
 | _,a,[]=>(a,0)
 | p,a,n::ns=>if 0<=a/\iY L a=false then(0,7) else if bJ L (aA p n)<0 then(0,6) else dw L (aA p n) (bJ L (aA p n)) ns
def iF(w:World)(v:Value)(ns:List Zy):Prop:=∃ag g cap,v=.slice ag ns.length cap/\ns.length<=cap/\(0<ns.length->ag=some (Za g 0))/\∀j x,(bN ns)[j]? =some x->w.cell? (Za g j)=some x
theorem zG{ag:Option Addr}(hn:ns.length=n+1)(h:iF w (.slice ag (n+1) cap) ns):iF w (.slice ag n cap) (ns.take n):=by
 obtain⟨ag',g,cap',hv,h0,h1,h2⟩:=h;simp only[Value.slice.injEq] at hv;obtain⟨rfl,_,rfl⟩:=hv;refine⟨ag,g,cap,by rw[length_take,hn];congr 1;omega,by rw[length_take];omega,fun _=>h1 (by omega),fun j x hj=>h2 j x ?_⟩;simp only[bN,getElem?_map,getElem?_take] at hj⊢;split at hj
 ·exact hj
 ·simp at hj
theorem Ja(s:Zy):∀n∈(ax s).1,n.size<=16:=by
 unfold ax;split
 ·simp
 ·split
  ·rename_i h;intro n hn;have:=all_eq_true.1 h n hn;unfold aO at this;simp only[Bool.and_eq_true,decide_eq_true_eq,aM] at this;exact this.2
  ·simp
theorem gJ(s:Zy)(h:(ax s).2=true):(ax s).1.length<=8:=by
 unfold ax at h⊢;split
 ·simp
 ·rename_i h0;rw[if_neg h0] at h;split
  ·rename_i h1;rw[if_pos h1] at h;exact of_decide_eq_true h
  ·simp
def bS(L:List It)(s:Zy):Nat:=
 if(ax s).2=false\/(ax s).1.length=0 then 5
 else if(dw L ⟨#[]⟩ (-1) ((ax s).1.take ((ax s).1.length-1))).2≠0 then(dw L ⟨#[]⟩ (-1) ((ax s).1.take ((ax s).1.length-1))).2
 else if 0<=(dw L ⟨#[]⟩ (-1) ((ax s).1.take ((ax s).1.length-1))).1/\iY L (dw L ⟨#[]⟩ (-1) ((ax s).1.take ((ax s).1.length-1))).1=false then 7 else 0
theorem Jb(L:List It)(ns:List Zy):∀(p:Zy) (a:Int),(dw L p a ns).2<=7:=by
 induction ns with
 | nil=>intro p a;exact Nat.zero_le _
 | cons n ns ih=>
  intro p a;rw[dw];split
  ·exact Zn
  ·split
   ·show 6<=7;omega
   ·exact ih _ _
def gy(ns:List Zy):Zy:=(ns.take (ns.length-1)).foldl aA ⟨#[]⟩
def tZ(L:List It)(s:Zy):Bool:=decide ((aj (gy (ax s).1) L).length<16)&&decide (L.length<256)
theorem iF.below(h:iF w v ns)(hb:Below B w w')(hB:w.heap.size<=B):iF w' v ns:=by
 obtain⟨ag,g,cap,hv,h0,h1,h2⟩:=h;refine⟨ag,g,cap,hv,h0,h1,fun j x hj=>?_⟩;have:=h2 j x hj;rw[hb.cell (Nat.lt_of_lt_of_le (World.block_lt_of_cell? w _ this) hB)];exact this
theorem aV(h:w.ownsRow B e size v n xs):∃al cl,v=.slice al n cl:=by
 rcases h.2 with⟨e,e0⟩|⟨g',cap',cur,e,_⟩
 ·exact⟨none,0,by rw[e,e0]⟩
 ·exact⟨_,_,e⟩
def setDat(L:List It)(i:Nat)(d:Zy):List It:=L.modify i fun x=>{x with data:=d}
theorem vC(L:List It)(i:Nat)(d:Zy):(setDat L i d).length=L.length:=by simp[setDat]
def iI(L:List It)(s d:Zy):List It × Nat:=
 if(ax s).2=false\/(ax s).1.length=0 then(L,5)
 else if 1536<d.size then(L,11)
 else if bS L s≠0 then(L,bS L s)
 else if 0<=bJ L s then(if iY L (bJ L s)=true then(L,7) else(setDat L (bJ L s).toNat d,0))
 else if tZ L s=false then(L,10) else(L++[⟨s,false,d⟩],0)
def dS(S:Dk):Dk × Nat:=if S.tick.down=true then(S.tick,2) else({S.tick with safe:=S.seen,wait:=[]},0)
def bK(S:Dk)(k:Nat)(d:Zy):Dk × Nat:=if S.tick.down=true then(S.tick,2) else({S.tick with wait:=S.wait++[(k,d)]},0)
def p8(S:Dk):Nat->Nat->Dk × Nat
 | 0,_=>dS S
 | f+1,i=>if S.seen.getD i ByteArray.empty=aX then p8 S f (i+1)
  else if(bK S i aX).2≠0 then bK S i aX else p8 (bK S i aX).1 f (i+1)
def dN(S:Dk)(i:Nat):Dk × Nat:=p8 S (S.safe.length-i) i
theorem lN(S:Dk)(k:Nat)(d:Zy):(bK S k d).1.safe=S.safe:=by
 unfold bK;split
 ·exact S.tick_safe
 ·exact S.tick_safe
theorem og(S:Dk)(k:Nat)(d:Zy):(bK S k d).1.wait.length<=S.wait.length+1:=by
 unfold bK;split
 ·rw[S.tick_wait];omega
 ·show(S.wait++[(k,d)]).length<=_;simp
theorem oW{S:Dk}(ok:S.Ok)(k:Nat)(hk:k<S.safe.length)(d:Zy)(hd:d.size=64)(hf:S.wait.length+1<=1000000):(bK S k d).1.Ok:=by
 unfold bK;split
 ·exact ok.tick
 ·refine⟨by rw[S.tick_safe];exact ok.pos,by rw[S.tick_safe];exact ok.most,by rw[S.tick_safe];exact ok.sec,?_,?_⟩
  ·intro y hy;rw[S.tick_safe];rcases mem_append.1 hy with hy|hy
   ·exact ok.wr y hy
   ·rw[Zm.1 hy];exact⟨hk,hd⟩
  ·show(S.wait++[(k,d)]).length<=_;simp;omega
def aI(n:Nat):Zy:=text (replicate n 0)
theorem xu(n:Nat):(aI n).size=n:=by
 show((replicate n 0).map UInt8.ofNat).toArray.size=n;simp
def jB(t:Zy):Zy:=t++aI ((t.size+63) / 64*64-t.size)
def SV:Zy:=⟨#[97,114,99,104,105,118,101,49]⟩
def fC(n:Nat):Zy:=SV++text (bE n)
def bQ(n:Nat):Nat:=crc (af (fC n))
def dG(n:Nat):Zy:=jB (fC n++text (bE (bQ n)))
theorem VX(l:List Nat):crc l<4294967296:=by
 unfold crc;omega
theorem aZ(l:List Nat):(text l).size=l.length:=by
 show(l.map UInt8.ofNat).toArray.size=_;simp
theorem eG(a b:Zy):(a++b).size=a.size+b.size:=by simp
theorem oZ(n:Nat):(fC n).size=12:=by
 unfold fC;rw[eG,aZ];rfl
theorem vD(t:Zy):(jB t).size=(t.size+63) / 64*64:=by
 unfold jB;rw[eG,xu];omega
theorem uf(n:Nat):(dG n).size=64:=by
 unfold dG;rw[vD,eG,oZ,aZ,show(bE (bQ n)).length=4 from rfl]
end
end Go.Proofs.YtdidjdoifpfmmaaGreatDoor
