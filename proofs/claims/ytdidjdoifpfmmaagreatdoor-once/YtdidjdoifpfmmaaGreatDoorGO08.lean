import Derived.Test.YtdidjdoifpfmmaaGreatDoorGAShelfClone
import Derived.Test.YtdidjdoifpfmmaaGreatDoorGO06
import Derived.Laws.RangeAny
import Derived.Laws.Strings2
import Derived.Laws.DeepStrings4
set_option maxRecDepth 100000
set_option maxHeartbeats 16000000
namespace Go.Proofs.YtdidjdoifpfmmaaGreatDoor
open Go.Proofs.Tryz List
variable{s e:TypeId}{a b size n co g b' j gm base:Nat}{x v:Value}{sum t r:Zy}{w w1 wr w2 w3 u u' w4 w':World}{ao:Option Addr}{xs ys:List Value}{bs:List Nat}
section
open Go.RowKit
theorem Qh(s:Zy)(w:World)(h:s.size<=1000000):Zc 158 #[.string s] w fun e w'=>e=.returned (.string s)/\Below w.heap.size w w':=by
 have c:Zc 226 #[.string s] w fun e w'=>e=.returned (.string s)/\Below w.heap.size w w':=Any.stringslite_Clone Tryz.laysM316 s w (by omega);go_enter func158,ntmps158;go_wp2_with(go_at_call 226;refine c.mono ?_;rintro e w' ⟨rfl,hb⟩);go_ret;exact⟨rfl,hb⟩
theorem Ms{α:Type}(l:List α)(h:l.length=32):∃a0 a1 a2 a3 a4 a5 a6 a7 a8 a9 a10 a11 a12 a13 a14 a15 a16 a17 a18 a19 a20 a21 a22 a23 a24 a25 a26 a27 a28 a29 a30 a31,l=[a0,a1,a2,a3,a4,a5,a6,a7,a8,a9,a10,a11,a12,a13,a14,a15,a16,a17,a18,a19,a20,a21,a22,a23,a24,a25,a26,a27,a28,a29,a30,a31]:=by
 match l,h with
 |[a0,a1,a2,a3,a4,a5,a6,a7,a8,a9,a10,a11,a12,a13,a14,a15,a16,a17,a18,a19,a20,a21,a22,a23,a24,a25,a26,a27,a28,a29,a30,a31],_=>exact⟨_,_,_,_,_,_,_,_,_,_,_,_,_,_,_,_,_,_,_,_,_,_,_,_,_,_,_,_,_,_,_,_,rfl⟩
theorem jC{fn:Func}{u p:Tmp}(h:fn.results= #[.cell p s,.tmp u])(tmps:Array Value)(w:World)(hp:tmps.getD p undef=(Zp a))(hx:(loadVar s (Za a 0)).run prog w=.ok x w):
  (results fn tmps).run prog w=.ok (.tuple #[x,tmps.getD u undef]) w:=by
 have hp':tmps[p]?.getD undef=(Zp a):=by simpa using hp
 simp[results,h,hp',asAddr,hx]
theorem Bn(n:Nat)(root label:Zy)(hr:root.size=32)(w:World):(Instr.build 123 #[(0,.int .u32 (n:Nat)),(1,dA root),(2,.string label)]).run prog w=.ok (.agg (aH n root label).toArray) w:=by
 unfold dA aH;have hl:(af root).length=32:=by rw[aM];exact hr
 generalize af root=l at *;obtain⟨a0,a1,a2,a3,a4,a5,a6,a7,a8,a9,a10,a11,a12,a13,a14,a15,a16,a17,a18,a19,a20,a21,a22,a23,a24,a25,a26,a27,a28,a29,a30,a31,rfl⟩:=Ms l hl;unfold bytes;go_simp
theorem Gl(s:Zy)(h1:36<=s.size)(h2:s.size<=56)(w:World):
  Zc 218 #[.string s] w fun e w'=>e=.returned (.tuple #[.agg (aH (kR s 4) (aW (s.extract 4 s.size)) (s.extract 36 s.size)).toArray,.bool true])/\Below w.heap.size w w':=by
 have i1:¬(s.size:Int)<36:=by omega
 have i2:¬(s.size:Int)>56:=by omega
 have Mt:(aW (s.extract 4 s.size)).size=32:=by unfold aW;rw[ByteArray.size_extract,ByteArray.size_extract];omega
 have cC:Hid (∀w,Zc 158 #[.string (s.extract 36 s.size)] w fun e w'=>e=.returned (.string (s.extract 36 s.size))/\Below w.heap.size w w'):=fun w=>Qh _ w (by rw[ByteArray.size_extract];omega);have cN:Hid (∀w,Zc 262 #[.string s] w fun e w'=>e=.returned (.int .u32 (kR s 4:Nat))/\w=w'):=fun w=>yT s (by omega) (by omega) w;have cS:Hid (∀w,Zc 263 #[.string (s.extract 4 s.size)] w fun e w'=>e=.returned (dA (aW (s.extract 4 s.size)))/\Below w.heap.size w w'):=fun w=>Bl _ (by rw[ByteArray.size_extract];omega) (by rw[ByteArray.size_extract];omega) w;have hsz:=o8 Mt (kR s 4) (s.extract 36 s.size);have hold:(aH 0 (aI 32) ⟨#[]⟩).toArray.size=(aH (kR s 4) (aW (s.extract 4 s.size)) (s.extract 36 s.size)).toArray.size:=by
  simp only[aH,size_toArray,length_cons,length_append,aF,aM,Mt];rfl
 have hone:(aH (kR s 4) (aW (s.extract 4 s.size)) (s.extract 36 s.size)).toArray.all (·.oneCell')=true:=by
  unfold aH;rw[all_toArray,all_cons,all_append];have:=bY (af (aW (s.extract 4 s.size)));rw[all_toArray] at this;rw[this];rfl
 have hB:Hid (∀w,(Instr.build 123 #[(0,.int .u32 (kR s 4:Nat)),(1,dA (aW (s.extract 4 s.size))),(2,.string (s.extract 36 s.size))]).run prog w=.ok (.agg (aH (kR s 4) (aW (s.extract 4 s.size)) (s.extract 36 s.size)).toArray) w):=fun w=>Bn _ _ _ Mt w;generalize dA (aW (s.extract 4 s.size))=RV at *;generalize aH (kR s 4) (aW (s.extract 4 s.size)) (s.extract 36 s.size)=L at *;generalize kR s 4=nb at *;obtain⟨i0,hi,hz0,hz1⟩:∃i,prog.info? 123=some i/\i.zero=some (.agg (aH 0 (aI 32) ⟨#[]⟩).toArray)/\i.size=34:=by
  have:=Tg;cases h:prog.info? 123 with
  | none=>rw[h] at this;cases this
  | some i=>rw[h] at this;simp only[Option.map_some,Option.some.injEq,Prod.mk.injEq] at this;exact⟨i,rfl,this.1,this.2⟩
 go_enter func218,ntmps218;go_upto_region 4 with((go_at_call 158;refine(cC.out _).mono ?_;rintro e w1 ⟨rfl,hb1⟩))
 have hb1':Below (w.alloc (.cells (aH 0 (aI 32) ⟨#[]⟩).toArray 123)).heap.size (w.alloc (.cells (aH 0 (aI 32) ⟨#[]⟩).toArray 123)) w1:=hb1;have r1:ai w1 w.heap.size 123 (aH 0 (aI 32) ⟨#[]⟩):=(ai.new w _ _).below hb1' (by simp);have hbw:Below w.heap.size w w1:=((Zr).alloc (Zn) _).trans (hb1'.mono (by simp));clear hb1 hb1';refine bF ?_;refine wp_region_any (by kernel_rfl) ?_
 change wpAny _ _ _ _ _ _ _ (World.drew _)
 refine Zv 0 (.string s) ?_;refine Zv 2 (.string s) ?_;refine Zv 3 (.string (s.extract 4 s.size)) ?_ (hy:=Or.inl ⟨by rfl,by intro w;go_simp;intro h;exfalso;omega⟩);refine Zv 5 (.string (s.extract 36 s.size)) ?_;refine wpAny_ready (rs:=[1]) (by kernel_rfl) (by simp) ?_;refine AllReady.cons (o:=⟨some 18,.call {callee:=.value (.func 262),args:=#[.tmp 17],argTypes:=#[9]},_,_,_,none⟩) rfl (fun K hK=>?_) AllReady.nil;go_simp;go_at_call 262;refine(cN.out _).mono ?_;rintro e w2 ⟨rfl,rfl⟩;refine hK _ _ ?_;clear hK K;(try simp only[Act.put,lA,lZ,lS]);refine wpAny_ready (rs:=[4]) (by kernel_rfl) (by simp) ?_;refine AllReady.cons (o:=⟨some 21,.call {callee:=.value (.func 263),args:=#[.tmp 20],argTypes:=#[9]},_,_,_,none⟩) rfl (fun K hK=>?_) AllReady.nil;go_simp;go_at_call 263;refine(cS.out _).mono ?_;rintro e w2 ⟨rfl,hb2⟩;refine hK _ _ ?_;clear hK K;(try simp only[Act.put,lA,lZ,lS]);refine Zv 6 (.agg L.toArray) ?_ (hy:=Or.inl ⟨by rfl,by intro w;unfold execOp;simp only[Sem.run_bind,map_toArray,map_cons,map_nil];erw[hB.out];rfl⟩);have r2:=(r1.drew.below hb2 r1.lt).heap;refine wpAny_ready (rs:=[7]) (by kernel_rfl) (by simp) ?_;refine AllReady.cons (o:=⟨none,.store 123 (.tmp 2) (.tmp 23),_,_,_,none⟩) rfl (fun K hK=>?_) AllReady.nil;rw[if_pos (by simp[Region.wanted])];refine wp_store_row 123 (.tmp 2) (.tmp 23) rfl w.heap.size L.toArray rfl rfl _ _ r2 hsz hold hone ?_;refine hK _ _ ?_;clear hK K
 try simp only[Act.put]
 refine wpAny_ready (rs:=[8]) (by kernel_rfl) (by simp) ?_;refine AllReady.cons (o:=⟨some 3,.assign (.const (.bool true)),_,_,_,none⟩) rfl (fun K hK=>?_) AllReady.nil;go_simp;refine hK _ _ ?_;clear hK K;(try simp only[Act.put,lA,lZ,lS]);refine wpAny_done (by kernel_rfl) ?_ _;simp only[At];rename_i Qi;refine Qi _ _ ?_;go_wp2;have hg:=setRow_heap w2 w.heap.size _ L.toArray _ _ r2;refine bodyPost_ret (jC results218 _ _ rfl (run_loadVar_row _ _ _ _ _ _ _ hg underlying123 rfl hsz)) rfl ?_;exact⟨rfl,((hbw.drew).trans (hb2.mono hbw.size)).setRow _ (Zn)⟩
def OX(r:Int):Bool:=(decide (97<=r)&&decide (r<=122))||(decide (48<=r)&&decide (r<=57))||decide (r=46)||decide (r=95)||decide (r=45)
theorem vF(r:Int)(w:World):
  Zc 269 #[.int .i32 r] w fun e w'=>e=.returned (.bool (OX r))/\w'=w:=by
 go_enter func269,ntmps269;go_wp2
 all_goals
  go_ret;refine⟨FR (congrArg Value.bool ?_),rfl⟩;unfold OX;rw[Bool.eq_iff_iff];simp only[Bool.or_eq_true,Bool.and_eq_true,decide_eq_true_eq,beq_iff_eq,true_iff]
  first|omega|(simp;done)
theorem EQ(c:Nat):OX (c:Int)=iy c:=by
 unfold OX iy;rw[Bool.eq_iff_iff];simp only[Bool.or_eq_true,Bool.and_eq_true,decide_eq_true_eq];omega
theorem vG(c:Nat)(h:128<=c):iy c=false:=by
 unfold iy;simp only[Bool.or_eq_false_iff,Bool.and_eq_false_iff,decide_eq_false_iff_not];omega
theorem vH(s:Zy)(w:World):
  Zc 228 #[.string s] w fun e w'=>e=.returned (.bool (aO (af s)))/\Below w.heap.size w w':=by
 by_cases h0:s=⟨#[]⟩
 ·have he:s.toList.isEmpty=true:=by rw[dP,decide_eq_true h0]
  have hn:Hid (aO (af s)=false):=by show aO (af s)=false;rw[h0];rfl
  go_enter func228,ntmps228;go_wp2;go_ret;exact⟨by rw[hn.out];rfl,Zr⟩
 ·have he:s.toList.isEmpty=false:=by rw[dP,decide_eq_false h0]
  have hpos:1<=s.size:=by
   refine Nat.one_le_iff_ne_zero.2 fun e=>h0 (ji ?_);have:=fe s;rw[e] at this;rw[length_eq_zero_iff.1 this]
  by_cases h16:s.size<=16
  ·have i16:¬(16:Int)<(s.size:Int):=by omega
   go_enter func228,ntmps228;go_wp2;go_loopw [4] (fun _ wr=>∃pos:Nat,wr=w.iter s pos/\pos<=s.size/\((af s).take pos).all iy=true) (fun _ wr=>s.size-wr.iterPos w.heap.size)
   case atStart=>exact⟨0,rfl,Nat.zero_le _,rfl⟩
   case round=>
    obtain⟨pos,rfl,hle,hall⟩:=hrel;have HA:Hid _:=hall;clear hall;by_cases hp:pos<s.size
    ·have hst:Hid _:=Dz s pos hp;have bad:Hid (iy (s[pos]).toNat=false->aO (af s)=false):=fun h=>by
      have h1:((af s).take (pos+1)).all iy=false:=by rw[hst.out,h,Bool.and_false]
      have h2:(af s).all iy=false:=by
       rw[<-take_append_drop (pos+1) (af s),all_append,h1,Bool.false_and]
      unfold aO;rw[h2];rfl
     by_cases ha:(s[pos]).toNat<128
     ·have hnx:∀ty,(Instr.next (Zp w.heap.size) true ty).run prog (w.iter s pos)=_:=fun ty=>run_next_ascii w s pos ty hp ha;have c:=vF ((s[pos]).toNat:Int) (w.iter s (pos+1));rw[EQ] at c;cases hc:iy (s[pos]).toNat
      ·rw[hc] at c;go_wp2_with(go_at_call 269;refine c.mono ?_;rintro e w' ⟨rfl,rfl⟩);go_ret;exact⟨by rw[bad.out hc];rfl,(Below.refl _ w).alloc (Zn) _⟩
      ·rw[hc] at c;have good:Hid (((af s).take (pos+1)).all iy=true):=by show _=true;rw[hst.out,HA.out,hc];rfl
       go_wp2_with(go_at_call 269;refine c.mono ?_;rintro e w' ⟨rfl,rfl⟩);go_roundw
       case rel=>exact⟨pos+1,rfl,by omega,good.out⟩
       case measure=>simp;omega
     ·have hnx:∀ty,(Instr.next (Zp w.heap.size) true ty).run prog (w.iter s pos)=_:=fun ty=>run_next_any w s pos ty hp;have hd:=(decode_high s pos hp (by omega)).1;have c:=vF ((Utf8.decode s pos).1:Int) (w.iter s (pos+(Utf8.decode s pos).2));rw[EQ,vG _ hd] at c;go_wp2_with(go_at_call 269;refine c.mono ?_;rintro e w' ⟨rfl,rfl⟩);go_ret;exact⟨by rw[bad.out (vG _ (by omega))];rfl,(Below.refl _ w).alloc (Zn) _⟩
    ·have hnx:∀ty,(Instr.next (Zp w.heap.size) true ty).run prog (w.iter s pos)=_:=fun ty=>run_next_end w s pos ty hp;have hn:Hid (aO (af s)=true):=by
      show aO (af s)=true;have:=HA.out;rw[take_of_length_le (by rw[aM];omega)] at this;unfold aO;rw[this,aM,decide_eq_true hpos,decide_eq_true h16];rfl
     go_wp2;go_ret;exact⟨by rw[hn.out];rfl,(Below.refl _ w).alloc (Zn) _⟩
  ·have i16:(16:Int)<(s.size:Int):=by omega
   have hn:Hid (aO (af s)=false):=by
    show aO (af s)=false;unfold aO;rw[aM,decide_eq_false h16,Bool.and_false]
   go_enter func228,ntmps228;go_wp2;go_ret;exact⟨by rw[hn.out];rfl,Zr⟩
def au(name:Zy)(d:Bool)(sum:Zy):List Value:=.string name :: .bool d::bytes (af sum)
theorem fM(h:sum.size=32)(name:Zy)(d:Bool):(prog.info? 353).map (·.size)=some (au name d sum).toArray.size:=by
 unfold au;rw[size_toArray,length_cons,length_cons,aF,aM,h]
 kernel_rfl
theorem Ju(name:Zy)(d:Bool)(sum:Zy)(hr:sum.size=32)(w:World):(Instr.build 353 #[(0,.string name),(1,.bool d),(2,dA sum)]).run prog w=.ok (.agg (au name d sum).toArray) w:=by
 unfold dA au;have hl:(af sum).length=32:=by rw[aM];exact hr
 generalize af sum=l at *;obtain⟨a0,a1,a2,a3,a4,a5,a6,a7,a8,a9,a10,a11,a12,a13,a14,a15,a16,a17,a18,a19,a20,a21,a22,a23,a24,a25,a26,a27,a28,a29,a30,a31,rfl⟩:=Ms l hl;unfold bytes;go_simp
theorem lu{fn:Func}{u v p:Tmp}(h:fn.results= #[.cell p s,.tmp u,.tmp v])(tmps:Array Value)(w:World)(hp:tmps.getD p undef=(Zp a))(hx:(loadVar s (Za a 0)).run prog w=.ok x w):
  (results fn tmps).run prog w=.ok (.tuple #[x,tmps.getD u undef,tmps.getD v undef]) w:=by
 have hp':tmps[p]?.getD undef=(Zp a):=by simpa using hp
 simp[results,h,hp',asAddr,hx]
theorem Qj(s:Zy)(h0:2<=s.size)(mk nl:Nat)(hmk:(s[0]'(by omega)).toNat=mk)(hnl:(s[1]'(by omega)).toNat=nl)(hm:mk=1\/mk=2)(hl:34+nl<=s.size)(hs:s.size<=1000000)(w:World):
  Zc 281 #[.string s] w fun e w'=>e=.returned (.tuple #[.agg (au (s.extract 2 (2+nl)) (decide (mk=2)) (aW (s.extract (2+nl) s.size))).toArray,.string (s.extract (34+nl) s.size),.bool (aO (af (s.extract 2 (2+nl))))])/\Below w.heap.size w w':=by
 have hm0:mk<256:=by rw[<-hmk];exact UInt8.toNat_lt _
 have hn0:nl<256:=by rw[<-hnl];exact UInt8.toNat_lt _
 have Mt:(aW (s.extract (2+nl) s.size)).size=32:=by unfold aW;rw[ByteArray.size_extract,ByteArray.size_extract];omega
 have cS:Hid (∀w,Zc 263 #[.string (s.extract (2+nl) s.size)] w fun e w'=>e=.returned (dA (aW (s.extract (2+nl) s.size)))/\Below w.heap.size w w'):=fun w=>Bl _ (by rw[ByteArray.size_extract];omega) (by rw[ByteArray.size_extract];omega) w;have cI:Hid (∀w,Zc 228 #[.string (s.extract 2 (2+nl))] w fun e w'=>e=.returned (.bool (aO (af (s.extract 2 (2+nl)))))/\Below w.heap.size w w'):=fun w=>vH _ w;have hsz:=fM Mt (s.extract 2 (2+nl)) (decide (mk=2));have hold:(au ⟨#[]⟩ false (aI 32)).toArray.size=(au (s.extract 2 (2+nl)) (decide (mk=2)) (aW (s.extract (2+nl) s.size))).toArray.size:=by
  simp only[au,size_toArray,length_cons,aF,aM,Mt];rfl
 have hone:(au (s.extract 2 (2+nl)) (decide (mk=2)) (aW (s.extract (2+nl) s.size))).toArray.all (·.oneCell')=true:=by
  unfold au;rw[all_toArray,all_cons,all_cons];have:=bY (af (aW (s.extract (2+nl) s.size)));rw[all_toArray] at this;rw[this];rfl
 have hB:Hid (∀w,(Instr.build 353 #[(0,.string (s.extract 2 (2+nl))),(1,.bool (decide (mk=2))),(2,dA (aW (s.extract (2+nl) s.size)))]).run prog w=.ok (.agg (au (s.extract 2 (2+nl)) (decide (mk=2)) (aW (s.extract (2+nl) s.size))).toArray) w):=fun w=>Ju _ _ _ Mt w;generalize dA (aW (s.extract (2+nl) s.size))=RV at *;generalize au (s.extract 2 (2+nl)) (decide (mk=2)) (aW (s.extract (2+nl) s.size))=L at *;generalize aO (af (s.extract 2 (2+nl)))=okV at *;have i0:¬(s.size:Int)<2:=by omega
 have i1:(1:Int)<(s.size:Int):=by omega
 have i2:(0:Int)<(s.size:Int):=by omega
 have i3:¬(s.size:Int)<2+(nl:Int)+32:=by omega
 have n1:s.size≠0:=by omega
 have i5:(2:Int)+(nl:Int)<=(s.size:Int):=by omega
 have t1:((2:Int)+(nl:Int)).toNat=2+nl:=by omega
 have t2:((2:Int)+(nl:Int)+32).toNat=34+nl:=by omega
 go_enter func281,ntmps281;rcases hm with rfl|rfl
 ·skip
  go_upto_region 3 with fail
  have R0:=ai.new w 353 (au ⟨#[]⟩ false (aI 32));have B0:Below w.heap.size w (w.alloc (.cells (au ⟨#[]⟩ false (aI 32)).toArray 353)):=(Zr).alloc (Zn) _;show Code.wp _ _ _ _ (w.alloc (.cells (au ⟨#[]⟩ false (aI 32)).toArray 353));generalize(w.alloc (.cells (au ⟨#[]⟩ false (aI 32)).toArray 353))=W at R0 B0⊢;go_region;go_upto_region 7 with fail
  have r1:=R0.drew;have B1:=B0.drew;generalize W.drew=W1 at r1 B1⊢;clear R0 B0;refine bF ?_;refine wp_region_any (by kernel_rfl) ?_
  change wpAny _ _ _ _ _ _ _ (World.drew _)
  refine Zv 0 (.string (s.extract 2 (2+nl))) ?_;refine Zv 1 (.int .u8 1) ?_;refine Zv 2 (.bool (false)) ?_;refine Zv 3 (.string s) ?_;refine Zv 4 (.int .i64 ((2:Int)+(nl:Nat))) ?_;refine Zv 5 (.string (s.extract (2+nl) s.size)) ?_ (hy:=Or.inl ⟨by rfl,by intro w;(have q:¬(2+(nl:Int))<0:=by omega);go_simp⟩);refine Zv 8 (.string s) ?_;refine Zv 9 (.int .i64 ((2:Int)+(nl:Nat))) ?_;refine Zv 10 (.int .i64 ((2:Int)+(nl:Nat)+32)) ?_ (hy:=Or.inl ⟨by rfl,by intro w;go_simp;rw[IntKind.wrap_i64];omega⟩);refine Zv 11 (.string (s.extract (34+nl) s.size)) ?_ (hy:=Or.inl ⟨by rfl,by intro w;go_simp;intro h;exfalso;omega⟩);refine Zv 12 (.string (s.extract 2 (2+nl))) ?_;refine wpAny_ready (rs:=[6]) (by kernel_rfl) (by simp) ?_;refine AllReady.cons (o:=⟨some 41,.call {callee:=.value (.func 263),args:=#[.tmp 40],argTypes:=#[9]},_,_,_,none⟩) rfl (fun K hK=>?_) AllReady.nil;go_simp;go_at_call 263;refine(cS.out _).mono ?_;rintro e w2 ⟨rfl,hb2⟩;refine hK _ _ ?_;clear hK K;(try simp only[Act.put,lA,lZ,lS]);refine Zv 7 (.agg L.toArray) ?_ (hy:=Or.inl ⟨by rfl,by intro w;unfold execOp;simp only[Sem.run_bind,map_toArray,map_cons,map_nil];erw[hB.out];rfl⟩);refine wpAny_ready (rs:=[13]) (by kernel_rfl) (by simp) ?_;refine AllReady.cons (o:=⟨some 48,.call {callee:=.value (.func 228),args:=#[.tmp 47],argTypes:=#[9]},_,_,_,none⟩) rfl (fun K hK=>?_) AllReady.nil;go_simp;go_at_call 228;refine(cI.out _).mono ?_;rintro e w3 ⟨rfl,hb3⟩;have r2:=((r1.drew.below hb2 r1.lt).below hb3 (by have:=hb2.size;have:=r1.lt;simp at *;omega)).heap;refine hK _ _ ?_;clear hK K;(try simp only[Act.put,lA,lZ,lS]);refine wpAny_ready (rs:=[14]) (by kernel_rfl) (by simp) ?_;refine AllReady.cons (o:=⟨none,.store 353 (.tmp 2) (.tmp 42),_,_,_,none⟩) rfl (fun K hK=>?_) AllReady.nil;rw[if_pos (by simp[Region.wanted])];refine wp_store_row 353 (.tmp 2) (.tmp 42) rfl w.heap.size L.toArray rfl rfl _ _ r2 hsz hold hone ?_;refine hK _ _ ?_;clear hK K
  try simp only[Act.put]
  refine wpAny_ready (rs:=[15]) (by kernel_rfl) (by simp) ?_;refine AllReady.cons (o:=⟨some 3,.assign (.tmp 46),_,_,_,none⟩) rfl (fun K hK=>?_) AllReady.nil;go_simp;refine hK _ _ ?_;clear hK K;(try simp only[Act.put,lA,lZ,lS]);refine wpAny_ready (rs:=[16]) (by kernel_rfl) (by simp) ?_;refine AllReady.cons (o:=⟨some 4,.assign (.tmp 48),_,_,_,none⟩) rfl (fun K hK=>?_) AllReady.nil;go_simp;refine hK _ _ ?_;clear hK K;(try simp only[Act.put,lA,lZ,lS]);refine wpAny_done (by kernel_rfl) ?_ _;simp only[At];rename_i Qi;refine Qi _ _ ?_;go_wp2;have hg:=setRow_heap w3 w.heap.size _ L.toArray _ _ r2;refine bodyPost_ret (lu results281 _ _ rfl (run_loadVar_row _ _ _ _ _ _ _ hg underlying353 rfl hsz)) rfl ?_;exact⟨rfl,((((B1.drew).trans (hb2.mono B1.size)).trans (hb3.mono (by have h1:=B1.size;have h2:=hb2.size;simp at h2;omega))).setRow _ (Zn))⟩
 ·skip
  go_upto_region 3 with fail
  have R0:=ai.new w 353 (au ⟨#[]⟩ false (aI 32));have B0:Below w.heap.size w (w.alloc (.cells (au ⟨#[]⟩ false (aI 32)).toArray 353)):=(Zr).alloc (Zn) _;show Code.wp _ _ _ _ (w.alloc (.cells (au ⟨#[]⟩ false (aI 32)).toArray 353));generalize(w.alloc (.cells (au ⟨#[]⟩ false (aI 32)).toArray 353))=W at R0 B0⊢;go_region;go_upto_region 7 with fail
  have r1:=R0.drew;have B1:=B0.drew;generalize W.drew=W1 at r1 B1⊢;clear R0 B0;refine bF ?_;refine wp_region_any (by kernel_rfl) ?_
  change wpAny _ _ _ _ _ _ _ (World.drew _)
  refine Zv 0 (.string (s.extract 2 (2+nl))) ?_;refine Zv 1 (.int .u8 2) ?_;refine Zv 2 (.bool (true)) ?_;refine Zv 3 (.string s) ?_;refine Zv 4 (.int .i64 ((2:Int)+(nl:Nat))) ?_;refine Zv 5 (.string (s.extract (2+nl) s.size)) ?_ (hy:=Or.inl ⟨by rfl,by intro w;(have q:¬(2+(nl:Int))<0:=by omega);go_simp⟩);refine Zv 8 (.string s) ?_;refine Zv 9 (.int .i64 ((2:Int)+(nl:Nat))) ?_;refine Zv 10 (.int .i64 ((2:Int)+(nl:Nat)+32)) ?_ (hy:=Or.inl ⟨by rfl,by intro w;go_simp;rw[IntKind.wrap_i64];omega⟩);refine Zv 11 (.string (s.extract (34+nl) s.size)) ?_ (hy:=Or.inl ⟨by rfl,by intro w;go_simp;intro h;exfalso;omega⟩);refine Zv 12 (.string (s.extract 2 (2+nl))) ?_;refine wpAny_ready (rs:=[6]) (by kernel_rfl) (by simp) ?_;refine AllReady.cons (o:=⟨some 41,.call {callee:=.value (.func 263),args:=#[.tmp 40],argTypes:=#[9]},_,_,_,none⟩) rfl (fun K hK=>?_) AllReady.nil;go_simp;go_at_call 263;refine(cS.out _).mono ?_;rintro e w2 ⟨rfl,hb2⟩;refine hK _ _ ?_;clear hK K;(try simp only[Act.put,lA,lZ,lS]);refine Zv 7 (.agg L.toArray) ?_ (hy:=Or.inl ⟨by rfl,by intro w;unfold execOp;simp only[Sem.run_bind,map_toArray,map_cons,map_nil];erw[hB.out];rfl⟩);refine wpAny_ready (rs:=[13]) (by kernel_rfl) (by simp) ?_;refine AllReady.cons (o:=⟨some 48,.call {callee:=.value (.func 228),args:=#[.tmp 47],argTypes:=#[9]},_,_,_,none⟩) rfl (fun K hK=>?_) AllReady.nil;go_simp;go_at_call 228;refine(cI.out _).mono ?_;rintro e w3 ⟨rfl,hb3⟩;have r2:=((r1.drew.below hb2 r1.lt).below hb3 (by have:=hb2.size;have:=r1.lt;simp at *;omega)).heap;refine hK _ _ ?_;clear hK K;(try simp only[Act.put,lA,lZ,lS]);refine wpAny_ready (rs:=[14]) (by kernel_rfl) (by simp) ?_;refine AllReady.cons (o:=⟨none,.store 353 (.tmp 2) (.tmp 42),_,_,_,none⟩) rfl (fun K hK=>?_) AllReady.nil;rw[if_pos (by simp[Region.wanted])];refine wp_store_row 353 (.tmp 2) (.tmp 42) rfl w.heap.size L.toArray rfl rfl _ _ r2 hsz hold hone ?_;refine hK _ _ ?_;clear hK K
  try simp only[Act.put]
  refine wpAny_ready (rs:=[15]) (by kernel_rfl) (by simp) ?_;refine AllReady.cons (o:=⟨some 3,.assign (.tmp 46),_,_,_,none⟩) rfl (fun K hK=>?_) AllReady.nil;go_simp;refine hK _ _ ?_;clear hK K;(try simp only[Act.put,lA,lZ,lS]);refine wpAny_ready (rs:=[16]) (by kernel_rfl) (by simp) ?_;refine AllReady.cons (o:=⟨some 4,.assign (.tmp 48),_,_,_,none⟩) rfl (fun K hK=>?_) AllReady.nil;go_simp;refine hK _ _ ?_;clear hK K;(try simp only[Act.put,lA,lZ,lS]);refine wpAny_done (by kernel_rfl) ?_ _;simp only[At];rename_i Qi;refine Qi _ _ ?_;go_wp2;have hg:=setRow_heap w3 w.heap.size _ L.toArray _ _ r2;refine bodyPost_ret (lu results281 _ _ rfl (run_loadVar_row _ _ _ _ _ _ _ hg underlying353 rfl hsz)) rfl ?_;exact⟨rfl,((((B1.drew).trans (hb2.mono B1.size)).trans (hb3.mono (by have h1:=B1.size;have h2:=hb2.size;simp at h2;omega))).setRow _ (Zn))⟩
theorem Gm(s:Zy)(h:s.size<2)(w:World):
  Zc 281 #[.string s] w fun e w'=>e=.returned (.tuple #[.agg (au ⟨#[]⟩ false (aI 32)).toArray,.string ⟨#[]⟩,.bool false])/\Below w.heap.size w w':=by
 have hz1:(au ⟨#[]⟩ false (aI 32)).toArray.all (·.oneCell')=true:=by kernel_rfl
 have hzs:(prog.info? 353).map (·.size)=some (au ⟨#[]⟩ false (aI 32)).toArray.size:=by kernel_rfl
 have i0:(s.size:Int)<2:=by omega
 ·go_enter func281,ntmps281;go_upto_region 2 with fail
  have R0:=ai.new w 353 (au ⟨#[]⟩ false (aI 32));have B0:Below w.heap.size w (w.alloc (.cells (au ⟨#[]⟩ false (aI 32)).toArray 353)):=(Zr).alloc (Zn) _;show Code.wp _ _ _ _ (w.alloc (.cells (au ⟨#[]⟩ false (aI 32)).toArray 353));generalize(w.alloc (.cells (au ⟨#[]⟩ false (aI 32)).toArray 353))=W at R0 B0⊢;have r1:=R0;have B1:=B0;generalize W=W1 at r1 B1⊢;clear R0 B0;have hr0:=r1.heap;have hg:=setRow_heap W1 w.heap.size _ (au ⟨#[]⟩ false (aI 32)).toArray _ _ hr0;go_wp2_with(refine wpList_store_row rfl 353 _ _ rfl w.heap.size (au ⟨#[]⟩ false (aI 32)).toArray rfl rfl _ _ hr0 hzs rfl hz1 ?_);refine bodyPost_ret (lu results281 _ _ rfl (run_loadVar_row _ _ _ _ _ _ _ hg underlying353 rfl hzs)) rfl ?_;exact⟨rfl,B1.setRow _ (Zn)⟩
theorem Qk(s:Zy)(h0:2<=s.size)(mk nl:Nat)(hmk:(s[0]'(by omega)).toNat=mk)(hnl:(s[1]'(by omega)).toNat=nl)(h:¬(mk=1\/mk=2)\/s.size<34+nl)(hs:s.size<=1000000)(w:World):
  Zc 281 #[.string s] w fun e w'=>e=.returned (.tuple #[.agg (au ⟨#[]⟩ false (aI 32)).toArray,.string ⟨#[]⟩,.bool false])/\Below w.heap.size w w':=by
 have hz1:(au ⟨#[]⟩ false (aI 32)).toArray.all (·.oneCell')=true:=by kernel_rfl
 have hzs:(prog.info? 353).map (·.size)=some (au ⟨#[]⟩ false (aI 32)).toArray.size:=by kernel_rfl
 have hm0:mk<256:=by rw[<-hmk];exact UInt8.toNat_lt _
 have hn0:nl<256:=by rw[<-hnl];exact UInt8.toNat_lt _
 have i0:¬(s.size:Int)<2:=by omega
 have i1:(1:Int)<(s.size:Int):=by omega
 have i2:(0:Int)<(s.size:Int):=by omega
 have n1:s.size≠0:=by omega
 by_cases hm:mk=1\/mk=2
 ·have hl:s.size<34+nl:=by omega
  have i3:(s.size:Int)<2+(nl:Int)+32:=by omega
  rcases hm with rfl|rfl
  ·skip
   go_enter func281,ntmps281;go_upto_region 3 with fail
   have R0:=ai.new w 353 (au ⟨#[]⟩ false (aI 32));have B0:Below w.heap.size w (w.alloc (.cells (au ⟨#[]⟩ false (aI 32)).toArray 353)):=(Zr).alloc (Zn) _;show Code.wp _ _ _ _ (w.alloc (.cells (au ⟨#[]⟩ false (aI 32)).toArray 353));generalize(w.alloc (.cells (au ⟨#[]⟩ false (aI 32)).toArray 353))=W at R0 B0⊢;go_region;have r1:=R0.drew;have B1:=B0.drew;generalize W.drew=W1 at r1 B1⊢;clear R0 B0;go_upto_region 5 with fail
   have hr0:=r1.heap;have hg:=setRow_heap W1 w.heap.size _ (au ⟨#[]⟩ false (aI 32)).toArray _ _ hr0;go_wp2_with(refine wpList_store_row rfl 353 _ _ rfl w.heap.size (au ⟨#[]⟩ false (aI 32)).toArray rfl rfl _ _ hr0 hzs rfl hz1 ?_);refine bodyPost_ret (lu results281 _ _ rfl (run_loadVar_row _ _ _ _ _ _ _ hg underlying353 rfl hzs)) rfl ?_;exact⟨rfl,B1.setRow _ (Zn)⟩
  ·skip
   go_enter func281,ntmps281;go_upto_region 3 with fail
   have R0:=ai.new w 353 (au ⟨#[]⟩ false (aI 32));have B0:Below w.heap.size w (w.alloc (.cells (au ⟨#[]⟩ false (aI 32)).toArray 353)):=(Zr).alloc (Zn) _;show Code.wp _ _ _ _ (w.alloc (.cells (au ⟨#[]⟩ false (aI 32)).toArray 353));generalize(w.alloc (.cells (au ⟨#[]⟩ false (aI 32)).toArray 353))=W at R0 B0⊢;go_region;have r1:=R0.drew;have B1:=B0.drew;generalize W.drew=W1 at r1 B1⊢;clear R0 B0;go_upto_region 5 with fail
   have hr0:=r1.heap;have hg:=setRow_heap W1 w.heap.size _ (au ⟨#[]⟩ false (aI 32)).toArray _ _ hr0;go_wp2_with(refine wpList_store_row rfl 353 _ _ rfl w.heap.size (au ⟨#[]⟩ false (aI 32)).toArray rfl rfl _ _ hr0 hzs rfl hz1 ?_);refine bodyPost_ret (lu results281 _ _ rfl (run_loadVar_row _ _ _ _ _ _ _ hg underlying353 rfl hzs)) rfl ?_;exact⟨rfl,B1.setRow _ (Zn)⟩
 ·have m1:(mk:Int)≠1:=by omega
  have m2:(mk:Int)≠2:=by omega
  go_enter func281,ntmps281;go_upto_region 3 with fail
  have R0:=ai.new w 353 (au ⟨#[]⟩ false (aI 32));have B0:Below w.heap.size w (w.alloc (.cells (au ⟨#[]⟩ false (aI 32)).toArray 353)):=(Zr).alloc (Zn) _;show Code.wp _ _ _ _ (w.alloc (.cells (au ⟨#[]⟩ false (aI 32)).toArray 353));generalize(w.alloc (.cells (au ⟨#[]⟩ false (aI 32)).toArray 353))=W at R0 B0⊢;go_region;have r1:=R0.drew;have B1:=B0.drew;generalize W.drew=W1 at r1 B1⊢;clear R0 B0;go_upto_region 5 with fail
  have hr0:=r1.heap;have hg:=setRow_heap W1 w.heap.size _ (au ⟨#[]⟩ false (aI 32)).toArray _ _ hr0;go_wp2_with(refine wpList_store_row rfl 353 _ _ rfl w.heap.size (au ⟨#[]⟩ false (aI 32)).toArray rfl rfl _ _ hr0 hzs rfl hz1 ?_);refine bodyPost_ret (lu results281 _ _ rfl (run_loadVar_row _ _ _ _ _ _ _ hg underlying353 rfl hzs)) rfl ?_;exact⟨rfl,B1.setRow _ (Zn)⟩
structure Ln where
 name:Zy
 dir:Bool
 sum:Zy
def Ln.cells(x:Ln):List Value:=au x.name x.dir x.sum
def fO(l:List Ln):List Value:=l.flatMap Ln.cells
def yU(t:Zy):Option (Ln × Zy):=
 if h:2<=t.size then
  if((t[0]'(by omega)).toNat=1\/(t[0]'(by omega)).toNat=2)/\34+(t[1]'(by omega)).toNat<=t.size/\aO (af (t.extract 2 (2+(t[1]'(by omega)).toNat)))=true then
   some (⟨t.extract 2 (2+(t[1]'(by omega)).toNat),decide ((t[0]'(by omega)).toNat=2),aW (t.extract (2+(t[1]'(by omega)).toNat) t.size)⟩,t.extract (34+(t[1]'(by omega)).toNat) t.size)
  else none
 else none
theorem uO{x:Ln}(h:yU t=some (x,r)):r.size<t.size/\x.sum.size=32/\aO (af x.name)=true:=by
 unfold yU at h;split at h
 ·split at h
  ·rename_i h0 h1;cases h
   refine⟨by rw[ByteArray.size_extract];omega,?_,h1.2.2⟩;show(aW _).size=32;unfold aW;rw[ByteArray.size_extract,ByteArray.size_extract];omega
  ·cases h
 ·cases h
theorem Ti(s:Zy)(hs:s.size<=1000000)(w:World):
  Zc 281 #[.string s] w fun e w'=>(∃(x:Ln) (r:Zy) (ok:Bool),e=.returned (.tuple #[.agg x.cells.toArray,.string r,.bool ok])/\x.sum.size=32/\((yU s=none/\ok=false)\/(yU s=some (x,r)/\ok=true)))/\Below w.heap.size w w':=by
 by_cases h0:2<=s.size
 ·by_cases h1:((s[0]'(by omega)).toNat=1\/(s[0]'(by omega)).toNat=2)/\34+(s[1]'(by omega)).toNat<=s.size
  ·refine(Qj s h0 _ _ rfl rfl h1.1 h1.2 hs w).mono ?_;rintro e w' ⟨rfl,hb⟩;refine⟨⟨⟨_,_,_⟩,_,_,rfl,?_,?_⟩,hb⟩
   ·show(aW _).size=32;unfold aW;rw[ByteArray.size_extract,ByteArray.size_extract];omega
   ·unfold yU;rw[dif_pos h0];cases hn:aO (af (s.extract 2 (2+(s[1]'(by omega)).toNat))) with
    | true=>right;rw[if_pos ⟨h1.1,h1.2,rfl⟩];exact⟨rfl,rfl⟩
    | false=>left;rw[if_neg (by simp)];exact⟨rfl,rfl⟩
  ·refine(Qk s h0 _ _ rfl rfl (by omega) hs w).mono ?_;rintro e w' ⟨rfl,hb⟩;refine⟨⟨⟨_,_,_⟩,_,_,rfl,rfl,.inl ⟨?_,rfl⟩⟩,hb⟩;unfold yU;rw[dif_pos h0,if_neg (fun h=>h1 ⟨h.1,h.2.1⟩)]
 ·refine(Gm s (by omega) w).mono ?_;rintro e w' ⟨rfl,hb⟩;refine⟨⟨⟨_,_,_⟩,_,_,rfl,rfl,.inl ⟨?_,rfl⟩⟩,hb⟩;unfold yU;rw[dif_neg h0]
def leS(a b:Zy):Bool:=Op.bytesLess a.toList b.toList||a.toList==b.toList
def o9:Nat->Zy->Zy->List Ln->Option (List Ln)
 | 0,_,_,acc=>some acc
 | k+1,t,last,acc=>
  if t.size=0 then some acc
  else match yU t with
   | none=>none
   | some (x,r)=>if leS x.name last||decide (acc.length=16) then none else o9 k r x.name (acc++[x])
theorem j5(x:Ln)(h:x.sum.size=32):x.cells.length=34:=by
 unfold Ln.cells au;rw[length_cons,length_cons,aF,aM,h]
theorem ZK:(prog.info? 353).map (fun i=>(i.zero,i.size,i.bytes))=some (some (.agg (au ⟨#[]⟩ false (aI 32)).toArray),34,56):=by kernel_rfl
theorem vI(x:Ln):x.cells.toArray.all (·.oneCell')=true:=by
 unfold Ln.cells au;rw[all_toArray,all_cons,all_cons];have:=bY (af x.sum);rw[all_toArray] at this;rw[this];rfl
theorem Jv(s:Zy)(hs:s.size<=1000000)(h:yU s=none)(w:World):
  Zc 281 #[.string s] w fun e w'=>(∃(x:Ln) (r:Zy),e=.returned (.tuple #[.agg x.cells.toArray,.string r,.bool false])/\x.sum.size=32)/\Below w.heap.size w w':=by
 refine(Ti s hs w).mono ?_;rintro e w' ⟨⟨x,r,ok,rfl,hx,⟨_,rfl⟩|⟨h2,_⟩⟩,hb⟩
 ·exact⟨⟨x,r,rfl,hx⟩,hb⟩
 ·rw[h] at h2;cases h2
theorem Jw(s:Zy)(hs:s.size<=1000000){x:Ln}(h:yU s=some (x,r))(w:World):
  Zc 281 #[.string s] w fun e w'=>e=.returned (.tuple #[.agg x.cells.toArray,.string r,.bool true])/\Below w.heap.size w w':=by
 refine(Ti s hs w).mono ?_;rintro e w' ⟨⟨x,r,ok,rfl,hx,⟨h2,_⟩|⟨h2,rfl⟩⟩,hb⟩
 ·rw[h] at h2;cases h2
 ·rw[h] at h2;cases h2;exact⟨rfl,hb⟩
theorem vV{P:Program}{ops:Array Oper}{rest:List Oper}{o:Oper}{a:Act}{Q:Exit->Act->World->Prop}(hg:o.guard=none)(t:TypeId)(x:Operand)(ho:o.op=.buildSlice t 1 #[(0,x)])(v u:Value)(w':World)(hx:a.eval x=v)(hr:(Instr.buildSlice t 1 #[(0,v)]).run P w=.ok u w')
  (h:wpList P ops Q rest (a.put o.dst u) w'):wpList P ops Q (o::rest) a w:=by
 refine wpList_plain hg fun _ hK=>?_;unfold Oper.wp;rw[aL t x ho v u w w' hx hr];exact hK _ _ h
theorem Wi(h:wr.ownsRow b e size (.slice ao n co) n xs)(_hb:b<=wr.heap.size)(hl:wr.heap.size<=w1.heap.size):some w1.heap.size≠(Value.slice ao n co).ownBlock:=by
 rcases h.2 with⟨h1,_⟩|⟨g,cap,cur,hv,_,hg,_⟩
 ·rw[h1];intro e;cases e
 ·rw[hv];intro e;have e':w1.heap.size=g:=by simpa [Value.ownBlock] using e
  have:g<wr.heap.size:=by
   rcases Nat.lt_or_ge g wr.heap.size with h|h
   ·exact h
   ·rw[Array.getElem?_eq_none h] at hg;cases hg
  omega
theorem Ar(h:wr.ownsRow b e size v n xs)(hg:v.ownBlock=some g):b<=g:=by
 rcases h.2 with⟨h1,_⟩|⟨g',cap,cur,hv,hb,_⟩
 ·rw[h1] at hg;cases hg
 ·rw[hv] at hg;have:g'=g:=by simpa [Value.ownBlock] using hg
  omega
theorem Jy{o:Obj}(hbw:b<=w.heap.size)(hB:Below b w wr)(hO:wr.ownsRow b e size v n xs)(hb2:Below wr.heap.size wr w2)(aN:(w2.alloc o).grownBy w3 v.ownBlock):Below b w w3:=by
 have h3:Below b w (w2.alloc o):=(hB.trans (hb2.mono (Nat.le_trans hbw hB.size))).alloc (Nat.le_trans hbw (Nat.le_trans hB.size hb2.size)) _;refine⟨aN.os.trans h3.os,aN.tape.trans h3.tape,aN.output.trans h3.output,Nat.le_trans h3.size aN.size,fun k hk=>?_⟩;refine(aN.block k (Nat.lt_of_lt_of_le hk (Nat.le_trans hbw h3.size)) (fun e=>?_)).trans (h3.block k hk);have:=Ar hO e.symm;omega
theorem Ql:∀(k:Nat) (t:Zy),t.size<k->∀(last:Zy) (acc:List Ln),o9 k t last acc=o9 (t.size+1) t last acc:=by
 suffices h:∀(n:Nat) (t:Zy),t.size<=n->∀k,t.size<k->∀last acc,o9 k t last acc=o9 (t.size+1) t last acc from fun k t hk=>h t.size t (Zn) k hk
 intro n;induction n with
 | zero=>
  intro t ht k hk last acc;obtain⟨k,rfl⟩:∃m,k=m+1:=⟨k-1,by omega⟩;rw[o9,o9,if_pos (by omega),if_pos (by omega)]
 | succ n ih=>
  intro t ht k hk last acc;obtain⟨k,rfl⟩:∃m,k=m+1:=⟨k-1,by omega⟩;rw[o9,o9];by_cases h0:t.size=0
  ·rw[if_pos h0,if_pos h0]
  ·rw[if_neg h0,if_neg h0];cases hc:yU t with
   | none=>rfl
   | some xr=>
    obtain⟨x,r⟩:=xr;have hr:=(uO hc).1;simp only[];rw[ih r (by omega) k (by omega),ih r (by omega) t.size (by omega)]
def Wj(b:Nat)(R:Option (List Ln))(e:Ending)(w':World):Prop:=
 match R with
 | none=>e=.returned (.tuple #[.slice none 0 0,.bool false])
 | some l=>∃ao co,e=.returned (.tuple #[.slice ao l.length co,.bool true])/\w'.ownsRow b 353 34 (.slice ao l.length co) l.length (fO l)
theorem Tj(s:Zy)(hs:s.size<=1000000)(w:World):
  Zc 266 #[.string s] w fun e w'=>Wj w.heap.size (o9 (s.size+1) s ⟨#[]⟩ []) e w'/\Below w.heap.size w w':=by
 obtain⟨i0,hi0,hz0,hz1,hz2⟩:=info_parts ZK;obtain⟨R,HR⟩:∃R,Hid (o9 (s.size+1) s ⟨#[]⟩ []=R):=⟨_,rfl⟩;rw[HR.out];go_enter func266,ntmps266;go_wp2;go_loopw [0,4,5] (fun tv lv pv wr=>∃(t last:Zy) (acc:List Ln) (ao:Option Addr) (co:Nat),tv=.string t/\lv=.slice ao acc.length co/\pv=.string last/\Hid (wr.ownsRow w.heap.size 353 34 (.slice ao acc.length co) acc.length (fO acc))/\Hid (Below w.heap.size w wr)/\Hid (R=o9 (t.size+1) t last acc)/\t.size<=s.size/\acc.length<=16/\Hid (∀n,ao=some n->w.heap.size<=n.block)) (fun tv _ _ _=>match tv with | .string t=>t.size|_=>0)
 case atStart=>exact⟨s,⟨#[]⟩,[],none,0,rfl,rfl,rfl,World.ownsRow_nil _ _ _ _,Zr,HR.out.symm,Zn,by simp,fun n h=>by cases h⟩
 case round=>
  obtain⟨t,last,acc,ao,co,rfl,rfl,rfl,HO,HB,hR,ht,hac,HAo⟩:=hrel;have htl:t.size<=1000000:=by omega
  have hbw:w.heap.size<=wr.heap.size:=HB.out.size;by_cases h0:t.size=0
  ·have hte:t.toList.isEmpty=true:=by rw[dP];exact decide_eq_true (ji (by rw[Array.eq_empty_of_size_eq_zero h0]))
   have hfin:Hid (R=some acc):=by show R=_;rw[hR.out,o9,if_pos h0]
   go_wp2;refine bodyPost_ret (results_tmp2 rfl _ _ _) rfl ?_;refine⟨?_,HB.out⟩;rw[hfin.out];exact⟨_,_,rfl,HO.out⟩
  ·have hne:t.toList.isEmpty=false:=by rw[dP];exact decide_eq_false (fun e=>h0 (by rw[e];rfl))
   cases hcut:yU t with
   | none=>
    have hfin:Hid (R=none):=by show R=_;rw[hR.out,o9,if_neg h0,hcut]
    have Qm:=fun w=>Jv t htl hcut w;have cN:Hid _:=Qm;clear Qm;go_wp2_with(first
     | (go_at_call 281;(refine Calls.mono (cN.out _) ?_;rintro e w1 ⟨⟨x,r,rfl,hx⟩,hb1⟩;have jR:(prog.info? 353).map (·.size)=some x.cells.toArray.size:=(fM hx _ _);have vv:(au ⟨#[]⟩ false (aI 32)).toArray.size=x.cells.toArray.size:=(Eq.trans (b:=34) rfl (j5 x hx).symm);have om:=vI x;have hC0:x.cells[0]? =some (.string x.name):=rfl;generalize x.cells=C at *))
     | (refine aJ rfl 353 _ _ rfl w1.heap.size _ C.toArray rfl rfl rfl jR vv om ?_;have c0:(w1.alloc (.cells C.toArray 353)).cell? (Za w1.heap.size 0)=some (.string x.name):=((ai.new w1 353 C).cell 0).trans hC0;have hb2:Below wr.heap.size wr (w1.alloc (.cells C.toArray 353)):=hb1.alloc hb1.size _;have r2:=ai.new w1 353 C;generalize(w1.alloc (.cells C.toArray 353))=w2 at *))
    refine bodyPost_ret (results_tmp2 rfl _ _ _) rfl ?_;refine⟨?_,HB.out.trans (hb2.mono hbw)⟩;rw[hfin.out];rfl
   | some xr=>
    obtain⟨x,r⟩:=xr;have hx:=(uO hcut).2.1;have hrt:=(uO hcut).1;have Qm:=fun w=>Jw t htl hcut w;have cN:Hid _:=Qm;clear Qm;cases hl1:Op.bytesLess x.name.toList last.toList with
    | true=>
     have hfin:Hid (R=none):=by show R=_;rw[hR.out,o9,if_neg h0,hcut];simp[leS,hl1]
     go_wp2_with(first
      | (go_at_call 281;(refine Calls.mono (cN.out _) ?_;rintro e w1 ⟨rfl,hb1⟩;have jR:(prog.info? 353).map (·.size)=some x.cells.toArray.size:=(fM hx _ _);have vv:(au ⟨#[]⟩ false (aI 32)).toArray.size=x.cells.toArray.size:=(Eq.trans (b:=34) rfl (j5 x hx).symm);have om:=vI x;have hC0:x.cells[0]? =some (.string x.name):=rfl;generalize x.cells=C at *))
      | (refine aJ rfl 353 _ _ rfl w1.heap.size _ C.toArray rfl rfl rfl jR vv om ?_;have c0:(w1.alloc (.cells C.toArray 353)).cell? (Za w1.heap.size 0)=some (.string x.name):=((ai.new w1 353 C).cell 0).trans hC0;have hb2:Below wr.heap.size wr (w1.alloc (.cells C.toArray 353)):=hb1.alloc hb1.size _;have r2:=ai.new w1 353 C;generalize(w1.alloc (.cells C.toArray 353))=w2 at *))
     refine bodyPost_ret (results_tmp2 rfl _ _ _) rfl ?_;refine⟨?_,HB.out.trans (hb2.mono hbw)⟩;rw[hfin.out];rfl
    | false=>
     cases hl2:(x.name.toList==last.toList) with
     | true=>
      have hfin:Hid (R=none):=by show R=_;rw[hR.out,o9,if_neg h0,hcut];simp only[leS,hl1,hl2];rfl
      have hl3:last=x.name:=by rw[gP] at hl2;exact(of_decide_eq_true hl2).symm
      subst hl3;clear hl2;go_wp2_with(first
       | (go_at_call 281;(refine Calls.mono (cN.out _) ?_;rintro e w1 ⟨rfl,hb1⟩;have jR:(prog.info? 353).map (·.size)=some x.cells.toArray.size:=(fM hx _ _);have vv:(au ⟨#[]⟩ false (aI 32)).toArray.size=x.cells.toArray.size:=(Eq.trans (b:=34) rfl (j5 x hx).symm);have om:=vI x;have hC0:x.cells[0]? =some (.string x.name):=rfl;generalize x.cells=C at *))
       | (refine aJ rfl 353 _ _ rfl w1.heap.size _ C.toArray rfl rfl rfl jR vv om ?_;have c0:(w1.alloc (.cells C.toArray 353)).cell? (Za w1.heap.size 0)=some (.string x.name):=((ai.new w1 353 C).cell 0).trans hC0;have hb2:Below wr.heap.size wr (w1.alloc (.cells C.toArray 353)):=hb1.alloc hb1.size _;have r2:=ai.new w1 353 C;generalize(w1.alloc (.cells C.toArray 353))=w2 at *))
      refine bodyPost_ret (results_tmp2 rfl _ _ _) rfl ?_;refine⟨?_,HB.out.trans (hb2.mono hbw)⟩;rw[hfin.out];rfl
     | false=>
      by_cases ZL:acc.length=16
      ·have hfin:Hid (R=none):=by show R=_;rw[hR.out,o9,if_neg h0,hcut];simp only[leS,hl1,hl2,ZL];rfl
       have j16:(acc.length:Int)=16:=by omega
       clear hac ZL;go_wp2_with(first
        | (go_at_call 281;(refine Calls.mono (cN.out _) ?_;rintro e w1 ⟨rfl,hb1⟩;have jR:(prog.info? 353).map (·.size)=some x.cells.toArray.size:=(fM hx _ _);have vv:(au ⟨#[]⟩ false (aI 32)).toArray.size=x.cells.toArray.size:=(Eq.trans (b:=34) rfl (j5 x hx).symm);have om:=vI x;have hC0:x.cells[0]? =some (.string x.name):=rfl;generalize x.cells=C at *))
        | (refine aJ rfl 353 _ _ rfl w1.heap.size _ C.toArray rfl rfl rfl jR vv om ?_;have c0:(w1.alloc (.cells C.toArray 353)).cell? (Za w1.heap.size 0)=some (.string x.name):=((ai.new w1 353 C).cell 0).trans hC0;have hb2:Below wr.heap.size wr (w1.alloc (.cells C.toArray 353)):=hb1.alloc hb1.size _;have r2:=ai.new w1 353 C;generalize(w1.alloc (.cells C.toArray 353))=w2 at *))
       refine bodyPost_ret (results_tmp2 rfl _ _ _) rfl ?_;refine⟨?_,HB.out.trans (hb2.mono hbw)⟩;rw[hfin.out];rfl
      ·have hstep:Hid (R=o9 t.size r x.name (acc++[x])):=by show R=_;rw[hR.out,o9,if_neg h0,hcut];simp only[leS,hl1,hl2,ZL];rfl
       have j16:¬(acc.length:Int)=16:=by omega
       have jR:(prog.info? 353).map (·.size)=some x.cells.toArray.size:=(fM hx _ _);have vv:(au ⟨#[]⟩ false (aI 32)).toArray.size=x.cells.toArray.size:=(Eq.trans (b:=34) rfl (j5 x hx).symm);have om:=vI x;have hC0:x.cells[0]? =some (.string x.name):=rfl;have qy:x.cells.length=1*34:=(j5 x hx);have Qn:∀u∈x.cells,u.oneCell'=true:=(fun u hu=>by have:=vI x;rw[all_toArray,all_eq_true] at this;exact this u hu);have xE:=fun w'=>bH (P:=prog) w' 349 353 underlying349 x.cells i0 _ hi0 hz0 (by rw[hz1,qy]) (by omega) (by omega);have hbs:Hid _:=xE;clear xE;have hlc:Hid (fO (acc++[x])=fO acc++x.cells):=(by show fO _=_;simp[fO]);have Mv:Hid _:=Qn;clear Qn;have hll:(acc++[x]).length=acc.length+1:=by simp
       generalize hxc:x.cells=C at *;go_wp2_with(first
        | (go_at_call 281;refine Calls.mono (cN.out _) ?_;rintro e w1 ⟨rfl,hb1⟩;have lt1:wr.heap.size<=w1.heap.size:=hb1.size;have Qo:Hid (some w1.heap.size≠(Value.slice ao acc.length co).ownBlock):=Wi HO.out hbw lt1)
        | (refine aJ rfl 353 _ _ rfl w1.heap.size _ C.toArray rfl rfl rfl jR vv om ?_;have c0:(w1.alloc (.cells C.toArray 353)).cell? (Za w1.heap.size 0)=some (.string x.name):=((ai.new w1 353 C).cell 0).trans hC0;have hb2:Below wr.heap.size wr (w1.alloc (.cells C.toArray 353)):=hb1.alloc hb1.size _;have r2:=ai.new w1 353 C;have ls2:w1.heap.size<(w1.alloc (.cells C.toArray 353)).heap.size:=(by simp);generalize(w1.alloc (.cells C.toArray 353))=w2 at *)
        | (refine wpList_load_row rfl 353 _ rfl w1.heap.size rfl _ _ _ _ r2.heap underlying353 rfl jR ?_)
        | (refine vV rfl 349 _ rfl (.agg C.toArray) _ _ rfl (hbs.out w2) ?_)
        | (at_builtin;(refine wpList_append_lies _ rfl _ _ 349 rfl w.heap.size 353 i0 _ 34 56 underlying349 hi0 hz0 hz1 hz2 rfl (by decide) (.slice ao acc.length co) acc.length (fO acc) rfl ((fB HO.out hb2).alloc _) (Za w2.heap.size 0) 1 1 C rfl qy (World.news_of_block (cs:=C.toArray) (heap_alloc_new w2 _)) Mv.out (by decide) (by unfold maxLen;omega) (by omega) (by simp;omega) (w2.heap.size+1) (by simp) ?_;intro g cap w3 aY aN hat hlt3;have k0:w3.cell? (Za w1.heap.size 0)=some (.string x.name):=(by rw[aN.cell_far _ (by simp;omega) Qo.out];rw[World.cell?_alloc_lt _ _ _ (by simp;omega)];exact c0))))
       refine⟨⟨r,x.name,acc++[x],some (Za g 0),cap,rfl,by rw[hll],rfl,?_,Jy (Zn) HB.out HO.out hb2 aN,?_,by omega,by omega,?_⟩,hrt⟩
       ·show World.ownsRow _ _ _ _ _ _ _;rw[hll,hlc.out];exact aY
       ·show R=_;rw[hstep.out];exact Ql _ _ (by omega) _ _
       ·intro n hn;cases hn
        show w.heap.size<=g;rcases hat with e|e
        ·exact Ar HO.out e
        ·have:=hb2.size;omega
def pu(s:Zy):Option (Nat × List Zy):=
 if 4<=s.size/\kR s 4<=1536/\s.size=4+(kR s 4+95) / 96*32 then some (kR s 4,(List.range ((kR s 4+95) / 96)).map fun i=>aW (s.extract (4+i*32) s.size)) else none
def dY(l:List Zy):List Value:=l.flatMap fun x=>bytes (af x)
theorem pz(h:w.ownsRow b e size v n xs)(hb:b'<=b):w.ownsRow b' e size v n xs:=by
 refine⟨h.1,?_⟩;rcases h.2 with h|⟨g,cap,cur,hv,hg,r⟩
 ·exact .inl h
 ·exact .inr ⟨g,cap,cur,hv,Nat.le_trans hb hg,r⟩
structure nW(w u:World)(n j:Nat)(xs:List Value)(ao:Option Addr)(co:Nat):Prop where
 r4:ai u (w.heap.size+1) 360 [Zi n,.slice ao j co]
 r2:ai u w.heap.size 360 [.int .i64 0,.slice none 0 0]
 own:u.ownsRow (w.heap.size+2) 121 32 (.slice ao j co) j xs
 below:Below w.heap.size w u
 size:w.heap.size+2<=u.heap.size
theorem nW.step(h:nW w u n j xs ao co)(hb:Below u.heap.size u u'):nW w u' n j xs ao co:=
 ⟨h.r4.below hb h.r4.lt,h.r2.below hb h.r2.lt,fB h.own hb,h.below.trans (hb.mono h.below.size),Nat.le_trans h.size hb.size⟩
theorem nW.drew(h:nW w u n j xs ao co):nW w u.drew n j xs ao co:=h.step (Zr).drew
theorem nW.alloc(h:nW w u n j xs ao co)(o:Obj):nW w (u.alloc o) n j xs ao co:=h.step ((Zr).alloc (Zn) _)
theorem nW.nb(h:nW w u n j xs ao co)(k:Nat)(hk:k<w.heap.size+2):some k≠(Value.slice ao j co).ownBlock:=fun e=>by
 have:=Ar h.own e.symm;omega
theorem nW.put{cap:Nat}(h:nW w u n j xs ao co)(hg:u.grownBy w4 (Value.slice ao j co).ownBlock)(ho:w4.ownsRow (w.heap.size+2) 121 32 (.slice (Zs g) (j+1) cap) (j+1) ys):
  nW w (w4.setCell (Za (w.heap.size+1) 1) (.slice (Zs g) (j+1) cap)) n (j+1) ys (Zs g) cap:=by
 have nb:∀k,k<w.heap.size+2->some k≠(Value.slice ao j co).ownBlock:=fun k hk e=>by
  have:=Ar h.own e.symm;omega
 have hr4:ai w4 (w.heap.size+1) 360 [Zi n,.slice ao j co]:=⟨(hg.block _ h.r4.lt (nb _ (by omega))).trans h.r4.heap⟩;have hr2:ai w4 w.heap.size 360 [.int .i64 0,.slice none 0 0]:=⟨(hg.block _ h.r2.lt (nb _ (by omega))).trans h.r2.heap⟩;have hb4:Below w.heap.size w w4:=⟨hg.os.trans h.below.os,hg.tape.trans h.below.tape,hg.output.trans h.below.output,Nat.le_trans h.below.size hg.size,fun k hk=>(hg.block k (Nat.lt_of_lt_of_le hk h.below.size) (nb _ (by omega))).trans (h.below.block k hk)⟩;refine⟨hr4.set 1 _,?_,?_,hb4.setCell (show w.heap.size<=w.heap.size+1 by omega) _,?_⟩
 ·exact hr2.other _ (by show w.heap.size≠w.heap.size+1;omega)
 ·exact ownsRow_setCell_below ho (show w.heap.size+1<w.heap.size+2 by omega) _
 ·have:=h.size;have:=hg.size;simp;omega
theorem OY:(prog.info? 121).map (fun i=>(i.zero,i.size,i.bytes))=some (some (.agg (bytes (replicate 32 0)).toArray),32,32):=by kernel_rfl
theorem Gn(s:Zy)(h4:4<=s.size)(n k:Nat)(hn:kR s 4=n)(hk:(n+95) / 96=k)(hm:n<=1536)(hs:s.size=4+k*32)(w:World):
  Zc 264 #[.string s] w fun e w'=>(∃ao co,e=.returned (.tuple #[.agg #[Zi n,.slice ao k co],.bool true])/\w'.ownsRow w.heap.size 121 32 (.slice ao k co) k (dY ((List.range k).map fun i=>aW (s.extract (4+i*32) s.size))))/\Below w.heap.size w w':=by
 obtain⟨i0,hi0,hz0,hz1,hz2⟩:=info_parts OY;have cN:Hid (∀w,Zc 262 #[.string s] w fun e w'=>e=.returned (.int .u32 (n:Nat))/\w=w'):=fun w=>by have:=yT s h4 (by omega) w;rw[hn] at this;exact this
 have m1:¬(n:Int)>1536:=by omega
 have m2:¬(s.size:Int)<4:=by omega
 have m3:4+(k:Int)*32=(s.size:Int):=by omega
 have m4:((n:Int)+96-1) / 96=(k:Int):=by omega
 have hsz:s.size<=1000000:=by omega
 have Hs:Hid _:=hs;clear hs;obtain⟨L,HL⟩:∃L,Hid (L=(List.range k).map fun i=>aW (s.extract (4+i*32) s.size)):=⟨_,rfl⟩;rw[<-HL.out];have hLl:L.length=k:=by rw[HL.out];simp
 go_enter func264,ntmps264;go_wp2_with(go_at_call 262;refine(cN.out _).mono ?_;rintro e w2 ⟨rfl,rfl⟩);have F0:nW w ((w.alloc (.cells #[.int .i64 0,.slice none 0 0] 360)).alloc (.cells #[Zi n,.slice none 0 0] 360)) n 0 [] none 0:=by
  refine⟨⟨?_⟩,⟨?_⟩,World.ownsRow_nil _ _ _ _,((Zr).alloc (Zn) _).alloc (by simp) _,by simp⟩
  ·have:=heap_alloc_new (w.alloc (.cells #[.int .i64 0,.slice none 0 0] 360)) (.cells #[Zi n,.slice none 0 0] 360);rw[show(w.alloc (.cells #[.int .i64 0,.slice none 0 0] 360)).heap.size=w.heap.size+1 by simp] at this;exact this
  ·exact((ai.new w 360 [.int .i64 0,.slice none 0 0]).below ((Zr).alloc (Zn) _) (by simp)).heap
 generalize((w.alloc (.cells #[.int .i64 0,.slice none 0 0] 360)).alloc (.cells #[Zi n,.slice none 0 0] 360))=W at F0⊢;go_loopw [33] (fun iv wr=>∃(j:Nat) (ao:Option Addr) (co:Nat),iv=(Zi j)/\j<=k/\nW w wr n j (dY (L.take j)) ao co) (fun iv _=>k-(intOf iv).toNat)
 case atStart=>exact⟨0,none,0,rfl,Nat.zero_le _,F0⟩
 case round=>
  obtain⟨j,ao,co,rfl,hjk,FX⟩:=hrel;by_cases hlt:j<k
  ·have jl:(j:Int)<(k:Int):=by omega
   have hLj:L[j]'(by omega)=aW (s.extract (4+j*32) s.size):=by simp[HL.out]
   have hls:(aW (s.extract (4+j*32) s.size)).size=32:=by unfold aW;rw[ByteArray.size_extract,ByteArray.size_extract];have:=Hs.out;omega
   have hnx:Hid (dY (L.take (j+1))=dY (L.take j)++bytes (af (aW (s.extract (4+j*32) s.size)))):=by
    show _=_;rw[take_succ_eq_append_getElem (by omega),hLj];simp[dY]
   have cS:Hid (∀w,Zc 263 #[.string (s.extract (4+j*32) s.size)] w fun e w'=>e=.returned (dA (aW (s.extract (4+j*32) s.size)))/\Below w.heap.size w w'):=fun w=>Bl _ (by rw[ByteArray.size_extract];have:=Hs.out;omega) (by rw[ByteArray.size_extract];omega) w;unfold dA at cS;have qy:(bytes (af (aW (s.extract (4+j*32) s.size)))).length=1*32:=by rw[aF,aM,hls]
   have Mv:∀u∈bytes (af (aW (s.extract (4+j*32) s.size))),u.oneCell'=true:=fun u hu=>by have:=bY (af (aW (s.extract (4+j*32) s.size)));rw[all_toArray,all_eq_true] at this;exact this u hu
   have Qn:Hid _:=Mv;clear Mv;have xE:=fun w'=>bH (P:=prog) w' 358 121 underlying358 (bytes (af (aW (s.extract (4+j*32) s.size)))) i0 _ hi0 hz0 (by rw[hz1,qy]) (by omega) (by omega);have hbs:Hid _:=xE;clear xE hLj hls;generalize bytes (af (aW (s.extract (4+j*32) s.size)))=C at *;generalize dY (L.take j)=xs at *;have b0:¬(4+(j:Int)*32<0):=by omega
   have b1:4+(j:Int)*32<=(s.size:Int):=by have:=Hs.out;omega
   have b2:(4+(j:Int)*32).toNat=4+j*32:=by omega
   have hjj:j<=40000:=by omega
   have F1:=FX.drew;have HFX:Hid _:=FX;clear FX F0;go_upto_region 10 with fail
   refine wp_region_any (by kernel_rfl) ?_
   change wpAny _ _ _ _ _ _ _ (World.drew _)
   have F0:=F1;generalize wr.drew=W1 at F0⊢;refine Zv 0 (.pointer (some (Za (w.heap.size+1) 1))) ?_;refine Zv 2 (.string s) ?_;refine Zv 3 (Zi j) ?_;refine Zv 4 (.int .i64 ((j:Int)*32)) ?_ (hy:=Or.inl ⟨by rfl,by intro w;go_simp;rw[IntKind.wrap_i64];omega⟩);refine Zv 5 (.int .i64 (4+(j:Int)*32)) ?_ (hy:=Or.inl ⟨by rfl,by intro w;go_simp;rw[IntKind.wrap_i64];omega⟩);refine Zv 6 (.string (s.extract (4+j*32) s.size)) ?_;refine wpAny_ready (rs:=[1,7]) (by kernel_rfl) (by simp) ?_;refine AllReady.cons (o:=⟨some 37,.load 358 (.tmp 36),_,_,_,none⟩) rfl (fun K hK=>?_) ?_
   ·have q1:=F0.r4.cell 1;refine aD rfl (v:=.slice ao j co) (w':=W1) (by go_simp) ?_;refine hK _ _ ?_;clear hK K;(try simp only[Act.put,lA,lZ,lS]);refine wpAny_ready (rs:=[7]) (by kernel_rfl) (by simp) ?_;refine AllReady.cons (o:=⟨some 43,.call {callee:=.value (.func 263),args:=#[.tmp 42],argTypes:=#[9]},_,_,_,none⟩) rfl (fun K hK=>?_) AllReady.nil;go_simp;go_at_call 263;refine(cS.out _).mono ?_;rintro e u2 ⟨rfl,hb2⟩;have F2:=F0.step hb2;refine hK _ _ ?_;clear hK K;(try simp only[Act.put,lA,lZ,lS]);refine wpAny_ready (rs:=[8]) (by kernel_rfl) (by simp) ?_;refine AllReady.cons (o:=⟨some 44,.buildSlice 358 1 #[(0,.tmp 43)],_,_,_,none⟩) rfl (fun K hK=>?_) AllReady.nil;refine aD rfl (v:=.slice (Zs u2.heap.size) 1 1) (w':=(u2.alloc (.cells C.toArray 121))) (by exact aL 358 (.tmp 43) (by rfl) (.agg C.toArray) _ _ _ (by rfl) (hbs.out u2)) ?_;have F3:=F2.alloc (.cells C.toArray 121);have aas:=World.news_of_block (cs:=C.toArray) (t:=121) (fr:=(0,0)) (heap_alloc_new u2 (.cells C.toArray 121));refine hK _ _ ?_;clear hK K;(try simp only[Act.put,lA,lZ,lS]);refine wpAny_ready (rs:=[9]) (by kernel_rfl) (by simp) ?_;refine AllReady.cons (o:=⟨some 45,.call {callee:=.builtin .append,args:=#[.tmp 37,.tmp 44],argTypes:=#[358,358]},_,_,_,none⟩) rfl (fun K hK=>?_) AllReady.nil;refine step_append_lies _ (by rfl) (.tmp 37) (.tmp 44) 358 (by rfl) (w.heap.size+2) 121 i0 _ 32 32 underlying358 hi0 hz0 hz1 hz2 (by rfl) (by decide) (.slice ao j co) j xs (by rfl) F3.own (Za u2.heap.size 0) 1 1 C (by rfl) qy (by exact aas) Qn.out (by decide) (by unfold maxLen;omega) (by omega) (by have:=F3.size;omega) _ rfl ?_;intro g cap w4 aY aN hat hlt;have G4:=F3.put aN aY;have k4:w4.cell? (Za (w.heap.size+1) 1)=some (.slice ao j co):=by rw[aN.cell_far _ F3.r4.lt (F3.nb _ (show w.heap.size+1<w.heap.size+2 by omega))];exact F3.r4.cell 1
    have f4:w4.frozen? (Za (w.heap.size+1) 1)=false:=by rw[aN.frozen_far _ F3.r4.lt (F3.nb _ (show w.heap.size+1<w.heap.size+2 by omega))];exact F3.r4.frozen 1
    refine hK _ _ ?_;clear hK K;(try simp only[Act.put,lA,lZ,lS]);refine Zv 10 (.pointer (some (Za (w.heap.size+1) 1))) ?_;refine wpAny_ready (rs:=[11]) (by kernel_rfl) (by simp) ?_;refine AllReady.cons (o:=⟨none,.store 358 (.tmp 46) (.tmp 45),_,_,_,none⟩) rfl (fun K hK=>?_) AllReady.nil;refine step_skip rfl (w':=w4.setCell (Za (w.heap.size+1) 1) (.slice (Zs g) (j+1) cap)) (by go_simp) ?_;refine hK _ _ ?_;clear hK K
    try simp only[Act.put]
    refine wpAny_done (by kernel_rfl) ?_ _;go_wp2;refine⟨⟨j+1,by go_num,by omega,some (Za g 0),cap,by rw[hnx.out];exact G4⟩,by simp[intOf];omega⟩
   refine AllReady.cons (o:=⟨some 43,.call {callee:=.value (.func 263),args:=#[.tmp 42],argTypes:=#[9]},_,_,_,none⟩) rfl (fun K hK=>?_) AllReady.nil;go_simp;go_at_call 263;refine(cS.out _).mono ?_;rintro e u5 ⟨rfl,hb5⟩;have F5:=F0.step hb5;refine hK _ _ ?_;clear hK K;(try simp only[Act.put,lA,lZ,lS]);refine wpAny_ready (rs:=[1,8]) (by kernel_rfl) (by simp) ?_;refine AllReady.cons (o:=⟨some 37,.load 358 (.tmp 36),_,_,_,none⟩) rfl (fun K hK=>?_) ?_
   ·have q6:=F5.r4.cell 1;refine aD rfl (v:=.slice ao j co) (w':=u5) (by go_simp) ?_;refine hK _ _ ?_;clear hK K;(try simp only[Act.put,lA,lZ,lS]);refine wpAny_ready (rs:=[8]) (by kernel_rfl) (by simp) ?_;refine AllReady.cons (o:=⟨some 44,.buildSlice 358 1 #[(0,.tmp 43)],_,_,_,none⟩) rfl (fun K hK=>?_) AllReady.nil;refine aD rfl (v:=.slice (Zs u5.heap.size) 1 1) (w':=(u5.alloc (.cells C.toArray 121))) (by exact aL 358 (.tmp 43) (by rfl) (.agg C.toArray) _ _ _ (by rfl) (hbs.out u5)) ?_;have F7:=F5.alloc (.cells C.toArray 121);have aat:=World.news_of_block (cs:=C.toArray) (t:=121) (fr:=(0,0)) (heap_alloc_new u5 (.cells C.toArray 121));refine hK _ _ ?_;clear hK K;(try simp only[Act.put,lA,lZ,lS]);refine wpAny_ready (rs:=[9]) (by kernel_rfl) (by simp) ?_;refine AllReady.cons (o:=⟨some 45,.call {callee:=.builtin .append,args:=#[.tmp 37,.tmp 44],argTypes:=#[358,358]},_,_,_,none⟩) rfl (fun K hK=>?_) AllReady.nil;refine step_append_lies _ (by rfl) (.tmp 37) (.tmp 44) 358 (by rfl) (w.heap.size+2) 121 i0 _ 32 32 underlying358 hi0 hz0 hz1 hz2 (by rfl) (by decide) (.slice ao j co) j xs (by rfl) F7.own (Za u5.heap.size 0) 1 1 C (by rfl) qy (by exact aat) Qn.out (by decide) (by unfold maxLen;omega) (by omega) (by have:=F7.size;omega) _ rfl ?_;intro g cap w4 aY aN hat hlt;have G8:=F7.put aN aY;have k8:w4.cell? (Za (w.heap.size+1) 1)=some (.slice ao j co):=by rw[aN.cell_far _ F7.r4.lt (F7.nb _ (show w.heap.size+1<w.heap.size+2 by omega))];exact F7.r4.cell 1
    have f8:w4.frozen? (Za (w.heap.size+1) 1)=false:=by rw[aN.frozen_far _ F7.r4.lt (F7.nb _ (show w.heap.size+1<w.heap.size+2 by omega))];exact F7.r4.frozen 1
    refine hK _ _ ?_;clear hK K;(try simp only[Act.put,lA,lZ,lS]);refine Zv 10 (.pointer (some (Za (w.heap.size+1) 1))) ?_;refine wpAny_ready (rs:=[11]) (by kernel_rfl) (by simp) ?_;refine AllReady.cons (o:=⟨none,.store 358 (.tmp 46) (.tmp 45),_,_,_,none⟩) rfl (fun K hK=>?_) AllReady.nil;refine step_skip rfl (w':=w4.setCell (Za (w.heap.size+1) 1) (.slice (Zs g) (j+1) cap)) (by go_simp) ?_;refine hK _ _ ?_;clear hK K
    try simp only[Act.put]
    refine wpAny_done (by kernel_rfl) ?_ _;go_wp2;refine⟨⟨j+1,by go_num,by omega,some (Za g 0),cap,by rw[hnx.out];exact G8⟩,by simp[intOf];omega⟩
   refine AllReady.cons (o:=⟨some 44,.buildSlice 358 1 #[(0,.tmp 43)],_,_,_,none⟩) rfl (fun K hK=>?_) AllReady.nil;refine aD rfl (v:=.slice (Zs u5.heap.size) 1 1) (w':=(u5.alloc (.cells C.toArray 121))) (by exact aL 358 (.tmp 43) (by rfl) (.agg C.toArray) _ _ _ (by rfl) (hbs.out u5)) ?_;have F9:=F5.alloc (.cells C.toArray 121);have aau:=World.news_of_block (cs:=C.toArray) (t:=121) (fr:=(0,0)) (heap_alloc_new u5 (.cells C.toArray 121));refine hK _ _ ?_;clear hK K;(try simp only[Act.put,lA,lZ,lS]);refine wpAny_ready (rs:=[1]) (by kernel_rfl) (by simp) ?_;refine AllReady.cons (o:=⟨some 37,.load 358 (.tmp 36),_,_,_,none⟩) rfl (fun K hK=>?_) AllReady.nil;have q10:=F9.r4.cell 1;refine aD rfl (v:=.slice ao j co) (w':=(u5.alloc (.cells C.toArray 121))) (by go_simp) ?_;refine hK _ _ ?_;clear hK K;(try simp only[Act.put,lA,lZ,lS]);refine wpAny_ready (rs:=[9]) (by kernel_rfl) (by simp) ?_;refine AllReady.cons (o:=⟨some 45,.call {callee:=.builtin .append,args:=#[.tmp 37,.tmp 44],argTypes:=#[358,358]},_,_,_,none⟩) rfl (fun K hK=>?_) AllReady.nil;refine step_append_lies _ (by rfl) (.tmp 37) (.tmp 44) 358 (by rfl) (w.heap.size+2) 121 i0 _ 32 32 underlying358 hi0 hz0 hz1 hz2 (by rfl) (by decide) (.slice ao j co) j xs (by rfl) F9.own (Za u5.heap.size 0) 1 1 C (by rfl) qy (by exact aau) Qn.out (by decide) (by unfold maxLen;omega) (by omega) (by have:=F9.size;omega) _ rfl ?_;intro g cap w4 aY aN hat hlt;have G11:=F9.put aN aY;have k11:w4.cell? (Za (w.heap.size+1) 1)=some (.slice ao j co):=by rw[aN.cell_far _ F9.r4.lt (F9.nb _ (show w.heap.size+1<w.heap.size+2 by omega))];exact F9.r4.cell 1
   have f11:w4.frozen? (Za (w.heap.size+1) 1)=false:=by rw[aN.frozen_far _ F9.r4.lt (F9.nb _ (show w.heap.size+1<w.heap.size+2 by omega))];exact F9.r4.frozen 1
   refine hK _ _ ?_;clear hK K;(try simp only[Act.put,lA,lZ,lS]);refine Zv 10 (.pointer (some (Za (w.heap.size+1) 1))) ?_;refine wpAny_ready (rs:=[11]) (by kernel_rfl) (by simp) ?_;refine AllReady.cons (o:=⟨none,.store 358 (.tmp 46) (.tmp 45),_,_,_,none⟩) rfl (fun K hK=>?_) AllReady.nil;refine step_skip rfl (w':=w4.setCell (Za (w.heap.size+1) 1) (.slice (Zs g) (j+1) cap)) (by go_simp) ?_;refine hK _ _ ?_;clear hK K
   try simp only[Act.put]
   refine wpAny_done (by kernel_rfl) ?_ _;go_wp2;refine⟨⟨j+1,by go_num,by omega,some (Za g 0),cap,by rw[hnx.out];exact G11⟩,by simp[intOf];omega⟩
  ·have ek:j=k:=by omega
   subst ek;have HF:Hid _:=FX;have c0:=FX.r4.cell 0;have c1:=FX.r4.cell 1;have d0:=FX.r2.cell 0;have d1:=FX.r2.cell 1;have e0:=FX.r2.frozen 0;have e1:=FX.r2.frozen 1;clear FX F0;go_wp2;have r9:=(HF.out.r2.set 0 (Zi n)).set 1 (.slice ao j co);refine bodyPost_ret (jC results264 _ _ rfl (run_loadVar_row _ _ _ _ _ _ _ r9.heap underlying360 rfl (by kernel_rfl))) rfl ?_;refine⟨⟨ao,co,rfl,?_⟩,(HF.out.below.setCell (Zn) _).setCell (Zn) _⟩;have ho:=ownsRow_setCell_below (ownsRow_setCell_below HF.out.own (a:=(Za w.heap.size 0)) (show w.heap.size<w.heap.size+2 by omega) (Zi n)) (a:=(Za w.heap.size 1)) (show w.heap.size<w.heap.size+2 by omega) (.slice ao j co);rw[take_of_length_le (by omega)] at ho;exact pz ho (by omega)
theorem Gp(s:Zy)(hs:s.size<=1000000)(h:pu s=none)(w:World):
  Zc 264 #[.string s] w fun e w'=>e=.returned (.tuple #[.agg #[.int .i64 0,.slice none 0 0],.bool false])/\Below w.heap.size w w':=by
 by_cases h4:4<=s.size
 ·have m2:¬(s.size:Int)<4:=by omega
  obtain⟨n,hn⟩:∃n,kR s 4=n:=⟨_,rfl⟩;have hlt:n<4294967296:=by rw[<-hn];exact Aq s 4 h4
  have cN:Hid (∀w,Zc 262 #[.string s] w fun e w'=>e=.returned (.int .u32 (n:Nat))/\w=w'):=fun w=>by have:=yT s h4 hs w;rw[hn] at this;exact this
  by_cases h5:n<=1536
  ·have hne:¬s.size=4+(n+95) / 96*32:=fun e=>by unfold pu at h;rw[hn,if_pos ⟨h4,h5,e⟩] at h;cases h
   have m1:¬(n:Int)>1536:=by omega
   obtain⟨k,hk⟩:∃k,(n+95) / 96=k:=⟨_,rfl⟩;rw[hk] at hne;have m4:((n:Int)+96-1) / 96=(k:Int):=by omega
   have m3:¬(s.size:Int)=4+(k:Int)*32:=by omega
   clear hne h;go_enter func264,ntmps264;go_wp2_with(go_at_call 262;refine(cN.out _).mono ?_;rintro e w2 ⟨rfl,rfl⟩);have r0:=(ai.new w 360 [.int .i64 0,.slice none 0 0]).below ((Below.refl _ (w.alloc (.cells #[.int .i64 0,.slice none 0 0] 360))).alloc (Zn) (.cells #[Zi n,.slice none 0 0] 360)) (by simp);refine bodyPost_ret (jC results264 _ _ rfl (run_loadVar_row _ _ _ _ _ _ _ r0.heap underlying360 rfl (by kernel_rfl))) rfl ?_;exact⟨rfl,((Zr).alloc (Zn) _).alloc (by simp) _⟩
  ·have m1:(n:Int)>1536:=by omega
   clear h;go_enter func264,ntmps264;go_wp2_with(go_at_call 262;refine(cN.out _).mono ?_;rintro e w2 ⟨rfl,rfl⟩);have r0:=ai.new w 360 [.int .i64 0,.slice none 0 0];refine bodyPost_ret (jC results264 _ _ rfl (run_loadVar_row _ _ _ _ _ _ _ r0.heap underlying360 rfl (by kernel_rfl))) rfl ?_;exact⟨rfl,(Zr).alloc (Zn) _⟩
 ·have m2:(s.size:Int)<4:=by omega
  clear h;go_enter func264,ntmps264;go_wp2;have r0:=ai.new w 360 [.int .i64 0,.slice none 0 0];refine bodyPost_ret (jC results264 _ _ rfl (run_loadVar_row _ _ _ _ _ _ _ r0.heap underlying360 rfl (by kernel_rfl))) rfl ?_;exact⟨rfl,(Zr).alloc (Zn) _⟩
def Tk(b:Nat)(R:Option (Nat × List Zy))(e:Ending)(w':World):Prop:=
 match R with
 | none=>e=.returned (.tuple #[.agg #[.int .i64 0,.slice none 0 0],.bool false])
 | some (n,l)=>∃ao co,e=.returned (.tuple #[.agg #[Zi n,.slice ao l.length co],.bool true])/\w'.ownsRow b 121 32 (.slice ao l.length co) l.length (dY l)
theorem ER(s:Zy)(hs:s.size<=1000000)(w:World):
  Zc 264 #[.string s] w fun e w'=>Tk w.heap.size (pu s) e w'/\Below w.heap.size w w':=by
 cases hf:pu s with
 | none=>
  refine(Gp s hs hf w).mono ?_;rintro e w' ⟨rfl,hb⟩;exact⟨rfl,hb⟩
 | some r=>
  unfold pu at hf;split at hf
  ·rename_i h;cases hf
   refine(Gn s h.1 _ _ rfl rfl h.2.1 h.2.2 w).mono ?_;rintro e w' ⟨⟨ao,co,rfl,ho⟩,hb⟩;refine⟨⟨ao,co,?_,?_⟩,hb⟩
   ·simp
   ·simpa using ho
  ·cases hf
end
section
def rO(l:List Zy):Zy:=l.foldl (·++·) ⟨#[]⟩
theorem yV(l:List Zy)(x:Zy):rO (l++[x])=rO l++x:=by simp[rO]
theorem pE(m:Nat)(l:List Zy)(hl:∀x∈l,x.size=m):(rO l).size=m*l.length:=by
 suffices h:∀(l:List Zy) (a:Zy),(∀x∈l,x.size=m)->(l.foldl (·++·) a).size=a.size+m*l.length by
  have:=h l ⟨#[]⟩ hl;rw[rO,this];simp[ByteArray.size]
 intro l;induction l with
 | nil=>simp
 | cons x l ih=>
  intro a h;rw[foldl_cons,ih _ (fun y hy=>h y (by simp[hy])),ByteArray.size_append,h x (by simp),length_cons,Nat.mul_add];omega
def fU(n:Nat):Nat:=(11+n+63) / 64
def jS(seen:List Zy)(i n:Nat):Zy:=rO ((seen.drop i).take n)
def mJ(seen:List Zy)(i n:Nat):Zy:=(jS seen i (fU n)).extract 11 (11+n)
theorem ES(seen:List Zy)(i n:Nat)(h:i+n<seen.length):jS seen i (n+1)=jS seen i n++seen.getD (i+n) ByteArray.empty:=by
 unfold jS;rw[take_add_one,getElem?_drop,getElem?_eq_getElem h];simp only[Option.toList_some];rw[yV,getD_eq_getElem?_getD,getElem?_eq_getElem h];rfl
theorem qK(seen:List Zy)(i n:Nat)(h:i+n<=seen.length)(hs:∀x∈seen,x.size=64):(jS seen i n).size=64*n:=by
 unfold jS;rw[pE 64 _ (fun x hx=>hs x (mem_of_mem_drop (mem_of_mem_take hx))),length_take,length_drop];congr 1;omega
theorem nG(seen:List Zy)(i n:Nat)(h:i+fU n<=seen.length)(hs:∀x∈seen,x.size=64):(mJ seen i n).size=n:=by
 unfold mJ;rw[ByteArray.size_extract,qK _ _ _ h hs];unfold fU;omega
end
section
open Go.RowKit
theorem dH(h:w.ownsRow b e size (.slice ao n co) n xs)(hn:0<n):
  ∃g,ao=some (Za g 0)/\b<=g/\g<w.heap.size/\w.rangeAt g 0 xs:=by
 rcases h.2 with⟨_,h0⟩|⟨g,cap,cur,hv,hb,hg,hc,hm,hs,ht⟩
 ·omega
 ·cases hv
  refine⟨g,rfl,hb,(Array.getElem?_eq_some_iff.1 hg).1,fun j v hj=>?_⟩;rw[Nat.zero_add,cell_of_row w g j cur e (0,0) hg];rw[<-ht] at hj;have hlt:=(List.getElem?_eq_some_iff.1 hj).1;rw[getElem?_take_of_lt (by simp at hlt;omega)] at hj;simpa using hj
theorem iB{α:Type}(f:α->List Value)(m:Nat){l:List α}(hl:∀x∈l,(f x).length=m)(h:w.rangeAt g 0 (l.flatMap f))(k:Nat)(hk:k<l.length):w.rangeAt g (k*m) (f l[k]):=fun j v hv=>by
 have hj:j<m:=by
  have:=(List.getElem?_eq_some_iff.1 hv).1;rw[hl _ (Zg hk)] at this;exact this
 have:=h (k*m+j) v (by rw[kr f m l hl k hk j hj];exact hv)
 rwa [Nat.zero_add] at this
theorem dh(x:Zy)(h:x.size=32):(bytes (af x)).length=32:=by rw[aF,aM,h]
def xG(n:Nat)(l:List Zy):Zy:=text (bE n)++rO l
theorem Jz(n:Nat)(hn:n<4294967296)(l:List Zy)(hl:∀x∈l,x.size=32)(hll:l.length<=100000)(ao:Option Addr)(co b:Nat)(w:World)(hO:w.ownsRow b 121 32 (.slice ao l.length co) l.length (dY l)):
  Zc 273 #[.agg #[Zi n,.slice ao l.length co]] w fun e w'=>e=.returned (.string (xG n l))/\Below w.heap.size w w':=by
 have cW:Hid (∀w,Zc 147 #[.int .u32 (n:Nat)] w fun e w'=>e=.returned (.string (text (bE n)))/\Below w.heap.size w w'):=fun w=>rH n hn w;have h32:IntKind.u32.wrap (n:Int)=(n:Int):=by rw[IntKind.wrap_u32];omega
 have h4:(text (bE n)).size=4:=aZ _;have hfin:Hid (xG n l=text (bE n)++rO l):=rfl;have HO:Hid _:=hO;clear hO;generalize text (bE n)=tn at *;go_enter func273,ntmps273;go_upto_region 1 with fail
 have r0:=ai.new w 360 [Zi n,.slice ao l.length co];have hb0:Below w.heap.size w (w.alloc (.cells #[Zi n,.slice ao l.length co] 360)):=(Zr).alloc (Zn) _;generalize w.alloc (.cells #[Zi n,.slice ao l.length co] 360)=W at r0 hb0⊢;have c0:W.cell? (Za w.heap.size 0)=some (Zi n):=r0.cell 0;have c1:W.cell? (Za w.heap.size 1)=some (.slice ao l.length co):=r0.cell 1;have vv:∀x:Zy,x.size=32->(bytes (replicate 32 0)).toArray.size=(bytes (af x)).toArray.size:=fun x hx=>by rw[size_toArray,size_toArray,dh x hx];rfl
 have jR:∀x:Zy,x.size=32->(prog.info? 121).map (·.size)=some (bytes (af x)).length:=fun x hx=>by rw[dh x hx];kernel_rfl
 have HsC:Hid _:=vv;have HiC:Hid _:=jR;clear vv jR;have HB0:Hid _:=hb0;have HR0:Hid _:=r0;clear hb0 r0;have Vj:Hid (W.ownsRow b 121 32 (.slice ao l.length co) l.length (dY l)):=fB HO.out HB0.out;go_wp2_with(first
  | (go_at_call 147;refine Calls.mono (cW.out _) ?_;rintro e w1 ⟨rfl,hb1⟩;have c1:w1.cell? (Za w.heap.size 1)=some (.slice ao l.length co):=(World.cell?_of_block (hb1.block _ HR0.out.lt)).trans c1)
  )
 have HB1:Hid _:=hb1;clear hb1;go_loopw [3,13] (fun tv iv wr=>∃j:Nat,j<=l.length/\iv=.int .i64 j/\tv=.string (tn++rO (l.take j))/\Hid (Below W.heap.size W wr)) (fun _ iv _=>l.length-(intOf iv).toNat)
 case atStart=>exact⟨0,by omega,rfl,congrArg Value.string (show tn=tn++⟨#[]⟩ from(ByteArray.append_empty (b:=tn)).symm),HB1.out⟩
 case round=>
  obtain⟨j,hj,rfl,rfl,HB⟩:=hrel;have hcs:(rO (l.take j)).size<=32*100000:=by
   rw[pE 32 _ (fun x hx=>hl x (mem_of_mem_take hx)),length_take];omega
  by_cases hlt:j<l.length
  ·have i0:(0:Int)<=(j:Int):=by omega
   have i1:(j:Int)<(l.length:Int):=by omega
   obtain⟨g,rfl,hbg,hgl,hrg⟩:=dH Vj.out (by omega);have hx:=hl l[j] (Zg hlt);have hsucc:Hid (rO (l.take (j+1))=rO (l.take j)++l[j]):=by
    show rO _=_;rw[<-take_append_getElem hlt,yV]
   have Mw:Hid (wr.rangeAt g (j*32) (bytes (af l[j]))):=fun k v hv=>by
    rw[<-iB _ 32 (fun x hx=>dh x (hl x hx)) hrg j hlt k v hv];exact World.cell?_of_block (HB.out.block _ hgl)
   have jR:=HiC.out _ hx;have vv:=HsC.out _ hx;have om:=bY (af l[j]);have hcv:Hid (∀W2:World,(convert 124 9 (.slice (Zs W2.heap.size) 32 32)).run prog (W2.alloc (.cells (bytes (af l[j])).toArray 121))=.ok (.string l[j]) (W2.alloc (.cells (bytes (af l[j])).toArray 121))):=fun W2=>by
    have h1:ai (W2.alloc (.cells (bytes (af l[j])).toArray 121)) W2.heap.size 121 ([]++(bytes (af l[j])++[])):=by rw[nil_append,append_nil];exact ai.new _ _ _
    have:=lQ _ W2.heap.size 32 _ _ _ _ h1 (qd l[j]) 0 32 rfl (by rw[aM,hx]);rw[lg] at this;exact this
   generalize l[j]=x at *;generalize bytes (af x)=C at *;generalize rO (l.take j)=cs at *;go_wp2_with(first
    | (refine wpList_load_mid rfl 121 _ rfl g (j*32) rfl C _ Mw.out underlying121 rfl jR ?_)
    | (refine aJ rfl 121 _ _ rfl wr.heap.size _ C.toArray rfl rfl rfl jR vv om ?_;have hcv2:=hcv.out wr))
   refine⟨⟨j+1,by omega,rfl,?_,?_⟩,?_⟩
   ·rw[hsucc.out,ByteArray.append_assoc]
   ·exact HB.out.alloc HB.out.size _
   ·show l.length-((j+1:Nat):Int).toNat<l.length-(j:Int).toNat;omega
  ·have i1:¬(j:Int)<(l.length:Int):=by omega
   have Tm:Hid (tn++rO (l.take j)=xG n l):=by
    rw[take_of_length_le (by omega)];exact hfin.out.symm
   rw[Tm.out];go_wp2;go_ret;exact⟨rfl,HB0.out.trans (HB.out.mono HB0.out.size)⟩
def pF(x:Ln):Zy:=text [if x.dir then 2 else 1,x.name.size]++x.name++x.sum
theorem Gq(x:Ln)(hx:x.sum.size=32)(hn:x.name.size<256)(w:World):
  Zc 274 #[.agg x.cells.toArray] w fun e w'=>e=.returned (.string (pF x))/\Below w.heap.size w w':=by
 obtain⟨name,dir,sum⟩:=x;simp only at hx hn;have h8:IntKind.u8.wrap (name.size:Int)=(name.size:Int):=by rw[IntKind.wrap_u8];omega
 have hF:Hid (∀w1,ai w1 w.heap.size 353 (Ln.mk name dir sum).cells->w1.cell? (Za w.heap.size 0)=some (.string name)/\w1.cell? (Za w.heap.size 1)=some (.bool dir)/\(convert 124 9 (.slice (some (Za w.heap.size 2)) 32 32)).run prog w1=.ok (.string sum) w1):=fun w1 h=>by
  refine⟨h.cell 0,h.cell 1,?_⟩;have h1:ai w1 w.heap.size 353 ([.string name,.bool dir]++(bytes (af sum)++[])):=by rw[append_nil];exact h
  have:=lQ w1 w.heap.size 32 _ _ _ _ h1 (qd sum) 2 32 rfl (by rw[aM,hx]);rw[lg] at this;exact this
 have jR:(prog.info? 353).map (·.size)=some (Ln.mk name dir sum).cells.toArray.size:=fM hx _ _;have r0:=ai.new w 353 (Ln.mk name dir sum).cells;have hbx:Below w.heap.size w (w.alloc (.cells (Ln.mk name dir sum).cells.toArray 353)):=(Zr).alloc (Zn) _;have hfin:Hid (pF ⟨name,dir,sum⟩=text [if dir then 2 else 1,name.size]++name++sum):=rfl;generalize(Ln.mk name dir sum).cells=L at *;have c1:=(hF.out _ r0).2.1;cases dir with
 | true=>
  go_enter func274,ntmps274;go_upto_region 4 with fail
  generalize(w.alloc (.cells L.toArray 353))=W at *;refine bF ?_;refine wp_region_held_drew (S:=fun w'=>w'.cell? (Za w.heap.size 0)=some (.string name)/\(convert 124 9 (.slice (some (Za w.heap.size 2)) 32 32)).run prog w'=.ok (.string sum) w') (by kernel_rfl) ⟨(hF.out _ r0.drew).1,(hF.out _ r0.drew).2.2⟩ (fun ah=>?_);refine Zt 0 (.int .u8 2) ?_;refine Zt 1 (Zp w.heap.size) ?_;refine Zt 2 (.string name) ?_;refine Zt 3 (Zi name.size) ?_;refine Zt 4 (.int .u8 (name.size:Nat)) ?_;refine Zt 7 (Zp w.heap.size) ?_;refine Zt 8 (.string name) ?_;refine Zt 10 (.pointer (some (Za w.heap.size 2))) ?_;refine Zt 11 (.slice (some (Za w.heap.size 2)) 32 32) ?_;refine Zt 12 (.string sum) ?_;have r9:=r0.drew.below ((Zr).alloc (Zn) (.cells #[.int .u8 2,.int .u8 (name.size:Nat)] 5)) r0.lt;have cv:(convert 124 9 (.slice (Zs W.drew.heap.size) 2 2)).run prog (W.drew.alloc (.cells #[.int .u8 2,.int .u8 (name.size:Nat)] 5))=.ok (.string (text [2,name.size])) (W.drew.alloc (.cells #[.int .u8 2,.int .u8 (name.size:Nat)] 5)):=by
   have h1:ai (W.drew.alloc (.cells #[.int .u8 2,.int .u8 (name.size:Nat)] 5)) W.drew.heap.size 5 ([]++(bytes [2,name.size]++[])):=ai.new W.drew 5 [.int .u8 2,.int .u8 (name.size:Nat)];exact lQ _ _ 2 _ _ _ _ h1 (fun x hx=>by simp at hx;omega) 0 2 rfl rfl
  refine Zh 5 fun K hK=>?_;refine aD rfl (v:=.slice (Zs W.drew.heap.size) 2 2) (w':=(W.drew.alloc (.cells #[.int .u8 2,.int .u8 (name.size:Nat)] 5))) (by go_simp) ?_;refine hK.out _ _ ⟨(hF.out _ r9).1,(hF.out _ r9).2.2⟩ (fun ah=>?_);clear hK K;(try simp only[Act.put,lA,lZ,lS]);refine Zh 6 fun K hK=>?_;refine aD rfl (v:=.string (text [2,name.size])) (w':=(W.drew.alloc (.cells #[.int .u8 2,.int .u8 (name.size:Nat)] 5))) (by exact jg (by rfl) (by rfl) cv) ?_;refine hK.out _ _ ⟨(hF.out _ r9).1,(hF.out _ r9).2.2⟩ (fun ah=>?_);clear hK K;(try simp only[Act.put,lA,lZ,lS]);have z1:¬9223372036854775807<(text [2,name.size]).size+name.size:=by rw[aZ];simp;omega
  have z2:¬9223372036854775807<(text [2,name.size]++name).size+32:=by rw[ByteArray.size_append,aZ];simp;omega
  refine Zt 9 (.string (text [2,name.size]++name)) ?_ (hy:=Or.inl ⟨by rfl,by intro w hSw;generalize text [2,name.size]=tt at *;go_simp⟩);refine Zt 13 (.string (text [2,name.size]++name++sum)) ?_ (hy:=Or.inl ⟨by rfl,by intro w hSw;generalize text [2,name.size]++name=tt at *;go_simp⟩);refine Zh 14 fun K hK=>?_;go_simp;refine hK.out _ _ ah (fun ah=>?_);clear hK K;(try simp only[Act.put,lA,lZ,lS]);refine Zx ?_;simp only[At];go_wp2;go_ret;exact⟨by rw[hfin.out];rfl,(hbx.drew).alloc (by have:=hbx.size;simpa using this) _⟩
 | false=>
  go_enter func274,ntmps274;go_upto_region 4 with fail
  generalize(w.alloc (.cells L.toArray 353))=W at *;refine bF ?_;refine wp_region_held_drew (S:=fun w'=>w'.cell? (Za w.heap.size 0)=some (.string name)/\(convert 124 9 (.slice (some (Za w.heap.size 2)) 32 32)).run prog w'=.ok (.string sum) w') (by kernel_rfl) ⟨(hF.out _ r0.drew).1,(hF.out _ r0.drew).2.2⟩ (fun ah=>?_);refine Zt 0 (.int .u8 1) ?_;refine Zt 1 (Zp w.heap.size) ?_;refine Zt 2 (.string name) ?_;refine Zt 3 (Zi name.size) ?_;refine Zt 4 (.int .u8 (name.size:Nat)) ?_;refine Zt 7 (Zp w.heap.size) ?_;refine Zt 8 (.string name) ?_;refine Zt 10 (.pointer (some (Za w.heap.size 2))) ?_;refine Zt 11 (.slice (some (Za w.heap.size 2)) 32 32) ?_;refine Zt 12 (.string sum) ?_;have r9:=r0.drew.below ((Zr).alloc (Zn) (.cells #[.int .u8 1,.int .u8 (name.size:Nat)] 5)) r0.lt;have cv:(convert 124 9 (.slice (Zs W.drew.heap.size) 2 2)).run prog (W.drew.alloc (.cells #[.int .u8 1,.int .u8 (name.size:Nat)] 5))=.ok (.string (text [1,name.size])) (W.drew.alloc (.cells #[.int .u8 1,.int .u8 (name.size:Nat)] 5)):=by
   have h1:ai (W.drew.alloc (.cells #[.int .u8 1,.int .u8 (name.size:Nat)] 5)) W.drew.heap.size 5 ([]++(bytes [1,name.size]++[])):=ai.new W.drew 5 [.int .u8 1,.int .u8 (name.size:Nat)];exact lQ _ _ 2 _ _ _ _ h1 (fun x hx=>by simp at hx;omega) 0 2 rfl rfl
  refine Zh 5 fun K hK=>?_;refine aD rfl (v:=.slice (Zs W.drew.heap.size) 2 2) (w':=(W.drew.alloc (.cells #[.int .u8 1,.int .u8 (name.size:Nat)] 5))) (by go_simp) ?_;refine hK.out _ _ ⟨(hF.out _ r9).1,(hF.out _ r9).2.2⟩ (fun ah=>?_);clear hK K;(try simp only[Act.put,lA,lZ,lS]);refine Zh 6 fun K hK=>?_;refine aD rfl (v:=.string (text [1,name.size])) (w':=(W.drew.alloc (.cells #[.int .u8 1,.int .u8 (name.size:Nat)] 5))) (by exact jg (by rfl) (by rfl) cv) ?_;refine hK.out _ _ ⟨(hF.out _ r9).1,(hF.out _ r9).2.2⟩ (fun ah=>?_);clear hK K;(try simp only[Act.put,lA,lZ,lS]);have z1:¬9223372036854775807<(text [1,name.size]).size+name.size:=by rw[aZ];simp;omega
  have z2:¬9223372036854775807<(text [1,name.size]++name).size+32:=by rw[ByteArray.size_append,aZ];simp;omega
  refine Zt 9 (.string (text [1,name.size]++name)) ?_ (hy:=Or.inl ⟨by rfl,by intro w hSw;generalize text [1,name.size]=tt at *;go_simp⟩);refine Zt 13 (.string (text [1,name.size]++name++sum)) ?_ (hy:=Or.inl ⟨by rfl,by intro w hSw;generalize text [1,name.size]++name=tt at *;go_simp⟩);refine Zh 14 fun K hK=>?_;go_simp;refine hK.out _ _ ah (fun ah=>?_);clear hK K;(try simp only[Act.put,lA,lZ,lS]);refine Zx ?_;simp only[At];go_wp2;go_ret;exact⟨by rw[hfin.out];rfl,(hbx.drew).alloc (by have:=hbx.size;simpa using this) _⟩
def kS(l:List Ln):ByteArray:=rO (l.map pF)
theorem uh(x:Ln)(h:x.sum.size=32):(pF x).size=34+x.name.size:=by
 unfold pF;rw[ByteArray.size_append,ByteArray.size_append,aZ,h];simp;omega
theorem Wl(m:Nat)(l:List ByteArray)(hl:∀x∈l,x.size<=m):(rO l).size<=m*l.length:=by
 suffices h:∀(l:List ByteArray) (a:ByteArray),(∀x∈l,x.size<=m)->(l.foldl (·++·) a).size<=a.size+m*l.length by
  have:=h l ⟨#[]⟩ hl;have h0:(⟨#[]⟩:ByteArray).size=0:=rfl;rw[h0,Nat.zero_add] at this;exact this
 intro l;induction l with
 | nil=>simp
 | cons x l ih=>
  intro a h;rw[foldl_cons];refine Nat.le_trans (ih _ (fun y hy=>h y (by simp[hy]))) ?_;rw[ByteArray.size_append,length_cons,Nat.mul_add];have:=h x (by simp);omega
theorem Mx(l:List Ln)(hl:∀x∈l,x.sum.size=32/\x.name.size<256)(hll:l.length<=1000)(ao:Option Addr)(co b:Nat)(w:World)(hO:w.ownsRow b 353 34 (.slice ao l.length co) l.length (fO l)):
  Zc 235 #[.slice ao l.length co] w fun e w'=>e=.returned (.string (kS l))/\Below w.heap.size w w':=by
 have cT:Hid (∀x∈l,∀w,Zc 274 #[.agg x.cells.toArray] w fun e w'=>e=.returned (.string (pF x))/\Below w.heap.size w w'):=fun x hx w=>Gq x (hl x hx).1 (hl x hx).2 w;obtain⟨R,HR⟩:∃R,Hid (kS l=R):=⟨_,rfl⟩;rw[HR.out];have HO:Hid _:=hO;have HL:Hid _:=hl;clear hO hl;go_enter func235,ntmps235;go_wp2;go_loopw [3,8] (fun tv iv wr=>∃j:Nat,j<=l.length/\iv=.int .i64 j/\tv=.string (kS (l.take j))/\Hid (Below w.heap.size w wr)) (fun _ iv _=>l.length-(intOf iv).toNat)
 case atStart=>exact⟨0,by omega,rfl,rfl,Zr⟩
 case round=>
  obtain⟨j,hj,rfl,rfl,HB⟩:=hrel;by_cases hlt:j<l.length
  ·have i0:(0:Int)<=(j:Int):=by omega
   have i1:(j:Int)<(l.length:Int):=by omega
   obtain⟨g,rfl,hbg,hgl,hrg⟩:=dH HO.out (by omega);have hx:=HL.out l[j] (Zg hlt);have hsucc:Hid (kS (l.take (j+1))=kS (l.take j)++pF l[j]):=by
    show kS _=_;unfold kS;rw[<-take_append_getElem hlt,map_append,map_singleton,yV]
   have hz1:(pF l[j]).size<=300:=by rw[uh _ hx.1];omega
   have hz2:(kS (l.take j)).size<=300*1000:=by
    refine Nat.le_trans (Wl 300 _ (fun y hy=>?_)) ?_
    ·obtain⟨x,hx,rfl⟩:=mem_map.1 hy;have:=HL.out x (mem_of_mem_take hx);rw[uh _ this.1];omega
    ·rw[length_map,length_take];omega
   have Mw:Hid (wr.rangeAt g (j*34) l[j].cells):=fun k v hv=>by
    rw[<-iB _ 34 (fun x hx=>j5 x (HL.out x hx).1) hrg j hlt k v hv];exact World.cell?_of_block (HB.out.block _ hgl)
   have jR:(prog.info? 353).map (·.size)=some l[j].cells.length:=by rw[j5 _ hx.1];kernel_rfl
   have vv:(au ⟨#[]⟩ false (aI 32)).toArray.size=l[j].cells.toArray.size:=(Eq.trans (b:=34) rfl (j5 _ hx.1).symm);have om:=vI l[j];have Vk:=cT.out l[j] (Zg hlt);have cTj:Hid _:=Vk;clear Vk hx;generalize l[j].cells=C at *;generalize pF l[j]=x at *;generalize kS (l.take j)=cs at *;go_wp2_with(first
    | (refine wpList_load_mid rfl 353 _ rfl g (j*34) rfl C _ Mw.out underlying353 rfl jR ?_)
    | (refine aJ rfl 353 _ _ rfl wr.heap.size _ C.toArray rfl rfl rfl jR vv om ?_;have r2:=ai.new wr 353 C;have hb2:Below w.heap.size w (wr.alloc (.cells C.toArray 353)):=HB.out.alloc HB.out.size _;generalize(wr.alloc (.cells C.toArray 353))=w2 at *)
    | (refine wpList_load_row rfl 353 _ rfl wr.heap.size rfl _ _ _ _ r2.heap underlying353 rfl jR ?_)
    | (go_at_call 274;refine Calls.mono (cTj.out _) ?_;rintro e w3 ⟨rfl,hb3⟩))
   refine⟨⟨j+1,by omega,rfl,?_,?_⟩,?_⟩
   ·rw[hsucc.out]
   ·exact hb2.trans (hb3.mono hb2.size)
   ·show l.length-((j+1:Nat):Int).toNat<l.length-(j:Int).toNat;omega
  ·have i1:¬(j:Int)<(l.length:Int):=by omega
   have hfin:Hid (kS (l.take j)=R):=by rw[take_of_length_le (by omega)];exact HR
   rw[hfin.out];go_wp2;go_ret;exact⟨rfl,HB.out⟩
noncomputable def MB(k:Nat):Array Value:=zeroCells192.setIfInBounds 0 (Zi k)
theorem Gr(k:Nat):MB k=((Zi k)::replicate 64 (.int .u8 0)).toArray:=by
 unfold MB;rw[Jk];simp only[setIfInBounds_toArray,set_cons_zero]
theorem ET(k:Nat):(MB k).size=65:=by rw[Gr];simp
theorem Tn(k:Nat):(MB k).all (·.oneCell')=true:=by
 rw[Gr];refine all_oneCell_toArray ?_;intro v hv;rcases mem_cons.1 hv with rfl|hv
 ·rfl
 ·rw[eq_of_mem_replicate hv];rfl
theorem rP{D:DataW Unit}(h:w.ownsMap prog 3 (plainElem prog 3) gm n D)(f:Fr w w' bs)(hg:gm∉bs):w'.ownsMap (H:=Unit) prog 3 (plainElem prog 3) gm n D:=by
 have hl:=h.lt;obtain⟨es,clock,hb,r⟩:=h;exact⟨es,clock,by rw[f.block gm hl hg];exact hb,r⟩
theorem vW(h:w.ownsRow base e size v n xs)(g:Nat)(hg:v.ownBlock=some g):g<w.heap.size:=by
 rcases h.2 with⟨hv,_⟩|⟨g',cap,cur,hv,_,hb,_⟩
 ·rw[hv] at hg;simp[Value.ownBlock] at hg
 ·rw[hv] at hg;simp[Value.ownBlock] at hg;subst hg;exact(Array.getElem?_eq_some_iff.1 hb).1
theorem aT(h:w.ownsRow base e size v n xs)(f:Fr w w' bs)(hg:∀g,v.ownBlock=some g->g∉bs):w'.ownsRow base e size v n xs:=by
 have hl:=vW h;obtain⟨h1,h⟩:=h;refine⟨h1,h.imp id ?_⟩;rintro⟨g,cap,cur,hv,hb,hh,r⟩;have hq:v.ownBlock=some g:=by rw[hv];rfl
 exact⟨g,cap,cur,hv,hb,by rw[f.block g (hl g hq) (hg g hq)];exact hh,r⟩
def JA(w w':World)(d:DP)(S:Dk)(lk:Int)(k:Nat)(x:Zy):Prop:=
 ∃wv',ai w' d.p 88 ({d with wv:=wv'}.cells {S with wait:=S.wait++[(k,x)]} lk)/\w'.ownsRow 0 192 65 wv' (S.wait.length+1) (j4 (S.wait++[(k,x)]))/\
  w'.ownsMap (H:=Unit) prog 3 (plainElem prog 3) d.gm (S.wait.length+1) (nC (S.wait++[(k,x)]))/\(∀g,wv'.ownBlock=some g->d.wv.ownBlock=some g\/w.heap.size<=g)/\Fr w w' (d.p::d.gm::d.wv.ownBlock.toList)
theorem DL{d:DP}{S:Dk}{lk:Int}(h:ai w d.p 88 (d.cells S lk))(hm:w.ownsMap prog 3 (plainElem prog 3) d.gm S.wait.length (nC S.wait))(aw:Option Addr)(cw:Nat)(hwv:d.wv=.slice aw S.wait.length cw)(hw:w.ownsRow 0 192 65 (.slice aw S.wait.length cw) S.wait.length (j4 S.wait))(hwn:(Value.slice aw S.wait.length cw).ownBlock≠some d.gm)(hwp:(Value.slice aw S.wait.length cw).ownBlock≠some d.p)(k:Nat)(hk:k<=4096)(hlen:S.wait.length<=1000000)(x:Zy)(hx:x.size=64)(b1 b2 b3:Nat)(n1:b1≠d.gm)(n3:b3≠d.gm)(np:d.p≠d.gm)(n3p:b3≠d.p)(hw3:(Value.slice aw S.wait.length cw).ownBlock≠some b3)
  (r1:ai w b1 3 [Zi k]) (r2:ai w b2 9 [.string x]) (r3:ai w b3 30 [Zp d.p]):
  Zc 144 #[Zp b1,Zp b2,Zp b3] w fun e w'=>e=.returned (.tuple #[])/\JA w w' d S lk k x:=by
 have hcp:=fun ty=>Mg k x hx w ty w.heap.size rfl _ (Gr k);have k1:w.cell? (Za b1 0)=some (Zi k):=r1.cell 0;have k2:w.cell? (Za b2 0)=some (.string x):=r2.cell 0;have k3:w.cell? (Za b3 0)=some (Zp d.p):=r3.cell 0;have lp:=h.lt;have hm0:=hm.lt;have c3:w.cell? (Za d.p 3)=some (.slice aw S.wait.length cw):=by rw[<-hwv];exact h.cell 3
 have c4:w.cell? (Za d.p 4)=some (.map (some d.gm)):=h.cell 4;have hm2:=(hm.alloc (.cells (.int .i64 (k:Nat)::bytes (af x)).toArray 192)).drew.drew;obtain⟨w3,hupd,hm3,ht3⟩:=hm2.store (t:=78) (e:=3) Jj underlying78 (by simp[maxLen];omega) (Maps.keyOf_int_mk underlying3 (a:=(k:Nat)) (by simp[Lit.wf,IntKind.min,IntKind.max,IntKind.signed,IntKind.bits];omega)) (plainElem_int underlying3 (a:=(S.wait.length:Nat)) (by simp[Lit.wf,IntKind.min,IntKind.max,IntKind.signed,IntKind.bits];omega));have hgr:=ht3.grown;have l1:=r1.lt;have l2:=r2.lt;have l3:=r3.lt;have e1:w3.cell? (Za b1 0)=some (.int .i64 (k:Nat)):=by rw[hgr.cell_far _ (by simp;omega) (by simpa using n1)];go_simp
 have e3:w3.cell? (Za b3 0)=some (Zp d.p):=by rw[hgr.cell_far _ (by simp;omega) (by simpa using n3)];go_simp
 have e33:w3.cell? (Za d.p 3)=some (.slice aw S.wait.length cw):=by rw[hgr.cell_far _ (by simp;omega) (by simpa using np)];go_simp
 have e34:w3.cell? (Za d.p 4)=some (.map (some d.gm)):=by rw[hgr.cell_far _ (by simp;omega) (by simpa using np)];go_simp
 have hf3:Fr w w3 [d.gm]:=((((Fr.refl w [d.gm]).alloc (.cells ((Zi k)::bytes (af x)).toArray 192)).drew).drew).grown hgr (by simp);have hrow:ai w3 d.p 88 (d.cells S lk):=hf3.row h (by simpa using np);have f33:=hrow.frozen 3;have hown3:w3.ownsRow 0 192 65 (.slice aw S.wait.length cw) S.wait.length (j4 S.wait):=aT hw hf3 (fun g hg=>by simp;rintro rfl;exact hwn hg);have lw3:w.heap.size<w3.heap.size:=by have:=hgr.size;simp at this;omega
 have hrow3:ai w3 w.heap.size 192 ((Zi k)::bytes (af x)):=⟨by rw[hgr.block _ (by simp) (by simp;omega)];exact((ai.new w 192 ((Zi k)::bytes (af x))).drew.drew).heap⟩;have vo:(bytes (af x)).length=64:=dZ x hx;have hrg3:w3.rangeAt w.heap.size 0 ((Zi k)::bytes (af x)):=by
  intro j v hv;rw[Nat.zero_add,hrow3.cell,hv]
 have hlR:((Zi k)::bytes (af x):List Value).length=65:=by rw[length_cons,vo]
 have hoR:∀v∈((Zi k)::bytes (af x):List Value),v.oneCell'=true:=by
  intro v hv;rcases mem_cons.1 hv with rfl|hv
  ·rfl
  ·obtain⟨n,_,rfl⟩:=mem_map.1 hv;rfl
 have hwl:(Value.slice aw S.wait.length cw).ownBlock≠some w.heap.size:=fun e=>Nat.lt_irrefl _ (vW hw _ e);have HR:Hid (∀g cap w',w'.ownsRow 0 192 65 (.slice (Zs g) (S.wait.length+1) cap) (S.wait.length+1) (j4 S.wait++((Zi k)::bytes (af x)))->((Value.slice aw S.wait.length cw).ownBlock=some g\/w3.heap.size<=g)->g<w'.heap.size->Fr w3 w' (Value.slice aw S.wait.length cw).ownBlock.toList->
   JA w (w'.setCell (Za d.p 3) (.slice (Zs g) (S.wait.length+1) cap)) d S lk k x):=by
  intro g cap w' ho hat hlt hf;have hpg:d.p≠g:=by
   rintro rfl;rcases hat with hq|hq
   ·exact hwp hq
   ·have:=hrow.lt;omega
  have hfp:Fr w w' (d.p::d.gm::d.wv.ownBlock.toList):=(hf3.wider (by simp)).trans hf (by intro y hy _;rw[hwv];simp only[mem_cons];exact .inr (.inr hy));have hr':ai w' d.p 88 (d.cells S lk):=hf.row hrow (by
   intro hy;cases hq:(Value.slice aw S.wait.length cw).ownBlock with
   | none=>rw[hq] at hy;simp at hy
   | some g'=>rw[hq] at hy;simp at hy;subst hy;exact hwp hq)
  refine⟨.slice (Zs g) (S.wait.length+1) cap,hr'.set 3 _,?_,?_,?_,hfp.setCell _ _ (.inl (by simp))⟩
  ·rw[show j4 S.wait++((Zi k)::bytes (af x))=j4 (S.wait++[(k,x)]) from Jg S.wait (k,x)] at ho;exact L6 ho (fun g' hg'=>by simp[Value.ownBlock] at hg';subst hg';exact hpg.symm)
  ·rw[show nC (S.wait++[(k,x)])=_ from vU S.wait (k,x)];refine(rP hm3 hf ?_).setCell (by simpa using np.symm) _;intro hy;cases hq:(Value.slice aw S.wait.length cw).ownBlock with
   | none=>rw[hq] at hy;simp at hy
   | some g'=>rw[hq] at hy;simp at hy;subst hy;exact hwn hq
  ·intro g' hg';simp[Value.ownBlock] at hg';subst hg';rw[hwv];exact hat.imp id (fun h=>by omega)
 clear hgr hrow3 hm2 hm3 ht3 hm h hrow hf3;have hiW:(prog.info? 192).map (·.size)=some (MB k).size:=by rw[ET];exact Gb
 have hsW:(zeroCells192).size=(MB k).size:=by rw[ET,Jk];simp
 have hoW:=Tn k;generalize((Zi k)::bytes (af x):List Value)=R at *;have HO:Hid _:=hown3;have HG:Hid _:=hrg3;have HV:Hid _:=hoR;have HL:Hid _:=hlR;clear hown3 hrg3 hoR hlR;go_enter func144,ntmps144;go_wp2_with(refine aJ rfl 192 _ _ rfl w.heap.size _ (MB k) rfl rfl rfl hiW hsW hoW ?_);go_region_held3 (fun w'=>w'.cell? (Za b2 0)=some (.string x)) ((go_split_ands;go_keep)) (fail);go_wp2;go_region_held3 (fun w'=>w'.cell? (Za b1 0)=some (Zi k)/\w'.cell? (Za b3 0)=some (Zp d.p)/\w'.cell? (Za d.p 3)=some (.slice aw S.wait.length cw)/\w'.cell? (Za d.p 4)=some (.map (some d.gm))) ((first|exact⟨e1,e3,e33,e34⟩|(go_split_ands;refine⟨by go_keep,by go_keep,by go_keep,by go_keep⟩))) (fail)
 all_goals go_wp2
 all_goals refine bF ?_
 all_goals refine V3 d.p b3 w.heap.size R w3 _ e3 HG.out HL.out HV.out S.wait.length cw aw _ hlen e33 f33 HO.out hwp hw3 hwl n3p (by omega) lw3 ?_
 all_goals refine fun y20 y21 y22 y23 y24 y25 y26 y27 y28 y29 g cap w' ho hat hlt hf=>?_
 all_goals go_end0
 all_goals exact⟨rfl,HR.out g cap w' ho hat hlt hf⟩
end
end Go.Proofs.YtdidjdoifpfmmaaGreatDoor
