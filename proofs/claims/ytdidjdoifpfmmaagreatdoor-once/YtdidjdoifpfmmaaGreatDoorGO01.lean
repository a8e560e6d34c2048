import Derived.Test.YtdidjdoifpfmmaaGreatDoorGATk
import Derived.BigRegion
import Derived.Laws.MakeOwn
import Derived.Deep.QuietTactic
import Derived.BigQuiet
import Derived.Maps.AppendAt
import Derived.Laws.BitsAllLaws
import Derived.Deep.Cut
import Derived.Deep.Slices
import Derived.ProofKit
import Derived.OpenShut
set_option maxRecDepth 100000
set_option maxHeartbeats 16000000
namespace Go.Proofs.YtdidjdoifpfmmaaGreatDoor
open Go.Proofs.Tryz List
variable{w w':World}{p a:Addr}{v b:Value}{g B base size n fuel:Nat}{t e:TypeId}{vs xs cs:List Value}{H:Type}
section
open Go.RowKit
theorem LB(h:w.cell? p=some v):p.block<w.heap.size:=by
 rcases Nat.lt_or_ge p.block w.heap.size with h'|h'
 ·exact h'
 ·simp[World.cell?,Array.getElem?_eq_none h'] at h
theorem FR{a:Value}(h:a=b):Ending.returned a=.returned b:=by rw[h]
structure ai(w:World)(g:Nat)(t:TypeId)(vs:List Value):Prop where
 heap:w.heap[g]? =some (.cells vs.toArray t (0,0))
theorem ai.lt(h:ai w g t vs):g<w.heap.size:=by
 rcases Nat.lt_or_ge g w.heap.size with h'|h'
 ·exact h'
 ·have:=h.heap;rw[Array.getElem?_eq_none h'] at this;cases this
theorem ai.cell(h:ai w g t vs)(j:Nat):w.cell? (Za g j)=vs[j]? :=by
 rw[cell_of_row w g j _ t _ h.heap];simp
theorem ai.frozen(h:ai w g t vs)(j:Nat):w.frozen? (Za g j)=false:=by
 simp[World.frozen?,h.heap]
theorem ai.set(h:ai w g t vs)(j:Nat)(v:Value):ai (w.setCell (Za g j) v) g t (vs.set j v):=⟨by
 simp[World.setCell,Array.getElem?_modify,h.heap]⟩
theorem ai.other(h:ai w g t vs)(v:Value)(ha:g≠a.block):ai (w.setCell a v) g t vs:=⟨by
 rw[Below.heap_setCell _ _ _ _ ha];exact h.heap⟩
theorem ai.drew(h:ai w g t vs):ai w.drew g t vs:=⟨h.heap⟩
theorem ai.below(h:ai w g t vs)(hb:Below B w w')(hg:g<B):ai w' g t vs:=⟨by rw[hb.block g hg];exact h.heap⟩
theorem ai.new(w:World)(t:TypeId)(vs:List Value):ai (w.alloc (.cells vs.toArray t)) w.heap.size t vs:=⟨by
 show(w.heap.push _)[w.heap.size]? =_;simp⟩
theorem rE(w:World)(t1 t2 t3:TypeId)(v1 v2 v3:List Value):
  Below w.heap.size w (((w.alloc (.cells v1.toArray t1)).alloc (.cells v2.toArray t2)).alloc (.cells v3.toArray t3))/\
  ai (((w.alloc (.cells v1.toArray t1)).alloc (.cells v2.toArray t2)).alloc (.cells v3.toArray t3)) w.heap.size t1 v1/\
  ai (((w.alloc (.cells v1.toArray t1)).alloc (.cells v2.toArray t2)).alloc (.cells v3.toArray t3)) (w.heap.size+1) t2 v2/\
  ai (((w.alloc (.cells v1.toArray t1)).alloc (.cells v2.toArray t2)).alloc (.cells v3.toArray t3)) (w.heap.size+1+1) t3 v3/\
  (((w.alloc (.cells v1.toArray t1)).alloc (.cells v2.toArray t2)).alloc (.cells v3.toArray t3)).heap.size=w.heap.size+3:=by
 have h1:=((ai.new w t1 v1).below ((Zr).alloc (Zn) (.cells v2.toArray t2)) (by simp)).below ((Zr).alloc (Zn) (.cells v3.toArray t3)) (by simp;omega);have h2:=(ai.new (w.alloc (.cells v1.toArray t1)) t2 v2).below ((Zr).alloc (Zn) (.cells v3.toArray t3)) (by simp);have h3:=ai.new ((w.alloc (.cells v1.toArray t1)).alloc (.cells v2.toArray t2)) t3 v3;simp only[World.size_alloc] at h2 h3;exact⟨(((Zr).alloc (Zn) _).alloc (by simp) _).alloc (by simp;omega) _,h1,h2,h3,by simp⟩
abbrev I(n:Nat):Value:=.int .i64 n
def ints(l:List Nat):List Value:=l.map I
end
section
def val:List Nat->Nat
 |[]=>0
 | d::l=>d+65536*val l
theorem Sq(l:List Nat)(k:Nat)(h:k<l.length):l.getD k 0∈l:=by
 rw[getD_eq_getElem?_getD,getElem?_eq_getElem h];exact Zg h
end
section
open Go.RowKit
end
section
end
section
open Go.RowKit
def whole(C:List Nat)(pt q:Nat):Nat:=val (C.drop (max q pt))
def rest(C:List Nat)(pt q:Nat):Nat:=((C.take pt).drop q).sum
theorem fB(ho:w.ownsRow base e size v n xs)(hb:Below w.heap.size w w'):w'.ownsRow base e size v n xs:=by
 refine⟨ho.1,?_⟩;rcases ho.2 with h|⟨g,cap,cur,hv,hg,hh,r⟩
 ·exact Or.inl h
 ·refine Or.inr ⟨g,cap,cur,hv,hg,?_,r⟩;rw[hb.block g ?_];exact hh;rcases Nat.lt_or_ge g w.heap.size with h'|h'
  ·exact h'
  ·rw[Array.getElem?_eq_none h'] at hh;cases hh
def iT(x n:Nat):Nat:=(x / 2 ^ n ||| x*2 ^ (32-n)) % 4294967296
theorem eU(x n:Nat):iT x n<4294967296:=Nat.mod_lt _ (by decide)
theorem Vz(n:Nat)(h0:1<=n)(h1:n<=31):bits .and .u64 (IntKind.u64.wrap (-(n:Int))) 31=((32-n:Nat):Int):=by
 have e:IntKind.u64.wrap (-(n:Int))=((18446744073709551616-n:Nat):Int):=by rw[IntKind.wrap_u64];omega
 rw[e];have h:=u64_and_nat (18446744073709551616-n) 31 (by omega) (by decide);have e2:((31:Nat):Int)=31:=rfl;rw[e2] at h;rw[h,nat_mask5];omega
theorem VA(x n:Nat)(hx:x<4294967296):iT x n=(x*2 ^ (32-n) % 4294967296) ||| x / 2 ^ n:=by
 unfold iT;have e:(4294967296:Nat)=2 ^ 32:=by decide
 rw[e,Nat.or_mod_two_pow,Nat.or_comm];congr 1;exact Nat.mod_eq_of_lt (Nat.lt_of_le_of_lt (Nat.div_le_self _ _) (by rw[<-e];exact hx))
theorem ED(a:Nat)(ha:a<9223372036854775808):(BitVec.ofInt 64 (a:Int)).toNat=a:=by
 rw[BitVec.ofInt_natCast,BitVec.toNat_ofNat];exact Nat.mod_eq_of_lt (by omega)
theorem LC(a b:Nat)(ha:a<9223372036854775808)(hb:b<9223372036854775808):bits .or .i64 (a:Int) (b:Int)=((a ||| b:Nat):Int):=by
 have hx:a ||| b<2 ^ 63:=Nat.or_lt_two_pow (by omega) (by omega);show IntKind.i64.wrap ((BitVec.ofInt 64 (a:Int) ||| BitVec.ofInt 64 (b:Int)).toNat:Int)=_;rw[BitVec.toNat_or,ED a ha,ED b hb,IntKind.wrap_i64];omega
theorem VB(x n:Nat)(hx:x<4294967296)(hn:n<=31):bits .or .u32 ((x:Int)*2 ^ (32-n) % 4294967296) ((x:Int) / 2 ^ (32-(32-n)))=((iT x n:Nat):Int):=by
 rw[show 32-(32-n)=n by omega,VA x n hx];have h1:(x:Int)*2 ^ (32-n) % 4294967296=((x*2 ^ (32-n) % 4294967296:Nat):Int):=by simp
 have h2:(x:Int) / 2 ^ n=((x / 2 ^ n:Nat):Int):=by simp
 rw[h1,h2];exact u32_or_nat _ _ (Nat.mod_lt _ (by decide)) (Nat.lt_of_le_of_lt (Nat.div_le_self _ _) hx)
theorem mD(x n:Nat)(hx:x<4294967296)(hn0:1<=n)(hn:n<=31)(w:World):
  Zc 275 #[.int .u32 x,.int .i64 n] w fun e w'=>e=.returned (.int .u32 (iT x n))/\w=w':=by
 have hs:=Vz n hn0 hn;have hv:=VB x n hx hn;go_enter func275,ntmps275;go_wp2;go_ret;exact⟨rfl,rfl⟩
theorem AP(x i j k:Nat)(hx:x<4294967296)(hi0:1<=i)(hi:i<=31)(hj0:1<=j)(hj:j<=31)(hk0:1<=k)(hk:k<=31)(w:World):
  Zc 249 #[.int .u32 x,.int .i64 i,.int .i64 j,.int .i64 k] w fun e w'=>e=.returned (.int .u32 (iT x i ^^^ iT x j ^^^ iT x k:Nat))/\w=w':=by
 have r1:=mD x i hx hi0 hi w;have r2:=mD x j hx hj0 hj w;have r3:=mD x k hx hk0 hk w;have h1:=u32_xor_nat (iT x i) (iT x j) (eU _ _) (eU _ _);have h2:=u32_xor_nat (iT x i ^^^ iT x j) (iT x k) (Nat.xor_lt_two_pow (n:=32) (eU _ _) (eU _ _)) (eU _ _);go_enter func249,ntmps249;go_wp2_with(first|(go_at_call 275;refine r1.mono ?_;rintro e w' ⟨rfl,rfl⟩;clear r1)|(go_at_call 275;refine r2.mono ?_;rintro e w' ⟨rfl,rfl⟩;clear r2)|(go_at_call 275;refine r3.mono ?_;rintro e w' ⟨rfl,rfl⟩));go_ret;exact⟨rfl,rfl⟩
end
section
def Dq(x:Nat):Nat:=iT x 7 ^^^ iT x 18 ^^^ x / 8
def Dt(x:Nat):Nat:=iT x 17 ^^^ iT x 19 ^^^ x / 1024
def ext(l:List Nat):Nat:=(l.getD (l.length-16) 0+l.getD (l.length-7) 0+Dq (l.getD (l.length-15) 0)+Dt (l.getD (l.length-2) 0)) % 4294967296
def sched(ws:List Nat):Nat->List Nat
 | 0=>ws
 | n+1=>sched ws n++[ext (sched ws n)]
theorem uL(ws:List Nat)(n:Nat):(sched ws n).length=ws.length+n:=by
 induction n with
 | zero=>rfl
 | succ n ih=>simp[sched,ih];omega
def pw(b:List Nat)(i j:Nat):Nat:=(((b.take i).drop (4*j)).take 4).foldl (fun a x=>256*a+x) 0
def dU(b:List Nat):List Nat:=(List.range 16).map (pw b 64)
def filled(b:List Nat)(i:Nat):List Nat:=(List.range 64).map (pw b i)
theorem LD(b:List Nat)(i:Nat):(filled b i).length=64:=by simp[filled]
theorem LF(b:List Nat)(i j:Nat)(h:j<64):(filled b i).getD j 0=pw b i j:=by
 simp[filled,getD_eq_getElem?_getD,h]
theorem VD(b:List Nat)(j:Nat):pw b 0 j=0:=by simp[pw]
theorem IA(b:List Nat):filled b 0=replicate 64 0:=by
 unfold filled;apply ext_getElem (by simp);intro k h1 h2;rw[getElem_map,getElem_replicate,VD]
theorem tK(b:List Nat)(i k:Nat)(h:i<b.length)(hk:k<=i):(b.take (i+1)).drop k=(b.take i).drop k++[b.getD i 0]:=by
 rw[take_succ_eq_append_getElem h,drop_append_of_le_length (by simp;omega)];simp[getD_eq_getElem?_getD,h]
theorem VE(b:List Nat)(i:Nat)(h:i<b.length):pw b (i+1) (i / 4)=256*pw b i (i / 4)+b.getD i 0:=by
 unfold pw;have h1:4*(i / 4)<=i:=by omega
 have h2:((b.take i).drop (4*(i / 4))).length<4:=by simp;omega
 rw[tK b i _ h h1];generalize(b.take i).drop (4*(i / 4))=X at *;rw[take_of_length_le (l:=X++[b.getD i 0]) (by rw[length_append];simp;omega),take_of_length_le (l:=X) (by omega),foldl_append];rfl
theorem VF(b:List Nat)(i j:Nat)(h:i<b.length)(hj:j≠i / 4):pw b (i+1) j=pw b i j:=by
 unfold pw;rcases Nat.lt_or_ge i (4*j) with h1|h1
 ·rw[drop_eq_nil_of_le (by simp;omega),drop_eq_nil_of_le (by simp;omega)]
 ·rw[tK b i _ h h1,take_append_of_le_length (by simp;omega)]
theorem OM:∀(l:List Nat) (a n:Nat),(∀x∈l,x<256)->a<256 ^ n->l.foldl (fun a x=>256*a+x) a<256 ^ (n+l.length)
 |[],a,n,_,h=>by simpa using h
 | x::l,a,n,hx,h=>by
  have h1:=hx x mem_cons_self;have:=OM l (256*a+x) (n+1) (fun y hy=>hx y (mem_cons_of_mem _ hy)) (by rw[Nat.pow_succ];omega);simp only[foldl_cons,length_cons]
  rwa [show n+(l.length+1)=n+1+l.length by omega]
theorem X8(b:List Nat)(i j n:Nat)(hb:∀x∈b,x<256)(hn:(((b.take i).drop (4*j)).take 4).length<=n):pw b i j<256 ^ n:=by
 have h:=OM (((b.take i).drop (4*j)).take 4) 0 0 (fun x hx=>hb x (mem_of_mem_take (mem_of_mem_drop (mem_of_mem_take hx)))) (by decide);rw[Nat.zero_add] at h;exact Nat.lt_of_lt_of_le h (Nat.pow_le_pow_right (by decide) hn)
theorem Sr(b:List Nat)(i j:Nat)(hb:∀x∈b,x<256):pw b i j<4294967296:=by
 have:=X8 b i j 4 hb (by simp;omega);omega
theorem Y8(b:List Nat)(i:Nat)(hb:∀x∈b,x<256):pw b i (i / 4)<16777216:=by
 have:=X8 b i (i / 4) 3 hb (by simp;omega);omega
theorem IB(b:List Nat)(i:Nat)(hb:b.length=64)(h:i<64):(filled b i).set (i / 4) (256*pw b i (i / 4)+b.getD i 0)=filled b (i+1):=by
 apply ext_getElem (by simp[filled]);intro k h1 h2;have hk:k<64:=by simpa [filled] using h2
 by_cases e:i / 4=k
 ·subst e;rw[getElem_set_self];simp[filled,VE b i (by omega)]
 ·rw[getElem_set_ne e];simp[filled,VF b i k (by omega) (Ne.symm e)]
theorem VG(b:List Nat)(i j:Nat)(hi:i<=64)(hj:16<=j):pw b i j=0:=by
 unfold pw;rw[drop_eq_nil_of_le (by simp;omega)];rfl
def laid(b:List Nat)(n:Nat):List Nat:=sched (dU b) n++replicate (48-n) 0
theorem lI(b:List Nat):(dU b).length=16:=by simp[dU]
theorem IC(b:List Nat)(n:Nat)(h:n<=48):(laid b n).length=64:=by
 simp[laid,uL,lI];omega
theorem LG(b:List Nat):filled b 64=laid b 0:=by
 unfold laid sched dU filled;apply ext_getElem (by simp);intro k h1 h2;have hk:k<64:=by simpa using h1
 rcases Nat.lt_or_ge k 16 with h|h
 ·rw[getElem_append_left (by simpa using h),getElem_map,getElem_map,getElem_range,getElem_range]
 ·rw[getElem_append_right (by simpa using h),getElem_map,getElem_range,getElem_replicate,VG b 64 k (by omega) h]
theorem Sv(b:List Nat)(n j:Nat)(h:j<16+n):(laid b n).getD j 0=(sched (dU b) n).getD j 0:=by
 unfold laid;rw[getD_eq_getElem?_getD,getElem?_append_left (by rw[uL,lI];omega),getD_eq_getElem?_getD]
theorem PU(b:List Nat)(n:Nat)(h:n<48):(laid b n).set (n+16) (ext (sched (dU b) n))=laid b (n+1):=by
 have hl:(sched (dU b) n).length=n+16:=by rw[uL,lI];omega
 unfold laid;rw[set_append_right _ _ (by omega),hl,Nat.sub_self,show 48-n=(48-(n+1))+1 by omega,replicate_succ,set_cons_zero];simp[sched]
theorem jw(a b:Nat)(ha:a<4294967296)(hb:b<4294967296):a ^^^ b<4294967296:=Nat.xor_lt_two_pow (n:=32) ha hb
theorem nR(a b:Nat)(hb:b<4294967296):a &&& b<4294967296:=Nat.and_lt_two_pow (n:=32) a hb
theorem VH(x:Nat)(h:x<4294967296):Dq x<4294967296:=jw _ _ (jw _ _ (eU _ _) (eU _ _)) (by omega)
theorem VI(x:Nat)(h:x<4294967296):Dt x<4294967296:=jw _ _ (jw _ _ (eU _ _) (eU _ _)) (by omega)
theorem Y9(l:List Nat):ext l<4294967296:=Nat.mod_lt _ (by decide)
theorem AQ(ws:List Nat)(h:∀x∈ws,x<4294967296):∀n,∀x∈sched ws n,x<4294967296
 | 0,x,hx=>h x hx
 | n+1,x,hx=>by
  rcases mem_append.1 hx with hx|hx
  ·exact AQ ws h n x hx
  ·simp at hx;subst hx;exact Y9 _
theorem Sw(b:List Nat)(hb:∀x∈b,x<256):∀y∈dU b,y<4294967296:=by
 intro y hy;simp only[dU,mem_map] at hy;obtain⟨j,_,rfl⟩:=hy;exact Sr b 64 j hb
theorem Zf(ws:List Nat)(n:Nat)(h:ws.length=16):ext (sched ws n)=((sched ws n).getD n 0+(sched ws n).getD (n+9) 0+Dq ((sched ws n).getD (n+1) 0)+Dt ((sched ws n).getD (n+14) 0)) % 4294967296:=by
 unfold ext;rw[uL,h,show 16+n-16=n by omega,show 16+n-7=n+9 by omega,show 16+n-15=n+1 by omega,show 16+n-2=n+14 by omega]
theorem kX(l:List Nat)(h:∀x∈l,x<4294967296)(j:Nat):l.getD j 0<4294967296:=by
 rw[getD_eq_getElem?_getD];cases e:l[j]? with
 | none=>simp
 | some x=>exact h x (mem_of_getElem? e)
theorem VJ(b:List Nat)(hb:∀x∈b,x<256)(n:Nat):∀x∈laid b n,x<4294967296:=by
 intro x hx;rcases mem_append.1 hx with hx|hx
 ·refine AQ _ ?_ n x hx;intro y hy;simp only[dU,mem_map] at hy;obtain⟨j,_,rfl⟩:=hy;exact Sr b 64 j hb
 ·simp at hx;omega
structure St where
 (a b c d e f g h:Nat)
def St.list(s:St):List Nat:=[s.a,s.b,s.c,s.d,s.e,s.f,s.g,s.h]
structure St.Ok(s:St):Prop where
 a:s.a<4294967296
 b:s.b<4294967296
 c:s.c<4294967296
 d:s.d<4294967296
 e:s.e<4294967296
 f:s.f<4294967296
 g:s.g<4294967296
 h:s.h<4294967296
def PV(e:Nat):Nat:=iT e 6 ^^^ iT e 11 ^^^ iT e 25
def Sy(a:Nat):Nat:=iT a 2 ^^^ iT a 13 ^^^ iT a 22
def choice(e f g:Nat):Nat:=(e &&& f) ^^^ ((4294967295-e) &&& g)
def tL(a b c:Nat):Nat:=(a &&& b) ^^^ (a &&& c) ^^^ (b &&& c)
def tOne(s:St)(k w:Nat):Nat:=s.h+PV s.e+choice s.e s.f s.g+k+w
def tTwo(s:St):Nat:=Sy s.a+tL s.a s.b s.c
def St.round(s:St)(k w:Nat):St:=⟨(tOne s k w+tTwo s) % 4294967296,s.a,s.b,s.c,(s.d+tOne s k w) % 4294967296,s.e,s.f,s.g⟩
def St.run(K ws:List Nat)(s:St):Nat->St
 | 0=>s
 | n+1=>(St.run K ws s n).round (K.getD n 0) (ws.getD n 0)
theorem VK(x:Nat):PV x<4294967296:=jw _ _ (jw _ _ (eU _ _) (eU _ _)) (eU _ _)
theorem VL(x:Nat):Sy x<4294967296:=jw _ _ (jw _ _ (eU _ _) (eU _ _)) (eU _ _)
theorem PW(e f g:Nat)(hf:f<4294967296)(hg:g<4294967296):choice e f g<4294967296:=jw _ _ (nR _ _ hf) (nR _ _ hg)
theorem IE(a b c:Nat)(hb:b<4294967296)(hc:c<4294967296):tL a b c<4294967296:=jw _ _ (jw _ _ (nR _ _ hb) (nR _ _ hc)) (nR _ _ hc)
theorem St.Ok.round{s:St}(h:s.Ok)(k w:Nat):(s.round k w).Ok:=⟨Nat.mod_lt _ (by decide),h.a,h.b,h.c,Nat.mod_lt _ (by decide),h.e,h.f,h.g⟩
theorem St.Ok.run{s:St}(h:s.Ok)(K ws:List Nat):∀n,(St.run K ws s n).Ok
 | 0=>h
 | n+1=>(St.Ok.run h K ws n).round _ _
def VN(l m:List Nat):List Nat:=List.zipWith (fun x y=>(x+y) % 4294967296) l m
def Dl(K:List Nat)(s:St)(b:List Nat):List Nat:=VN s.list (St.run K (laid b 48) s 64).list
end
section
open Go.RowKit
def oO(r:Nat):Nat:=if r % 2=1 then(r / 2) ^^^ 3988292384 else r / 2
def bP:Nat->Nat->Nat
 | 0,r=>r
 | n+1,r=>oO (bP n r)
def jO(l:List Nat)(r:Nat):Nat:=l.foldl (fun r b=>bP 8 (r ^^^ b)) r
def crc(l:List Nat):Nat:=4294967295-jO l 4294967295
theorem PX(r:Nat)(h:r<4294967296):oO r<4294967296:=by
 unfold oO;split
 ·exact jw _ _ (by omega) (by decide)
 ·omega
theorem kN(n r:Nat)(h:r<4294967296):bP n r<4294967296:=by
 induction n with
 | zero=>exact h
 | succ n ih=>exact PX _ ih
theorem FT(l:List Nat)(b r:Nat):jO (l++[b]) r=bP 8 (jO l r ^^^ b):=by simp[jO]
theorem AR:∀(l:List Nat) (r:Nat),(∀x∈l,x<256)->r<4294967296->jO l r<4294967296
 |[],r,_,h=>h
 | b::l,r,hb,h=>AR l _ (fun x hx=>hb x (mem_cons_of_mem _ hx)) (kN 8 _ (jw _ _ h (Nat.lt_trans (hb b mem_cons_self) (by decide))))
def af(s:Zy):List Nat:=s.data.toList.map UInt8.toNat
theorem jP(s:Zy):∀x∈af s,x<256:=by
 intro x hx;simp only[af,mem_map] at hx;obtain⟨u,_,rfl⟩:=hx;exact u.toNat_lt
theorem aM(s:Zy):(af s).length=s.size:=by simp[af]
theorem tN(s:Zy)(k:Nat)(h:k<s.size):(af s).take (k+1)=(af s).take k++[(s[k]).toNat]:=by
 rw[take_succ_eq_append_getElem (by rw[aM];exact h)];simp[af];rfl
structure OpR where
 (kind a b d:Int)
 (s t:Zy)
structure lG where
 kind:Int
 a:Int
 s:Zy
 t:Zy
def lG.vals(o:lG):List Value:=[.int .i64 o.kind,.int .i64 o.a,.string o.s,.string o.t]
def lG.agg(o:lG):Value:=.agg #[.int .i64 o.kind,.int .i64 o.a,.string o.s,.string o.t]
def je(w:World)(b off:Nat)(ops:List lG):Prop:=∀i o,ops[i]? =some o->∀j v,o.vals[j]? =some v->w.cell? (Za b (off+i*4+j))=some v
theorem je.below{b off:Nat}{ops:List lG}(h:je w b off ops)(hb:Below B w w')(hg:b<B):je w' b off ops:=fun i o hi j v hj=>by
 rw[hb.cell hg];exact h i o hi j v hj
def lG.Fit(o:lG):Prop:=(-9223372036854775808<=o.kind/\o.kind<=9223372036854775807)/\(-9223372036854775808<=o.a/\o.a<=9223372036854775807)
end
section
open Go.RowKit Go.Deep Go.ChangeShapes Go.WideShapes
theorem Sz:prog.cellsOf 3=1:=by kernel_rfl
theorem SA:prog.cellsOf 9=1:=by kernel_rfl
theorem tQ:∀{l:List (DataW H)} {d:DataW H} {n:Nat},d∈l->n∈d.weights prog e->n∈DataW.weightsAll prog e l
 | x::l,d,n,hd,hn=>by
  simp only[DataW.weightsAll,mem_append];rcases mem_cons.1 hd with rfl|hd
  ·exact Or.inl hn
  ·exact Or.inr (tQ hd hn)
section
variable {H:Type}{enc:TypeId × Value->H}{W:World}{base:Nat}{spare:Nat->Bool}{held:Bool}
theorem SB{n:Int}(h:(Lit.int .i64 n).wf=true): -9223372036854775808<=n/\n<=9223372036854775807:=by
 simpa [Lit.wf,IntKind.min,IntKind.max,IntKind.signed,IntKind.bits] using h
instance :Inhabited OpR:=⟨⟨0,0,0,0,ByteArray.empty,ByteArray.empty⟩⟩
end
theorem IG:prog.cellsOf 40=4:=by kernel_rfl
theorem II{α:Type}(l:List α)(h:l.length=4):∃a b c d,l=[a,b,c,d]:=by
 match l,h with
 |[a,b,c,d],_=>exact⟨a,b,c,d,rfl⟩
def lG.datum(o:lG):DataW H:=.agg [.lit (.int .i64 o.kind),.lit (.int .i64 o.a),.lit (.string o.s.data.toList),.lit (.string o.t.data.toList)]
theorem wZ(o:lG):o.s.size∈(lG.datum (H:=H) o).weights prog 40/\o.t.size∈(lG.datum (H:=H) o).weights prog 40:=by
 simp only[lG.datum,DataW.weights,underlying40];simp[DataW.weightsEach,DataW.weights]
section
variable {H:Type}{enc:TypeId × Value->H}{W:World}{base:Nat}{spare:Nat->Bool}{held:Bool}
theorem FU{f0 f1 f2 f3:Field}{x:DataW H × List MemPlace}(ht:prog.underlying t=some (.struct #[f0,f1,f2,f3]))(h:DataW.trod enc prog W base spare held fuel t cs=some x):
  ∃y0 y1 y2 y3 n,x.1=.agg [y0.1,y1.1,y2.1,y3.1]/\cs.length=prog.cellsOf t/\DataW.trod enc prog W base spare held n f0.type ((cs.drop f0.offset).take (prog.cellsOf f0.type))=some y0/\DataW.trod enc prog W base spare held n f1.type ((cs.drop f1.offset).take (prog.cellsOf f1.type))=some y1/\
   DataW.trod enc prog W base spare held n f2.type ((cs.drop f2.offset).take (prog.cellsOf f2.type))=some y2/\DataW.trod enc prog W base spare held n f3.type ((cs.drop f3.offset).take (prog.cellsOf f3.type))=some y3:=by
 obtain⟨xs,n,_,hx,hl,hlen,hf⟩:=DataW.trod_struct ht h;obtain⟨y0,y1,y2,y3,rfl⟩:=II xs hlen;exact⟨y0,y1,y2,y3,n,by rw[hx];rfl,hl,by simpa using hf 0 f0 rfl,by simpa using hf 1 f1 rfl,by simpa using hf 2 f2 rfl,by simpa using hf 3 f3 rfl⟩
theorem IJ{x:DataW H × List MemPlace}(h:DataW.trod enc prog W base spare held n 40 cs=some x):
  ∃o:lG,cs=o.vals/\x.1=o.datum/\o.Fit:=by
 obtain⟨y0,y1,y2,y3,m,hx,hl,h0,h1,h2,h3⟩:=FU underlying40 h;rw[IG] at hl;obtain⟨c0,c1,c2,c3,rfl⟩:=II cs hl;simp only[Sz,SA,drop_zero,drop_succ_cons,take_succ_cons,take_zero] at h0 h1 h2 h3;obtain⟨n0,e0,rfl,q0⟩:=DataW.trod_int underlying3 h0;obtain⟨n1,e1,rfl,q1⟩:=DataW.trod_int underlying3 h1;obtain⟨s2,e2,rfl,_⟩:=DataW.trod_string underlying9 h2;obtain⟨s3,e3,rfl,_⟩:=DataW.trod_string underlying9 h3;simp only[List.cons.injEq,and_true] at e0 e1 e2 e3;subst e0 e1 e2 e3;exact⟨⟨n0,n1,s2,s3⟩,rfl,hx,SB q0,SB q1⟩
instance :Inhabited lG:=⟨⟨0,0,ByteArray.empty,ByteArray.empty⟩⟩
theorem Ak{x:DataW H × List MemPlace}(h:DataW.trod enc prog W base spare held fuel 27 [v]=some x):
  ∃(ops:List lG) (a0:Option Addr) (b off cap:Nat),v=.slice a0 ops.length cap/\(0<ops.length->a0=some (Za b off))/\je W b off ops/\(0<ops.length->b<W.heap.size)/\ops.length<=maxLen/\(ops=[]\/∃sp,x.1=.slice (ops.map lG.datum) sp)/\(∀o∈ops,o.Fit):=by
 rcases open_slice underlying27 h with⟨hc,_⟩|⟨a,len,cap,m,n,D,Pl,hc,_,hl,hcm,hm,hxd,hx⟩
 ·simp only[List.cons.injEq,and_true] at hc;subst hc;exact⟨[],none,0,0,0,rfl,fun h=>absurd h (by decide),fun i o hi=>by simp at hi,fun h=>absurd h (by decide),by decide,Or.inl rfl,fun o ho=>by simp at ho⟩
 ·simp only[List.cons.injEq,and_true] at hc;subst hc;have hlm:len<=m:=by rw[hm];split<;>omega
  rw[IG] at hx;obtain⟨F,hF⟩:=choose_lt (α:=lG) (n:=len) (p:=fun i o=>(∀j v,o.vals[j]? =some v->W.cell? (a.add (i*4+j))=some v)/\D i=o.datum/\o.Fit) (fun i hi=>by
   obtain⟨cs',h1,h2⟩:=hx i (by omega);obtain⟨_,hlen,hcell⟩:=World.cells?_some h1;obtain⟨o,rfl,hdat,hfit⟩:=IJ h2;refine⟨o,fun j v hj=>?_,hdat,hfit⟩;have hj6:j<4:=by
    rcases Nat.lt_or_ge j 4 with h|h
    ·exact h
    ·rw[getElem?_eq_none (by rw[hlen];exact h)] at hj;cases hj
   rw[<-add_add,hcell j hj6,hj])
  have hlen:((List.range len).map F).length=len:=by simp
  have hget:∀i o,((List.range len).map F)[i]? =some o->i<len/\o=F i:=by
   intro i o hi;rcases Nat.lt_or_ge i len with h|h
   ·simp[h] at hi;exact⟨h,hi.symm⟩
   ·rw[getElem?_eq_none (by simpa using h)] at hi;cases hi
  have hspot:0<len->a=(Za a.block a.off):=fun h0=>by
   have:=World.cell?_spot ((hF 0 h0).1 0 _ rfl);simp[Addr.add] at this;cases a
   simp_all
  refine⟨(List.range len).map F,some a,a.block,a.off,cap,by rw[hlen],fun h0=>by rw[hlen] at h0;exact congrArg some (hspot h0),?_,?_,by rw[hlen];omega,Or.inr ⟨(List.range (m-len)).map fun j=>D (len+j),?_⟩,?_⟩
  ·intro i o hi j v hj;obtain⟨hi',rfl⟩:=hget i o hi;have h:=(hF i hi').1 j v hj;rw[hspot (by omega),add_plain] at h;rw[Nat.add_assoc];exact h
  ·intro h0;rw[hlen] at h0;have h:=(hF 0 h0).1 0 _ rfl;have:=LB h;simpa [Addr.add] using this
  ·rw[hxd];show DataW.slice _ _=DataW.slice _ _;congr 1;rw[map_map];apply map_congr_left;intro i hi;exact(hF i (by simpa using hi)).2.1
  ·intro o ho;obtain⟨i,hi,rfl⟩:=mem_map.1 ho;exact(hF i (by simpa using hi)).2.2
theorem Du{ts:List TypeId}{ds:List (DataW H)}{d:DataW H}{ops:List lG}{sp:List (DataW H)}(h:(DataW.weightsEach prog (27::ts) (d::ds)).all (·<=reachBytes)=true)(hd:d=.slice (ops.map lG.datum) sp):
  ∀o∈ops,o.s.size<=140737488351232/\o.t.size<=140737488351232:=by
 intro o ho;have key:∀n,n∈(lG.datum (H:=H) o).weights prog 40->n<=140737488351232:=by
  intro n hn;have hm:n∈d.weights prog 27:=by
   rw[hd];simp only[DataW.weights,underlying27];exact mem_cons_of_mem _ (mem_append_left _ (tQ (mem_map_of_mem ho) hn))
  have:=all_eq_true.1 h n (DataW.weights_mem_each (j:=0) rfl rfl n hm);have e:reachBytes=140737488351232:=by decide
  simp only[decide_eq_true_eq] at this;omega
 exact⟨key _ (wZ o).1,key _ (wZ o).2⟩
end
end
end Go.Proofs.YtdidjdoifpfmmaaGreatDoor
