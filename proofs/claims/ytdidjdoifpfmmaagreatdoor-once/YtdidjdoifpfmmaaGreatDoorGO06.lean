import Derived.Test.YtdidjdoifpfmmaaGreatDoorGAShelfRepeat
import Derived.Test.YtdidjdoifpfmmaaGreatDoorGO04
import Derived.Maps.OwnOps
import Derived.Maps.OwnSet
import Derived.Deep.MidRow
import Derived.Maps.Views
import Derived.Deep.WholeRow
import Derived.Laws.CopyRow
import Derived.Lib.SliceRun
import Derived.Deep.CutRange
set_option maxRecDepth 100000
set_option maxHeartbeats 16000000
namespace Go.Proofs.YtdidjdoifpfmmaaGreatDoor
open Go.Proofs.Tryz List
variable{t s d:TypeId}{w w':World}{S S':Dk}{lk:Int}{g cap gm:Nat}{l:List Zy}{P:Program}{a:Act}{Q:Exit->Act->World->Prop}{n b root label:Zy}{v' v u x:Value}{K:Act->World->Prop}{E:Prop}
section
open Go.RowKit
theorem Ba:Builder.Extra prog Tryz.lays105_ren where
 sizeBuilder:=by kernel_rfl
 liesBuilder:=by kernel_rfl
 t5:=underlying5
 a5:=isAgg5
 z5:=sizeOf5
 v5:=zeroValue5
 infoByte:=by kernel_rfl
 cellsByte:=by kernel_rfl
 sizeByte:=by kernel_rfl
 neB5:=by decide
theorem Jc(c:Nat):(⟨(Lib.repeatL (⟨#[0]⟩:Zy).data.toList c).toArray⟩:Zy)=aI c:=by
 have:Lib.repeatL (⟨#[0]⟩:Zy).data.toList c=replicate c 0:=by
  have:=Lib.repeatL_replicate (0:UInt8) 1 c
  rwa [Nat.mul_one] at this
 rw[this];unfold aI text;simp
theorem EI(c:Nat)(hc:c<=1000000)(w:World):
  Calls prog 141 #[.string ⟨#[0]⟩,.int .i64 (c:Nat)] w fun e w'=>e=.returned (.string (aI c))/\Below w.heap.size w w':=by
 have h:=Any.strings_Repeat Tryz.lays105 Ba ⟨#[0]⟩ c w (by omega) (by show 1*c<=_;omega);rw[Jc] at h;exact h
theorem rH(n:Nat)(h:n<4294967296)(w:World):
  Calls prog 147 #[.int .u32 (n:Nat)] w fun e w'=>e=.returned (.string (text (bE n)))/\Below w.heap.size w w':=by
 have hcv:(convert 124 9 (.slice (some ⟨w.heap.size,0,none⟩) 4 4)).run prog (w.alloc (.cells #[.int .u8 ((n:Int) / 16777216),.int .u8 ((n:Int) / 65536 % 256),.int .u8 ((n:Int) / 256 % 256),.int .u8 ((n:Int) % 256)] 5))=.ok (.string (text (bE n))) (w.alloc (.cells #[.int .u8 ((n:Int) / 16777216),.int .u8 ((n:Int) / 65536 % 256),.int .u8 ((n:Int) / 256 % 256),.int .u8 ((n:Int) % 256)] 5)):=by
  have e1:(n:Int) / 16777216=((n / 16777216 % 256:Nat):Int):=by omega
  have e2:(n:Int) / 65536 % 256=((n / 65536 % 256:Nat):Int):=by omega
  have e3:(n:Int) / 256 % 256=((n / 256 % 256:Nat):Int):=by omega
  have e4:(n:Int) % 256=((n % 256:Nat):Int):=by omega
  rw[e1,e2,e3,e4];have hr:ai (w.alloc (.cells (bytes (bE n)).toArray 5)) w.heap.size 5 (bytes (bE n)++[]):=by rw[append_nil];exact ai.new _ _ _
  exact qF 124 9 5 underlying124 underlying5 underlying9 _ _ 4 _ (bE n) [] hr (uN n)
 have hb:Below w.heap.size w (w.alloc (.cells #[.int .u8 ((n:Int) / 16777216),.int .u8 ((n:Int) / 65536 % 256),.int .u8 ((n:Int) / 256 % 256),.int .u8 ((n:Int) % 256)] 5)):=(Below.refl _ _).alloc (Nat.le_refl _) _;obtain⟨T,hT⟩:∃T,Hid (text (bE n)=T):=⟨_,rfl⟩;rw[hT.out] at hcv;go_enter func147,ntmps147;go_wp2;go_ret;exact⟨by rw[hT.out];rfl,hb⟩
theorem Jd{t:Zy}(h:t.size % 64=0):jB t=t:=by
 unfold jB;rw[show(t.size+63) / 64*64-t.size=0 by omega];exact WideShapes.bytes_inj (by simp[aI,text])
theorem Je{t:Zy}(h:t.size % 64≠0):jB t=t++aI (64-t.size % 64):=by
 unfold jB;rw[show(t.size+63) / 64*64-t.size=64-t.size % 64 by omega]
theorem EJ(t:Zy)(ht:t.size<=100000)(w:World):
  Calls prog 146 #[.string t] w fun e w'=>e=.returned (.string (jB t))/\Below w.heap.size w w':=by
 by_cases h:t.size % 64=0
 ·have HP:Hid _:=Jd h;have h1:((t.size:Int) % 64==0)=true:=by simp;omega
  go_enter func146,ntmps146;go_wp2;go_ret;exact⟨by rw[HP.out];rfl,Below.refl _ _⟩
 ·have HP:Hid _:=Je h;have h1:((t.size:Int) % 64==0)=false:=by simp;omega
  have c:=EI (64-t.size % 64) (by omega) w;have hz:=xu (64-t.size % 64);rw[show((64-t.size % 64:Nat):Int)=64-(t.size:Int) % 64 by omega] at c;generalize aI (64-t.size % 64)=z at *;go_enter func146,ntmps146;go_wp2_with(go_at_call 141;refine c.mono ?_;rintro e w1 ⟨rfl,hb⟩);go_ret;exact⟨by rw[HP.out];rfl,hb⟩
theorem zH(n:Nat)(hn:n<=4096)(w:World):
  Calls prog 145 #[.int .i64 (n:Nat)] w fun e w'=>e=.returned (.string (fC n))/\Below w.heap.size w w':=by
 have c:=rH n (by omega) w;have hz:(text (bE n)).size=4:=aZ _;unfold fC SV;generalize text (bE n)=t at *;go_enter func145,ntmps145;go_wp2_with(go_at_call 147;refine c.mono ?_;rintro e w1 ⟨rfl,hb⟩);go_ret;exact⟨rfl,hb⟩
theorem OT(n:Nat)(hn:n<=4096)(w:World):
  Calls prog 82 #[.int .i64 (n:Nat)] w fun e w'=>e=.returned (.string (dG n))/\Below w.heap.size w w':=by
 have c:=zH n hn w;have hs:=oZ n;have hz:(text (bE (bQ n))).size=4:=aZ _;have c1:Hid (∀w,Calls prog 112 #[.string (fC n)] w fun e w'=>e=.returned (.int .u32 (bQ n:Nat))/\Below w.heap.size w w'):=fun w=>oQ (fC n) w (by omega);have c2:Hid (∀w,Calls prog 147 #[.int .u32 (bQ n:Nat)] w fun e w'=>e=.returned (.string (text (bE (bQ n))))/\Below w.heap.size w w'):=fun w=>rH (bQ n) (yO _) w;have c3:Hid (∀w,Calls prog 146 #[.string (fC n++text (bE (bQ n)))] w fun e w'=>e=.returned (.string (dG n))/\Below w.heap.size w w'):=fun w=>EJ _ (by rw[eG];omega) w;generalize dG n=T at *;generalize text (bE (bQ n))=t at *;generalize bQ n=k at *;generalize fC n=u at *;go_enter func82,ntmps82;go_wp2_with(first
  | (go_at_call 145;refine c.mono ?_;rintro e w1 ⟨rfl,hb⟩;clear c)
  | (go_at_call 112;refine(c1.out _).mono ?_;rintro e w2 ⟨rfl,hb2⟩)
  | (go_at_call 147;refine(c2.out _).mono ?_;rintro e w3 ⟨rfl,hb3⟩)
  | (go_at_call 146;refine(c3.out _).mono ?_;rintro e w4 ⟨rfl,hb4⟩))
 go_ret;have b2:=hb.trans (hb2.mono hb.size);have b3:=b2.trans (hb3.mono b2.size);exact⟨rfl,b3.trans (hb4.mono b3.size)⟩
theorem SX(n:Nat)(hn:n<=4096)(w:World):
  Calls prog 150 #[.int .i64 (n:Nat)] w fun e w'=>e=.returned (.agg #[.int .i64 1,.int .u32 1,.int .u32 (bQ n:Nat)])/\Below w.heap.size w w':=by
 have c:Hid (∀w,Calls prog 145 #[.int .i64 (n:Nat)] w fun e w'=>e=.returned (.string (fC n))/\Below w.heap.size w w'):=fun w=>zH n hn w;have hs:=oZ n;have c1:Hid (∀w,Calls prog 112 #[.string (fC n)] w fun e w'=>e=.returned (.int .u32 (bQ n:Nat))/\Below w.heap.size w w'):=fun w=>oQ (fC n) w (by omega);generalize bQ n=k at *;generalize fC n=u at *;go_enter func150,ntmps150;go_wp2_with(first
  | (go_at_call 145;refine(c.out _).mono ?_;rintro e w1 ⟨rfl,hb⟩;have r1:Hid (ai w1 w.heap.size 117 [.int .i64 0,.int .u32 0,.int .u32 0]):=(ai.new w 117 [.int .i64 0,.int .u32 0,.int .u32 0]).below hb (by simp))
  | (go_at_call 112;refine(c1.out _).mono ?_;rintro e w2 ⟨rfl,hb2⟩;have r2:Hid _:=r1.out.below hb2 r1.out.lt;have q0:w2.cell? ⟨w.heap.size,0,none⟩=some (.int .i64 0):=r2.out.cell 0;have q1:w2.cell? ⟨w.heap.size,1,none⟩=some (.int .u32 0):=r2.out.cell 1;have q2:w2.cell? ⟨w.heap.size,2,none⟩=some (.int .u32 0):=r2.out.cell 2;have f0:=r2.out.frozen 0;have f1:=r2.out.frozen 1;have f2:=r2.out.frozen 2))
 have r3:=((r2.out.set 0 (.int .i64 1)).set 1 (.int .u32 1)).set 2 (.int .u32 (k:Nat));refine bodyPost_ret (results_cell_row (P:=prog) results150 _ _ w.heap.size _ _ _ _ rfl r3.heap underlying117 rfl (by kernel_rfl)) rfl ⟨rfl,?_⟩;have b1:Below w.heap.size w w1:=((Below.refl _ w).alloc (Nat.le_refl _) _).trans (hb.mono (by simp));have b2:Below w.heap.size w w2:=b1.trans (hb2.mono b1.size);exact((b2.setCell (Nat.le_refl _) _).setCell (Nat.le_refl _) _).setCell (Nat.le_refl _) _
end
section
def iZ(at_ num crc:Nat):Value:=.agg #[Zi at_,.int .u32 (num:Nat),.int .u32 (crc:Nat)]
end
section
open Go.RowKit
structure DP where
 (p gs gm:Nat)
 wv:Value
def jv(l:List Zy):List Value:=l.flatMap fun x=>bytes (af x)
def j4(l:List (Nat × Zy)):List Value:=l.flatMap fun x=>(Zi x.1)::bytes (af x.2)
def nC(l:List (Nat × Zy)):DataW Unit:=l.zipIdx.foldl (fun D x=>D.put (.int .i64 (x.1.1:Nat)) (.lit (.int .i64 (x.2:Nat)))) (.map [])
def DP.blocks(d:DP):List Nat:=d.p::d.gs::d.gm::d.wv.ownBlock.toList
def DP.cells(d:DP)(S:Dk)(lock:Int):List Value:=[.int .i32 lock,.int .u32 0,.slice (Zs d.gs) S.safe.length S.safe.length,d.wv,.map (some d.gm),Zi S.fuse,.bool S.down]
structure aB(w:World)(d:DP)(S:Dk):Prop where
 row:ai w d.p 88 (d.cells S 0)
 safe:ai w d.gs 190 (jv S.safe)
 wait:w.ownsRow 0 192 65 d.wv S.wait.length (j4 S.wait)
 last:w.ownsMap (H:=Unit) prog 3 (plainElem prog 3) d.gm S.wait.length (nC S.wait)
 apart:d.blocks.Nodup
theorem fK{d:DP}(h:aB w d S)(ok:S.Ok):
  Zc 62 #[Zp d.p] w fun e w'=>e=.returned (Zi S.safe.length)/\w=w':=by
 have c2:w.cell? (Za d.p 2)=some (.slice (Zs d.gs) S.safe.length S.safe.length):=h.row.cell 2;have hn:=ok.most;go_enter func62,ntmps62;go_wp2;go_ret;exact⟨rfl,rfl⟩
theorem aB.ne{d:DP}(h:aB w d S):d.p≠d.gs/\d.p≠d.gm/\d.gs≠d.gm/\(∀g,d.wv.ownBlock=some g->d.p≠g/\d.gs≠g/\d.gm≠g):=by
 have hn:=h.apart;simp only[DP.blocks,nodup_cons,mem_cons,not_or] at hn;refine⟨hn.1.1,hn.1.2.1,hn.2.1.1,fun g hg=>?_⟩;rw[hg] at hn;simp at hn;omega
theorem aB.turn{d:DP}(h:aB w d S)(hs:S'.safe=S.safe)(hw:S'.wait=S.wait)(hr:ai w' d.p 88 (d.cells S' 0))(hf:Fr w w' [d.p]):aB w' d S':=by
 obtain⟨n1,n2,n3,n4⟩:=h.ne;have hg:w.grownBy w' (some d.p):=⟨hf.os,hf.tape,hf.output,hf.size,fun k hk hne=>hf.block k hk (by simpa using hne)⟩;refine⟨hr,by rw[hs];exact hf.row h.safe (by simpa using n1.symm),?_,?_,h.apart⟩
 ·rw[hw];refine h.wait.kept hg ?_;cases hv:d.wv.ownBlock with
  | none=>exact .inl rfl
  | some g=>exact .inr (fun e=>(n4 g hv).1 (by simpa using e.symm))
 ·rw[hw];exact h.last.kept hg (by simpa using n2.symm)
theorem Bb{d:DP}(h:aB w d S)(ok:S.Ok):
  Zc 53 #[Zp d.p] w fun e w'=>e=.returned (Zi S.wait.length)/\aB w' d S/\Fr w w' [d.p]:=by
 have z0:w.cell? (Za d.p 0)=some (.int .i32 0):=h.row.cell 0;have z1:=h.row.frozen 0;have h1:=h.row.set 0 (.int .i32 1);have gV:=ok.few;obtain⟨aw,cw,hwv⟩:∃aw cw,d.wv=.slice aw S.wait.length cw:=by
  rcases h.wait.2 with⟨e,e0⟩|⟨g',cap',cur,e,_⟩
  ·exact⟨none,0,by rw[e,e0]⟩
  ·exact⟨_,_,e⟩
 have c3:(w.setCell (Za d.p 0) (.int .i32 1)).cell? (Za d.p 3)=some (.slice aw S.wait.length cw):=by rw[<-hwv];exact h1.cell 3
 have HF:Hid (Fr w ((w.setCell (Za d.p 0) (.int .i32 1)).setCell (Za d.p 0) (.int .i32 0)) [d.p]):=((Fr.refl _ _).setCell _ _ (.inl (by simp))).setCell _ _ (.inl (by simp));have HD:Hid (aB ((w.setCell (Za d.p 0) (.int .i32 1)).setCell (Za d.p 0) (.int .i32 0)) d S):=h.turn rfl rfl (h1.set 0 (.int .i32 0)) HF.out;have H1:Hid _:=h1;clear h1 h;go_enter_defers func53,ntmps53;go_wp2_with(go_at_call 57;refine(jf (Za d.p 0) _ z0 z1).mono ?_;rintro e w' ⟨rfl,rfl⟩);refine leaves_cons (f:=58) (args:=#[Zp d.p]) (by simp) (by simp[go_sem]) ?_;refine(dV (Za d.p 0) .returning _ (H1.out.cell 0) (H1.out.frozen 0)).mono ?_;rintro e u' w'' ⟨rfl,rfl,rfl⟩;exact⟨_,results_tmp rfl _ _ _,rfl,HD.out,HF.out⟩
theorem VY:(prog.info? 190).map (fun i=>(i.zero,i.size,i.bytes))=some (some (.agg (bytes (replicate 64 0)).toArray),64,64):=by kernel_rfl
theorem ug(l:List Nat)(h:∀x∈l,x<256):af (text l)=l:=by
 simp only[af,text,map_map]
 conv=>rhs;rw[<-map_id l]
 apply map_congr_left;intro x hx;have:=h x hx;simp;omega
theorem Jf:af aX=replicate 64 0:=ug _ (by intro x hx;rw[eq_of_mem_replicate hx];decide)
theorem Qa(n:Nat):jv (replicate n aX)=replicate (n*64) (.int .u8 0):=by
 induction n with
 | zero=>rfl
 | succ n ih=>
  rw[replicate_succ,show(n+1)*64=64+n*64 by omega,<-replicate_append_replicate,<-ih];simp only[jv,flatMap_cons,Jf];congr 1
theorem SY(n:Nat):madeCells (Value.agg (bytes (replicate 64 0)).toArray).cells (n*64)=(jv (replicate n aX)).toArray:=by
 rw[Qa];apply Array.ext
 ·simp[madeCells]
 ·intro i h1 h2;have hb:bytes (replicate 64 0)=replicate 64 (.int .u8 0):=by simp[bytes]
  simp only[madeCells,Value.cells,hb,Array.getElem_map,Array.getElem_range,getElem_toArray,getElem_replicate];have hm:i % (replicate 64 (Value.int .u8 0)).toArray.size<(replicate 64 (Value.int .u8 0)).toArray.size:=Nat.mod_lt _ (by simp);rw[getElem!_pos (replicate 64 (Value.int .u8 0)).toArray _ hm,getElem_toArray,getElem_replicate]
theorem S9(w:World)(n:Nat)(hn:n<=4096):(Instr.makeSlice 77 (.int .i64 (n:Int)) (.int .i64 (n:Int))).run prog w
  =.ok (.slice (some ⟨w.heap.size,0,none⟩) n n) (w.alloc (.cells (jv (replicate n aX)).toArray 190)):=by
 obtain⟨i0,hi,hz0,hz1,hz2⟩:=info_parts VY;have h:=run_make (P:=prog) w 77 190 i0 _ underlying77 hi hz0 .i64 .i64 n n (by omega) (by omega) (by rw[hz2];omega) (by omega);rw[hz1,Int.toNat_natCast,SY] at h;exact h
def Me(w w':World)(n:Int)(e:Ending):Prop:=∃m d,m=(max 1 (min n 4096)).toNat/\e=.returned (.pointer (some ⟨DP.p d,0,none⟩))/\aB w' d ⟨replicate m aX,[],0,false⟩/\(∀b∈d.blocks,w.heap.size<=b)/\Below w.heap.size w w'
theorem yP(w:World)(n:Int)(m:Nat)(hm:m=(max 1 (min n 4096)).toNat):
  Me w (((w.alloc (.cells (jv (replicate m aX)).toArray 190)).alloc (.map #[] 0)).alloc (.cells ([Value.int .i32 0,.int .u32 0,.slice (some ⟨w.heap.size,0,none⟩) m m,.slice none 0 0,.map (some (w.heap.size+1)),.int .i64 0,.bool false]:List Value).toArray 88)) n (.returned (.pointer (some ⟨w.heap.size+1+1,0,none⟩))):=by
 have s1:(w.alloc (.cells (jv (replicate m aX)).toArray 190)).heap.size=w.heap.size+1:=by simp
 have s2:((w.alloc (.cells (jv (replicate m aX)).toArray 190)).alloc (.map #[] 0)).heap.size=w.heap.size+1+1:=by simp
 have r1:=((ai.new w 190 (jv (replicate m aX))).below ((Below.refl _ _).alloc (Nat.le_refl _) (.map #[] 0)) (by rw[s1];omega));have m1:=World.ownsMap_made (H:=Unit) (w.alloc (.cells (jv (replicate m aX)).toArray 190)) prog 3 (plainElem prog 3);rw[s1] at m1;have r3:=ai.new ((w.alloc (.cells (jv (replicate m aX)).toArray 190)).alloc (.map #[] 0)) 88 [Value.int .i32 0,.int .u32 0,.slice (some ⟨w.heap.size,0,none⟩) m m,.slice none 0 0,.map (some (w.heap.size+1)),.int .i64 0,.bool false];rw[s2] at r3;have hb:Below w.heap.size w (((w.alloc (.cells (jv (replicate m aX)).toArray 190)).alloc (.map #[] 0)).alloc (.cells ([Value.int .i32 0,.int .u32 0,.slice (some ⟨w.heap.size,0,none⟩) m m,.slice none 0 0,.map (some (w.heap.size+1)),.int .i64 0,.bool false]:List Value).toArray 88)):=(((Below.refl _ _).alloc (Nat.le_refl _) _).alloc (by simp) _).alloc (by simp;omega) _;refine⟨m,⟨w.heap.size+1+1,w.heap.size,w.heap.size+1,.slice none 0 0⟩,hm,rfl,⟨?_,?_,World.ownsRow_nil _ _ _ _,m1.alloc _,?_⟩,?_,hb⟩
 ·show ai _ _ _ [.int .i32 0,.int .u32 0,.slice (some ⟨w.heap.size,0,none⟩) (replicate m aX).length (replicate m aX).length,.slice none 0 0,.map (some (w.heap.size+1)),.int .i64 0,.bool false];rw[length_replicate];exact r3
 ·exact r1.below ((Below.refl _ _).alloc (Nat.le_refl _) _) (by rw[s2];omega)
 ·show((w.heap.size+1+1)::w.heap.size::(w.heap.size+1)::[]).Nodup;simp;omega
 ·intro b hb2;have hb':b∈((w.heap.size+1+1)::w.heap.size::(w.heap.size+1)::[]):=hb2;simp at hb';omega
theorem yQ(w:World)(n:Nat)(z:Int)(hz:z=n)(hn:n<=4096):(Instr.makeSlice 77 (.int .i64 z) (.int .i64 z)).run prog w
  =.ok (.slice (some ⟨w.heap.size,0,none⟩) n n) (w.alloc (.cells (jv (replicate n aX)).toArray 190)):=by subst hz;exact S9 w n hn
theorem Mf(n:Int)(w:World):
  Calls prog 24 #[.int .i64 n] w fun e w'=>Me w w' n e:=by
 have hmm:∀(t:TypeId) (w:World),(Instr.makeMap t none).run prog w=.ok (.map (some w.heap.size)) (w.alloc (.map #[] 0)):=fun t w=>run_makeMap t w;by_cases h1:n<1
 ·have e1:min (max n 1) 4096=1:=by omega
  have hmk:=yQ w 1 1 rfl (by decide);have hN:Hid _:=yP w n 1 (by omega);generalize(jv (replicate 1 aX)).toArray=C at hmk hN;go_enter func24,ntmps24;go_wp2;go_ret;exact hN.out
 ·by_cases h2:4096<n
  ·have e1:min (max n 1) 4096=4096:=by omega
   have hmk:=yQ w 4096 4096 rfl (by decide);have hN:Hid _:=yP w n 4096 (by omega);generalize(jv (replicate 4096 aX)).toArray=C at hmk hN;go_enter func24,ntmps24;go_wp2;go_ret;exact hN.out
  ·have e1:min (max n 1) 4096=n:=by omega
   have hmk:=yQ w n.toNat n (by omega) (by omega);have hN:Hid _:=yP w n n.toNat (by omega);generalize(jv (replicate n.toNat aX)).toArray=C at hmk hN;go_enter func24,ntmps24;go_wp2;go_ret;exact hN.out
theorem o5{d:DP}(h:ai w d.p 88 (d.cells S lk))(ok:S.Ok)(n:Int):
  Zc 142 #[Zp d.p,.int .i64 n] w fun e w'=>e=.returned (.bool (decide (0<=n/\n<S.safe.length)))/\w=w':=by
 have c2:w.cell? (Za d.p 2)=some (.slice (Zs d.gs) S.safe.length S.safe.length):=h.cell 2;have hn:=ok.most;by_cases h0:0<=n
 ·by_cases h1:n<S.safe.length
  ·rw[decide_eq_true (by omega)];go_enter func142,ntmps142;go_wp2;go_ret
   simp_all
  ·rw[decide_eq_false (by omega)];go_enter func142,ntmps142;go_wp2;go_ret
   simp_all
 ·rw[decide_eq_false (by omega)];go_enter func142,ntmps142;go_wp2;go_ret
  simp_all
theorem dZ(x:Zy)(h:x.size=64):(bytes (af x)).length=64:=by rw[aF,aM,h]
theorem zI(l:List Zy)(h:∀x∈l,x.size=64):(jv l).length=l.length*64:=nk _ 64 l fun x hx=>dZ x (h x hx)
theorem DI(l:List (Nat × Zy))(h:∀x∈l,x.2.size=64):(j4 l).length=l.length*65:=nk _ 65 l fun x hx=>by rw[length_cons,dZ x.2 (h x hx)]
theorem Bc(h:ai w g t (jv l))(hs:∀x∈l,x.size=64)(k:Nat)(hk:k<l.length):w.rangeAt g (k*64) (bytes (af l[k])):=by
 intro j v hv;have hj:j<64:=by
  have:=(List.getElem?_eq_some_iff.1 hv).1
  rwa [dZ _ (hs _ (Zg hk))] at this
 rw[h.cell,jv,kr _ 64 l (fun x hx=>dZ x (hs x hx)) k hk j hj,hv]
theorem Bd(h:ai w g t (jv l))(hs:∀x∈l,x.size=64)(k:Nat)(hk:k<l.length):w.there g (k*64) 64:=by
 intro j hj;refine⟨?_,h.frozen _⟩;rw[h.cell,getElem?_eq_getElem (by rw[zI l hs];omega)];rfl
theorem rJ{l:List (Nat × Zy)}(h:Has w g t cap 65 (j4 l))(hs:∀x∈l,x.2.size=64)(k:Nat)(hk:k<l.length):w.rangeAt g (k*65) ((Zi (l[k].1))::bytes (af l[k].2)):=by
 intro j v hv;have hj:j<65:=by
  have:=(List.getElem?_eq_some_iff.1 hv).1
  rwa [length_cons,dZ _ (hs _ (Zg hk))] at this
 rw[h.cell _ (by rw[DI l hs];omega),j4,kr _ 65 l (fun x hx=>by rw[length_cons,dZ x.2 (hs x hx)]) k hk j hj,hv]
theorem Jg(l:List (Nat × Zy))(x:Nat × Zy):j4 l++((Zi x.1)::bytes (af x.2))=j4 (l++[x]):=by simp[j4]
theorem vU(l:List (Nat × Zy))(x:Nat × Zy):nC (l++[x])=(nC l).put (.int .i64 (x.1:Nat)) (.lit (.int .i64 (l.length:Nat))):=by
 simp[nC,zipIdx_append]
theorem Jh{α:Type}{p:List α->Prop}(h0:p [])(h1:∀l x,p l->p (l++[x]))(l:List α):p l:=by
 have:∀n,∀l:List α,l.length=n->p l:=by
  intro n;induction n with
  | zero=>intro l hl;rw[length_eq_zero_iff.1 hl];exact h0
  | succ n ih=>
   intro l hl;have hne:l≠ []:=by intro e;simp[e] at hl
   rw[<-dropLast_concat_getLast hne];exact h1 _ _ (ih _ (by simp[hl]))
 exact this _ l rfl
theorem Ji(l:List (Nat × Zy)):Maps.IsMap (nC l):=by
 induction l using Jh with
 | h0=>exact⟨[],rfl⟩
 | h1 l x ih=>rw[vU];exact ih.put _ _
theorem Ta(l:List (Nat × Zy))(k:Nat):(Maps.has (nC l) (.int .i64 (k:Nat))=false/\∀safe:List Zy,(over safe l)[k]? =safe[k]?)\/
  ∃i y,l[i]? =some (k,y)/\Maps.has (nC l) (.int .i64 (k:Nat))=true/\(∀z,(nC l).atKey (.int .i64 (k:Nat)) z=.lit (.int .i64 (i:Nat)))/\∀safe:List Zy,k<safe.length->(over safe l)[k]? =some y:=by
 induction l using Jh with
 | h0=>exact .inl ⟨rfl,fun _=>rfl⟩
 | h1 l x ih=>
  obtain⟨a,y⟩:=x;have hm:=Ji l;rw[vU];by_cases e:a=k
  ·subst e;refine .inr ⟨l.length,y,by simp,Maps.has_put_same hm (by simp[WideAt.IsKeyLit]) _,fun z=>Maps.atKey_put_same hm (by simp[WideAt.IsKeyLit]) _ z,fun safe hs=>?_⟩;rw[uM,getElem?_set_self (by rw[ng];exact hs)]
  ·have hne:(Lit.int .i64 (k:Nat))≠ .int .i64 (a:Nat):=by
    intro h;injection h with _ h
    omega
   rcases ih with⟨h1,h2⟩|⟨i,y',h0,h1,h2,h3⟩
   ·refine .inl ⟨by rw[Maps.has_put_other hne,h1],fun safe=>?_⟩;rw[uM,getElem?_set_ne e,h2]
   ·refine .inr ⟨i,y',?_,by rw[Maps.has_put_other hne,h1],fun z=>by rw[Maps.atKey_put_other hne,h2],fun safe hs=>?_⟩
    ·rw[getElem?_append_left (List.getElem?_eq_some_iff.1 h0).1,h0]
    ·rw[uM,getElem?_set_ne e,h3 safe hs]
theorem xw:(prog.info? 190).map (·.size)=some 64:=by kernel_rfl
theorem Gb:(prog.info? 192).map (·.size)=some 65:=by kernel_rfl
theorem Jj:Maps.Keyed prog 3:=Maps.int_keyed underlying3
theorem VZ:(prog.info? 3).map (fun i=>(i.zero,i.size))=some (some (.int .i64 0),1):=by kernel_rfl
theorem lg(x:Zy):text (af x)=x:=by
 obtain⟨⟨l⟩⟩:=x;have e:UInt8.ofNat∘UInt8.toNat=id:=by funext x;simp
 simp[text,af,e]
theorem aJ{ops:Array Oper}{rest:List Oper}{op:Oper}(hgd:op.guard=none)(t:TypeId)(x y:Operand)(ho:op.op=.store t x y)
  (b:Nat) (c c':Array Value) (hb:b=w.heap.size) (hx:a.eval x=(Zp b)) (hy:a.eval y=.agg c') (hi:(P.info? t).map (·.size)=some c'.size) (hs:c.size=c'.size) (h1:c'.all (·.oneCell')=true)
  (h:wpList P ops Q rest (a.put op.dst undef) (w.alloc (.cells c' t))):wpList P ops Q (op::rest) a (w.alloc (.cells c t)):=by
 subst hb;refine wpList_plain hgd fun _ hK=>?_;unfold Oper.wp execOp;simp only[ho,hx,hy,Sem.run_bind,Sem.run_pure,Result.andThen_ok,run_storeAt_new w t c c' hi hs h1];exact hK _ _ h
theorem EK{n:Nat}{D:DataW Unit}(h:w.ownsMap prog 3 (plainElem prog 3) gm n D)(k:Nat)(hk:k<=1000000):
  ∃c:Int,(Instr.lookup 78 (.map (some gm)) (.int .i64 (k:Nat)) true).run prog w=.ok (.tuple #[.int .i64 c,.bool (Maps.has D (.int .i64 (k:Nat)))]) w/\D.atKey (.int .i64 (k:Nat)) (.lit (.int .i64 0))=.lit (.int .i64 c):=by
 obtain⟨hz,_⟩:=zero_of_info VZ;obtain⟨v,ps,hrun,hv⟩:=h.look_ok (t:=78) (e:=3) Jj underlying78 (hz w) (plainElem_int underlying3 (by decide)) (Maps.keyOf_int_mk underlying3 (a:=(k:Nat)) (by simp[Lit.wf,IntKind.min,IntKind.max,IntKind.signed,IntKind.bits];omega));obtain⟨c,rfl,hc,_⟩:=plainElem_int_inv underlying3 hv;exact⟨c,hrun,congrArg Prod.fst hc⟩
theorem Gc{d:DP}(h:aB w d S)(ok:S.Ok)(k:Nat)(hk:k<S.safe.length)(hno:Maps.has (nC S.wait) (.int .i64 (k:Nat))=false):
  Zc 84 #[Zp d.p,Zi k] w fun e w'=>
   e=.returned (.tuple #[.string S.safe[k],.nilIface])/\aB w' d S/\Fr w w' [d.p]:=by
 have z0:w.cell? (Za d.p 0)=some (.int .i32 0):=h.row.cell 0;have z1:=h.row.frozen 0;have h1:=h.row.set 0 (.int .i32 1);have c2:(w.setCell (Za d.p 0) (.int .i32 1)).cell? (Za d.p 2)=some (.slice (Zs d.gs) S.safe.length S.safe.length):=h1.cell 2;have hn:=ok.most;have hh:=o5 (d:=d) (S:=S) (lk:=1) h1 ok k;rw[decide_eq_true (by omega)] at hh;have Tc:=ok.sec;have hr1:ai (w.setCell (Za d.p 0) (.int .i32 1)) d.gs 190 (jv S.safe):=h.safe.other _ (by simpa using h.ne.1.symm);have vo:(bytes (af S.safe[k])).length=64:=dZ _ (Tc _ (Zg hk));have hrg:=Bc hr1 Tc k hk;have hi:(prog.info? 190).map (·.size)=some (bytes (af S.safe[k])).length:=by rw[vo];exact xw
 have hw2:=ai.new (w.setCell (Za d.p 0) (.int .i32 1)) 190 (bytes (af S.safe[k]));have hB:Below (w.setCell (Za d.p 0) (.int .i32 1)).heap.size (w.setCell (Za d.p 0) (.int .i32 1)) ((w.setCell (Za d.p 0) (.int .i32 1)).alloc (.cells (bytes (af S.safe[k])).toArray 190)):=(Zr).alloc (Zn) _;have h2:=h1.below hB h1.lt;have c4:((w.setCell (Za d.p 0) (.int .i32 1)).alloc (.cells (bytes (af S.safe[k])).toArray 190)).cell? (Za d.p 4)=some (.map (some d.gm)):=h2.cell 4;have hm2:((w.setCell (Za d.p 0) (.int .i32 1)).alloc (.cells (bytes (af S.safe[k])).toArray 190)).ownsMap (H:=Unit) prog 3 (plainElem prog 3) d.gm S.wait.length (nC S.wait):=(h.last.setCell (by simpa using h.ne.2.1.symm) _).alloc _;obtain⟨c,Bf,_⟩:=EK hm2 k (by omega);rw[hno] at Bf;have qH:=qF (P:=prog) 124 9 5 underlying124 underlying5 underlying9 _ _ 64 190 (af S.safe[k]) [] (by rw[append_nil];exact hw2) (jP _);rw[lg,show(af S.safe[k]).length=64 by rw[<-aF];exact vo] at qH;have hs0:(w.setCell (Za d.p 0) (.int .i32 1)).heap.size=w.heap.size:=by simp
 rw[hs0] at qH;have hone:=bY (af S.safe[k]);have hsz:(bytes (af S.safe[k])).toArray.size=64:=vo;have hi2:(prog.info? 190).map (·.size)=some (bytes (af S.safe[k])).toArray.size:=hi;have HF:Hid (Fr w (((w.setCell (Za d.p 0) (.int .i32 1)).alloc (.cells (bytes (af S.safe[k])).toArray 190)).setCell (Za d.p 0) (.int .i32 0)) [d.p]):=(((Fr.refl _ _).setCell _ _ (.inl (by simp))).alloc _).setCell _ _ (.inl (by simp));have HD:Hid (aB (((w.setCell (Za d.p 0) (.int .i32 1)).alloc (.cells (bytes (af S.safe[k])).toArray 190)).setCell (Za d.p 0) (.int .i32 0)) d S):=h.turn rfl rfl (h2.set 0 (.int .i32 0)) HF.out;have H2:Hid _:=h2;generalize bytes (af S.safe[k])=C at *;generalize S.safe[k]=x at *;clear hw2 hm2 h2 hB;go_enter_defers func84,ntmps84;go_wp2_with(first
  | (go_at_call 57;refine(jf (Za d.p 0) _ z0 z1).mono ?_;rintro e w' ⟨rfl,rfl⟩)
  | (go_at_call 142;refine hh.mono ?_;rintro e w' ⟨rfl,rfl⟩)
  | (refine wpList_load_mid rfl 190 _ rfl d.gs (k*64) rfl _ _ hrg underlying190 rfl hi ?_)
  | (refine aJ rfl 190 _ _ rfl w.heap.size _ _ (by simp) rfl rfl hi2 (by rw[hsz];rfl) hone ?_))
 refine leaves_cons (f:=58) (args:=#[Zp d.p]) (by simp) (by simp[go_sem]) ?_;refine(dV (Za d.p 0) .returning _ (H2.out.cell 0) (H2.out.frozen 0)).mono ?_;rintro e u' w'' ⟨rfl,rfl,rfl⟩;exact⟨_,results_tmp2 rfl _ _ _,rfl,HD.out,HF.out⟩
theorem Bg{d:DP}(h:ai w d.p 88 (d.cells S lk))(h0:0<S.fuse):
  ai ((w.setCell ⟨d.p,5,none⟩ (.int .i64 ((S.fuse:Int)-1))).setCell ⟨d.p,6,none⟩ (.bool (S.down||decide (S.fuse=1)))) d.p 88 (d.cells S.tick lk):=by
 have:=(h.set 5 (.int .i64 ((S.fuse:Int)-1))).set 6 (.bool (S.down||decide (S.fuse=1)));have e:(((d.cells S lk).set 5 (.int .i64 ((S.fuse:Int)-1))).set 6 (.bool (S.down||decide (S.fuse=1))))=d.cells S.tick lk:=by
  unfold Dk.tick;rw[if_neg (by omega)];simp only[DP.cells,set_cons_succ,set_cons_zero];rw[show((S.fuse:Int)-1)=((S.fuse-1:Nat):Int) by omega]
 rw[e] at this;exact this
theorem sW{d:DP}(h:ai w d.p 88 (d.cells S lk))(hd:S.tick.down=true)(hf:S.fuse<=9223372036854775807)(do_:Value)(ea:Addr)(hg:w.cell? ⟨1,0,none⟩=some (.iface 452 (.pointer (some ea))))(_hp:d.p≠1):
  Zc 143 #[.pointer (some ⟨d.p,0,none⟩),do_] w fun e w'=>e=.returned (.iface 452 (.pointer (some ea)))/\ai w' d.p 88 (d.cells S.tick lk)/\Fr w w' [d.p]:=by
 have c5:w.cell? ⟨d.p,5,none⟩=some (Zi S.fuse):=h.cell 5;by_cases h0:S.fuse=0
 ·have e:S.tick=S:=by unfold Dk.tick;rw[if_pos h0]
  rw[e] at hd⊢;have c6:w.cell? ⟨d.p,6,none⟩=some (.bool true):=by rw[<-hd];exact h.cell 6
  rw[h0] at c5;have H:Hid _:=h;clear h;go_enter func143,ntmps143;go_wp2;go_ret;exact⟨rfl,H.out,Fr.refl _ _⟩
 ·have f5:=h.frozen 5;have h5:=h.set 5 (.int .i64 ((S.fuse:Int)-1));have c5':(w.setCell ⟨d.p,5,none⟩ (.int .i64 ((S.fuse:Int)-1))).cell? ⟨d.p,5,none⟩=some (.int .i64 ((S.fuse:Int)-1)):=h5.cell 5;have c6:(w.setCell ⟨d.p,5,none⟩ (.int .i64 ((S.fuse:Int)-1))).cell? ⟨d.p,6,none⟩=some (.bool S.down):=h5.cell 6;have f6:=h5.frozen 6;have H6:Hid _:=Bg h (by omega);have hpos:(0:Int)<S.fuse:=by omega
  have hg2:∀u v,((w.setCell ⟨d.p,5,none⟩ u).setCell ⟨d.p,6,none⟩ v).cell? ⟨1,0,none⟩=some (.iface 452 (.pointer (some ea))):=by
   intro u v;rw[World.cell?_setCell_other _ _ _ _ (by simp[]),World.cell?_setCell_other _ _ _ _ (by simp[])];exact hg
  have hdd:(S.down||decide (S.fuse=1))=true:=by
   have:=hd;unfold Dk.tick at this;rw[if_neg h0] at this;exact this
  rw[hdd] at H6;have c6':((w.setCell ⟨d.p,5,none⟩ (.int .i64 ((S.fuse:Int)-1))).setCell ⟨d.p,6,none⟩ (.bool true)).cell? ⟨d.p,6,none⟩=some (.bool true):=World.cell?_setCell_same _ _ _ c6;have HF:Hid (Fr w ((w.setCell ⟨d.p,5,none⟩ (.int .i64 ((S.fuse:Int)-1))).setCell ⟨d.p,6,none⟩ (.bool true)) [d.p]):=((Fr.refl _ _).setCell _ _ (.inl (by simp))).setCell _ _ (.inl (by simp));clear h h5;generalize S.tick=T at *;generalize S.down=dn at *;cases dn with
  | true=>
   go_enter func143,ntmps143;go_wp2;go_ret;exact⟨rfl,H6.out,HF.out⟩
  | false=>
   have h1:S.fuse=1:=by simpa using hdd
   have hq:((S.fuse:Int)-1==0)=true:=by rw[h1];rfl
   clear hdd h1;go_enter func143,ntmps143;go_wp2;go_ret;exact⟨rfl,H6.out,HF.out⟩
theorem yR{d:DP}(h:ai w d.p 88 (d.cells S lk))(hd:S.tick.down=false)(hf:S.fuse<=9223372036854775807)(cap:Array Value)(Post:World->Prop)
  (hdo:∀w1,ai w1 d.p 88 (d.cells S.tick lk)->Fr w w1 [d.p]->Zc 144 cap w1 fun e w'=>e=.returned (.tuple #[])/\Post w'):
  Zc 143 #[Zp d.p,.func (.func 144) #[] cap] w fun e w'=>e=.returned .nilIface/\Post w':=by
 have c5:w.cell? (Za d.p 5)=some (Zi S.fuse):=h.cell 5;by_cases h0:S.fuse=0
 ·have e:S.tick=S:=by unfold Dk.tick;rw[if_pos h0]
  rw[e] at hd hdo;have hc:=hdo w h (Fr.refl _ _);have c6:w.cell? (Za d.p 6)=some (.bool false):=by rw[<-hd];exact h.cell 6
  rw[h0] at c5;clear h hdo;go_enter func143,ntmps143;go_wp2_with(refine hc.mono ?_;rintro e w' ⟨rfl,hP⟩);go_ret;exact⟨rfl,hP⟩
 ·have f5:=h.frozen 5;have h5:=h.set 5 (.int .i64 ((S.fuse:Int)-1));have c5':(w.setCell (Za d.p 5) (.int .i64 ((S.fuse:Int)-1))).cell? (Za d.p 5)=some (.int .i64 ((S.fuse:Int)-1)):=h5.cell 5;have c6:(w.setCell (Za d.p 5) (.int .i64 ((S.fuse:Int)-1))).cell? (Za d.p 6)=some (.bool S.down):=h5.cell 6;have f6:=h5.frozen 6;have h6:=Bg h (by omega);have hpos:(0:Int)<S.fuse:=by omega
  have hdd:(S.down||decide (S.fuse=1))=false:=by
   have:=hd;unfold Dk.tick at this;rw[if_neg h0] at this;exact this
  rw[hdd] at h6;have hdn:S.down=false:=by cases hq:S.down<;>simp_all
  have hone:S.fuse≠1:=by intro hq;simp[hq] at hdd
  rw[hdn] at c6;have c6':((w.setCell (Za d.p 5) (.int .i64 ((S.fuse:Int)-1))).setCell (Za d.p 6) (.bool false)).cell? (Za d.p 6)=some (.bool false):=World.cell?_setCell_same _ _ _ c6;have hc:=hdo _ h6 (((Fr.refl _ _).setCell _ _ (.inl (by simp))).setCell _ _ (.inl (by simp)));have hq:((S.fuse:Int)-1==0)=false:=by simp;omega
  clear h h5 hdo h6 hdd hone;go_enter func143,ntmps143;go_wp2_with(refine hc.mono ?_;rintro e w' ⟨rfl,hP⟩);go_ret;exact⟨rfl,hP⟩
theorem yS{d:DP}(h:ai w d.p 88 (d.cells S lk))(hd:S.tick.down=false)(hf:S.fuse<=9223372036854775807)(cap:Array Value)(Post:World->Prop)
  (hdo:∀w1,ai w1 d.p 88 (d.cells S.tick lk)->Fr w w1 [d.p]->Zc 148 cap w1 fun e w'=>e=.returned (.tuple #[])/\Post w'):
  Zc 143 #[Zp d.p,.func (.func 148) #[] cap] w fun e w'=>e=.returned .nilIface/\Post w':=by
 have c5:w.cell? (Za d.p 5)=some (Zi S.fuse):=h.cell 5;by_cases h0:S.fuse=0
 ·have e:S.tick=S:=by unfold Dk.tick;rw[if_pos h0]
  rw[e] at hd hdo;have hc:=hdo w h (Fr.refl _ _);have c6:w.cell? (Za d.p 6)=some (.bool false):=by rw[<-hd];exact h.cell 6
  rw[h0] at c5;clear h hdo;go_enter func143,ntmps143;go_wp2_with(refine hc.mono ?_;rintro e w' ⟨rfl,hP⟩);go_ret;exact⟨rfl,hP⟩
 ·have f5:=h.frozen 5;have h5:=h.set 5 (.int .i64 ((S.fuse:Int)-1));have c5':(w.setCell (Za d.p 5) (.int .i64 ((S.fuse:Int)-1))).cell? (Za d.p 5)=some (.int .i64 ((S.fuse:Int)-1)):=h5.cell 5;have c6:(w.setCell (Za d.p 5) (.int .i64 ((S.fuse:Int)-1))).cell? (Za d.p 6)=some (.bool S.down):=h5.cell 6;have f6:=h5.frozen 6;have h6:=Bg h (by omega);have hpos:(0:Int)<S.fuse:=by omega
  have hdd:(S.down||decide (S.fuse=1))=false:=by
   have:=hd;unfold Dk.tick at this;rw[if_neg h0] at this;exact this
  rw[hdd] at h6;have hdn:S.down=false:=by cases hq:S.down<;>simp_all
  have hone:S.fuse≠1:=by intro hq;simp[hq] at hdd
  rw[hdn] at c6;have c6':((w.setCell (Za d.p 5) (.int .i64 ((S.fuse:Int)-1))).setCell (Za d.p 6) (.bool false)).cell? (Za d.p 6)=some (.bool false):=World.cell?_setCell_same _ _ _ c6;have hc:=hdo _ h6 (((Fr.refl _ _).setCell _ _ (.inl (by simp))).setCell _ _ (.inl (by simp)));have hq:((S.fuse:Int)-1==0)=false:=by simp;omega
  clear h h5 hdo h6 hdd hone;go_enter func143,ntmps143;go_wp2_with(refine hc.mono ?_;rintro e w' ⟨rfl,hP⟩);go_ret;exact⟨rfl,hP⟩
end
section
open Go.RowKit
variable {P:Program}
theorem oh(w:World)(dT sT ty elem:TypeId)(g dLen dCap n:Nat)(s:Zy)(cur:List Value)(t:TypeId)
  (hu:P.underlying dT=some (.slice elem)) (hs:(P.info? elem).map (·.size)=some 1) (hg:ai w g t cur) (hn:Nat.min s.size dLen=n) (hfit:n<=cur.length):
  (Builtin.copy_ #[dT,sT] ty #[.slice (Zs g) dLen dCap,.string s]).run P w=
   .ok (goInt n) (w.setRow g (bytes ((af s).take n)++cur.drop n).toArray):=by
 have hle:n<=s.size:=by rw[<-hn];exact Nat.min_le_left _ _
 have hlen:(bytes ((af s).take n)).length=n:=by rw[aF,length_take,aM];omega
 have hst:=run_storeCells_at P g 0 t (bytes ((af s).take n)) 0 cur.toArray w hg.heap (by rw[hlen];simpa using hfit) (by
  intro v hv;simp only[bytes,mem_map] at hv;obtain⟨x,_,rfl⟩:=hv;rfl)
 have htk:List.take n (List.map (fun b:UInt8=>Value.int IntKind.u8 (b.toNat:Int)) s.data.toList)=bytes ((af s).take n):=by
  simp only[bytes,af,<-map_take,map_map];rfl
 rw[hlen] at hst;simp only[Nat.add_zero,take_zero,nil_append,Nat.zero_add] at hst;cases hq:P.info? elem with
 | none=>simp[hq] at hs
 | some i=>
  simp[Builtin.copy_,run_underlying hu,Builtin.lenOf,Builtin.firstCells,sizeOf,typeInfo,hq,hn];rw[htk,hst];simp[Result.andThen]
theorem p9(w:World){ops:Array Oper}{rest:List Oper}{o:Oper}(hgd:o.guard=none)(d s:Operand)(t t':TypeId)
  (ho:o.op=.call {callee:=.builtin .copy,args:=#[d,s],argTypes:=#[t,t']}) (v u:Value) (hd:a.eval d=v) (hs:a.eval s=u)  
  (hr:(Builtin.copy_ #[t,t'] o.type #[v,u]).run P w=.ok v' w') (h:wpList P ops Q rest (a.put o.dst v') w'):wpList P ops Q (o::rest) a w:=
 wpList_plain hgd fun _ hK=>by
  unfold Oper.wp execOp;simp only[ho,resolve,invoke,builtin,Sem.run_bind,Sem.run_pure,Result.andThen_ok,map_toArray,map_cons,map_nil,hd,hs,hr];exact hK _ _ h
theorem DJ(w:World)(t e ty:TypeId)(z:Value)(ht:P.underlying t=some (.slice e))(hv:∀w,(zeroValue e).run P w=.ok z w)(hz:z.cells= #[z])(h1:z.oneCell'=true)(g n c:Nat)(hn:0<n)(cur:List Value)(tt:TypeId)(hg:ai w g tt cur)(hl:cur.length=n):
  (Builtin.clear_ #[t] ty #[.slice (Zs g) n c]).run P w=.ok (.tuple #[]) (w.setRow g (replicate n z).toArray):=by
 have hzc:(Builtin.zeroCells z.cells n).toList=replicate n z:=by
  rw[hz];simp[Builtin.zeroCells];apply ext_getElem
  ·simp
  ·intro i h1 h2;simp[Nat.mod_one]
 have hst:=run_storeCells_at P g 0 tt (replicate n z) 0 cur.toArray w hg.heap (by simp[hl]) (by intro v hv';rw[eq_of_mem_replicate hv'];exact h1);have hdr:List.drop n cur=[]:=drop_eq_nil_of_le (by omega);simp only[Nat.add_zero,take_zero,nil_append,Nat.zero_add,length_replicate,hdr,append_nil] at hst;obtain⟨m,rfl⟩:∃m,n=m+1:=⟨n-1,by omega⟩;simp[Builtin.clear_,run_underlying ht,hv,hzc,hst]
end
section
open Go.RowKit
variable {P:Program}
theorem Gd(w:World)(dT sT ty elem:TypeId)(g o dLen dCap n:Nat)(s:Zy)(cur:List Value)(t:TypeId)
  (hu:P.underlying dT=some (.slice elem)) (hs:(P.info? elem).map (·.size)=some 1) (hg:ai w g t cur) (hn:Nat.min s.size dLen=n) (hfit:o+n<=cur.length):
  (Builtin.copy_ #[dT,sT] ty #[.slice (some (Za g o)) dLen dCap,.string s]).run P w=
   .ok (goInt n) (w.setRow g (cur.take o++(bytes ((af s).take n)++cur.drop (o+n))).toArray):=by
 have hle:n<=s.size:=by rw[<-hn];exact Nat.min_le_left _ _
 have hlen:(bytes ((af s).take n)).length=n:=by rw[aF,length_take,aM];omega
 have hst:=run_storeCells_at P g o t (bytes ((af s).take n)) 0 cur.toArray w hg.heap (by rw[hlen];simpa using hfit) (by
  intro v hv;simp only[bytes,mem_map] at hv;obtain⟨x,_,rfl⟩:=hv;rfl)
 have htk:List.take n (List.map (fun b:UInt8=>Value.int IntKind.u8 (b.toNat:Int)) s.data.toList)=bytes ((af s).take n):=by
  simp only[bytes,af,<-map_take,map_map];rfl
 rw[hlen] at hst;cases hq:P.info? elem with
 | none=>simp[hq] at hs
 | some i=>
  simp[Builtin.copy_,run_underlying hu,Builtin.lenOf,Builtin.firstCells,sizeOf,typeInfo,hq,hn];rw[htk,hst];simp[Result.andThen]
theorem Mg(k:Nat)(s:Zy)(hs:s.size=64)(W:World)(ty:TypeId)(b:Nat)(hb:b=W.heap.size)(c:Array Value)(hc:c=((Zi k)::replicate 64 (.int .u8 0)).toArray):
  (Builtin.copy_ #[124,9] ty #[.slice (some (Za b 1)) 64 64,.string s]).run prog (W.alloc (.cells c 192)).drew=
   .ok (goInt 64) (W.alloc (.cells ((Zi k)::bytes (af s)).toArray 192)).drew:=by
 subst hc hb;have hr:=(ai.new W 192 ((Zi k)::replicate 64 (.int .u8 0))).drew;rw[Gd (P:=prog) _ 124 9 ty 5 W.heap.size 1 64 64 64 s _ 192 underlying124 (by kernel_rfl) hr (by rw[hs];rfl) (by simp)];rw[show(af s).take 64=af s from take_of_length_le (by rw[aM,hs];exact Zn)];congr 1;show((W.alloc (.cells _ 192)).setRow W.heap.size _).drew=_;rw[World.setRow_alloc_new];congr 3;simp
end
section
open Go.RowKit
theorem Td(l:List Value):∀(k:Nat) (cs:Array Value),cs.size=k+l.length->
  ((l.zipIdx k).foldl (fun cs x=>cs.setIfInBounds x.2 x.1) cs).toList=cs.toList.take k++l:=by
 induction l with
 | nil=>intro k cs h;simp at h;simp[take_of_length_le,h]
 | cons v l ih=>
  intro k cs h;rw[length_cons] at h;rw[zipIdx_cons,foldl_cons,ih (k+1) _ (by simp;omega)];simp only[Array.toList_setIfInBounds];rw[take_add_one,take_set,getElem?_set_self (by simp;omega)];rw[set_eq_of_length_le (by simp;omega)];simp
theorem Mh(C:List Value)(cs:Array Value)(h:cs.size=C.length):
  Instr.fill (fun i=>some (i*C.length,C.length)) cs [(0,.agg C.toArray)]=some C.toArray:=by
 have e:C.toArray.zipIdx.foldl (fun cs x=>cs.setIfInBounds (0*C.length+x.2) x.1) cs=C.toArray:=by
  rw[<-Array.foldl_toList];simp only[Nat.zero_mul,Nat.zero_add,Array.toList_zipIdx];apply Array.ext';rw[Td C 0 cs (by omega)];simp
 show(if(decide (C.toArray.size≠C.length)||decide (0*C.length+C.toArray.size>cs.size))=true then none else some (C.toArray.zipIdx.foldl (fun cs x=>cs.setIfInBounds (0*C.length+x.2) x.1) cs))=some C.toArray;rw[if_neg (by simp;omega)];exact congrArg some e
theorem bH(w:World)(t e:TypeId)(ht:P.underlying t=some (.slice e))(C:List Value)(i:TypeInfo)(z:Value)(hi:P.info? e=some i)(hz:i.zero=some z)(hs:i.size=C.length)(hp:0<C.length)(hl:C.length<=1000):
  (Instr.buildSlice t 1 #[(0,.agg C.toArray)]).run P w=.ok (.slice (Zs w.heap.size) 1 1) (w.alloc (.cells C.toArray e)):=by
 have hf:=fun cs h=>Mh C cs h;have hn:¬(16777216<C.length):=by omega
 have hq:C.length≠0:=by omega
 simp[Instr.buildSlice,run_underlying ht,sizeOf,typeInfo,hi,hs,zeroValue,hz,hn,hq,newRow];rw[hf _ (by simp)];rfl
theorem aD{ops:Array Oper}{o:Oper}(hgd:o.guard=none)
  (hr:(execOp a.eval o).run P w=.ok (.value v) w') (h:K (a.put o.dst v) w'):if Region.wanted o (yielded ops a.tmps)=true then Oper.wp P o a w K Q else E:=by
 have hw:Region.wanted o (yielded ops a.tmps)=true:=by simp[Region.wanted,hgd]
 rw[if_pos hw];unfold Oper.wp;rw[hr];exact h
theorem step_skip{ops:Array Oper}{o:Oper}(hgd:o.guard=none)
  (hr:(execOp a.eval o).run P w=.ok .skip w') (h:K (a.put o.dst undef) w'):if Region.wanted o (yielded ops a.tmps)=true then Oper.wp P o a w K Q else E:=by
 have hw:Region.wanted o (yielded ops a.tmps)=true:=by simp[Region.wanted,hgd]
 rw[if_pos hw];unfold Oper.wp;rw[hr];exact h
theorem aL{o:Oper}(t:TypeId)(x:Operand)(ho:o.op=.buildSlice t 1 #[(0,x)])(v u:Value)(w w':World)(hx:a.eval x=v)(hr:(Instr.buildSlice t 1 #[(0,v)]).run P w=.ok u w'):
  (execOp a.eval o).run P w=.ok (.value u) w':=by
 unfold execOp;simp only[ho,Sem.run_bind,Sem.run_pure,map_toArray,map_cons,map_nil,hx,hr,Result.andThen_ok]
theorem Zk:(prog.info? 192).map (fun i=>(i.zero,i.size,i.bytes))=some (some (.agg zeroCells192),65,72):=by kernel_rfl
theorem Jk:zeroCells192=(.int .i64 0::replicate 64 (.int .u8 0)).toArray:=by kernel_rfl
noncomputable def Zl:Code:=Tryz.f144.body.getD .skip
noncomputable def wr3:Code:=jQ (jQ (jQ Zl))
theorem V3{x0 x1 x4 x5 x6 x7 x8 x9 x10 Mi OU OV qx EL EM EN x18 DK x20 x21 Bh x23 x24 x25 Jl x27 x28 x29:Value}(p b3 bw:Nat)(C:List Value)(w:World)(R:Act->World->Prop)
  (c3:w.cell? ⟨b3,0,none⟩=some (.pointer (some ⟨p,0,none⟩))) (hrg:w.rangeAt bw 0 C) (hC:C.length=65) (h1:∀v∈C,v.oneCell'=true)
  (n cw:Nat) (aw:Option Addr) (xs:List Value) (hn:n<=1000000) (cp:w.cell? ⟨p,3,none⟩=some (.slice aw n cw)) (fp:w.frozen? ⟨p,3,none⟩=false) (aY:w.ownsRow 0 192 65 (.slice aw n cw) n xs)
  (hp:(Value.slice aw n cw).ownBlock≠some p) (hb3:(Value.slice aw n cw).ownBlock≠some b3) (hbw:(Value.slice aw n cw).ownBlock≠some bw) (_n3:b3≠p) (nw:bw≠p) (lw:bw<w.heap.size)
  (hQ:Hid (∀(y20 y21 y22 y23 y24 y25 y26 y27 y28 y29:Value) (g cap:Nat) (w':World),w'.ownsRow 0 192 65 (.slice (some ⟨g,0,none⟩) (n+1) cap) (n+1) (xs++C)->((Value.slice aw n cw).ownBlock=some g\/w.heap.size<=g)->g<w'.heap.size->Fr w w' (Value.slice aw n cw).ownBlock.toList->
   R ⟨#[x0,x1,.pointer (some ⟨b3,0,none⟩),.pointer (some ⟨bw,0,none⟩),x4,x5,x6,x7,x8,x9,x10,Mi,OU,OV,qx,EL,EM,EN,x18,DK,y20,y21,y22,y23,y24,y25,y26,y27,y28,y29],[]⟩ (w'.setCell ⟨p,3,none⟩ (.slice (some ⟨g,0,none⟩) (n+1) cap)))):
  Code.wp prog wr3 (At R) ⟨#[x0,x1,.pointer (some ⟨b3,0,none⟩),.pointer (some ⟨bw,0,none⟩),x4,x5,x6,x7,x8,x9,x10,Mi,OU,OV,qx,EL,EM,EN,x18,DK,x20,x21,Bh,x23,x24,x25,Jl,x27,x28,x29],[]⟩ w:=by
 conv=>arg 2;whnf
 obtain⟨i0,hi0,hz0,hz1,hz2⟩:=info_parts Zk;have hzs:(zeroCells192).size=65:=by rw[Jk];simp
 have jR:(prog.info? 192).map (·.size)=some C.length:=by rw[hC];exact Gb
 have hbs:=fun w'=>bH (P:=prog) w' 86 192 underlying86 C i0 _ hi0 hz0 (by rw[hz1,hC]) (by omega) (by omega);have lb3:b3<w.heap.size:=World.block_lt_of_cell? w _ c3;have lp:p<w.heap.size:=World.block_lt_of_cell? w _ cp;refine wp_region_held_drew (S:=fun w'=>w'.cell? ⟨b3,0,none⟩=some (.pointer (some ⟨p,0,none⟩))/\w'.rangeAt bw 0 C) (by kernel_rfl) ⟨by simpa using c3,by simpa using hrg⟩ (fun ah=>?_);refine wpAnyH_take (i:=0) (oi:=⟨some 20,.load 30 (.tmp 2),_,_,_,none⟩) (v:=.pointer (some ⟨p,0,none⟩)) rfl (by kernel_rfl) (by kernel_rfl) (by kernel_rfl) (fun _ _ _ h=>h) (Or.inl ⟨by rfl,?_⟩) ah ?_
 ·intro w hSw;obtain⟨h1,_⟩:=hSw;go_simp
 simp only[Act.put,lA,lZ,lS];refine wpAnyH_take (i:=1) (oi:=⟨some 21,.load 30 (.tmp 2),_,_,_,none⟩) (v:=.pointer (some ⟨p,0,none⟩)) rfl (by kernel_rfl) (by kernel_rfl) (by kernel_rfl) (fun _ _ _ h=>h) (Or.inl ⟨by rfl,?_⟩) ah ?_
 ·intro w hSw;obtain⟨h1,_⟩:=hSw;go_simp
 simp only[Act.put,lA,lZ,lS];refine wpAnyH_take (i:=2) (oi:=⟨some 22,.nilCheck (.tmp 21),_,_,_,none⟩) (v:=.pointer (some ⟨p,0,none⟩)) rfl (by kernel_rfl) (by kernel_rfl) (by kernel_rfl) (fun _ _ _ h=>h) (Or.inl ⟨by rfl,?_⟩) ah ?_
 ·intro w hSw;go_simp
 simp only[Act.put,lA,lZ,lS];refine wpAnyH_take (i:=3) (oi:=⟨some 23,.fieldAddr 88 (.tmp 22) 2,_,_,_,none⟩) (v:=.pointer (some ⟨p,3,none⟩)) rfl (by kernel_rfl) (by kernel_rfl) (by kernel_rfl) (fun _ _ _ h=>h) (Or.inl ⟨by rfl,?_⟩) ah ?_
 ·intro w hSw;go_simp
 simp only[Act.put,lA,lZ,lS];refine Zt 5 (.agg C.toArray) ?_ (hy:=yieldsIf_load_mid (by rfl) _ _ rfl bw 0 rfl C _ (fun w h=>h.2) underlying192 rfl jR);refine Zw [4,6] ?_;have hal:∀o,(fun w':World=>w'.cell? ⟨b3,0,none⟩=some (.pointer (some ⟨p,0,none⟩))/\w'.rangeAt bw 0 C) (w.drew.alloc o):=fun o=>⟨by rw[World.cell?_alloc_lt _ _ _ (by simpa using lb3)];exact ah.1,World.rangeAt_alloc ah.2 o⟩;have cpd:w.drew.cell? ⟨p,3,none⟩=some (.slice aw n cw):=by simpa using cp
 have cpa:(w.drew.alloc (.cells C.toArray 192)).cell? ⟨p,3,none⟩=some (.slice aw n cw):=by rw[World.cell?_alloc_lt _ _ _ (by simpa using lp)];exact cpd
 have hown2:(w.drew.alloc (.cells C.toArray 192)).ownsRow 0 192 65 (.slice aw n cw) n xs:=(aY.drew).alloc _;have hfr2:Fr w (w.drew.alloc (.cells C.toArray 192)) (Value.slice aw n cw).ownBlock.toList:=((Fr.refl _ _).drew).alloc _;have fpa:(w.drew.alloc (.cells C.toArray 192)).frozen? ⟨p,3,none⟩=false:=by rw[World.frozen?_alloc_past _ _ _ (by simpa using lp)];simpa using fp
 have szA:(w.drew.alloc (.cells C.toArray 192)).heap.size=w.heap.size+1:=by simp
 have news:=World.news_of_block (cs:=C.toArray) (t:=192) (fr:=(0,0)) (heap_alloc_new w.drew (.cells C.toArray 192));refine Zb (fun K hK=>?_) (Ze fun K hK=>?_)
 ·refine aD rfl (v:=.slice aw n cw) (w':=w.drew) (by go_simp) ?_;refine hK.out _ _ ah (fun ah=>?_);clear hK K;simp only[Act.put,lA,lZ,lS];refine Zh 6 fun K hK=>?_;refine aD rfl (v:=.slice (some ⟨w.drew.heap.size,0,none⟩) 1 1) (w':=w.drew.alloc (.cells C.toArray 192)) (by exact aL 86 (.tmp 25) (by rfl) (.agg C.toArray) _ _ _ (by rfl) (hbs w.drew)) ?_;refine hK.out _ _ (hal _) (fun ah=>?_);clear hK K;simp only[Act.put,lA,lZ,lS];refine Zh 7 fun K hK=>?_;refine step_append_lies _ (by rfl) (.tmp 24) (.tmp 26) 86 (by rfl) 0 192 i0 _ 65 72 underlying86 hi0 hz0 hz1 hz2 hzs (by decide) (.slice aw n cw) n xs (by rfl) hown2
    ⟨w.drew.heap.size,0,none⟩ 1 1 C (by rfl) (by rw[hC]) (by exact news) h1 (by decide) (by simp[maxLen];omega) (by omega) (Nat.zero_le _) (w.heap.size+1) szA ?_
  intro g cap w4 xC mG hat hlt;have Zq:Fr w w4 (Value.slice aw n cw).ownBlock.toList:=hfr2.grown mG (fun k hk=>.inl (by rw[hk];simp));have hcell:=fun(a:Addr) (h1:a.block<w.heap.size) (h2:some a.block≠(Value.slice aw n cw).ownBlock)=>mG.cell_far a (by rw[szA];omega) h2;have S4:(fun w':World=>w'.cell? ⟨b3,0,none⟩=some (.pointer (some ⟨p,0,none⟩))/\w'.rangeAt bw 0 C) w4:=⟨by rw[hcell _ lb3 hb3.symm];exact(hal _).1,fun j v hv=>by rw[hcell _ lw hbw.symm];exact(hal _).2 j v hv⟩;have cp4:w4.cell? ⟨p,3,none⟩=some (.slice aw n cw):=by rw[hcell _ lp hp.symm];exact cpa
  have fp4:w4.frozen? ⟨p,3,none⟩=false:=by rw[mG.frozen_far _ (by rw[szA];show p<_;omega) hp.symm];exact fpa
  have Gf:(Value.slice aw n cw).ownBlock=some g\/w.heap.size<=g:=hat.imp id (fun h=>by omega);refine hK.out _ _ S4 (fun ah=>?_);clear hK K;simp only[Act.put,lA,lZ,lS];refine Zt 8 (.pointer (some ⟨p,0,none⟩)) ?_;refine Zt 9 (.pointer (some ⟨p,3,none⟩)) ?_;refine Zh 10 fun K hK=>?_;refine step_skip rfl (w':=w4.setCell ⟨p,3,none⟩ (.slice (some ⟨g,0,none⟩) (n+1) cap)) (by go_simp) ?_;refine hK.out _ _ ⟨by rw[World.cell?_setCell_other _ _ _ _ (by simp[])];exact S4.1,fun j v hv=>by rw[World.cell?_setCell_other _ _ _ _ (by simp[])];exact S4.2 j v hv⟩ (fun ah=>?_);clear hK K;refine Zx ?_;exact hQ.out _ _ _ _ _ _ _ _ _ _ g cap w4 xC Gf hlt Zq
 ·refine aD rfl (v:=.slice (some ⟨w.drew.heap.size,0,none⟩) 1 1) (w':=w.drew.alloc (.cells C.toArray 192)) (by exact aL 86 (.tmp 25) (by rfl) (.agg C.toArray) _ _ _ (by rfl) (hbs w.drew)) ?_;refine hK.out _ _ (hal _) (fun ah=>?_);clear hK K;simp only[Act.put,lA,lZ,lS];refine Zh 4 fun K hK=>?_;refine aD rfl (v:=.slice aw n cw) (w':=w.drew.alloc (.cells C.toArray 192)) (by go_simp) ?_;refine hK.out _ _ (hal _) (fun ah=>?_);clear hK K;simp only[Act.put,lA,lZ,lS];refine Zh 7 fun K hK=>?_;refine step_append_lies _ (by rfl) (.tmp 24) (.tmp 26) 86 (by rfl) 0 192 i0 _ 65 72 underlying86 hi0 hz0 hz1 hz2 hzs (by decide) (.slice aw n cw) n xs (by rfl) hown2
    ⟨w.drew.heap.size,0,none⟩ 1 1 C (by rfl) (by rw[hC]) (by exact news) h1 (by decide) (by simp[maxLen];omega) (by omega) (Nat.zero_le _) (w.heap.size+1) szA ?_
  intro g cap w4 xC mG hat hlt;have Zq:Fr w w4 (Value.slice aw n cw).ownBlock.toList:=hfr2.grown mG (fun k hk=>.inl (by rw[hk];simp));have hcell:=fun(a:Addr) (h1:a.block<w.heap.size) (h2:some a.block≠(Value.slice aw n cw).ownBlock)=>mG.cell_far a (by rw[szA];omega) h2;have S4:(fun w':World=>w'.cell? ⟨b3,0,none⟩=some (.pointer (some ⟨p,0,none⟩))/\w'.rangeAt bw 0 C) w4:=⟨by rw[hcell _ lb3 hb3.symm];exact(hal _).1,fun j v hv=>by rw[hcell _ lw hbw.symm];exact(hal _).2 j v hv⟩;have cp4:w4.cell? ⟨p,3,none⟩=some (.slice aw n cw):=by rw[hcell _ lp hp.symm];exact cpa
  have fp4:w4.frozen? ⟨p,3,none⟩=false:=by rw[mG.frozen_far _ (by rw[szA];show p<_;omega) hp.symm];exact fpa
  have Gf:(Value.slice aw n cw).ownBlock=some g\/w.heap.size<=g:=hat.imp id (fun h=>by omega);refine hK.out _ _ S4 (fun ah=>?_);clear hK K;simp only[Act.put,lA,lZ,lS];refine Zt 8 (.pointer (some ⟨p,0,none⟩)) ?_;refine Zt 9 (.pointer (some ⟨p,3,none⟩)) ?_;refine Zh 10 fun K hK=>?_;refine step_skip rfl (w':=w4.setCell ⟨p,3,none⟩ (.slice (some ⟨g,0,none⟩) (n+1) cap)) (by go_simp) ?_;refine hK.out _ _ ⟨by rw[World.cell?_setCell_other _ _ _ _ (by simp[])];exact S4.1,fun j v hv=>by rw[World.cell?_setCell_other _ _ _ _ (by simp[])];exact S4.2 j v hv⟩ (fun ah=>?_);clear hK K;refine Zx ?_;exact hQ.out _ _ _ _ _ _ _ _ _ _ g cap w4 xC Gf hlt Zq
def iU(n:Nat):List Nat:=[n / 256 % 256,n % 256]
theorem Qb(n:Nat):∀x∈iU n,x<256:=by
 intro x hx;simp only[iU,mem_cons,not_mem_nil,or_false] at hx;rcases hx with rfl|rfl<;>exact Nat.mod_lt _ (by decide)
theorem V4(n:Nat)(h:n<65536)(w:World):
  Zc 236 #[.int .u16 (n:Nat)] w fun e w'=>e=.returned (.string (text (iU n)))/\Below w.heap.size w w':=by
 have hcv:(convert 124 9 (.slice (Zs w.heap.size) 2 2)).run prog (w.alloc (.cells #[.int .u8 ((n:Int) / 256),.int .u8 ((n:Int) % 256)] 5))=.ok (.string (text (iU n))) (w.alloc (.cells #[.int .u8 ((n:Int) / 256),.int .u8 ((n:Int) % 256)] 5)):=by
  have e1:(n:Int) / 256=((n / 256 % 256:Nat):Int):=by omega
  have e2:(n:Int) % 256=((n % 256:Nat):Int):=by omega
  rw[e1,e2];have hr:ai (w.alloc (.cells (bytes (iU n)).toArray 5)) w.heap.size 5 (bytes (iU n)++[]):=by rw[append_nil];exact ai.new _ _ _
  exact qF 124 9 5 underlying124 underlying5 underlying9 _ _ 2 _ (iU n) [] hr (Qb n)
 have hb:Below w.heap.size w (w.alloc (.cells #[.int .u8 ((n:Int) / 256),.int .u8 ((n:Int) % 256)] 5)):=(Zr).alloc (Zn) _;obtain⟨T,hT⟩:∃T,Hid (text (iU n)=T):=⟨_,rfl⟩;rw[hT.out] at hcv;go_enter func236,ntmps236;go_wp2;go_ret;exact⟨by rw[hT.out];rfl,hb⟩
theorem jg{o:Oper}{x:Operand}(ho:o.op=.convert s d x)(hx:a.eval x=u)(hr:(convert s d u).run P w=.ok v w):(execOp a.eval o).run P w=.ok (.value v) w:=by
 unfold execOp;simp only[ho,hx,Sem.run_bind,Result.andThen_ok,hr,Sem.run_pure]
def o6(kind num:Nat)(t:Zy):Zy:=text (iU t.size)++text [kind]++text (bE num)
def gB(kind num c0:Nat)(t:Zy):Nat:=crc (af (text (bE c0)++o6 kind num t++t))
def mq(kind num c0:Nat)(t:Zy):Zy:=jB (o6 kind num t++text (bE (gB kind num c0 t))++t)
theorem nD(kind num:Nat)(t:Zy):(o6 kind num t).size=7:=by
 unfold o6;rw[eG,eG,aZ,aZ,aZ];rfl
theorem oJ(kind num c0:Nat)(t:Zy):(mq kind num c0 t).size=(11+t.size+63) / 64*64:=by
 unfold mq;rw[vD,eG,eG,nD,aZ];rfl
theorem Mj{fn:Func}{u p:Tmp}(h:fn.results= #[.tmp u,.cell p s])(tmps:Array Value)(w:World){a:Nat}(hp:tmps.getD p undef=(Zp a))(hx:(loadVar s (Za a 0)).run prog w=.ok x w):
  (results fn tmps).run prog w=.ok (.tuple #[tmps.getD u undef,x]) w:=by
 have hp':tmps[p]?.getD undef=(Zp a):=by simpa using hp
 simp[results,h,hp',asAddr,hx]
theorem Gg(at_ num c0 kind:Nat)(t:Zy)(ht:t.size<=60000)(hk:kind<256)(hn:num+1<4294967296)(hc:c0<4294967296)(ha:at_<=1000000)(w:World):
  Zc 167 #[iZ at_ num c0,.int .u8 (kind:Nat),.string t] w fun e w'=>e=.returned (.tuple #[.string (mq kind num c0 t),iZ (at_+(11+t.size+63) / 64) (num+1) (gB kind num c0 t)])/\Below w.heap.size w w':=by
 have hsz:=oJ kind num c0 t;have hfs:=nD kind num t;have hcl:=yO (af (text (bE c0)++o6 kind num t++t));have h16:IntKind.u16.wrap (t.size:Int)=(t.size:Int):=by rw[IntKind.wrap_u16];omega
 have hw4:(text (bE num)).size=4:=aZ _;have hh2:(text (iU t.size)).size=2:=aZ _;have hk1:(text [kind]).size=1:=aZ _;have cH:Hid (∀w,Zc 236 #[.int .u16 (t.size:Nat)] w fun e w'=>e=.returned (.string (text (iU t.size)))/\Below w.heap.size w w'):=fun w=>V4 t.size (by omega) w;have cW:Hid (∀w,Zc 147 #[.int .u32 (num:Nat)] w fun e w'=>e=.returned (.string (text (bE num)))/\Below w.heap.size w w'):=fun w=>rH num (by omega) w;have qH:∀(W:World) (g cap:Nat),W.cell? (Za g 0)=some (.int .u8 (kind:Nat))->(convert 124 9 (.slice (Zs g) 1 cap)).run prog W=.ok (.string (text [kind])) W:=fun W g cap h=>by
  have hr:=run_convert_bytes_back (P:=prog) W 124 9 5 (Za g 0) cap [UInt8.ofNat kind] underlying124 underlying5 underlying9 (fun j hj=>by
   have hj0:j=0:=by simpa using hj
   subst hj0;show W.cell? (Za g 0)=_;rw[h];simp;omega)
  exact hr
 unfold iZ;go_enter func167,ntmps167;go_wp2;have HS:Hid (text (iU t.size)++text [kind]++text (bE num)=o6 kind num t):=rfl;generalize text (iU t.size)=th at *;generalize text [kind]=tk at *;generalize text (bE num)=tn at *;have r0:ai ((w.alloc (.cells #[Zi at_,.int .u32 (num:Nat),.int .u32 (c0:Nat)] 117)).alloc (.cells #[.int .i64 0,.int .u32 0,.int .u32 0] 117)) w.heap.size 117 [Zi at_,.int .u32 (num:Nat),.int .u32 (c0:Nat)]:=⟨by rw[heap_alloc_old _ _ (by simp)];exact heap_alloc_new _ _⟩;have r1:ai ((w.alloc (.cells #[Zi at_,.int .u32 (num:Nat),.int .u32 (c0:Nat)] 117)).alloc (.cells #[.int .i64 0,.int .u32 0,.int .u32 0] 117)) (w.heap.size+1) 117 [.int .i64 0,.int .u32 0,.int .u32 0]:=⟨by
  have:=heap_alloc_new (w.alloc (.cells #[Zi at_,.int .u32 (num:Nat),.int .u32 (c0:Nat)] 117)) (.cells #[.int .i64 0,.int .u32 0,.int .u32 0] 117);rw[show(w.alloc (.cells #[Zi at_,.int .u32 (num:Nat),.int .u32 (c0:Nat)] 117)).heap.size=w.heap.size+1 by simp] at this;exact this⟩
 have bW:Below w.heap.size w ((w.alloc (.cells #[Zi at_,.int .u32 (num:Nat),.int .u32 (c0:Nat)] 117)).alloc (.cells #[.int .i64 0,.int .u32 0,.int .u32 0] 117)):=((Zr).alloc (Zn) _).alloc (by simp) _;generalize((w.alloc (.cells #[Zi at_,.int .u32 (num:Nat),.int .u32 (c0:Nat)] 117)).alloc (.cells #[.int .i64 0,.int .u32 0,.int .u32 0] 117))=W at r0 r1 bW⊢;have hne:w.heap.size≠w.heap.size+1:=by omega
 have hle:Hid (w.heap.size<=w.heap.size+1):=by show w.heap.size<=w.heap.size+1;omega
 generalize w.heap.size+1=b1 at *;generalize hb0:w.heap.size=b0 at *;go_cut [8] from 11 to 22 (fun v8 wc=>v8=.string (th++tk++tn)/\Below W.heap.size W wc)
 case first=>
  rename_i hRJ hMK;refine wp_region_held_drew (S:=fun w'=>w'.cell? (Za b0 1)=some (.int .u32 (num:Nat))) (by kernel_rfl) (r0.drew.cell 1) (fun ah=>?_);have kw0:W.drew.cell? (Za b0 1)=some (.int .u32 (num:Nat)):=r0.drew.cell 1;have hB0:Below W.heap.size W W.drew:=(Zr).drew;generalize W.drew=W1 at *;refine Zt 0 (.string t) ?_;refine Zt 1 (Zi t.size) ?_;refine Zt 2 (.int .u16 (t.size:Nat)) ?_;refine Zt 4 (.int .u8 (kind:Nat)) ?_;refine Zt 8 (.pointer (some (Za b0 1))) ?_;refine Zt 9 (.int .u32 (num:Nat)) ?_;refine Zw [3,5] ?_;refine Zb (fun K hK=>?_) ?_
  ·go_simp;go_at_call 236;refine(cH.out _).mono ?_;rintro e u1 ⟨rfl,hb1⟩;have kw1:u1.cell? (Za b0 1)=some (.int .u32 (num:Nat)):=by rw[hb1.cell (Zd kw0)];exact kw0
   have hB1:Below W.heap.size W u1:=hB0.trans (hb1.mono hB0.size);refine hK.out _ _ kw1 (fun ah=>?_);clear hK K;(try simp only[Act.put,lA,lZ,lS]);refine Zw [5,10] ?_;refine Zb (fun K hK=>?_) ?_
   ·refine aD rfl (v:=.slice (Zs u1.heap.size) 1 1) (w':=(u1.alloc (.cells #[.int .u8 (kind:Nat)] 5))) (by go_simp) ?_;have Zz:(u1.alloc (.cells #[.int .u8 (kind:Nat)] 5)).cell? (Za b0 1)=some (.int .u32 (num:Nat)):=by rw[World.cell?_alloc_lt _ _ _ (Zd kw1)];exact kw1
    have ZA:(u1.alloc (.cells #[.int .u8 (kind:Nat)] 5)).cell? (Za u1.heap.size 0)=some (.int .u8 (kind:Nat)):=by go_simp
    have hB2:Below W.heap.size W (u1.alloc (.cells #[.int .u8 (kind:Nat)] 5)):=hB1.alloc hB1.size _;generalize hg2:u1.heap.size=g2 at ZA⊢;generalize(u1.alloc (.cells #[.int .u8 (kind:Nat)] 5))=u2 at Zz ZA hB2⊢;refine hK.out _ _ Zz (fun ah=>?_);clear hK K;(try simp only[Act.put,lA,lZ,lS]);refine Zw [6,10] ?_;refine Zb (fun K hK=>?_) ?_
    ·refine aD rfl (v:=.string tk) (w':=u2) (jg rfl rfl (qH u2 g2 1 ZA)) ?_;refine hK.out _ _ Zz (fun ah=>?_);clear hK K;(try simp only[Act.put,lA,lZ,lS]);refine Zt 7 (.string (th++tk)) ?_;refine Zh 10 fun K hK=>?_;go_simp;go_at_call 147;refine(cW.out _).mono ?_;rintro e u4 ⟨rfl,hb4⟩;have kw4:u4.cell? (Za b0 1)=some (.int .u32 (num:Nat)):=by rw[hb4.cell (Zd Zz)];exact Zz
     have hB4:Below W.heap.size W u4:=hB2.trans (hb4.mono hB2.size);have kc4:u4.cell? (Za g2 0)=some (.int .u8 (kind:Nat)):=by rw[hb4.cell (Zd ZA)];exact ZA
     refine hK.out _ _ kw4 (fun ah=>?_);clear hK K;(try simp only[Act.put,lA,lZ,lS]);refine Zt 11 (.string (th++tk++tn)) ?_;refine Zh 12 fun K hK=>?_;go_simp;refine hK.out _ _ kw4 (fun ah=>?_);clear hK K;(try simp only[Act.put,lA,lZ,lS]);refine Zx ?_;refine hMK _ _ (hRJ _ _ ?_)
     (repeat apply Exists.intro)
     exact⟨⟨rfl,hB4⟩,rfl⟩
    refine Ze fun K hK=>?_;go_simp;go_at_call 147;refine(cW.out _).mono ?_;rintro e u5 ⟨rfl,hb5⟩;have kw5:u5.cell? (Za b0 1)=some (.int .u32 (num:Nat)):=by rw[hb5.cell (Zd Zz)];exact Zz
    have Ya:Below W.heap.size W u5:=hB2.trans (hb5.mono hB2.size);have kc5:u5.cell? (Za g2 0)=some (.int .u8 (kind:Nat)):=by rw[hb5.cell (Zd ZA)];exact ZA
    refine hK.out _ _ kw5 (fun ah=>?_);clear hK K;(try simp only[Act.put,lA,lZ,lS]);refine Zh 6 fun K hK=>?_;refine aD rfl (v:=.string tk) (w':=u5) (jg rfl rfl (qH u5 g2 1 kc5)) ?_;refine hK.out _ _ kw5 (fun ah=>?_);clear hK K;(try simp only[Act.put,lA,lZ,lS]);refine Zt 7 (.string (th++tk)) ?_;refine Zt 11 (.string (th++tk++tn)) ?_;refine Zh 12 fun K hK=>?_;go_simp;refine hK.out _ _ kw5 (fun ah=>?_);clear hK K;(try simp only[Act.put,lA,lZ,lS]);refine Zx ?_;refine hMK _ _ (hRJ _ _ ?_)
    (repeat apply Exists.intro)
    exact⟨⟨rfl,Ya⟩,rfl⟩
   refine Ze fun K hK=>?_;go_simp;go_at_call 147;refine(cW.out _).mono ?_;rintro e u7 ⟨rfl,Vi⟩;have kw7:u7.cell? (Za b0 1)=some (.int .u32 (num:Nat)):=by rw[Vi.cell (Zd kw1)];exact kw1
   have hB7:Below W.heap.size W u7:=hB1.trans (Vi.mono hB1.size);refine hK.out _ _ kw7 (fun ah=>?_);clear hK K;(try simp only[Act.put,lA,lZ,lS]);refine Zh 5 fun K hK=>?_;refine aD rfl (v:=.slice (Zs u7.heap.size) 1 1) (w':=(u7.alloc (.cells #[.int .u8 (kind:Nat)] 5))) (by go_simp) ?_;have kw8:(u7.alloc (.cells #[.int .u8 (kind:Nat)] 5)).cell? (Za b0 1)=some (.int .u32 (num:Nat)):=by rw[World.cell?_alloc_lt _ _ _ (Zd kw7)];exact kw7
   have kc8:(u7.alloc (.cells #[.int .u8 (kind:Nat)] 5)).cell? (Za u7.heap.size 0)=some (.int .u8 (kind:Nat)):=by go_simp
   have hB8:Below W.heap.size W (u7.alloc (.cells #[.int .u8 (kind:Nat)] 5)):=hB7.alloc hB7.size _;generalize hg8:u7.heap.size=g8 at kc8⊢;generalize(u7.alloc (.cells #[.int .u8 (kind:Nat)] 5))=u8 at kw8 kc8 hB8⊢;refine hK.out _ _ kw8 (fun ah=>?_);clear hK K;(try simp only[Act.put,lA,lZ,lS]);refine Zh 6 fun K hK=>?_;refine aD rfl (v:=.string tk) (w':=u8) (jg rfl rfl (qH u8 g8 1 kc8)) ?_;refine hK.out _ _ kw8 (fun ah=>?_);clear hK K;(try simp only[Act.put,lA,lZ,lS]);refine Zt 7 (.string (th++tk)) ?_;refine Zt 11 (.string (th++tk++tn)) ?_;refine Zh 12 fun K hK=>?_;go_simp;refine hK.out _ _ kw8 (fun ah=>?_);clear hK K;(try simp only[Act.put,lA,lZ,lS]);refine Zx ?_;refine hMK _ _ (hRJ _ _ ?_)
   (repeat apply Exists.intro)
   exact⟨⟨rfl,hB8⟩,rfl⟩
  refine Ze fun K hK=>?_;refine aD rfl (v:=.slice (Zs W1.heap.size) 1 1) (w':=(W1.alloc (.cells #[.int .u8 (kind:Nat)] 5))) (by go_simp) ?_;have Mk:(W1.alloc (.cells #[.int .u8 (kind:Nat)] 5)).cell? (Za b0 1)=some (.int .u32 (num:Nat)):=by rw[World.cell?_alloc_lt _ _ _ (Zd kw0)];exact kw0
  have Ml:(W1.alloc (.cells #[.int .u8 (kind:Nat)] 5)).cell? (Za W1.heap.size 0)=some (.int .u8 (kind:Nat)):=by go_simp
  have Mq:Below W.heap.size W (W1.alloc (.cells #[.int .u8 (kind:Nat)] 5)):=hB0.alloc hB0.size _;generalize Qc:W1.heap.size=g10 at Ml⊢;generalize(W1.alloc (.cells #[.int .u8 (kind:Nat)] 5))=u10 at Mk Ml Mq⊢;refine hK.out _ _ Mk (fun ah=>?_);clear hK K;(try simp only[Act.put,lA,lZ,lS]);refine Zw [3,6] ?_;refine Zb (fun K hK=>?_) ?_
  ·go_simp;go_at_call 236;refine(cH.out _).mono ?_;rintro e u11 ⟨rfl,ZB⟩;have Qd:u11.cell? (Za b0 1)=some (.int .u32 (num:Nat)):=by rw[ZB.cell (Zd Mk)];exact Mk
   have Qe:Below W.heap.size W u11:=Mq.trans (ZB.mono Mq.size);have Te:u11.cell? (Za g10 0)=some (.int .u8 (kind:Nat)):=by rw[ZB.cell (Zd Ml)];exact Ml
   refine hK.out _ _ Qd (fun ah=>?_);clear hK K;(try simp only[Act.put,lA,lZ,lS]);refine Zw [6,10] ?_;refine Zb (fun K hK=>?_) ?_
   ·refine aD rfl (v:=.string tk) (w':=u11) (jg rfl rfl (qH u11 g10 1 Te)) ?_;refine hK.out _ _ Qd (fun ah=>?_);clear hK K;(try simp only[Act.put,lA,lZ,lS]);refine Zt 7 (.string (th++tk)) ?_;refine Zh 10 fun K hK=>?_;go_simp;go_at_call 147;refine(cW.out _).mono ?_;rintro e u13 ⟨rfl,ZC⟩;have kw13:u13.cell? (Za b0 1)=some (.int .u32 (num:Nat)):=by rw[ZC.cell (Zd Qd)];exact Qd
    have hB13:Below W.heap.size W u13:=Qe.trans (ZC.mono Qe.size);have kc13:u13.cell? (Za g10 0)=some (.int .u8 (kind:Nat)):=by rw[ZC.cell (Zd Te)];exact Te
    refine hK.out _ _ kw13 (fun ah=>?_);clear hK K;(try simp only[Act.put,lA,lZ,lS]);refine Zt 11 (.string (th++tk++tn)) ?_;refine Zh 12 fun K hK=>?_;go_simp;refine hK.out _ _ kw13 (fun ah=>?_);clear hK K;(try simp only[Act.put,lA,lZ,lS]);refine Zx ?_;refine hMK _ _ (hRJ _ _ ?_)
    (repeat apply Exists.intro)
    exact⟨⟨rfl,hB13⟩,rfl⟩
   refine Ze fun K hK=>?_;go_simp;go_at_call 147;refine(cW.out _).mono ?_;rintro e u14 ⟨rfl,ZE⟩;have ZF:u14.cell? (Za b0 1)=some (.int .u32 (num:Nat)):=by rw[ZE.cell (Zd Qd)];exact Qd
   have hB14:Below W.heap.size W u14:=Qe.trans (ZE.mono Qe.size);have kc14:u14.cell? (Za g10 0)=some (.int .u8 (kind:Nat)):=by rw[ZE.cell (Zd Te)];exact Te
   refine hK.out _ _ ZF (fun ah=>?_);clear hK K;(try simp only[Act.put,lA,lZ,lS]);refine Zh 6 fun K hK=>?_;refine aD rfl (v:=.string tk) (w':=u14) (jg rfl rfl (qH u14 g10 1 kc14)) ?_;refine hK.out _ _ ZF (fun ah=>?_);clear hK K;(try simp only[Act.put,lA,lZ,lS]);refine Zt 7 (.string (th++tk)) ?_;refine Zt 11 (.string (th++tk++tn)) ?_;refine Zh 12 fun K hK=>?_;go_simp;refine hK.out _ _ ZF (fun ah=>?_);clear hK K;(try simp only[Act.put,lA,lZ,lS]);refine Zx ?_;refine hMK _ _ (hRJ _ _ ?_)
   (repeat apply Exists.intro)
   exact⟨⟨rfl,hB14⟩,rfl⟩
  refine Ze fun K hK=>?_;refine aD rfl (v:=.string tk) (w':=u10) (jg rfl rfl (qH u10 g10 1 Ml)) ?_;refine hK.out _ _ Mk (fun ah=>?_);clear hK K;(try simp only[Act.put,lA,lZ,lS]);refine Zh 3 fun K hK=>?_;go_simp;go_at_call 236;refine(cH.out _).mono ?_;rintro e u17 ⟨rfl,ZG⟩;have ZH:u17.cell? (Za b0 1)=some (.int .u32 (num:Nat)):=by rw[ZG.cell (Zd Mk)];exact Mk
  have hB17:Below W.heap.size W u17:=Mq.trans (ZG.mono Mq.size);have kc17:u17.cell? (Za g10 0)=some (.int .u8 (kind:Nat)):=by rw[ZG.cell (Zd Ml)];exact Ml
  refine hK.out _ _ ZH (fun ah=>?_);clear hK K;(try simp only[Act.put,lA,lZ,lS]);refine Zt 7 (.string (th++tk)) ?_;refine Zh 10 fun K hK=>?_;go_simp;go_at_call 147;refine(cW.out _).mono ?_;rintro e u18 ⟨rfl,ZI⟩;have kw18:u18.cell? (Za b0 1)=some (.int .u32 (num:Nat)):=by rw[ZI.cell (Zd ZH)];exact ZH
  have hB18:Below W.heap.size W u18:=hB17.trans (ZI.mono hB17.size);have kc18:u18.cell? (Za g10 0)=some (.int .u8 (kind:Nat)):=by rw[ZI.cell (Zd kc17)];exact kc17
  refine hK.out _ _ kw18 (fun ah=>?_);clear hK K;(try simp only[Act.put,lA,lZ,lS]);refine Zt 11 (.string (th++tk++tn)) ?_;refine Zh 12 fun K hK=>?_;go_simp;refine hK.out _ _ kw18 (fun ah=>?_);clear hK K;(try simp only[Act.put,lA,lZ,lS]);refine Zx ?_;refine hMK _ _ (hRJ _ _ ?_)
  (repeat apply Exists.intro)
  exact⟨⟨rfl,hB18⟩,rfl⟩
 case rest=>
  obtain⟨rfl,hbc⟩:=hcut;rw[HS.out];have rc0:=r0.below hbc r0.lt;have rc1:=r1.below hbc r1.lt;have e2:wc.cell? (Za b0 2)=some (.int .u32 (c0:Nat)):=rc0.cell 2;have htc:(text (bE c0)).size=4:=aZ _;have htx:(text (bE (gB kind num c0 t))).size=4:=aZ _;have cW2:=rH c0 hc wc;have cC:Hid (∀w,Zc 112 #[.string (text (bE c0)++o6 kind num t++t)] w fun e w'=>e=.returned (.int .u32 (gB kind num c0 t:Nat))/\Below w.heap.size w w'):=fun w=>oQ _ w (by rw[eG,eG];omega);have cX:Hid (∀w,Zc 147 #[.int .u32 (gB kind num c0 t:Nat)] w fun e w'=>e=.returned (.string (text (bE (gB kind num c0 t))))/\Below w.heap.size w w'):=fun w=>rH _ hcl w;have cP:Hid (∀w,Zc 146 #[.string (o6 kind num t++text (bE (gB kind num c0 t))++t)] w fun e w'=>e=.returned (.string (mq kind num c0 t))/\Below w.heap.size w w'):=fun w=>EJ _ (by rw[eG,eG];omega) w;have RC0:Hid _:=rc0;have RC1:Hid _:=rc1;clear rc0 rc1 HS qH cH cW hcl;generalize hT:mq kind num c0 t=T at *;have HT:Hid _:=hT;generalize text (bE (gB kind num c0 t))=tx at *;generalize hCc:gB kind num c0 t=cc at *;have HCc:Hid _:=hCc;clear hT hCc;generalize text (bE c0)=tc at *;generalize o6 kind num t=fr at *;go_wp2_with(first
   | (go_at_call 147;refine cW2.mono ?_;rintro e v1 ⟨rfl,hv1⟩;clear cW2)
   | (go_at_call 112;refine(cC.out _).mono ?_;rintro e v2 ⟨rfl,hv2⟩)
   | (go_at_call 147;refine(cX.out _).mono ?_;rintro e v3 ⟨rfl,hv3⟩)
   | (go_at_call 146;refine(cP.out _).mono ?_;rintro e v4 ⟨rfl,hv4⟩))
  have bv2:=hv1.trans (hv2.mono hv1.size);have bv3:=bv2.trans (hv3.mono bv2.size);have bv4:=bv3.trans (hv4.mono bv3.size);have s0:=RC0.out.below bv4 RC0.out.lt;have s1:=RC1.out.below bv4 RC1.out.lt;have d0:v4.cell? (Za b0 0)=some (Zi at_):=s0.cell 0;have d1:v4.cell? (Za b0 1)=some (.int .u32 (num:Nat)):=s0.cell 1;have f0:v4.cell? (Za b1 0)=some (.int .i64 0):=s1.cell 0;have f1:v4.cell? (Za b1 1)=some (.int .u32 0):=s1.cell 1;have f2:v4.cell? (Za b1 2)=some (.int .u32 0):=s1.cell 2;have g0:=s1.frozen 0;have g1:=s1.frozen 1;have g2:=s1.frozen 2;have S1:Hid _:=s1;clear s0 s1;go_region;go_wp2;have s3:=((S1.out.set 0 (.int .i64 ((at_:Int)+(11+(t.size:Int)+63) / 64))).set 1 (.int .u32 ((num:Int)+1))).set 2 (.int .u32 (cc:Nat));refine bodyPost_ret (Mj results167 _ _ rfl (run_loadVar_row _ _ _ _ _ _ _ s3.drew.heap underlying117 rfl (by kernel_rfl))) rfl ?_;refine⟨?_,?_⟩
  ·have q1:(at_:Int)+(11+(t.size:Int)+63) / 64=((at_+(11+t.size+63) / 64:Nat):Int):=by omega
   have q2:(num:Int)+1=((num+1:Nat):Int):=by omega
   rw[q1,q2,HT.out,HCc.out];rfl
  ·have hbz:b0<=W.heap.size:=by have:=bW.size;omega
   have b1w:=bW.trans (hbc.mono hbz);have bw4:=b1w.trans (bv4.mono (by have:=b1w.size;omega));rw[hb0];exact(((bw4.setCell hle.out _).setCell hle.out _).setCell hle.out _).drew
theorem ji{a:Zy}(h:a.data.toList=b.data.toList):a=b:=WideShapes.bytes_inj h
theorem bM(s:Zy)(a e:Nat):(s.extract a e).data.toList=(s.data.toList.drop a).take (e-a):=by
 rw[ByteArray.data_extract,Array.toList_extract]
theorem zJ(a b:Zy):(a++b).data.toList=a.data.toList++b.data.toList:=by simp
theorem fe(s:Zy):s.data.toList.length=s.size:=Array.length_toList
theorem Qf(s:Zy):s.data.toList.take s.size=s.data.toList:=by rw[<-fe,take_length]
theorem qc(s:Zy):s.extract 0 s.size=s:=by
 apply ji;rw[bM,drop_zero,Nat.sub_zero,Qf]
theorem o7(p n:Zy)(h:p≠⟨#[]⟩):(aA p n).data.toList=p.data.toList++47::n.data.toList:=by
 unfold aA;rw[if_neg h,zJ,zJ];simp
theorem qI(n:Zy):aA ⟨#[]⟩ n=n:=by unfold aA;rw[if_pos rfl]
theorem qJ(s:Zy)(k:Nat):(af s).getD k 0=(s.data.toList[k]?.map UInt8.toNat).getD 0:=by
 rw[af,getD_eq_getElem?_getD,getElem?_map]
theorem Jm(s:Zy)(pl nl:List UInt8)(hs:s.data.toList=pl++47::nl)(hn:∀c∈nl,c≠47):I8 s=pl.length:=by
 have hz:s.size=pl.length+1+nl.length:=by rw[<-fe,hs];simp;omega
 have:∀k,pl.length<k->k<=s.size->lM s k=pl.length:=by
  intro k;induction k with
  | zero=>intro h;omega
  | succ k ih=>
   intro h1 h2;unfold lM;rw[qJ,hs];by_cases e:k=pl.length
   ·subst e;simp
   ·have hk:pl.length<k:=by omega
    rw[getElem?_append_right (by omega),show k-pl.length=(k-pl.length-1)+1 by omega,getElem?_cons_succ,getElem?_eq_getElem (by omega)];rw[if_neg,ih hk (by omega)];intro e;have hq:k-pl.length-1<nl.length:=by omega
    exact hn (nl[k-pl.length-1]) (Zg hq) (UInt8.toNat_inj.1 (by simpa using e))
 exact this _ (by omega) (Zn)
theorem Jo(s:Zy)(hn:∀c∈s.data.toList,c≠47):I8 s= -1:=by
 have:∀k,k<=s.size->lM s k= -1:=by
  intro k;induction k with
  | zero=>intro _;rfl
  | succ k ih=>
   intro h;have hl:k<s.data.toList.length:=by rw[fe];omega
   unfold lM;rw[qJ,getElem?_eq_getElem hl,if_neg,ih (by omega)];intro e;refine hn _ (Zg hl) (UInt8.toNat_inj.1 ?_);simpa using e
 exact this _ (Zn)
theorem EO(h:aO (af n)=true):∀c∈n.data.toList,c≠47:=by
 intro c hc e;unfold aO at h;simp only[Bool.and_eq_true,all_eq_true] at h;have:=h.1.1 c.toNat (mem_map.2 ⟨c,hc,rfl⟩);rw[e] at this
 revert this
 decide
theorem V6(h:aO (af n)=true):n≠⟨#[]⟩:=by
 rintro rfl
 revert h
 decide
theorem ic(h:aO (af n)=true):n.size<=16:=by
 unfold aO at h;simp only[Bool.and_eq_true,decide_eq_true_eq,aM] at h;exact h.2
theorem Jp(h:aO (af n)=true):1<=n.size:=by
 unfold aO at h;simp only[Bool.and_eq_true,decide_eq_true_eq,aM] at h;exact h.1.2
theorem rM(p n:Zy)(h:aO (af n)=true):nZ (aA p n)=p:=by
 have h47:=EO h;by_cases hp:p=⟨#[]⟩
 ·subst hp;rw[qI];unfold nZ;rw[Jo n h47];rfl
 ·have hl:=o7 p n hp;unfold nZ;rw[Jm _ _ _ hl h47,if_pos (by omega)];apply ji;rw[bM,hl];simp
theorem oK(p n:Zy)(h:aO (af n)=true):oV (aA p n)=n:=by
 have h47:=EO h;by_cases hp:p=⟨#[]⟩
 ·subst hp;rw[qI];unfold oV;rw[Jo n h47];exact qc n
 ·have hl:=o7 p n hp;unfold oV;rw[Jm _ _ _ hl h47];apply ji;have e:((p.data.toList.length:Int)+1).toNat=p.data.toList.length+1:=by omega
  have e2:(p.data.toList++47::n.data.toList).drop (p.data.toList.length+1)=n.data.toList:=by
   rw[drop_append,drop_eq_nil_of_le (by omega)];simp
  rw[bM,e,<-fe,hl,e2,take_of_length_le (by simp;omega)]
theorem ig{p q m:Zy}(hn:aO (af n)=true)(hm:aO (af m)=true)(h:aA p n=aA q m):p=q/\n=m:=by
 constructor
 ·rw[<-rM p n hn,h,rM q m hm]
 ·rw[<-oK p n hn,h,oK q m hm]
theorem ja(p n:Zy)(h:aO (af n)=true):aA p n≠⟨#[]⟩:=by
 intro e;by_cases hp:p=⟨#[]⟩
 ·subst hp;rw[qI] at e;exact V6 h e
 ·have:=o7 p n hp;rw[e] at this;simp at this
theorem gN(p n:Zy)(h:aO (af n)=true):p.size<(aA p n).size:=by
 by_cases hp:p=⟨#[]⟩
 ·subst hp;rw[qI];have:=Jp h;show 0<_;omega
 ·have:=congrArg List.length (o7 p n hp);rw[fe,length_append,fe,length_cons] at this;omega
def pathOf(ns:List Zy):Zy:=ns.foldl aA ⟨#[]⟩
theorem zK(ns:List Zy)(n:Zy):pathOf (ns++[n])=aA (pathOf ns) n:=by simp[pathOf]
theorem Jq(s:Zy):∀(f a i:Nat),f=s.size+1-i->2<=a->a<=i->i<=s.size->s.data.toList[a-1]? =some 47->(pieces s f a i).foldl aA (s.extract 0 (a-1))=s:=by
 intro f;induction f with
 | zero=>intro a i hf ha hai hi _;omega
 | succ f ih=>
  intro a i hf ha hai hi h47;unfold pieces;have hne:s.extract 0 (a-1)≠⟨#[]⟩:=by
   intro e;have:=congrArg (fun x:Zy=>x.size) e;simp only[ByteArray.size_extract] at this;have h0:(⟨#[]⟩:Zy).size=0:=rfl;omega
  have aar:aA (s.extract 0 (a-1)) (s.extract a i)=s.extract 0 i:=by
   apply ji;rw[o7 _ _ hne,bM,bM,bM];simp only[drop_zero,Nat.sub_zero];have e1:s.data.toList.drop (a-1)=47::s.data.toList.drop a:=by
    have hlt:a-1<s.data.toList.length:=(List.getElem?_eq_some_iff.1 h47).1;rw[drop_eq_getElem_cons hlt,(List.getElem?_eq_some_iff.1 h47).2,show a-1+1=a by omega]
   have e2:s.data.toList.take i=s.data.toList.take (a-1)++(s.data.toList.drop (a-1)).take (i-(a-1)):=by
    rw[<-take_add,show a-1+(i-(a-1))=i by omega]
   rw[e2,e1,show i-(a-1)=(i-a)+1 by omega,take_succ_cons]
  split
  ·rename_i hc;exact ih a (i+1) (by omega) ha (by omega) (by omega) h47
  ·rename_i hc;rw[foldl_cons,aar];by_cases hlt:i<s.size
   ·have h:s.data.toList[i]? =some 47:=by
     have hl:i<s.data.toList.length:=by rw[fe];exact hlt
     have:(af s).getD i 0=47:=by
      refine Classical.byContradiction fun h=>hc ⟨hlt,h⟩
     rw[qJ,getElem?_eq_getElem hl] at this;rw[getElem?_eq_getElem hl];congr 1;exact UInt8.toNat_inj.1 (by simpa using this)
    have:=ih (i+1) (i+1) (by omega) (by omega) (Zn) (by omega) (by simpa using h);simpa using this
   ·have ei:i=s.size:=by omega
    have ef:f=0:=by omega
    subst ef;rw[pieces,foldl_nil,ei];exact qc s
theorem Gh(s:Zy):∀(f i:Nat),f=s.size+1-i->i<=s.size->ku (pieces s f 0 i)=true->(pieces s f 0 i).foldl aA ⟨#[]⟩=s:=by
 intro f;induction f with
 | zero=>intro i hf hi _;omega
 | succ f ih=>
  intro i hf hi hn;unfold pieces at hn⊢;split
  ·rename_i hc;rw[if_pos hc] at hn;exact ih (i+1) (by omega) (by omega) hn
  ·rename_i hc;rw[if_neg hc] at hn;rw[foldl_cons,qI];have hname:aO (af (s.extract 0 i))=true:=by
    unfold ku at hn;rw[all_cons,Bool.and_eq_true] at hn;exact hn.1
   have hpos:=Jp hname;rw[ByteArray.size_extract] at hpos;by_cases hlt:i<s.size
   ·have h:s.data.toList[i]? =some 47:=by
     have hl:i<s.data.toList.length:=by rw[fe];exact hlt
     have:(af s).getD i 0=47:=by
      refine Classical.byContradiction fun h=>hc ⟨hlt,h⟩
     rw[qJ,getElem?_eq_getElem hl] at this;rw[getElem?_eq_getElem hl];congr 1;exact UInt8.toNat_inj.1 (by simpa using this)
    have:=Jq s f (i+1) (i+1) (by omega) (by omega) (Zn) (by omega) (by simpa using h);simpa using this
   ·have ei:i=s.size:=by omega
    have ef:f=0:=by omega
    subst ef;rw[pieces,foldl_nil,ei];exact qc s
theorem mH(s:Zy)(h:(ax s).2=true):pathOf (ax s).1=s:=by
 unfold ax at h⊢;split
 ·rename_i h0;rw[h0];rfl
 ·rename_i h0;rw[if_neg h0] at h;split
  ·rename_i h1;exact Gh s _ 0 rfl (Nat.zero_le _) h1
  ·rename_i h1;rw[if_neg h1] at h;simp at h
theorem iq(s:Zy):∀n∈(ax s).1,aO (af n)=true:=by
 unfold ax;split
 ·simp
 ·split
  ·rename_i h;exact fun n hn=>all_eq_true.1 h n hn
  ·simp
theorem Qg{α:Type}(l:List α)(h:l.length≠0):∃n,n∈l/\l=l.take (l.length-1)++[n]:=by
 have hne:l≠ []:=by rintro rfl;exact h rfl
 refine⟨l.getLast hne,getLast_mem hne,?_⟩
 conv=>lhs;rw[<-dropLast_concat_getLast hne]
 rw[dropLast_eq_take]
theorem Jr(s:Zy)(h:(ax s).2=true)(h0:(ax s).1.length≠0):∃n,(ax s).1=(ax s).1.take ((ax s).1.length-1)++[n]/\aO (af n)=true/\s=aA (gy (ax s).1) n:=by
 obtain⟨n,hn,e⟩:=Qg (ax s).1 h0;refine⟨n,e,iq s _ hn,?_⟩;have hj:=mH s h;rw[e,zK] at hj;exact hj.symm
def kR(s:Zy)(n:Nat):Nat:=((af s).take n).foldl (fun v b=>256*v+b) 0
theorem EP(s:Zy)(n:Nat)(h:n<s.size):kR s (n+1)=256*kR s n+(s[n]).toNat:=by
 unfold kR;rw[tN s n h,foldl_append];rfl
theorem Aq(s:Zy):∀n,n<=s.size->kR s n<256 ^ n
 | 0,_=>by simp[kR]
 | n+1,h=>by
  have h1:=Aq s n (by omega);have h2:(s[n]'(by omega)).toNat<256:=UInt8.toNat_lt _;rw[EP s n (by omega),Nat.pow_succ];omega
theorem yT(s:Zy)(hs:4<=s.size)(hs2:s.size<=1000000)(w:World):
  Zc 262 #[.string s] w fun e w'=>e=.returned (.int .u32 (kR s 4:Nat))/\w=w':=by
 go_enter func262,ntmps262;go_wp2;go_loop [3,5] (fun r i=>∃k:Nat,k<=4/\i=.int .i64 k/\r=.int .u32 (kR s k:Nat)) (fun _ i=>4-(intOf i).toNat)
 case atStart=>exact⟨0,Nat.zero_le _,rfl,rfl⟩
 case round=>
  obtain⟨k,hk,rfl,rfl⟩:=hrel;by_cases hks:k<4
  ·have hlt:=Aq s k (by omega);have hp:kR s k<16777216:=Nat.lt_of_lt_of_le hlt (Nat.pow_le_pow_right (n:=256) (j:=3) (by decide) (by omega));have hfin:Hid (kR s (k+1)=256*kR s k+(s[k]'(by omega)).toNat):=EP s k (by omega);have hb:(s[k]'(by omega)).toNat<256:=UInt8.toNat_lt _;have hor:=OO (kR s k) (s[k]'(by omega)).toNat hp hb;have k1:(k:Int)<4:=by omega
   have k2:(0:Int)<=(k:Int):=by omega
   have k3:(k:Int)<(s.size:Int):=by omega
   generalize kR s k=r at *;go_wp2;exact⟨⟨k+1,by omega,by go_num,by rw[hfin.out];go_num⟩,by simp[intOf];omega⟩
  ·have e4:k=4:=by omega
   subst e4;go_wp2;go_ret;exact⟨rfl,rfl⟩
theorem Mr(s:Zy)(w:World)(hs:s.size<=1000000):
  Zc 220 #[.string s] w fun e w'=>e=.returned (.bool (decide (1<=s.size)&&decide (s.size<=96)))/\w=w':=by
 by_cases h1:1<=s.size
 ·have i1:(1:Int)<=(s.size:Int):=by omega
  rw[decide_eq_true h1,Bool.true_and];by_cases h2:s.size<=96
  ·have i2:(s.size:Int)<=96:=by omega
   rw[decide_eq_true h2];go_enter func220,ntmps220;go_wp2;go_ret;exact⟨rfl,rfl⟩
  ·have i2:¬(s.size:Int)<=96:=by omega
   rw[decide_eq_false h2];go_enter func220,ntmps220;go_wp2;go_ret;exact⟨rfl,rfl⟩
 ·have i1:¬(1:Int)<=(s.size:Int):=by omega
  rw[decide_eq_false h1,Bool.false_and];go_enter func220,ntmps220;go_wp2;go_ret;exact⟨rfl,rfl⟩
theorem Bj(n i:Nat)(hn:n<=1000000)(hi:i<=100000)(w:World):
  Zc 265 #[Zi n,Zi i] w fun e w'=>e=.returned (.int .i64 (min ((n:Int)-i*96) 96))/\w=w':=by
 go_enter func265,ntmps265;go_wp2;go_ret;exact⟨rfl,rfl⟩
theorem xD(n:Nat)(hn:n<=1000000)(w:World):
  Zc 217 #[Zi n] w fun e w'=>e=.returned (.int .i64 ((11+n+63) / 64:Nat))/\w=w':=by
 go_enter func217,ntmps217;go_wp2;go_ret;exact⟨by go_num,rfl⟩
def dA(s:Zy):Value:=.agg (bytes (af s)).toArray
theorem Wd{l:List Nat}(h:l.length=32):(prog.info? 121).map (·.size)=some (bytes l).toArray.size:=by rw[size_toArray,aF,h];kernel_rfl
theorem Wh:(prog.info? 121).map (fun i=>(i.zero,i.size,i.bytes))=some (some (.agg (bytes (replicate 32 0)).toArray),32,32):=by kernel_rfl
theorem Tf:(prog.info? 5).map (·.size)=some 1:=by kernel_rfl
def aW(s:Zy):Zy:=s.extract 0 32
theorem Gi(s:Zy):af (aW s)=(af s).take 32:=by
 unfold aW af;rw[bM];simp[map_take]
theorem Bl(s:Zy)(hs:32<=s.size)(hs2:s.size<=1000000)(w:World):
  Zc 263 #[.string s] w fun e w'=>e=.returned (dA (aW s))/\Below w.heap.size w w':=by
 obtain⟨i0,hi,hz0,hz1,hz2⟩:=info_parts Wh;have ht:af (aW s)=(af s).take 32:=Gi s;have hl:((af s).take 32).length=32:=by rw[length_take,aM];omega
 unfold dA;rw[ht];obtain⟨M,HM⟩:∃M,Hid ((af s).take 32=M):=⟨_,rfl⟩;go_enter func263,ntmps263;go_upto_region 2 with fail
 show Code.wp _ _ _ _ ((w.alloc (.cells (bytes (replicate 32 0)).toArray 121)).alloc (.cells (bytes (replicate 32 0)).toArray 121));have r0:ai ((w.alloc (.cells (bytes (replicate 32 0)).toArray 121)).alloc (.cells (bytes (replicate 32 0)).toArray 121)) w.heap.size 121 (bytes (replicate 32 0)):=⟨by rw[heap_alloc_old _ _ (by simp)];exact heap_alloc_new _ _⟩;have r1:ai ((w.alloc (.cells (bytes (replicate 32 0)).toArray 121)).alloc (.cells (bytes (replicate 32 0)).toArray 121)) (w.heap.size+1) 121 (bytes (replicate 32 0)):=⟨by
  have:=heap_alloc_new (w.alloc (.cells (bytes (replicate 32 0)).toArray 121)) (.cells (bytes (replicate 32 0)).toArray 121);rw[show(w.alloc (.cells (bytes (replicate 32 0)).toArray 121)).heap.size=w.heap.size+1 by simp] at this;exact this⟩
 have bW:Below w.heap.size w ((w.alloc (.cells (bytes (replicate 32 0)).toArray 121)).alloc (.cells (bytes (replicate 32 0)).toArray 121)):=((Zr).alloc (Zn) _).alloc (by simp) _;generalize((w.alloc (.cells (bytes (replicate 32 0)).toArray 121)).alloc (.cells (bytes (replicate 32 0)).toArray 121))=W at r0 r1 bW⊢;have hcp:∀ty,(Builtin.copy_ #[124,9] ty #[.slice (Zs (w.heap.size+1)) 32 32,.string s]).run prog W=.ok (.int .i64 32) (W.setRow (w.heap.size+1) (bytes M).toArray):=fun ty=>by
  have h1:=oh (P:=prog) W 124 9 ty 5 (w.heap.size+1) 32 32 32 s (bytes (replicate 32 0)) 121 underlying124 Tf r1 (Nat.min_eq_right hs) (by rw[aF];simp);rw[HM.out,drop_of_length_le (by rw[aF];simp),append_nil] at h1;exact h1
 have AY:M.length=32:=by rw[<-HM.out];exact hl
 have hsz:=Wd AY;have hz:(bytes (replicate 32 0)).toArray.size=(bytes M).toArray.size:=by rw[size_toArray,size_toArray,aF,aF,AY];simp
 have hone:=bY M;have hg1:=setRow_heap W (w.heap.size+1) _ (bytes M).toArray _ _ r1.heap;have hg0:(W.setRow (w.heap.size+1) (bytes M).toArray).heap[w.heap.size]? =some (.cells (bytes (replicate 32 0)).toArray 121 (0,0)):=by rw[setRow_other W (w.heap.size+1) w.heap.size _ (by omega)];exact r0.heap
 have hB2:Below w.heap.size w (W.setRow (w.heap.size+1) (bytes M).toArray):=bW.setRow _ (by omega);have hHM:Hid _:=HM.out;clear hl ht;generalize W.setRow (w.heap.size+1) (bytes M).toArray=W2 at *;have hB3:Below w.heap.size w (W2.setRow w.heap.size (bytes M).toArray):=hB2.setRow _ (Zn);have hg3:=setRow_heap W2 w.heap.size _ (bytes M).toArray _ _ hg0;go_wp2_with(first
  | (refine p9 _ rfl _ _ 124 9 rfl _ _ rfl rfl (hcp _) ?_)
  | (refine wpList_load_row rfl 121 _ rfl (w.heap.size+1) rfl _ _ _ _ hg1 underlying121 rfl hsz ?_)
  | (refine wpList_store_row rfl 121 _ _ rfl w.heap.size _ rfl rfl _ _ hg0 hsz hz hone ?_))
 refine bodyPost_ret (v:=.agg (bytes M).toArray) ?_ rfl ⟨by rw[hHM.out],hB3⟩;exact results_cell_row (P:=prog) results263 _ _ w.heap.size _ _ _ _ rfl hg3 underlying121 rfl hsz
theorem lQ(w:World)(g cap:Nat)(t:TypeId)(pre rest:List Value)(m:List Nat)(h:ai w g t (pre++(bytes m++rest)))(hm:∀x∈m,x<256)(o n:Nat)(ho:o=pre.length)(hn:n=m.length):
  (convert 124 9 (.slice (some (Za g o)) n cap)).run prog w=.ok (.string (text m)) w:=by
 subst ho hn;have hr:=run_convert_bytes_back (P:=prog) w 124 9 5 (Za g pre.length) cap (m.map UInt8.ofNat) underlying124 underlying5 underlying9 (fun j hj=>by
  have hj':j<m.length:=by simpa using hj
  have hadd:((Za g pre.length):Addr).add j=(Za g (pre.length+j)):=by unfold Addr.add;split<;>simp_all
  have hx:=hm m[j] (Zg hj');rw[hadd,h.cell (pre.length+j),getElem?_append_right (by omega),Nat.add_sub_cancel_left,getElem?_append_left (by rw[aF];exact hj')];simp[bytes,hj'];omega)
 rw[length_map] at hr;exact hr
theorem qd(s:Zy):∀x∈af s,x<256:=fun x hx=>jP s x hx
def aH(n:Nat)(root label:Zy):List Value:=.int .u32 (n:Nat)::(bytes (af root)++[.string label])
def bZ(n:Nat)(root label:Zy):Zy:=text (bE n)++root++label
theorem o8(h:root.size=32)(n:Nat)(label:Zy):(prog.info? 123).map (·.size)=some (aH n root label).toArray.size:=by
 unfold aH;rw[size_toArray,length_cons,length_append,aF,aM,h]
 kernel_rfl
theorem Js{n:Nat}(h:root.size=32):(aH n root label)[33]? =some (.string label):=by
 unfold aH;rw[getElem?_cons_succ,getElem?_append_right (by rw[aF,aM];omega),aF,aM,h];rfl
theorem Jt(n:Nat)(root label:Zy)(hr:root.size=32)(hn:n<4294967296)(hl:label.size<=100000)(w:World):
  Zc 168 #[.agg (aH n root label).toArray] w fun e w'=>e=.returned (.string (bZ n root label))/\Below w.heap.size w w':=by
 have cW:Hid (∀w,Zc 147 #[.int .u32 (n:Nat)] w fun e w'=>e=.returned (.string (text (bE n)))/\Below w.heap.size w w'):=fun w=>rH n hn w;have h4:(text (bE n)).size=4:=aZ _;have hfin:Hid (bZ n root label=text (bE n)++root++label):=rfl;have hF:Hid (∀w1,ai w1 w.heap.size 123 (aH n root label)->w1.cell? (Za w.heap.size 0)=some (.int .u32 (n:Nat))/\w1.cell? (Za w.heap.size 33)=some (.string label)/\(convert 124 9 (.slice (some (Za w.heap.size 1)) 32 32)).run prog w1=.ok (.string root) w1):=fun w1 h=>by
  refine⟨h.cell 0,(h.cell 33).trans (Js hr),?_⟩;have h1:ai w1 w.heap.size 123 ([.int .u32 (n:Nat)]++(bytes (af root)++[.string label])):=h;have:=lQ w1 w.heap.size 32 _ _ _ _ h1 (qd root) 1 32 rfl (by rw[aM,hr]);rw[lg] at this;exact this
 have r0:=ai.new w 123 (aH n root label);have hsz:=o8 hr n label;have hbx:Below w.heap.size w (w.alloc (.cells (aH n root label).toArray 123)):=(Zr).alloc (Zn) _;generalize text (bE n)=tn at *;generalize aH n root label=L at *;go_enter func168,ntmps168;go_wp2;generalize w.alloc (.cells L.toArray 123)=W at r0 hbx⊢;obtain⟨q0,q1,q2⟩:=hF.out _ r0.drew;have ZJ:¬9223372036854775807<36+label.size:=by omega
 go_region_held3 (fun w'=>w'.cell? (Za w.heap.size 0)=some (.int .u32 (n:Nat))/\w'.cell? (Za w.heap.size 33)=some (.string label)/\(convert 124 9 (.slice (some (Za w.heap.size 1)) 32 32)).run prog w'=.ok (.string root) w') ((first|exact⟨k0,k1,k2⟩|exact⟨q0,q1,q2⟩)) ((go_at_call 147;refine(cW.out _).mono ?_;rintro e w1 ⟨rfl,hb1⟩;obtain⟨k0,k1,k2⟩:=hF.out w1 (r0.drew.below hb1 r0.lt)));go_wp2;go_ret;exact⟨by rw[hfin.out];rfl,(hbx.drew).trans (hb1.mono hbx.size)⟩
def Gj(s:Zy):Bool:=decide (36<=s.size)&&decide (s.size<=56)
theorem Tg:(prog.info? 123).map (fun i=>(i.zero,i.size))=some (some (.agg (aH 0 (aI 32) ⟨#[]⟩).toArray),34):=by kernel_rfl
end
end Go.Proofs.YtdidjdoifpfmmaaGreatDoor
