import Derived.Test.YtdidjdoifpfmmaaGreatDoorGAErrAs
import Derived.Test.YtdidjdoifpfmmaaGreatDoorGAErrIs
import Derived.Test.YtdidjdoifpfmmaaGreatDoorGO08
import Derived.Below
import Derived.MapFrom
import Derived.Lib.SplitLaws
import Derived.Lib.IndexLaws
set_option maxRecDepth 100000
set_option maxHeartbeats 16000000
namespace Go.Proofs.YtdidjdoifpfmmaaGreatDoor
open Go.Proofs.Tryz List
variable{w w':World}{p x q:Zy}{v x1 x3 x4 x5 x6 x7 x8 x9 x10 Mi OU OV qx EL EM EN x18 DK x20 x21 Bh x23 x2:Value}{a:Nat->Addr}{d:DP}{S:Dk}{k g gm n:Nat}{D:DataW Unit}{L:List It}
section
open Go.RowKit
structure lT(a:Nat->Addr)(w:World):Prop where
 var:∀k,k<12->w.cell? (Za k 0)=some (.iface 452 (.pointer (some (a k))))
 row:∀k,k<12->∃c t,w.heap[(a k).block]? =some (.cells c t (0,0))
 ne:∀i j,i<12->j<12->i≠j->a i≠a j
 text:∀k,k<12->∃s,w.cell? (a k)=some (.string s)/\s.size≠0/\s.size<=100
 et:w.cell? (Za 12 0)=some (.iface 325 (.agg #[.pointer (some (Za 18 92))]))
theorem nH{p:Addr}(h:w.cell? p=some v):p.block<w.heap.size:=by
 rcases Nat.lt_or_ge p.block w.heap.size with h'|h'
 ·exact h'
 ·simp[World.cell?,Array.getElem?_eq_none h'] at h
theorem lT.size(h:lT a w):12<w.heap.size:=nH h.et
theorem lT.below(h:lT a w)(hb:Below w.heap.size w w'):lT a w' where
 var k hk:=by rw[hb.cell (nH (h.var k hk))];exact h.var k hk
 row k hk:=by
  obtain⟨s,hs,_⟩:=h.text k hk;rw[hb.block _ (nH hs)];exact h.row k hk
 ne:=h.ne
 text k hk:=by
  obtain⟨s,hs,h0⟩:=h.text k hk;exact⟨s,by rw[hb.cell (nH hs)];exact hs,h0⟩
 et:=by rw[hb.cell (nH h.et)];exact h.et
theorem ZM(h:lT a w)(k j:Nat)(hk:k<12)(hj:j<12):
  Zc 78 #[.iface 452 (.pointer (some (a k))),.iface 452 (.pointer (some (a j)))] w fun e w'=>e=.returned (.bool (decide (j=k)))/\w'=w:=by
 by_cases hjk:j=k
 ·subst hjk;simpa using Wm (a j) w
 ·obtain⟨c,t,hr⟩:=h.row k hk;obtain⟨c',t',hr'⟩:=h.row j hj;simpa [hjk] using Tp (a k) (a j) c c' t t' w (h.ne k j hk hj (fun e=>hjk e.symm)) hr hr'
abbrev Gs(a:Nat->Addr):Array Value:=#[.iface 452 (.pointer (some (a 0))),.iface 452 (.pointer (some (a 1))),.iface 452 (.pointer (some (a 2))),.iface 452 (.pointer (some (a 3))),.iface 452 (.pointer (some (a 4))),.iface 452 (.pointer (some (a 5))),.iface 452 (.pointer (some (a 6))),.iface 452 (.pointer (some (a 7))),.iface 452 (.pointer (some (a 8))),.iface 452 (.pointer (some (a 9))),.iface 452 (.pointer (some (a 10))),.iface 452 (.pointer (some (a 11)))]
theorem Qp(a:Nat->Addr)(w:World)(t:TypeId)(j:Nat)(hj:j<12):(w.alloc (.cells (Gs a) t)).cell? (Za w.heap.size j)=some (.iface 452 (.pointer (some (a j)))):=by
 rw[World.cell?_alloc_at _ _ _ _ rfl]
 match j,hj with
 | 0,_=>rfl
 | 1,_=>rfl
 | 2,_=>rfl
 | 3,_=>rfl
 | 4,_=>rfl
 | 5,_=>rfl
 | 6,_=>rfl
 | 7,_=>rfl
 | 8,_=>rfl
 | 9,_=>rfl
 | 10,_=>rfl
 | 11,_=>rfl
theorem JB(h:aB w d S)(ok:S.Ok)(n:Int)(hk:¬(0<=n/\n<S.safe.length))(ea:Addr)(hg:w.cell? ⟨0,0,none⟩=some (.iface 452 (.pointer (some ea))))(hp:d.p≠0):
  Zc 84 #[.pointer (some ⟨d.p,0,none⟩),.int .i64 n] w fun e w'=>
   e=.returned (.tuple #[.string ByteArray.empty,.iface 452 (.pointer (some ea))])/\aB w' d S/\Fr w w' [d.p]:=by
 have z0:w.cell? ⟨d.p,0,none⟩=some (.int .i32 0):=h.row.cell 0;have z1:=h.row.frozen 0;have h1:=h.row.set 0 (.int .i32 1);have hh:=o5 (d:=d) (S:=S) (lk:=1) h1 ok n;rw[decide_eq_false hk] at hh;have cg:(w.setCell ⟨d.p,0,none⟩ (.int .i32 1)).cell? ⟨0,0,none⟩=some (.iface 452 (.pointer (some ea))):=by rw[World.cell?_setCell_other _ _ _ _ (by simp[])];exact hg
 have HF:Hid (Fr w ((w.setCell ⟨d.p,0,none⟩ (.int .i32 1)).drew.setCell ⟨d.p,0,none⟩ (.int .i32 0)) [d.p]):=(((Fr.refl _ _).setCell _ _ (.inl (by simp))).drew).setCell _ _ (.inl (by simp));have HD:Hid (aB ((w.setCell ⟨d.p,0,none⟩ (.int .i32 1)).drew.setCell ⟨d.p,0,none⟩ (.int .i32 0)) d S):=h.turn rfl rfl (h1.drew.set 0 (.int .i32 0)) HF.out;have H1:Hid _:=h1.drew;clear h1 h;go_enter_defers func84,ntmps84;go_wp2_with(first
  | (go_at_call 57;refine(jf ⟨d.p,0,none⟩ _ z0 z1).mono ?_;rintro e w' ⟨rfl,rfl⟩)
  | (go_at_call 142;refine hh.mono ?_;rintro e w' ⟨rfl,rfl⟩))
 go_region;go_wp2;refine leaves_cons (f:=58) (args:=#[.pointer (some ⟨d.p,0,none⟩)]) (by simp) (by simp[go_sem]) ?_;refine(dV ⟨d.p,0,none⟩ .returning _ (H1.out.cell 0) (H1.out.frozen 0)).mono ?_;rintro e u' w'' ⟨rfl,rfl,rfl⟩;exact⟨_,results_tmp2 rfl _ _ _,rfl,HD.out,HF.out⟩
theorem aB.below(h:aB w d S)(hB:Below w.heap.size w w'):aB w' d S:=
 ⟨h.row.below hB h.row.lt,h.safe.below hB h.safe.lt,aT h.wait (Fr.of_below hB []) (by simp),rP h.last (Fr.of_below hB []) (by simp),h.apart⟩
structure gW(w:World)(d:DP)(S:Dk):Prop where
 row:ai w d.p 88 (d.cells S 1)
 safe:ai w d.gs 190 (jv S.safe)
 wait:w.ownsRow 0 192 65 d.wv S.wait.length (j4 S.wait)
 last:w.ownsMap (H:=Unit) prog 3 (plainElem prog 3) d.gm S.wait.length (nC S.wait)
 apart:d.blocks.Nodup
theorem aB.lock(h:aB w d S):gW (w.setCell ⟨d.p,0,none⟩ (.int .i32 1)) d S:=by
 obtain⟨n1,n2,n3,n4⟩:=h.ne;have f:Fr w (w.setCell ⟨d.p,0,none⟩ (.int .i32 1)) [d.p]:=(Fr.refl _ _).setCell _ _ (.inl (by simp));exact⟨h.row.set 0 _,f.row h.safe (by simpa using n1.symm),aT h.wait f (fun g hg=>by simp;rintro rfl;exact(n4 _ hg).1 rfl),rP h.last f (by simpa using n2.symm),h.apart⟩
theorem gW.free(h:gW w d S):aB (w.setCell ⟨d.p,0,none⟩ (.int .i32 0)) d S:=by
 have hd:aB (w.setCell ⟨d.p,0,none⟩ (.int .i32 0)) d S:=by
  have hn:=h.apart;simp only[DP.blocks,nodup_cons,mem_cons,not_or] at hn;have f:Fr w (w.setCell ⟨d.p,0,none⟩ (.int .i32 0)) [d.p]:=(Fr.refl _ _).setCell _ _ (.inl (by simp));refine⟨h.row.set 0 _,f.row h.safe (by simpa using fun e=>hn.1.1 e.symm),aT h.wait f (fun g hg=>?_),rP h.last f (by simpa using fun e=>hn.1.2.1 e.symm),h.apart⟩;rw[hg] at hn;simp;rintro rfl;simp at hn
 exact hd
theorem JA.locked(h:gW w d S)(hw:JA w w' d S 1 k x):∃d',gW w' d' {S with wait:=S.wait++[(k,x)]}/\d'.p=d.p/\(∀b∈d'.blocks,b∈d.blocks\/w.heap.size<=b)/\Fr w w' d.blocks:=by
 obtain⟨wv',h1,h2,h3,h4,h5⟩:=hw;have hn:=h.apart;have hs:=h.safe.lt;have hp:=h.row.lt;have hm:=h.last.lt;simp only[DP.blocks,nodup_cons,mem_cons,not_or] at hn;have hsub:∀b∈DP.blocks {d with wv:=wv'},b∈d.blocks\/w.heap.size<=b:=by
  intro b hb;simp only[DP.blocks,mem_cons,Zo] at hb⊢;rcases hb with hb|hb|hb|hb
  ·exact .inl (.inl hb)
  ·exact .inl (.inr (.inl hb))
  ·exact .inl (.inr (.inr (.inl hb)))
  ·rcases h4 b hb with hq|hq
   ·exact .inl (.inr (.inr (.inr hq)))
   ·exact .inr hq
 refine⟨{d with wv:=wv'},⟨h1,?_,?_,?_,?_⟩,rfl,hsub,h5.wider (by intro y hy;simp only[DP.blocks,mem_cons] at hy⊢;rcases hy with hy|hy|hy;exact .inl hy;exact .inr (.inr (.inl hy));exact .inr (.inr (.inr hy)))⟩
 ·refine h5.row h.safe ?_;simp only[mem_cons,not_or];exact⟨fun e=>hn.1.1 e.symm,hn.2.1.1,hn.2.1.2⟩
 ·simpa using h2
 ·simpa using h3
 ·show(d.p::d.gs::d.gm::wv'.ownBlock.toList).Nodup;cases hq:wv'.ownBlock with
  | none=>
   simp only[Option.toList_none,nodup_cons,mem_cons,not_mem_nil,or_false,not_or,not_false_eq_true,nodup_nil,and_true];exact⟨⟨hn.1.1,hn.1.2.1⟩,hn.2.1.1⟩
  | some g=>
   have hg:d.p≠g/\d.gs≠g/\d.gm≠g:=by
    rcases h4 g hq with hx|hx
    ·rw[hx] at hn;simp at hn;omega
    ·omega
   simp only[Option.toList_some,nodup_cons,mem_cons,not_mem_nil,or_false,not_or,not_false_eq_true,nodup_nil,and_true];exact⟨⟨hn.1.1,hn.1.2.1,hg.1⟩,⟨hn.2.1.1,hg.2.1⟩,hg.2.2⟩
theorem gW.slice(h:gW w d S):∃aw cw,d.wv=.slice aw S.wait.length cw:=by
 rcases h.wait.2 with⟨e,e0⟩|⟨g',cap',cur,e,_⟩
 ·exact⟨none,0,by rw[e,e0]⟩
 ·exact⟨_,_,e⟩
theorem gW.tick(h:gW w d S)(hr:ai w' d.p 88 (d.cells S.tick 1))(f:Fr w w' [d.p]):gW w' d S.tick:=by
 have hn:=h.apart;simp only[DP.blocks,nodup_cons,mem_cons,not_or] at hn;refine⟨hr,?_,?_,?_,h.apart⟩
 ·rw[S.tick_safe];exact f.row h.safe (by simpa using fun e=>hn.1.1 e.symm)
 ·rw[S.tick_wait];refine aT h.wait f (fun g hg=>?_);rw[hg] at hn;simp;rintro rfl;simp at hn
 ·rw[S.tick_wait];exact rP h.last f (by simpa using fun e=>hn.1.2.1 e.symm)
theorem JC(h:aB w d S)(ok:S.Ok)(k:Nat)(hk:k<S.safe.length)(x:Zy)(hx:x.size=64)(hu:S.tick.down=false)(hf:S.fuse<=9223372036854775807)(gV:S.wait.length+1<=1000000):
  Zc 81 #[.pointer (some ⟨d.p,0,none⟩),Zi k,.string x] w fun e w'=>
   e=.returned .nilIface/\(∃d',aB w' d' {S.tick with wait:=S.wait++[(k,x)]}/\d'.p=d.p/\(∀b∈d'.blocks,b∈d.blocks\/w.heap.size<=b))/\Fr w w' d.blocks:=by
 have hB:Below w.heap.size w (((w.alloc (.cells #[.pointer (some ⟨d.p,0,none⟩)] 30)).alloc (.cells #[Zi k] 3)).alloc (.cells #[.string x] 9)):=(((Zr).alloc (Zn) _).alloc (by simp) _).alloc (by simp;omega) _;have r3:ai (((w.alloc (.cells #[.pointer (some ⟨d.p,0,none⟩)] 30)).alloc (.cells #[Zi k] 3)).alloc (.cells #[.string x] 9)) w.heap.size 30 [.pointer (some ⟨d.p,0,none⟩)]:=⟨by rw[heap_alloc_old _ _ (by simp;omega),heap_alloc_old _ _ (by simp)];exact(ai.new w 30 [.pointer (some ⟨d.p,0,none⟩)]).heap⟩;have r1:ai (((w.alloc (.cells #[.pointer (some ⟨d.p,0,none⟩)] 30)).alloc (.cells #[Zi k] 3)).alloc (.cells #[.string x] 9)) (w.heap.size+1) 3 [Zi k]:=⟨by
  rw[heap_alloc_old _ _ (by simp)];have:=(ai.new (w.alloc (.cells #[.pointer (some ⟨d.p,0,none⟩)] 30)) 3 [Zi k]).heap;simpa using this⟩
 have r2:ai (((w.alloc (.cells #[.pointer (some ⟨d.p,0,none⟩)] 30)).alloc (.cells #[Zi k] 3)).alloc (.cells #[.string x] 9)) (w.heap.size+1+1) 9 [.string x]:=⟨by
  have:=(ai.new ((w.alloc (.cells #[.pointer (some ⟨d.p,0,none⟩)] 30)).alloc (.cells #[Zi k] 3)) 9 [.string x]).heap;simpa using this⟩
 have h1:=h.below hB;generalize hW:(((w.alloc (.cells #[.pointer (some ⟨d.p,0,none⟩)] 30)).alloc (.cells #[Zi k] 3)).alloc (.cells #[.string x] 9))=W at *;have lp:=h.row.lt;have lm:=h.last.lt;have z0:W.cell? ⟨d.p,0,none⟩=some (.int .i32 0):=h1.row.cell 0;have z1:=h1.row.frozen 0;have c3:W.cell? ⟨w.heap.size,0,none⟩=some (.pointer (some ⟨d.p,0,none⟩)):=r3.cell 0;have hL:=h1.lock;have s3:ai (W.setCell ⟨d.p,0,none⟩ (.int .i32 1)) w.heap.size 30 [.pointer (some ⟨d.p,0,none⟩)]:=r3.other _ (by simp;omega);have s1:ai (W.setCell ⟨d.p,0,none⟩ (.int .i32 1)) (w.heap.size+1) 3 [Zi k]:=r1.other _ (by simp;omega);have s2:ai (W.setCell ⟨d.p,0,none⟩ (.int .i32 1)) (w.heap.size+1+1) 9 [.string x]:=r2.other _ (by simp;omega);have MC:Fr w (W.setCell ⟨d.p,0,none⟩ (.int .i32 1)) d.blocks:=(Fr.of_below hB _).setCell _ _ (.inl (by simp[DP.blocks]));generalize hWL:W.setCell ⟨d.p,0,none⟩ (.int .i32 1)=L at *;have l3:L.cell? ⟨w.heap.size,0,none⟩=some (.pointer (some ⟨d.p,0,none⟩)):=s3.cell 0;have l1:L.cell? ⟨w.heap.size+1,0,none⟩=some (Zi k):=s1.cell 0;have l2:L.cell? ⟨w.heap.size+1+1,0,none⟩=some (.string x):=s2.cell 0;have hh:=o5 (d:=d) (S:=S) (lk:=1) hL.row ok k;rw[decide_eq_true (by omega)] at hh;have jD:=ok.most;have hop:=yR hL.row hu hf #[.pointer (some ⟨w.heap.size+1,0,none⟩),.pointer (some ⟨w.heap.size+1+1,0,none⟩),.pointer (some ⟨w.heap.size,0,none⟩)] (fun w'=>∃d',gW w' d' {S.tick with wait:=S.wait++[(k,x)]}/\d'.p=d.p/\(∀b∈d'.blocks,b∈d.blocks\/w.heap.size<=b)/\Fr w w' d.blocks) (by
  intro w1 hr f1;have hT:=hL.tick hr f1;obtain⟨aw,cw,hwv⟩:=hT.slice;have hn:=hT.apart;have hwt:=hT.wait;rw[hwv] at hwt;have ho:∀g,(Value.slice aw S.tick.wait.length cw).ownBlock=some g->d.p≠g/\d.gm≠g/\g<w.heap.size:=by
   intro g hg;have hq:d.wv.ownBlock=some g:=by rw[hwv];exact hg
   have:=vW h.wait g hq;have:=h.ne.2.2.2 g hq;omega
  have np:=h.ne.2.1;refine(DL hr hT.last aw cw hwv hwt (fun e=>(ho _ e).2.1 rfl) (fun e=>(ho _ e).1 rfl) k (by omega) (by rw[S.tick_wait];omega) x hx (w.heap.size+1) (w.heap.size+1+1) w.heap.size (by omega) (by omega) np (by omega) (fun e=>Nat.lt_irrefl _ (ho _ e).2.2) (f1.row s1 (by simp;omega)) (f1.row s2 (by simp;omega)) (f1.row s3 (by simp;omega))).mono ?_;rintro e w' ⟨rfl,hw'⟩;refine⟨rfl,?_⟩;obtain⟨d',a1,a2,a3,a4⟩:=JA.locked hT hw';have hs1:w.heap.size<=w1.heap.size:=Nat.le_trans MC.size f1.size;refine⟨d',by rw[S.tick_wait] at a1;exact a1,a2,fun b hb=>(a3 b hb).imp id (fun h=>by omega),(MC.trans f1 (by simp[DP.blocks])).trans a4 (fun y hy _=>hy)⟩)
 have HO:Hid _:=hop;clear h1 r1 r2 r3 s1 s2 s3 hL h hop MC hB;go_enter_defers func81,ntmps81;go_wp2_with(first
  | (go_at_call 57;refine(jf ⟨d.p,0,none⟩ _ z0 z1).mono ?_;rintro e w' ⟨rfl,rfl⟩)
  | (go_at_call 142;refine hh.mono ?_;rintro e w' ⟨rfl,rfl⟩))
 refine Calls.mono HO.out ?_;rintro e w' ⟨rfl,d',hl,hp',hsub,hfr⟩;have q0:w'.cell? ⟨d.p,0,none⟩=some (.int .i32 1):=by rw[<-hp'];exact hl.row.cell 0
 have q1:w'.frozen? ⟨d.p,0,none⟩=false:=by rw[<-hp'];exact hl.row.frozen 0
 have HD:Hid (aB (w'.setCell ⟨d.p,0,none⟩ (.int .i32 0)) d' {S.tick with wait:=S.wait++[(k,x)]}):=by rw[<-hp'];exact hl.free
 have HF:Hid (Fr w (w'.setCell ⟨d.p,0,none⟩ (.int .i32 0)) d.blocks):=hfr.setCell _ _ (.inl (by simp[DP.blocks]));clear hl hfr;go_wp2;refine leaves_cons (f:=58) (args:=#[.pointer (some ⟨d.p,0,none⟩)]) (by simp) (by simp[go_sem]) ?_;refine(dV ⟨d.p,0,none⟩ .returning _ q0 q1).mono ?_;rintro e u' w'' ⟨rfl,rfl,rfl⟩;exact⟨_,results_tmp rfl _ _ _,rfl,⟨d',HD.out,hp',hsub⟩,HF.out⟩
theorem DN(h:aB w d S)(ok:S.Ok)(k:Nat)(hk:k<S.safe.length)(x:Zy)(hx:x.size=64)(hu:S.tick.down=true)(hf:S.fuse<=9223372036854775807)(ea:Addr)(hg:w.cell? ⟨1,0,none⟩=some (.iface 452 (.pointer (some ea))))(hp1:d.p≠1):
  Zc 81 #[.pointer (some ⟨d.p,0,none⟩),Zi k,.string x] w fun e w'=>
   e=.returned (.iface 452 (.pointer (some ea)))/\aB w' d S.tick/\Fr w w' [d.p]:=by
 have hB:Below w.heap.size w (((w.alloc (.cells #[.pointer (some ⟨d.p,0,none⟩)] 30)).alloc (.cells #[Zi k] 3)).alloc (.cells #[.string x] 9)):=(((Zr).alloc (Zn) _).alloc (by simp) _).alloc (by simp;omega) _;have r3:ai (((w.alloc (.cells #[.pointer (some ⟨d.p,0,none⟩)] 30)).alloc (.cells #[Zi k] 3)).alloc (.cells #[.string x] 9)) w.heap.size 30 [.pointer (some ⟨d.p,0,none⟩)]:=⟨by rw[heap_alloc_old _ _ (by simp;omega),heap_alloc_old _ _ (by simp)];exact(ai.new w 30 [.pointer (some ⟨d.p,0,none⟩)]).heap⟩;have r1:ai (((w.alloc (.cells #[.pointer (some ⟨d.p,0,none⟩)] 30)).alloc (.cells #[Zi k] 3)).alloc (.cells #[.string x] 9)) (w.heap.size+1) 3 [Zi k]:=⟨by
  rw[heap_alloc_old _ _ (by simp)];have:=(ai.new (w.alloc (.cells #[.pointer (some ⟨d.p,0,none⟩)] 30)) 3 [Zi k]).heap;simpa using this⟩
 have r2:ai (((w.alloc (.cells #[.pointer (some ⟨d.p,0,none⟩)] 30)).alloc (.cells #[Zi k] 3)).alloc (.cells #[.string x] 9)) (w.heap.size+1+1) 9 [.string x]:=⟨by
  have:=(ai.new ((w.alloc (.cells #[.pointer (some ⟨d.p,0,none⟩)] 30)).alloc (.cells #[Zi k] 3)) 9 [.string x]).heap;simpa using this⟩
 have h1:=h.below hB;generalize hW:(((w.alloc (.cells #[.pointer (some ⟨d.p,0,none⟩)] 30)).alloc (.cells #[Zi k] 3)).alloc (.cells #[.string x] 9))=W at *;have lp:=h.row.lt;have lm:=h.last.lt;have z0:W.cell? ⟨d.p,0,none⟩=some (.int .i32 0):=h1.row.cell 0;have z1:=h1.row.frozen 0;have c3:W.cell? ⟨w.heap.size,0,none⟩=some (.pointer (some ⟨d.p,0,none⟩)):=r3.cell 0;have hL:=h1.lock;have s3:ai (W.setCell ⟨d.p,0,none⟩ (.int .i32 1)) w.heap.size 30 [.pointer (some ⟨d.p,0,none⟩)]:=r3.other _ (by simp;omega);have s1:ai (W.setCell ⟨d.p,0,none⟩ (.int .i32 1)) (w.heap.size+1) 3 [Zi k]:=r1.other _ (by simp;omega);have s2:ai (W.setCell ⟨d.p,0,none⟩ (.int .i32 1)) (w.heap.size+1+1) 9 [.string x]:=r2.other _ (by simp;omega);have MC:Fr w (W.setCell ⟨d.p,0,none⟩ (.int .i32 1)) [d.p]:=(Fr.of_below hB _).setCell _ _ (.inl (by simp));generalize hWL:W.setCell ⟨d.p,0,none⟩ (.int .i32 1)=L at *;have l3:L.cell? ⟨w.heap.size,0,none⟩=some (.pointer (some ⟨d.p,0,none⟩)):=s3.cell 0;have l1:L.cell? ⟨w.heap.size+1,0,none⟩=some (Zi k):=s1.cell 0;have l2:L.cell? ⟨w.heap.size+1+1,0,none⟩=some (.string x):=s2.cell 0;have hh:=o5 (d:=d) (S:=S) (lk:=1) hL.row ok k;rw[decide_eq_true (by omega)] at hh;have jD:=ok.most;have gL:L.cell? ⟨1,0,none⟩=some (.iface 452 (.pointer (some ea))):=by
  rw[<-hWL,World.cell?_setCell_other _ _ _ _ (by simp[]),World.cell?_of_block (hB.block 1 (World.block_lt_of_cell? w _ hg))];exact hg
 have hop:=sW hL.row hu hf (.func (.func 144) #[] #[.pointer (some ⟨w.heap.size+1,0,none⟩),.pointer (some ⟨w.heap.size+1+1,0,none⟩),.pointer (some ⟨w.heap.size,0,none⟩)]) ea gL hp1;have HK:Hid (∀w',ai w' d.p 88 (d.cells S.tick 1)->Fr L w' [d.p]->aB (w'.setCell ⟨d.p,0,none⟩ (.int .i32 0)) d S.tick/\Fr w (w'.setCell ⟨d.p,0,none⟩ (.int .i32 0)) [d.p]):=by
  intro w' hr f;exact⟨(hL.tick hr f).free,(MC.trans f (by simp)).setCell _ _ (.inl (by simp))⟩
 have HO:Hid _:=hop;clear h1 r1 r2 r3 s1 s2 s3 hL h hop MC hB;go_enter_defers func81,ntmps81;go_wp2_with(first
  | (go_at_call 57;refine(jf ⟨d.p,0,none⟩ _ z0 z1).mono ?_;rintro e w' ⟨rfl,rfl⟩)
  | (go_at_call 142;refine hh.mono ?_;rintro e w' ⟨rfl,rfl⟩))
 refine Calls.mono HO.out ?_;rintro e w' ⟨rfl,hr,f⟩;have q0:w'.cell? ⟨d.p,0,none⟩=some (.int .i32 1):=hr.cell 0;have q1:=hr.frozen 0;have HD:=HK.out w' hr f;have HE:Hid _:=HD;clear hr f HD;go_wp2;refine leaves_cons (f:=58) (args:=#[.pointer (some ⟨d.p,0,none⟩)]) (by simp) (by simp[go_sem]) ?_;refine(dV ⟨d.p,0,none⟩ .returning _ q0 q1).mono ?_;rintro e u' w'' ⟨rfl,rfl,rfl⟩;exact⟨_,results_tmp rfl _ _ _,rfl,HE.out⟩
def mQ:List Value->Nat->List Value->List Value
 | l,_,[]=>l
 | l,o,v::r=>mQ (l.set o v) (o+1) r
theorem JD(vs:List Value):∀(l:List Value) (o i:Nat),o+vs.length<=l.length->(mQ l o vs)[i]? =if o<=i/\i<o+vs.length then vs[i-o]? else l[i]? :=by
 induction vs with
 | nil=>intro l o i _;simp only[mQ,length_nil,Nat.add_zero];rw[if_neg (by omega)]
 | cons v r ih=>
  intro l o i h;rw[length_cons] at h;rw[mQ,ih _ _ _ (by rw[length_set];omega),length_cons];by_cases h1:o=i
  ·subst h1;rw[if_neg (by omega),if_pos (by omega),getElem?_set_self (by omega)];simp
  ·rw[getElem?_set_ne h1];by_cases h2:o+1<=i/\i<o+1+r.length
   ·rw[if_pos h2,if_pos (by omega),show i-o=(i-(o+1))+1 by omega];simp
   ·rw[if_neg h2,if_neg (by omega)]
theorem JE(vs:List Value):∀{w:World} {g:Nat} {t:TypeId} {l:List Value} (o:Nat),ai w g t l->ai (w.setCells g o vs) g t (mQ l o vs):=by
 induction vs with
 | nil=>intro w g t l o h;exact h
 | cons v r ih=>intro w g t l o h;exact ih (o+1) (h.set o v)
theorem Au(vs:List Value):∀{w w':World} {bs:List Nat} (g o:Nat),Fr w w' bs->(g∈bs\/w.heap.size<=g)->Fr w (w'.setCells g o vs) bs:=by
 induction vs with
 | nil=>intro w w' bs g o h _;exact h
 | cons v r ih=>intro w w' bs g o h hg;exact ih g (o+1) (h.setCell (Za g o) v hg) hg
theorem Bo{t:TypeId}{l:List Zy}(h:ai w g t (jv l))(hs:∀x∈l,x.size=64)(k:Nat)(hk:k<l.length)(x:Zy)(hx:x.size=64):ai (w.setCells g (k*64) (bytes (af x))) g t (jv (l.set k x)):=by
 have h1:=JE (bytes (af x)) (k*64) h;have hl:=zI l hs;have e:mQ (jv l) (k*64) (bytes (af x))=jv (l.set k x):=by
  apply ext_getElem?;intro i;rw[JD _ _ _ _ (by rw[dZ x hx,hl];omega),dZ x hx];exact(SQ _ 64 l (fun y hy=>dZ y (hs y hy)) k hk x (dZ x hx) i).symm
 rw[e] at h1;exact h1
theorem Bp(l:List Zy)(ws:List (Nat × Zy))(j:Nat)(hj:j<ws.length):over l (ws.take (j+1))=(over l (ws.take j)).set ws[j].1 ws[j].2:=by
 rw[take_add_one,getElem?_eq_getElem hj,Option.toList_some,uM]
theorem Bq(l:List Zy)(ws:List (Nat × Zy))(h:∀x∈l,x.size=64)(hw:∀x∈ws,x.2.size=64):∀x∈over l ws,x.size=64:=by
 induction ws generalizing l with
 | nil=>exact h
 | cons y ws ih=>
  intro x hx;refine ih (l.set y.1 y.2) ?_ (fun z hz=>hw z (mem_cons_of_mem _ hz)) x hx;intro z hz;rcases mem_or_eq_of_mem_set hz with hz|hz
  ·exact h z hz
  ·rw[hz];exact hw y mem_cons_self
def aav:Code->Code
 | .cond _ a _=>a
 | c=>c
noncomputable def Tq:Code:=Tryz.f148.body.getD .skip
noncomputable def ZN:Code:=VU (VU (jQ (Ga Tq)))
noncomputable def fl3:Code:=jQ (VU (Ga (jQ (jQ ZN))))
noncomputable def Tt:Code:=Tryz.f59.body.getD .skip
noncomputable def ZO:Code:=VU (VU (jQ (Ga (jQ (jQ Tt)))))
noncomputable def cr7:Code:=jQ (aav (jQ (jQ (VU (Ga (jQ (jQ ZO)))))))
theorem Wo(p gs wb n k:Nat)(b:Nat)(D:List Value)(w:World)(R:Act->World->Prop)
  (cb:w.cell? (Za b 0)=some (Zp p)) (nb:b≠gs)
  (cp:w.cell? (Za p 2)=some (.slice (Zs gs) n n)) (ca:w.cell? (Za wb 0)=some (Zi k)) (hrg:w.rangeAt wb 1 D) (hD:D.length=64) (h1:∀v∈D,v.oneCell'=true)
  (hk:k<n) (_hn:n<=4096) (ht:w.there gs (k*64) 64) (np:p≠gs) (nw:wb≠gs)
  (hQ:Hid (∀(y12 y13 OZ O0 O1 O3 O4 Vl y20:Value),R ⟨#[Zp b,x1,Zp wb,x3,x4,x5,x6,x7,x8,x9,x10,Mi,y12,y13,OZ,O0,O1,O3,O4,Vl,y20,x21,Bh,x23],[]⟩ (w.drew.setCells gs (k*64) D))):
  Code.wp prog fl3 (At R) ⟨#[Zp b,x1,Zp wb,x3,x4,x5,x6,x7,x8,x9,x10,Mi,OU,OV,qx,EL,EM,EN,x18,DK,x20,x21,Bh,x23],[]⟩ w:=by
 conv=>arg 2;whnf
 have hiD:(prog.info? 190).map (·.size)=some D.length:=by rw[hD];exact xw
 have k0:(0:Int)<=(k:Int):=by omega
 have k1:(k:Int)<(n:Int):=by omega
 refine wp_region_held_drew (S:=fun w'=>w'.cell? (Za b 0)=some (Zp p)/\w'.cell? (Za p 2)=some (.slice (Zs gs) n n)/\w'.cell? (Za wb 0)=some (Zi k)/\w'.rangeAt wb 1 D) (by kernel_rfl) ⟨by simpa using cb,by simpa using cp,by simpa using ca,by simpa using hrg⟩ (fun ah=>?_);refine Zt 0 (Zp p) ?_;refine Zt 1 (Zp p) ?_;refine Zt 2 (.pointer (some (Za p 2))) ?_;refine Zt 3 (.slice (Zs gs) n n) ?_ (hy:=Or.inl ⟨by rfl,by intro w hSw;go_split_ands;go_simp⟩);refine Zt 4 (Zp wb) ?_;refine Zt 5 (Zi k) ?_ (hy:=Or.inl ⟨by rfl,by intro w hSw;go_split_ands;go_simp⟩);refine Zt 6 (.pointer (some (Za wb 1))) ?_;refine Zt 7 (.agg D.toArray) ?_ (hy:=yieldsIf_load_mid (by rfl) _ _ rfl wb 1 rfl D _ (fun w h=>by go_split_ands;assumption) underlying190 rfl hiD);refine Zt 8 (.pointer (some (Za gs (k*64)))) ?_;refine Zh 9 fun K hK=>?_;rw[if_pos (by rfl)];refine wp_store_mid _ _ _ rfl gs (k*64) D.toArray rfl rfl (by simpa [hD] using ht) (by simpa using hiD) (all_oneCell_toArray h1) ?_;have hap:∀(a:Addr),a.block≠gs->(w.drew.setCells gs (k*64) D.toArray.toList).cell? a=w.drew.cell? a:=fun a ha=>World.cell?_setCells_out gs _ _ _ a (fun hb=>absurd hb ha);refine hK.out _ _ ?_ (fun ZP=>?_)
 ·go_split_ands;refine⟨by rw[hap _ nb];assumption,by rw[hap _ np];assumption,by rw[hap _ nw];assumption,World.rangeAt_setCells_apart (by assumption) _ _ _ (.inl nw)⟩
 clear hK K;simp only[Act.put];refine Zx ?_;exact hQ.out _ _ _ _ _ _ _ _ _
theorem Wp{df:List Deferred}{x24 x25 Jl x27 x28 x29 x30 x31 x32 ME x34 MF MG Qq x38 x39 x40 x41 Vm x43 Vn Vo Vp Tv RX RY RZ R3 R8 Sb x54 x55:Value}(p gs wb n k:Nat)(D:List Value)(w:World)(R:Act->World->Prop)
  (cp:w.cell? (Za p 2)=some (.slice (Zs gs) n n)) (ca:w.cell? (Za wb 0)=some (Zi k)) (hrg:w.rangeAt wb 1 D) (hD:D.length=64) (h1:∀v∈D,v.oneCell'=true)
  (hk:k<n) (_hn:n<=4096) (ht:w.there gs (k*64) 64) (np:p≠gs) (nw:wb≠gs)
  (hQ:Hid (∀(y38 y39 Yb Tw Tx Tz TA TB TD:Value),R ⟨#[Zp p,x1,x2,x3,x4,x5,Zp wb,x7,x8,x9,x10,Mi,OU,OV,qx,EL,EM,EN,x18,DK,x20,x21,Bh,x23,x24,x25,Jl,x27,x28,x29,x30,x31,x32,ME,x34,MF,MG,Qq,y38,y39,Yb,Tw,Tx,Tz,TA,TB,TD,Tv,RX,RY,RZ,R3,R8,Sb,x54,x55],df⟩ (w.drew.setCells gs (k*64) D))):
  Code.wp prog cr7 (At R) ⟨#[Zp p,x1,x2,x3,x4,x5,Zp wb,x7,x8,x9,x10,Mi,OU,OV,qx,EL,EM,EN,x18,DK,x20,x21,Bh,x23,x24,x25,Jl,x27,x28,x29,x30,x31,x32,ME,x34,MF,MG,Qq,x38,x39,x40,x41,Vm,x43,Vn,Vo,Vp,Tv,RX,RY,RZ,R3,R8,Sb,x54,x55],df⟩ w:=by
 conv=>arg 2;whnf
 have hiD:(prog.info? 190).map (·.size)=some D.length:=by rw[hD];exact xw
 have k0:(0:Int)<=(k:Int):=by omega
 have k1:(k:Int)<(n:Int):=by omega
 refine wp_region_held_drew (S:=fun w'=>w'.cell? (Za p 2)=some (.slice (Zs gs) n n)/\w'.cell? (Za wb 0)=some (Zi k)/\w'.rangeAt wb 1 D) (by kernel_rfl) ⟨by simpa using cp,by simpa using ca,by simpa using hrg⟩ (fun ah=>?_);refine Zt 0 (Zp p) ?_;refine Zt 1 (Zp p) ?_;refine Zt 2 (.pointer (some (Za p 2))) ?_;refine Zt 3 (.slice (Zs gs) n n) ?_ (hy:=Or.inl ⟨by rfl,by intro w hSw;go_split_ands;go_simp⟩);refine Zt 4 (Zp wb) ?_;refine Zt 5 (Zi k) ?_ (hy:=Or.inl ⟨by rfl,by intro w hSw;go_split_ands;go_simp⟩);refine Zt 6 (.pointer (some (Za wb 1))) ?_;refine Zt 7 (.agg D.toArray) ?_ (hy:=yieldsIf_load_mid (by rfl) _ _ rfl wb 1 rfl D _ (fun w h=>by go_split_ands;assumption) underlying190 rfl hiD);refine Zt 8 (.pointer (some (Za gs (k*64)))) ?_;refine Zh 9 fun K hK=>?_;rw[if_pos (by rfl)];refine wp_store_mid _ _ _ rfl gs (k*64) D.toArray rfl rfl (by simpa [hD] using ht) (by simpa using hiD) (all_oneCell_toArray h1) ?_;have hap:∀(a:Addr),a.block≠gs->(w.drew.setCells gs (k*64) D.toArray.toList).cell? a=w.drew.cell? a:=fun a ha=>World.cell?_setCells_out gs _ _ _ a (fun hb=>absurd hb ha);refine hK.out _ _ ?_ (fun ZP=>?_)
 ·go_split_ands;refine⟨by rw[hap _ np];assumption,by rw[hap _ nw];assumption,World.rangeAt_setCells_apart (by assumption) _ _ _ (.inl nw)⟩
 clear hK K;simp only[Act.put];refine Zx ?_;exact hQ.out _ _ _ _ _ _ _ _ _
theorem Qr(h:w.ownsMap prog 3 (plainElem prog 3) gm n D):
  ∃w',(∀ty,(Builtin.clear_ #[78] ty #[.map (some gm)]).run prog w=.ok (.tuple #[]) w')/\w'.ownsMap (H:=Unit) prog 3 (plainElem prog 3) gm 0 (.map [])/\w.mapTurned w' gm:=by
 obtain⟨es,clock,hb,_,_,_⟩:=h;refine⟨ChangeMaps.setBlock w gm (.map #[] clock),fun ty=>?_,⟨#[],clock,ChangeMaps.heap_setBlock_same hb _,⟨by simp,MapKept.stamped_empty clock,by simp⟩,Zn,rfl⟩,⟨es,clock,#[],clock,hb,rfl⟩⟩;simp[Builtin.clear_,run_underlying underlying78,MapKept.run_getObj_map hb,MapKept.run_setObj_map _ hb,Result.andThen];rfl
theorem vJ{lk:Int}(h:ai w d.p 88 (d.cells S lk))(hm:w.ownsMap prog 3 (plainElem prog 3) d.gm n D)(hne:d.p≠d.gm):
  Zc 104 #[Zp d.p] w fun e w'=>e=.returned (.tuple #[])/\ai w' d.p 88 ({d with wv:=.slice none 0 0}.cells S lk)/\w'.ownsMap (H:=Unit) prog 3 (plainElem prog 3) d.gm 0 (.map [])/\Fr w w' [d.p,d.gm]:=by
 obtain⟨w1,ZQ,hm1,ht⟩:=Qr hm;have hf1:Fr w w1 [d.p,d.gm]:=(Fr.refl _ _).grown ht.grown (by simp);have h1:ai w1 d.p 88 (d.cells S lk):=⟨by rw[ht.grown.block d.p h.lt (by simpa using hne)];exact h.heap⟩;have c4:w.cell? (Za d.p 4)=some (.map (some d.gm)):=h.cell 4;have c3:w1.cell? (Za d.p 3)=some d.wv:=h1.cell 3;have f3:=h1.frozen 3;have HR:Hid (ai (w1.setCell (Za d.p 3) (.slice none 0 0)) d.p 88 ({d with wv:=.slice none 0 0}.cells S lk)):=h1.set 3 (.slice none 0 0);have HM:Hid ((w1.setCell (Za d.p 3) (.slice none 0 0)).ownsMap (H:=Unit) prog 3 (plainElem prog 3) d.gm 0 (.map [])):=hm1.setCell (by simpa using hne.symm) _;have HF:Hid (Fr w (w1.setCell (Za d.p 3) (.slice none 0 0)) [d.p,d.gm]):=hf1.setCell _ _ (.inl (by simp));clear h1 hm1 ht hf1 h hm;go_enter func104,ntmps104;go_wp2;go_end0;exact⟨rfl,HR.out,HM.out,HF.out⟩
noncomputable def flA:Code:=Ga Tq
theorem gW.ne(h:gW w d S):d.p≠d.gs/\d.p≠d.gm/\d.gs≠d.gm/\(∀g,d.wv.ownBlock=some g->d.p≠g/\d.gs≠g/\d.gm≠g):=by
 have hn:=h.apart;simp only[DP.blocks,nodup_cons,mem_cons,not_or] at hn;refine⟨hn.1.1,hn.1.2.1,hn.2.1.1,fun g hg=>?_⟩;rw[hg] at hn;simp at hn;omega
theorem gW.waits(h:gW w d S)(hne:0<S.wait.length):∃g cap,d.wv=.slice (some ⟨g,0,none⟩) S.wait.length cap/\Has w g 192 cap 65 (j4 S.wait)/\S.wait.length<=cap/\cap<=maxLen/\d.p≠g/\d.gs≠g/\d.gm≠g:=by
 rcases h.wait.2 with⟨e,e0⟩|⟨g,cap,cur,e,_⟩
 ·omega
 ·have hw:=h.wait;rw[e] at hw;obtain⟨h1,h2,h3⟩:=jA hw;exact⟨g,cap,e,h1,h2,h3,h.ne.2.2.2 g (by rw[e];rfl)⟩
theorem Wq(h:gW w d S)(ok:S.Ok)(b:Nat)(r:ai w b 30 [.pointer (some ⟨d.p,0,none⟩)])(nb:b≠d.gs)(R:Act->World->Prop)
  (hQ:Hid (∀(y2 y3 y4 y5 y6 y7 y8 y9 ZR ZT y12 y13 OZ O0 O1 O3 O4 Vl y20 y21:Value) (w':World),ai w' d.gs 190 (jv S.seen)->Fr w w' [d.gs]->R ⟨#[.pointer (some ⟨b,0,none⟩),x1,y2,y3,y4,y5,y6,y7,y8,y9,ZR,ZT,y12,y13,OZ,O0,O1,O3,O4,Vl,y20,y21,Bh,x23],[]⟩ w')):
  Code.wp prog flA (At R) ⟨#[.pointer (some ⟨b,0,none⟩),x1,x2,x3,x4,x5,x6,x7,x8,x9,x10,Mi,OU,OV,qx,EL,EM,EN,x18,DK,x20,x21,Bh,x23],[]⟩ w:=by
 conv=>arg 2;whnf
 obtain⟨np,Yc,Ws,ZU⟩:=h.ne;obtain⟨aw,cw,hwv⟩:=h.slice;have gV:=ok.few;have jD:=ok.most;have c3:w.cell? ⟨d.p,3,none⟩=some (.slice aw S.wait.length cw):=by rw[<-hwv];exact h.row.cell 3
 have cb:w.cell? ⟨b,0,none⟩=some (.pointer (some ⟨d.p,0,none⟩)):=r.cell 0;have HW:Hid _:=h;have HB:Hid _:=r;clear h r;refine dM ?_;go_wp2;show Code.wp _ _ _ _ _;refine wp_block ?_;go_loopw [8] (fun i wr=>∃j:Nat,j<=S.wait.length/\i=.int .i64 j/\ai wr d.gs 190 (jv (over S.safe (S.wait.take j)))/\Fr w wr [d.gs]) (fun i _=>S.wait.length-(intOf i).toNat)
 case atStart=>exact⟨0,Nat.zero_le _,rfl,by simpa [over] using HW.out.safe,Fr.refl _ _⟩
 case round=>
  obtain⟨j,hj,rfl,hs,hf⟩:=hrel;by_cases hlt:j<S.wait.length
  ·obtain⟨g,cap,ZV,hw,hlc,hcm,m1,m2,m3⟩:=HW.out.waits (by omega);have e:=hwv.symm.trans ZV;injection e with e1 _ e2
   subst e1 e2;have hsz:=fun x hx=>(ok.wr x hx).2;have hwr:=hw.fr hf (by simpa using m2.symm);have hrg:=rJ hwr hsz j hlt;have hat:=(ok.wr _ (getElem_mem hlt)).1;have Gt:=hsz _ (getElem_mem hlt);have hstep:=Bp S.safe S.wait j hlt;generalize S.wait[j].1=k at *;generalize S.wait[j].2=x at *;have vo:=dZ x Gt;have rp:=hf.row HW.out.row (by simpa using np);have rb:=hf.row HB.out (by simpa using nb);have hB:∀o,Below wr.heap.size wr (wr.alloc o):=fun o=>(Below.refl _ _).alloc (Nat.le_refl _) _;have cb2:∀o,(wr.alloc o).cell? ⟨b,0,none⟩=some (.pointer (some ⟨d.p,0,none⟩)):=fun o=>(rb.below (hB o) rb.lt).cell 0;have cp2:∀o,(wr.alloc o).cell? ⟨d.p,2,none⟩=some (.slice (some ⟨d.gs,0,none⟩) S.safe.length S.safe.length):=fun o=>(rp.below (hB o) rp.lt).cell 2;have hos:=Bq S.safe (S.wait.take j) ok.sec (fun x hx=>hsz x (mem_of_mem_take hx));have hol:=ng S.safe (S.wait.take j);have hs2:∀o,ai (wr.alloc o) d.gs 190 (jv (over S.safe (S.wait.take j))):=fun o=>hs.below (hB o) hs.lt;have ht2:=fun o=>Bd (hs2 o) hos k (by omega);have ZW:=ai.new wr 192 (.int .i64 (k:Nat)::bytes (af x));have ca2:(wr.alloc (.cells (.int .i64 (k:Nat)::bytes (af x)).toArray 192)).cell? ⟨wr.heap.size,0,none⟩=some (.int .i64 (k:Nat)):=ZW.cell 0;have hrg2:(wr.alloc (.cells (.int .i64 (k:Nat)::bytes (af x)).toArray 192)).rangeAt wr.heap.size 1 (bytes (af x)):=by
    intro i v hv;rw[ZW.cell,Nat.add_comm 1 i,getElem?_cons_succ,hv]
   have hsl:=hs.lt;have HN:Hid (ai ((wr.alloc (.cells (.int .i64 (k:Nat)::bytes (af x)).toArray 192)).drew.setCells d.gs (k*64) (bytes (af x))) d.gs 190 (jv (over S.safe (S.wait.take (j+1))))):=by
    rw[hstep];exact Bo (hs2 _).drew hos k (by omega) x Gt
   have HF:Hid (Fr w ((wr.alloc (.cells (.int .i64 (k:Nat)::bytes (af x)).toArray 192)).drew.setCells d.gs (k*64) (bytes (af x))) [d.gs]):=Au _ _ _ (hf.alloc _).drew (.inl (by simp));have hone:∀v∈bytes (af x),v.oneCell'=true:=by
    intro v hv;obtain⟨n,_,rfl⟩:=mem_map.1 hv;rfl
   have om:(.int .i64 (k:Nat)::bytes (af x):List Value).toArray.all (·.oneCell')=true:=all_oneCell_toArray (by
    intro v hv;rcases mem_cons.1 hv with rfl|hv
    ·rfl
    ·exact hone v hv)
   have hlC:(.int .i64 (k:Nat)::bytes (af x):List Value).length=65:=by rw[length_cons,vo]
   generalize bytes (af x)=D at *;generalize(.int .i64 (k:Nat)::D:List Value)=C at *;have jR:(prog.info? 192).map (·.size)=some C.length:=by rw[hlC];exact Gb
   have ZX:(prog.info? 192).map (·.size)=some C.toArray.size:=jR;have vv:(zeroCells192).size=C.toArray.size:=by rw[show C.toArray.size=65 from hlC,Jk];simp
   have HT:Hid _:=ht2;have HR2:Hid _:=hrg2;have HO:Hid _:=hone;clear hs hs2 ZW rb rp hB hwr hf hw hos ht2 hrg2 hone hsz hstep;go_wp2_with(first
    | (refine wpList_load_mid rfl 192 _ rfl g (j*65) rfl _ _ hrg underlying192 rfl jR ?_)
    | (refine aJ rfl 192 _ _ rfl wr.heap.size _ C.toArray rfl rfl rfl ZX vv om ?_))
   refine bF (Wo d.p d.gs wr.heap.size S.safe.length k b D _ _ (cb2 _) nb (cp2 _) ca2 HR2.out vo HO.out hat jD (HT.out _) np (by omega) ?_);refine fun y12 y13 OZ O0 O1 O3 O4 Vl y20=>?_;unfold Zp;go_wp2;exact⟨⟨j+1,by omega,by go_num,HN.out,HF.out⟩,by simp[intOf];omega⟩
  ·have ej:j=S.wait.length:=by omega
   subst ej;rw[take_length] at hs;have HS:Hid _:=hs;clear hs;go_wp2;exact hQ.out _ _ _ _ _ _ _ _ _ _ _ _ _ _ _ _ _ _ _ _ _ HS.out hf
theorem DR(h:gW w d S)(ok:S.Ok)(b:Nat)(r:ai w b 30 [.pointer (some ⟨d.p,0,none⟩)])(nb:b≠d.gs):
  Calls prog 148 #[.pointer (some ⟨b,0,none⟩)] w fun e w'=>e=.returned (.tuple #[])/\gW w' {d with wv:=.slice none 0 0} {S with safe:=S.seen,wait:=[]}/\Fr w w' d.blocks:=by
 obtain⟨np,Yc,Ws,ZU⟩:=h.ne;have HQ:Hid (∀w1:World,ai w1 d.gs 190 (jv S.seen)->Fr w w1 [d.gs]->∀w2,ai w2 d.p 88 ({d with wv:=.slice none 0 0}.cells S 1)->w2.ownsMap (H:=Unit) prog 3 (plainElem prog 3) d.gm 0 (.map [])->Fr w1 w2 [d.p,d.gm]->gW w2 {d with wv:=.slice none 0 0} {S with safe:=S.seen,wait:=[]}/\Fr w w2 d.blocks):=by
  intro w1 hs f1 w2 hr hm f2;refine⟨⟨?_,f2.row hs (by simp;exact⟨np.symm,Ws⟩),World.ownsRow_nil _ _ _ _,hm,?_⟩,(f1.wider (by simp[DP.blocks])).trans f2 (by intro y hy _;simp at hy;rcases hy with rfl|rfl<;>simp[DP.blocks])⟩
  ·show ai _ _ _ [_,_,.slice (some ⟨d.gs,0,none⟩) S.seen.length S.seen.length,_,_,_,_];rw[S.seen_length];exact hr
  ·show(d.p::d.gs::d.gm::[]).Nodup;simp only[nodup_cons,mem_cons,not_mem_nil,or_false,not_or,not_false_eq_true,nodup_nil,and_true];exact⟨⟨np,Yc⟩,Ws⟩
 go_enter func148,ntmps148;refine dM (Wq h ok b r nb _ ?_);refine fun y2 y3 y4 y5 y6 y7 y8 y9 ZR ZT y12 y13 OZ O0 O1 O3 O4 Vl y20 y21 w1 hs f1=>?_;show Code.wp _ _ _ _ _;have rp:=f1.row h.row (by simpa using np);have rb:w1.cell? ⟨b,0,none⟩=some (.pointer (some ⟨d.p,0,none⟩)):=(f1.row r (by simpa using nb)).cell 0;have hm1:=rP h.last f1 (by simpa using Ws.symm);have hfo:=vJ rp hm1 Yc;have HK:=HQ.out w1 hs f1;have HL:Hid _:=HK;clear h r rp hm1 hs f1 HK;go_wp2_with(go_at_call 104;refine hfo.mono ?_;rintro e w' ⟨rfl,h1,h2,h3⟩);go_end0;exact⟨rfl,HL.out _ h1 h2 h3⟩
theorem JF(h:aB w d S)(ok:S.Ok)(hu:S.tick.down=false)(hf:S.fuse<=9223372036854775807):
  Zc 83 #[.pointer (some ⟨d.p,0,none⟩)] w fun e w'=>
   e=.returned .nilIface/\(∃d',aB w' d' {S.tick with safe:=S.seen,wait:=[]}/\d'.p=d.p/\(∀b∈d'.blocks,b∈d.blocks\/w.heap.size<=b))/\Fr w w' d.blocks:=by
 have hB:Below w.heap.size w (w.alloc (.cells #[.pointer (some ⟨d.p,0,none⟩)] 30)):=(Zr).alloc (Zn) _;have r3:ai (w.alloc (.cells #[.pointer (some ⟨d.p,0,none⟩)] 30)) w.heap.size 30 [.pointer (some ⟨d.p,0,none⟩)]:=ai.new w 30 [.pointer (some ⟨d.p,0,none⟩)];have h1:=h.below hB;generalize hW:(w.alloc (.cells #[.pointer (some ⟨d.p,0,none⟩)] 30))=W at *;have lp:=h.row.lt;have lm:=h.last.lt;have ls:=h.safe.lt;have z0:W.cell? ⟨d.p,0,none⟩=some (.int .i32 0):=h1.row.cell 0;have z1:=h1.row.frozen 0;have c3:W.cell? ⟨w.heap.size,0,none⟩=some (.pointer (some ⟨d.p,0,none⟩)):=r3.cell 0;have hL:=h1.lock;have s3:ai (W.setCell ⟨d.p,0,none⟩ (.int .i32 1)) w.heap.size 30 [.pointer (some ⟨d.p,0,none⟩)]:=r3.other _ (by simp;omega);have MC:Fr w (W.setCell ⟨d.p,0,none⟩ (.int .i32 1)) d.blocks:=(Fr.of_below hB _).setCell _ _ (.inl (by simp[DP.blocks]));generalize hWL:W.setCell ⟨d.p,0,none⟩ (.int .i32 1)=L at *;have l3:L.cell? ⟨w.heap.size,0,none⟩=some (.pointer (some ⟨d.p,0,none⟩)):=s3.cell 0;have hop:=yS hL.row hu hf #[.pointer (some ⟨w.heap.size,0,none⟩)] (fun w'=>gW w' {d with wv:=.slice none 0 0} {S.tick with safe:=S.seen,wait:=[]}/\Fr w w' d.blocks) (by
  intro w1 hr f1;have hT:=hL.tick hr f1;refine(DR hT ok.tick w.heap.size (f1.row s3 (by simp;omega)) (by omega)).mono ?_;rintro e w' ⟨rfl,a1,a2⟩;refine⟨rfl,?_,(MC.trans f1 (by simp[DP.blocks])).trans a2 (fun y hy _=>hy)⟩;rw[S.tick_seen] at a1;exact a1)
 have HO:Hid _:=hop;clear h1 r3 s3 hL h hop MC hB;go_enter_defers func83,ntmps83;go_wp2_with(go_at_call 57;refine(jf ⟨d.p,0,none⟩ _ z0 z1).mono ?_;rintro e w' ⟨rfl,rfl⟩);refine Calls.mono HO.out ?_;rintro e w' ⟨rfl,hl,hfr⟩;have q0:w'.cell? ⟨d.p,0,none⟩=some (.int .i32 1):=hl.row.cell 0;have q1:w'.frozen? ⟨d.p,0,none⟩=false:=hl.row.frozen 0;have HD:Hid (aB (w'.setCell ⟨d.p,0,none⟩ (.int .i32 0)) {d with wv:=.slice none 0 0} {S.tick with safe:=S.seen,wait:=[]}):=hl.free;have HF:Hid (Fr w (w'.setCell ⟨d.p,0,none⟩ (.int .i32 0)) d.blocks):=hfr.setCell _ _ (.inl (by simp[DP.blocks]));clear hl hfr;go_wp2;refine leaves_cons (f:=58) (args:=#[.pointer (some ⟨d.p,0,none⟩)]) (by simp) (by simp[go_sem]) ?_;refine(dV ⟨d.p,0,none⟩ .returning _ q0 q1).mono ?_;rintro e u' w'' ⟨rfl,rfl,rfl⟩;refine⟨_,results_tmp rfl _ _ _,rfl,⟨_,HD.out,rfl,?_⟩,HF.out⟩;intro b hb;have hb':b∈(d.p::d.gs::d.gm::[]):=hb;simp only[mem_cons,not_mem_nil,or_false] at hb';left;rcases hb' with rfl|rfl|rfl<;>simp[DP.blocks]
theorem DT(h:aB w d S)(hu:S.tick.down=true)(hf:S.fuse<=9223372036854775807)(ea:Addr)(hg:w.cell? ⟨1,0,none⟩=some (.iface 452 (.pointer (some ea))))(hp1:d.p≠1):
  Zc 83 #[.pointer (some ⟨d.p,0,none⟩)] w fun e w'=>
   e=.returned (.iface 452 (.pointer (some ea)))/\aB w' d S.tick/\Fr w w' [d.p]:=by
 have hB:Below w.heap.size w (w.alloc (.cells #[.pointer (some ⟨d.p,0,none⟩)] 30)):=(Zr).alloc (Zn) _;have r3:ai (w.alloc (.cells #[.pointer (some ⟨d.p,0,none⟩)] 30)) w.heap.size 30 [.pointer (some ⟨d.p,0,none⟩)]:=ai.new w 30 [.pointer (some ⟨d.p,0,none⟩)];have h1:=h.below hB;generalize hW:(w.alloc (.cells #[.pointer (some ⟨d.p,0,none⟩)] 30))=W at *;have lp:=h.row.lt;have z0:W.cell? ⟨d.p,0,none⟩=some (.int .i32 0):=h1.row.cell 0;have z1:=h1.row.frozen 0;have c3:W.cell? ⟨w.heap.size,0,none⟩=some (.pointer (some ⟨d.p,0,none⟩)):=r3.cell 0;have hL:=h1.lock;have s3:ai (W.setCell ⟨d.p,0,none⟩ (.int .i32 1)) w.heap.size 30 [.pointer (some ⟨d.p,0,none⟩)]:=r3.other _ (by simp;omega);have MC:Fr w (W.setCell ⟨d.p,0,none⟩ (.int .i32 1)) [d.p]:=(Fr.of_below hB _).setCell _ _ (.inl (by simp));generalize hWL:W.setCell ⟨d.p,0,none⟩ (.int .i32 1)=L at *;have l3:L.cell? ⟨w.heap.size,0,none⟩=some (.pointer (some ⟨d.p,0,none⟩)):=s3.cell 0;have gL:L.cell? ⟨1,0,none⟩=some (.iface 452 (.pointer (some ea))):=by
  rw[<-hWL,World.cell?_setCell_other _ _ _ _ (by simp[]),World.cell?_of_block (hB.block 1 (World.block_lt_of_cell? w _ hg))];exact hg
 have hop:=sW hL.row hu hf (.func (.func 148) #[] #[.pointer (some ⟨w.heap.size,0,none⟩)]) ea gL hp1;have HK:Hid (∀w',ai w' d.p 88 (d.cells S.tick 1)->Fr L w' [d.p]->aB (w'.setCell ⟨d.p,0,none⟩ (.int .i32 0)) d S.tick/\Fr w (w'.setCell ⟨d.p,0,none⟩ (.int .i32 0)) [d.p]):=by
  intro w' hr f;exact⟨(hL.tick hr f).free,(MC.trans f (by simp)).setCell _ _ (.inl (by simp))⟩
 have HO:Hid _:=hop;clear h1 r3 s3 hL h hop MC hB;go_enter_defers func83,ntmps83;go_wp2_with(go_at_call 57;refine(jf ⟨d.p,0,none⟩ _ z0 z1).mono ?_;rintro e w' ⟨rfl,rfl⟩);refine Calls.mono HO.out ?_;rintro e w' ⟨rfl,hr,f⟩;have q0:w'.cell? ⟨d.p,0,none⟩=some (.int .i32 1):=hr.cell 0;have q1:=hr.frozen 0;have HD:=HK.out w' hr f;have HE:Hid _:=HD;clear hr f HD;go_wp2;refine leaves_cons (f:=58) (args:=#[.pointer (some ⟨d.p,0,none⟩)]) (by simp) (by simp[go_sem]) ?_;refine(dV ⟨d.p,0,none⟩ .returning _ q0 q1).mono ?_;rintro e u' w'' ⟨rfl,rfl,rfl⟩;exact⟨_,results_tmp rfl _ _ _,rfl,HE.out⟩
theorem Qs(l:List Zy)(x:Zy):(rG l x).Perm (x::l):=by
 unfold rG;refine perm_middle.trans ?_;rw[take_append_drop]
theorem qL(p:Zy)(L:List It):(aj p L).Perm ((L.filter (fun x=>decide (nZ x.path=p))).map (fun x=>oV x.path)):=by
 have:∀(L:List It) (acc:List Zy),(L.foldl (fun l x=>if nZ x.path=p then rG l (oV x.path) else l) acc).Perm (acc++(L.filter (fun x=>decide (nZ x.path=p))).map (fun x=>oV x.path)):=by
  intro L;induction L with
  | nil=>intro acc;simp
  | cons y L ih=>
   intro acc;rw[foldl_cons];by_cases h:nZ y.path=p
   ·rw[if_pos h,filter_cons_of_pos (by simp[h]),map_cons];refine(ih _).trans ?_;refine((Qs acc _).append_right _).trans ?_;exact perm_middle.symm
   ·rw[if_neg h,filter_cons_of_neg (by simp[h])];exact ih _
 have:=this L [];simpa [aj] using this
def bC(L:List It)(p:Zy):Prop:=p=⟨#[]⟩\/∃y∈L,y.path=p/\y.dir=true
structure aC(L:List It):Prop where
 apart:(L.map It.path).Nodup
 up:∀x∈L,∃p k,x.path=aA p k/\aO (af k)=true/\bC L p
 size:∀x∈L,x.path.size<=262144
 data:∀x∈L,x.data.size<=1536
 few:L.length<=256
 bare:∀x∈L,x.dir=true->x.data=⟨#[]⟩
theorem aC.nil:aC []:=⟨nodup_nil,by simp,by simp,by simp,by simp,by simp⟩
theorem yX(x y:It)(h:x.path=y.path):∀(L:List It),(L.map It.path).Nodup->x∈L->y∈L->x=y:=by
 intro L;induction L with
 | nil=>intro _ hx;simp at hx
 | cons z L ih=>
  intro hn hx hy;rw[map_cons,nodup_cons] at hn;rcases mem_cons.1 hx with e|hx
  ·rcases mem_cons.1 hy with e2|hy
   ·rw[e,e2]
   ·exact absurd (mem_map.2 ⟨y,hy,by rw[<-h,e]⟩) hn.1
  ·rcases mem_cons.1 hy with e2|hy
   ·exact absurd (mem_map.2 ⟨x,hx,by rw[h,e2]⟩) hn.1
   ·exact ih hn.2 hx hy
theorem aC.one(ok:aC L){x y:It}(hx:x∈L)(hy:y∈L)(h:x.path=y.path):x=y:=yX x y h L ok.apart hx hy
theorem bD(ok:aC L)(p k:Zy):k∈aj p L↔aO (af k)=true/\∃x∈L,x.path=aA p k:=by
 rw[(qL p L).mem_iff,mem_map];constructor
 ·rintro⟨x,hx,rfl⟩;rw[mem_filter,decide_eq_true_eq] at hx;obtain⟨q,n,e,hn,_⟩:=ok.up x hx.1;have h1:=hx.2;rw[e,rM q n hn] at h1;subst h1;rw[e,oK q n hn];exact⟨hn,x,hx.1,e⟩
 ·rintro⟨hk,x,hx,e⟩;refine⟨x,?_,by rw[e,oK p k hk]⟩;rw[mem_filter,decide_eq_true_eq];exact⟨hx,by rw[e,rM p k hk]⟩
theorem Br(ok:aC L)(p:Zy):(aj p L).Nodup:=by
 rw[(qL p L).nodup_iff];have h1:((L.filter (fun x=>decide (nZ x.path=p))).map It.path).Nodup:=ok.apart.sublist (filter_sublist.map _);unfold List.Nodup at h1⊢;rw[pairwise_map] at h1⊢;refine h1.imp_of_mem ?_;intro a b ha hb hne e;rw[mem_filter,decide_eq_true_eq] at ha hb;obtain⟨q,n,ea,hn,_⟩:=ok.up a ha.1;obtain⟨q',n',eb,hn',_⟩:=ok.up b hb.1;apply hne;have h1:=ha.2;have h2:=hb.2;rw[ea,eb,oK q n hn,oK q' n' hn'] at e;rw[ea,rM q n hn] at h1;rw[eb,rM q' n' hn'] at h2;rw[ea,eb,e,h1,h2]
inductive fZ (p:Zy):Zy->Prop
 | one (k:Zy) (h:aO (af k)=true):fZ p (aA p k)
 | more (q k:Zy) (hq:fZ p q) (h:aO (af k)=true):fZ p (aA q k)
theorem fZ.gt(h:fZ p q):p.size<q.size:=by
 induction h with
 | one k h=>exact gN p k h
 | more q k _ h ih=>have:=gN q k h;omega
theorem fZ.ne(h:fZ p q):q≠⟨#[]⟩:=by
 cases h with
 | one k h=>exact ja p k h
 | more q k _ h=>exact ja q k h
theorem fZ.inv{n:Zy}(hn:aO (af n)=true)(h:fZ p (aA q n)):p=q\/fZ p q:=by
 generalize e:aA q n=r at h;cases h with
 | one k h=>exact .inl (ig hn h e).1.symm
 | more q' k hq h=>rw[(ig hn h e).1];exact .inr hq
def UE(p q:Zy):Prop:=p=q\/fZ p q
theorem UE.under{k:Zy}(hk:aO (af k)=true)(h:UE (aA p k) x):fZ p x:=by
 rcases h with rfl|h
 ·exact .one k hk
 ·induction h with
  | one n hn=>exact .more _ _ (.one k hk) hn
  | more q n _ hn ih=>exact .more _ _ ih hn
theorem fZ.first(h:fZ p x):∃k,aO (af k)=true/\UE (aA p k) x:=by
 induction h with
 | one k hk=>exact⟨k,hk,.inl rfl⟩
 | more q n _ hn ih=>
  obtain⟨k,hk,h⟩:=ih;rcases h with rfl|h
  ·exact⟨k,hk,.inr (.one n hn)⟩
  ·exact⟨k,hk,.inr (.more q n h hn)⟩
theorem UE.unique{k k':Zy}(hk:aO (af k)=true)(hk':aO (af k')=true):∀(m:Nat) (x:Zy),x.size<=m->UE (aA p k) x->UE (aA p k') x->k=k':=by
 intro m;induction m with
 | zero=>
  intro x hx h _;have:=(UE.under hk h).gt;omega
 | succ m ih=>
  intro x hx h h';rcases h with rfl|h
  ·rcases h' with e|h'
   ·exact(ig hk hk' e.symm).2
   ·exfalso;have g:=gN p k' hk';rcases fZ.inv hk h' with e|h'
    ·rw[e] at g;omega
    ·have:=h'.gt;omega
  ·rcases h' with rfl|h'
   ·exfalso;have g:=gN p k hk;rcases fZ.inv hk' h with e|h
    ·rw[e] at g;omega
    ·have:=h.gt;omega
   ·cases h with
    | one n hn=>
     have g:=gN p k' hk';rcases fZ.inv hn h' with e|h'
     ·exact(ig hk hk' e.symm).2
     ·exfalso;have:=fZ.gt h';rcases fZ.inv hk h' with e|h'
      ·rw[e] at g;omega
      ·have:=h'.gt;omega
    | more q n hq hn=>
     have:=gN q n hn;exact ih q (by omega) (.inr hq) (by rcases fZ.inv hn h' with e|h';exact .inl e;exact .inr h')
theorem fZ.dir(ok:aC L)(h:fZ p x):(∃y∈L,y.path=x)->bC L p:=by
 induction h with
 | one k hk=>
  rintro⟨y,hy,e⟩;obtain⟨q,n,e2,hn,hd⟩:=ok.up y hy;rw[e] at e2;rw[(ig hk hn e2).1];exact hd
 | more q k hq hk ih=>
  rintro⟨y,hy,e⟩;obtain⟨q',n,e2,hn,hd⟩:=ok.up y hy;rw[e] at e2;rw[<-(ig hk hn e2).1] at hd;rcases hd with hd|⟨z,hz,hzp,_⟩
  ·exact absurd hd hq.ne
  ·exact ih ⟨z,hz,hzp⟩
theorem MH(ok:aC L):∀(m:Nat) (x:It),x∈L->x.path.size<=m->fZ ⟨#[]⟩ x.path:=by
 intro m;induction m with
 | zero=>
  intro x hx h;obtain⟨q,n,e,hn,_⟩:=ok.up x hx;have:=gN q n hn;rw[e] at h;omega
 | succ m ih=>
  intro x hx h;obtain⟨q,n,e,hn,hd⟩:=ok.up x hx;have g:=gN q n hn;rw[e] at h⊢;rcases hd with rfl|⟨y,hy,rfl,_⟩
  ·exact .one n hn
  ·exact .more _ _ (ih y hy (by omega)) hn
open Classical in
noncomputable def Gu(p:Prop):Nat:=if p then 1 else 0
noncomputable def oL(L:List It)(p:Zy):Nat:=(L.map fun x=>Gu (fZ p x.path)).sum
theorem TF{α β:Type}(f:α->β->Nat)(l:List α)(m:List β):(l.map fun x=>(m.map fun y=>f x y).sum).sum=(m.map fun y=>(l.map fun x=>f x y).sum).sum:=by
 induction l with
 | nil=>
  simp only[map_nil,sum_nil];induction m with
  | nil=>rfl
  | cons y m ih=>simp only[map_cons,sum_cons,<-ih,Nat.add_zero]
 | cons x l ih=>
  rw[map_cons,sum_cons,ih];clear ih;induction m with
  | nil=>rfl
  | cons y m ih=>
   simp only[map_cons,sum_cons] at ih⊢;omega
theorem sum_add{α:Type}(f g:α->Nat)(l:List α):(l.map fun x=>f x+g x).sum=(l.map f).sum+(l.map g).sum:=by
 induction l with
 | nil=>rfl
 | cons x l ih=>simp only[map_cons,sum_cons,ih];omega
theorem Bt{α:Type}(P:α->Prop)(l:List α)(h:∀x∈l,¬P x):(l.map fun x=>Gu (P x)).sum=0:=by
 induction l with
 | nil=>rfl
 | cons x l ih=>
  rw[map_cons,sum_cons,ih (fun y hy=>h y (by simp[hy])),Gu,if_neg (h x (by simp))]
theorem O5{α:Type}(P:α->Prop)(l:List α)(hn:l.Nodup)(x:α)(hx:x∈l)(hp:P x)(h:∀y∈l,P y->y=x):(l.map fun x=>Gu (P x)).sum=1:=by
 induction l with
 | nil=>simp at hx
 | cons y l ih=>
  rw[nodup_cons] at hn;rw[map_cons,sum_cons];by_cases e:y=x
  ·subst e;rw[Bt P l (fun z hz hz2=>hn.1 (by rw[<-h z (by simp[hz]) hz2];exact hz)),Gu,if_pos hp]
  ·have hx':x∈l:=by
    rcases mem_cons.1 hx with h1|h1
    ·exact absurd h1.symm e
    ·exact h1
   rw[ih hn.2 hx' (fun z hz=>h z (by simp[hz])),Gu,if_neg (fun hp=>e (h y (by simp) hp))]
theorem yY{α:Type}(f g:α->Nat)(l:List α)(h:∀x∈l,f x=g x):(l.map f).sum=(l.map g).sum:=by
 rw[map_congr_left h]
theorem uj(ok:aC L)(p:Zy):oL L p=((aj p L).map fun k=>1+oL L (aA p k)).sum:=by
 have h1:oL L p=(L.map fun x=>((aj p L).map fun k=>Gu (x.path=aA p k)+Gu (fZ (aA p k) x.path)).sum).sum:=by
  refine yY _ _ _ fun x hx=>?_;have hsplit:((aj p L).map fun k=>Gu (x.path=aA p k)+Gu (fZ (aA p k) x.path))=(aj p L).map fun k=>Gu (UE (aA p k) x.path):=by
   refine map_congr_left fun k hk=>?_;unfold Gu UE;by_cases h1:x.path=aA p k
   ·rw[if_pos h1,if_neg (fun h=>by have:=h.gt;rw[h1] at this;omega),if_pos (.inl h1.symm)]
   ·rw[if_neg h1];by_cases h2:fZ (aA p k) x.path
    ·rw[if_pos h2,if_pos (.inr h2)]
    ·rw[if_neg h2,if_neg];rintro(h|h)
     ·exact h1 h.symm
     ·exact h2 h
  rw[hsplit];by_cases hu:fZ p x.path
  ·rw[Gu,if_pos hu];obtain⟨k,hk,hue⟩:=hu.first;have hmem:k∈aj p L:=by
    refine(bD ok p k).2 ⟨hk,?_⟩;rcases hue with e|h
    ·exact⟨x,hx,e.symm⟩
    ·rcases h.dir ok ⟨x,hx,rfl⟩ with e|⟨y,hy,e,_⟩
     ·exact absurd e (ja p k hk)
     ·exact⟨y,hy,e⟩
   exact(O5 _ _ (Br ok p) k hmem hue (fun k' hk' h'=>UE.unique ((bD ok p k').1 hk').1 hk _ _ (Zn) h' hue)).symm
  ·rw[Gu,if_neg hu];exact(Bt _ _ (fun k hk h=>hu (UE.under ((bD ok p k).1 hk).1 h))).symm
 rw[h1,TF];refine yY _ _ _ fun k hk=>?_;rw[sum_add];obtain⟨hn,x,hx,e⟩:=(bD ok p k).1 hk;congr 1;have h2:(L.map fun x=>Gu (x.path=aA p k)).sum=((L.map It.path).map fun q=>Gu (q=aA p k)).sum:=by rw[map_map];rfl
 rw[h2];exact O5 _ _ ok.apart (aA p k) (mem_map.2 ⟨x,hx,e⟩) rfl (fun y _ h=>h)
theorem xH(ok:aC L):oL L ⟨#[]⟩=L.length:=by
 unfold oL;rw[yY _ (fun _=>1) _ (fun x hx=>by rw[Gu,if_pos (MH ok _ x hx (Zn))])];clear ok;induction L with
 | nil=>rfl
 | cons y L ih=>rw[map_cons,sum_cons,ih,length_cons];omega
theorem JG(ok:aC L)(x:It)(hx:x∈L)(hd:x.dir=false):oL L x.path=0:=by
 refine Bt _ _ fun y hy h=>?_;rcases h.dir ok ⟨y,hy,rfl⟩ with e|⟨z,hz,e,hzd⟩
 ·obtain⟨q,n,e2,hn,_⟩:=ok.up x hx;exact ja q n hn (by rw[<-e2,e])
 ·rw[ok.one hz hx e,hd] at hzd;cases hzd
theorem index_one(l:List UInt8)(c:UInt8):Lib.index l [c]=Lib.indexByte l c:=by
 induction l with
 | nil=>rfl
 | cons b l ih=>
  unfold Lib.index Lib.indexByte;rw[ih];have:([c].isPrefixOf (b::l))=(b==c):=by
   simp only[List.isPrefixOf,Bool.and_true];rw[Bool.eq_iff_iff];simp only[beq_iff_eq];exact eq_comm
  rw[this]
def sl:Zy:=⟨#[47]⟩
theorem EU(s:Zy):Lib.indexB s sl=Lib.indexByte s.data.toList 47:=index_one _ _
def jE(s:Zy)(a:Nat):List Zy:=pieces s (s.size+1-a) a a
theorem zL(s:Zy)(a:Nat):∀(n i:Nat),i+n<=s.size->(∀j,i<=j->j<i+n->s.data.toList[j]? ≠some 47)->pieces s (s.size+1-i) a i=pieces s (s.size+1-(i+n)) a (i+n):=by
 intro n;induction n with
 | zero=>intro i _ _;rfl
 | succ n ih=>
  intro i hi h;have hlt:i<s.size:=by omega
  have hl:i<s.data.toList.length:=by rw[fe];exact hlt
  rw[show s.size+1-i=(s.size-i)+1 by omega,pieces,if_pos]
  ·rw[show s.size-i=s.size+1-(i+1) by omega,ih (i+1) (by omega) (fun j h1 h2=>h j (by omega) (by omega))];rw[show i+1+n=i+(n+1) by omega]
  ·refine⟨hlt,fun e=>h i (Zn) (by omega) ?_⟩;rw[qJ,getElem?_eq_getElem hl] at e;rw[getElem?_eq_getElem hl];congr 1;exact UInt8.toNat_inj.1 (by simpa using e)
theorem vK(s:Zy)(a:Nat)(ha:a<=s.size)(h:∀j,a<=j->s.data.toList[j]? ≠some 47):jE s a=[s.extract a s.size]:=by
 unfold jE;rw[zL s a (s.size-a) a (by omega) (fun j h1 _=>h j h1)];rw[show a+(s.size-a)=s.size by omega,show s.size+1-s.size=0+1 by omega,pieces,if_neg (by omega),pieces]
theorem xI(s:Zy)(a i:Nat)(ha:a<=i)(hi:s.data.toList[i]? =some 47)(h:∀j,a<=j->j<i->s.data.toList[j]? ≠some 47):jE s a=s.extract a i::jE s (i+1):=by
 have hl:i<s.data.toList.length:=(List.getElem?_eq_some_iff.1 hi).1;have hlt:i<s.size:=by rw[<-fe];exact hl
 unfold jE;rw[zL s a (i-a) a (by omega) (fun j h1 h2=>h j h1 (by omega))];rw[show a+(i-a)=i by omega,show s.size+1-i=(s.size+1-(i+1))+1 by omega,pieces,if_neg];rw[qJ,hi];simp
theorem MI(s:Zy):∀(f a i:Nat),(pieces s f a i).length<=f:=by
 intro f;induction f with
 | zero=>intro a i;exact Zn
 | succ f ih=>
  intro a i;unfold pieces;split
  ·exact Nat.le_succ_of_le (ih _ _)
  ·rw[length_cons];exact Nat.succ_le_succ (ih _ _)
theorem Gv(s:Zy):∀(k a:Nat),a<=s.size->
  ((jE s a).length<=k+1->Lib.splitB sl 0 k (s.extract a s.size)=jE s a)/\(k+1<(jE s a).length->(Lib.splitB sl 0 k (s.extract a s.size)).length=k+1):=by
 intro k;induction k with
 | zero=>
  intro a ha;refine⟨fun h=>?_,fun _=>rfl⟩;rw[Lib.splitB_zero];rcases Classical.em (∀j,a<=j->s.data.toList[j]? ≠some 47) with hn|hn
  ·exact(vK s a ha hn).symm
  ·exfalso;have hi:=EU (s.extract a s.size);rcases Lib.indexB_cases (s.extract a s.size) sl with h1|⟨i,h1,h2⟩
   ·apply hn;intro j hj hc;rw[h1] at hi;refine Lib.indexByte_none hi.symm (j-a) ?_;rw[bM,getElem?_take_of_lt (by have:=(List.getElem?_eq_some_iff.1 hc).1;rw[fe] at this;omega),getElem?_drop,show a+(j-a)=j by omega];exact hc
   ·rw[h1] at hi;obtain⟨g1,g2⟩:=Lib.indexByte_some hi.symm;have hsz:i<s.size-a:=by
     have:=(List.getElem?_eq_some_iff.1 g1).1;rw[fe,ByteArray.size_extract] at this;omega
    rw[bM,getElem?_take_of_lt hsz,getElem?_drop] at g1;have g2':∀j,a<=j->j<a+i->s.data.toList[j]? ≠some 47:=fun j h1 h2 hc=>by
     refine g2 (j-a) (by omega) ?_;rw[bM,getElem?_take_of_lt (by omega),getElem?_drop,show a+(j-a)=j by omega];exact hc
    rw[xI s a (a+i) (by omega) g1 g2',length_cons] at h;have:jE s (a+i+1)≠ []:=by
     unfold jE;have:∀(n i b:Nat),n=s.size-i->i<=s.size->pieces s (s.size+1-i) b i≠ []:=by
      intro n;induction n with
      | zero=>
       intro i b hn hi;rw[show s.size+1-i=0+1 by omega,pieces,if_neg (by omega)];simp
      | succ n ih=>
       intro i b hn hi;rw[show s.size+1-i=(s.size+1-(i+1))+1 by omega,pieces];split
       ·exact ih (i+1) b (by omega) (by omega)
       ·simp
     exact this _ _ _ rfl (by omega)
    exact this (length_eq_zero_iff.1 (by omega))
 | succ k ih=>
  intro a ha;have hi:=EU (s.extract a s.size);rcases Lib.indexB_cases (s.extract a s.size) sl with h1|⟨i,h1,h2⟩
  ·have hn:∀j,a<=j->s.data.toList[j]? ≠some 47:=by
    intro j hj hc;rw[h1] at hi;refine Lib.indexByte_none hi.symm (j-a) ?_;rw[bM,getElem?_take_of_lt (by have:=(List.getElem?_eq_some_iff.1 hc).1;rw[fe] at this;omega),getElem?_drop,show a+(j-a)=j by omega];exact hc
   rw[Lib.splitB_miss sl 0 _ _ h1,vK s a ha hn];exact⟨fun _=>rfl,fun h=>by simp at h⟩
  ·have hi2:=hi;rw[h1] at hi2;obtain⟨g1,g2⟩:=Lib.indexByte_some hi2.symm;have hsz:i<s.size-a:=by
    have:=(List.getElem?_eq_some_iff.1 g1).1;rw[fe,ByteArray.size_extract] at this;omega
   rw[bM,getElem?_take_of_lt hsz,getElem?_drop] at g1;have g2':∀j,a<=j->j<a+i->s.data.toList[j]? ≠some 47:=fun j h1 h2 hc=>by
    refine g2 (j-a) (by omega) ?_;rw[bM,getElem?_take_of_lt (by omega),getElem?_drop,show a+(j-a)=j by omega];exact hc
   have e1:(s.extract a s.size).extract 0 (i+0)=s.extract a (a+i):=by
    apply ji;rw[bM,bM,bM,drop_zero,take_take];congr 1;omega
   have e2:(s.extract a s.size).extract (i+sl.size) (s.extract a s.size).size=s.extract (a+i+1) s.size:=by
    apply ji;have hs1:sl.size=1:=rfl;rw[hs1,ByteArray.size_extract,bM,bM,bM,drop_take,drop_drop,take_take];rw[show a+(i+1)=a+i+1 by omega];congr 1;omega
   rw[Lib.splitB_hit sl 0 k _ i h1,xI s a (a+i) (by omega) g1 g2',e1,e2];obtain⟨p1,p2⟩:=ih (a+i+1) (by omega);constructor
   ·intro h;rw[p1 (by rw[length_cons] at h;omega)]
   ·intro h;rw[length_cons,p2 (by rw[length_cons] at h;omega)]
theorem MJ(s:Zy):((fT s).length<=8->Lib.splitB sl 0 (min 9 (s.size+1)-1) s=fT s)/\(8<(fT s).length->(Lib.splitB sl 0 (min 9 (s.size+1)-1) s).length=9):=by
 have hf:=MI s (s.size+1) 0 0;have e:jE s 0=fT s:=rfl;obtain⟨p1,p2⟩:=Gv s (min 9 (s.size+1)-1) 0 (Nat.zero_le _);rw[qc,e] at p1 p2;have hl:(fT s).length<=s.size+1:=hf;constructor
 ·intro h;exact p1 (by omega)
 ·intro h;rcases Nat.lt_or_ge (min 9 (s.size+1)-1+1) (fT s).length with h1|h1
  ·rw[p2 h1];omega
  ·rw[p1 h1];omega
end
end Go.Proofs.YtdidjdoifpfmmaaGreatDoor
