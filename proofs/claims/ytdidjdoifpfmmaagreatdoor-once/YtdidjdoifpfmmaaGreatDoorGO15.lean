import Derived.Test.YtdidjdoifpfmmaaGreatDoorGO14
import Derived.Lib.AppendStr
import Derived.DeepKeys3
import Derived.Maps.Keyed
set_option maxRecDepth 100000
set_option maxHeartbeats 16000000
namespace Go.Proofs.YtdidjdoifpfmmaaGreatDoor
open Go.Proofs.Tryz List
variable{S S2 S':Dk}{w w1 w2 w':World}{d d1 d':DP}{bs ms:List Nat}{a:Nat->Addr}{B b m n a' n' k:Nat}{s t:Zy}{x y v:Value}{D:DataW Unit}{E:List (Zy × Nat × Nat)}{l:List Zy}
section
open Go.RowKit
theorem xP(S:Dk):(dS S).1.safe.length=S.safe.length:=by
 unfold dS;split
 ·rw[S.tick_safe]
 ·exact S.seen_length
theorem xQ(S:Dk):(dS S).1.wait.length<=S.wait.length:=by
 unfold dS;split
 ·rw[S.tick_wait];exact Zn
 ·exact Nat.zero_le _
theorem BD(ok:S.Ok):(dS S).1.Ok:=by
 unfold dS;split
 ·exact ok.tick
 ·refine⟨?_,?_,?_,?_,?_⟩
  ·show 0<S.seen.length;rw[S.seen_length];exact ok.pos
  ·show S.seen.length<=_;rw[S.seen_length];exact ok.most
  ·exact Bq _ _ ok.sec (fun x hx=>(ok.wr x hx).2)
  ·intro x hx;cases hx
  ·exact Nat.zero_le _
theorem JR:∀(f i:Nat) (S:Dk),S.Ok->i+f<=S.safe.length->S.wait.length+f<=1000000->(p8 S f i).1.Ok/\(p8 S f i).1.safe.length=S.safe.length/\(p8 S f i).1.wait.length<=S.wait.length+f:=by
 intro f;induction f with
 | zero=>intro i S ok _ _;exact⟨BD ok,xP S,xQ S⟩
 | succ f ih=>
  intro i S ok hi hw;unfold p8;have hs:=lN S i aX;have hww:=og S i aX;have hok:=oW ok i (by omega) aX kY (by omega);split
  ·obtain⟨a,b,c⟩:=ih (i+1) S ok (by omega) (by omega);exact⟨a,b,by omega⟩
  ·split
   ·exact⟨hok,by rw[hs],by omega⟩
   ·obtain⟨a,b,c⟩:=ih (i+1) (bK S i aX).1 hok (by rw[hs];omega) (by omega);exact⟨a,by rw[b,hs],by omega⟩
theorem GJ(ok:S.Ok)(hw:S.wait.length<=900000)(i:Nat)(hi:i<=S.safe.length):(dN S i).1.Ok/\(dN S i).1.safe.length=S.safe.length/\(dN S i).1.wait.length<=S.wait.length+4096:=by
 have hm:=ok.most;obtain⟨a,b,c⟩:=JR (S.safe.length-i) i S ok (by omega) (by omega);exact⟨a,b,Nat.le_trans c (by omega)⟩
def kz(S:Dk):Dk × Nat:=
 if S.safe.length<4 then(S,1)
 else if(dN S 0).2≠0 then dN S 0
 else if(bK (dN S 0).1 0 (dG S.safe.length)).2≠0 then bK (dN S 0).1 0 (dG S.safe.length)
 else dS (bK (dN S 0).1 0 (dG S.safe.length)).1
def dW(w w':World)(d:DP)(S':Dk):Prop:=∃d',aB w' d' S'/\d'.p=d.p/\(∀b∈d'.blocks,b∈d.blocks\/w.heap.size<=b)/\Fr w w' d.blocks
theorem dW.trans(hq:d1.p=d.p)(hsub:∀b∈d1.blocks,b∈d.blocks\/w.heap.size<=b)(hf:Fr w w1 d.blocks)(h:dW w1 w2 d1 S2):dW w w2 d S2:=by
 obtain⟨d2,a1,a2,a3,a4⟩:=h;refine⟨d2,a1,a2.trans hq,fun b hb=>?_,hf.trans a4 (fun x hx hlt=>?_)⟩
 ·rcases a3 b hb with h|h
  ·exact hsub b h
  ·exact .inr (Nat.le_trans hf.size h)
 ·rcases hsub x hx with h|h
  ·exact h
  ·omega
theorem aB.done(h:aB w' d S')(f:Fr w w' bs)(hb:∀b∈bs,b∈d.blocks):dW w w' d S':=⟨d,h,rfl,fun _ hb=>.inl hb,f.wider hb⟩
def wY(d:DP):Prop:=∀b∈d.blocks,18<=b
theorem wY.p(h:wY d):18<=d.p:=h _ (by simp[DP.blocks])
theorem wY.step(h:wY d)(hw:18<=w.heap.size)(hsub:∀b∈d'.blocks,b∈d.blocks\/w.heap.size<=b):wY d':=fun b hb=>by
 rcases hsub b hb with hx|hx
 ·exact h b hx
 ·omega
theorem eO.fr(h:eO a w)(f:Fr w w' bs)(hb:∀b∈bs,18<=b):eO a w':=
 ⟨fun k hk=>ay (h.err k hk) (f.block k (Zd (h.err k hk)) (fun hm=>by have:=hb k hm;omega)),by obtain⟨m,hm⟩:=h.maxl;exact⟨m,ay hm (f.block _ (Zd hm) (fun hx=>by have:=hb _ hx;omega))⟩⟩
theorem wE(G:eO a w)(h:aB w d S)(hF:wY d)(ok:S.Ok)(hf:S.fuse<=9223372036854775807)(k:Nat)(hk:k<S.safe.length)(x:Zy)(hx:x.size=64)(gV:S.wait.length+1<=1000000):
  Zc 81 #[Zp d.p,Zi k,.string x] w fun e w'=>e=.returned (dx a (bK S k x).2)/\dW w w' d (bK S k x).1:=by
 have hp:=hF.p;cases hu:S.tick.down
 ·have e:bK S k x=({S.tick with wait:=S.wait++[(k,x)]},0):=by unfold bK;rw[if_neg (by simp[hu])]
  rw[e];refine(JC h ok k hk x hx hu hf gV).mono ?_;rintro e w' ⟨rfl,⟨d',hd,hq,hsub⟩,f⟩;exact⟨rfl,d',hd,hq,hsub,f⟩
 ·have e:bK S k x=(S.tick,2):=by unfold bK;rw[if_pos hu]
  rw[e];refine(DN h ok k hk x hx hu hf (a 1) (G.err 1 (by decide)) (by omega)).mono ?_;rintro e w' ⟨rfl,hd,f⟩;exact⟨rfl,hd.done f (by simp[DP.blocks])⟩
theorem wF(G:eO a w)(h:aB w d S)(hF:wY d)(ok:S.Ok)(hf:S.fuse<=9223372036854775807):
  Zc 83 #[Zp d.p] w fun e w'=>e=.returned (dx a (dS S).2)/\dW w w' d (dS S).1:=by
 have hp:=hF.p;cases hu:S.tick.down
 ·have e:dS S=({S.tick with safe:=S.seen,wait:=[]},0):=by unfold dS;rw[if_neg (by simp[hu])]
  rw[e];refine(JF h ok hu hf).mono ?_;rintro e w' ⟨rfl,⟨d',hd,hq,hsub⟩,f⟩;exact⟨rfl,d',hd,hq,hsub,f⟩
 ·have e:dS S=(S.tick,2):=by unfold dS;rw[if_pos hu]
  rw[e];refine(DT h hu hf (a 1) (G.err 1 (by decide)) (by omega)).mono ?_;rintro e w' ⟨rfl,hd,f⟩;exact⟨rfl,hd.done f (by simp[DP.blocks])⟩
theorem EZ(hf:S.fuse<=9223372036854775807):S.tick.fuse<=9223372036854775807:=by
 unfold Dk.tick;split
 ·exact hf
 ·show S.fuse-1<=_;omega
theorem jV(hf:S.fuse<=9223372036854775807)(k:Nat)(x:Zy):(bK S k x).1.fuse<=9223372036854775807:=by
 unfold bK;split<;>exact EZ hf
theorem xU(hf:S.fuse<=9223372036854775807):(dS S).1.fuse<=9223372036854775807:=by
 unfold dS;split<;>exact EZ hf
theorem MV:∀(f i:Nat) (S:Dk),S.fuse<=9223372036854775807->(p8 S f i).1.fuse<=9223372036854775807:=by
 intro f;induction f with
 | zero=>intro i S h;exact xU h
 | succ f ih=>
  intro i S h;unfold p8;split
  ·exact ih _ _ h
  ·split
   ·exact jV h _ _
   ·exact ih _ _ (jV h _ _)
theorem jI(a:Nat->Addr):dx a 0=.nilIface:=rfl
theorem MW:aI 64=aX:=rfl
theorem zR(G:eO a w)(h:aB w d S)(hF:wY d)(ok:S.Ok)(hf:S.fuse<=9223372036854775807)(gV:S.wait.length<=900000)(hG:18<=w.heap.size)(i:Nat)(hi:i<=S.safe.length):
  Zc 80 #[Zp d.p,Zi i] w fun e w'=>e=.returned (dx a (dN S i).2)/\dW w w' d (dN S i).1:=by
 have hz:=EI 64 (by decide) w;rw[MW] at hz;have jD:=ok.most;have hi2:i<=4096:=by omega
 have HH:Hid (∀w1,Below w.heap.size w w1->aB w1 d S):=fun w1 hb=>h.below hb;have HZ:Hid (aX.size=64):=kY;have xV:Hid _:=hF;have Lu:Hid _:=G;have HHG:Hid _:=hG;clear h hF G hG;go_enter func80,ntmps80;go_wp2_with(go_at_call 141;refine hz.mono ?_;rintro e w1 ⟨rfl,hb1⟩);have H1:=HH.out w1 hb1;have F1:Fr w w1 d.blocks:=Fr.of_below hb1 _;clear HH hz;go_loopw [6] (fun iv wr=>∃(j:Nat) (S1:Dk) (d1:DP),iv=.int .i64 j/\i<=j/\j<=S.safe.length/\aB wr d1 S1/\d1.p=d.p/\(∀b∈d1.blocks,b∈d.blocks\/w.heap.size<=b)/\Fr w wr d.blocks/\S1.Ok/\S1.fuse<=9223372036854775807/\S1.safe.length=S.safe.length/\S1.wait.length<=S.wait.length+(j-i)/\dN S i=p8 S1 (S.safe.length-j) j) (fun iv _=>S.safe.length-(RowKit.intOf iv).toNat)
 case atStart=>exact⟨i,S,d,rfl,Zn,hi,H1,rfl,fun b hb=>.inl hb,F1,ok,hf,rfl,by omega,rfl⟩
 case round=>
  clear H1 F1;obtain⟨j,S1,d1,rfl,hij,hjn,hR,hq,hsub,hfr,ok1,hf1,hl1,hw1,hwp⟩:=hrel;have hS:=fK hR ok1;rw[hq,hl1] at hS;have HR:Hid _:=hR;have HL:Hid _:=hl1;have HWt:Hid _:=hw1;have JS:wY d1:=wY.step xV.out HHG.out hsub;have hG1:eO a wr:=Lu.out.fr hfr xV.out;by_cases hlt:j<S.safe.length
  ·have j0:(0:Int)<=(j:Int):=by omega
   have j1:(j:Int)<(S.safe.length:Int):=by omega
   have Z9:=jH hR ok1 j (by omega);rw[hq] at Z9;rw[show S.safe.length-j=(S.safe.length-(j+1))+1 by omega,p8] at hwp;have HW:Hid (∀w2,aB w2 d1 S1->Fr wr w2 [d.p]->Zc 81 #[Zp d.p,Zi j,.string aX] w2 fun e w'=>e=.returned (dx a (bK S1 j aX).2)/\dW wr w' d1 (bK S1 j aX).1):=by
    intro w2 h2 f2;have hd2:∀b∈ [d.p],18<=b:=by intro b hb;rw[Zm.1 hb];exact wY.p xV.out
    have:=wE (hG1.fr f2 hd2) h2 JS ok1 hf1 j (by omega) aX kY (by omega);rw[hq] at this;refine this.mono ?_;rintro e w' ⟨rfl,hd⟩;exact⟨rfl,dW.trans rfl (fun b hb=>.inl hb) (f2.wider (by rw[<-hq];simp[DP.blocks])) hd⟩
   have ok2:Hid (bK S1 j aX).1.Ok:=oW ok1 j (by omega) aX kY (by omega);have hf2:Hid _:=jV hf1 j aX;have hs2:=lN S1 j aX;have hw2:=og S1 j aX;generalize bK S1 j aX=W at *;obtain⟨S2,c2⟩:=W;simp only at HW ok2 hs2 hw2 hwp hf2;clear hl1 hw1 hR hG1;generalize S1.seen.getD j ByteArray.empty=y at *;generalize aX=z at *;have HD:Hid (∀w2,aB w2 d1 S1->Fr wr w2 [d.p]->Fr w w2 d.blocks):=fun w2 h2 f2=>hfr.trans f2 (fun x hx _=>by rw[Zm.1 hx];simp[DP.blocks]);by_cases hyz:y=z
   ·rw[if_pos hyz] at hwp;have hb:(y.toList==z.toList)=true:=by rw[gP,decide_eq_true hyz]
    have HP:Hid _:=hwp;clear hwp HW;go_wp2_with(first
     | (go_at_call 62;refine hS.mono ?_;rintro e w2 ⟨rfl,rfl⟩)
     | (go_at_call 84;refine Z9.mono ?_;rintro e w2 ⟨rfl,h2,f2⟩))
    exact⟨⟨j+1,S1,d1,by go_num,by omega,by omega,h2,hq,hsub,HD.out w2 h2 f2,ok1,hf1,HL.out,by have:=HWt.out;omega,HP.out⟩,by simp[intOf];omega⟩
   ·rw[if_neg hyz] at hwp;have hb:(y.toList==z.toList)=false:=by rw[gP,decide_eq_false hyz]
    by_cases hc:c2=0
    ·subst hc;rw[if_neg (by simp)] at hwp;have HP:Hid _:=hwp;clear hwp;rw[jI] at HW;go_wp2_with(first
      | (go_at_call 62;refine hS.mono ?_;rintro e w2 ⟨rfl,rfl⟩)
      | (go_at_call 84;refine Z9.mono ?_;rintro e w2 ⟨rfl,h2,f2⟩)
      | (go_at_call 81;refine(HW.out w2 h2 f2).mono ?_;rintro e w3 ⟨rfl,hd⟩))
     obtain⟨d2,a1,a2,a3,a4⟩:=dW.trans hq hsub hfr hd;exact⟨⟨j+1,S2,d2,by go_num,by omega,by omega,a1,a2,a3,a4,ok2.out,hf2.out,by rw[hs2];exact HL.out,by have:=HWt.out;omega,HP.out⟩,by simp[intOf];omega⟩
    ·rw[if_pos hc] at hwp;have HP:Hid _:=hwp;clear hwp;rw[jT a hc] at HW;unfold eF at HW;go_wp2_with(first
      | (go_at_call 62;refine hS.mono ?_;rintro e w2 ⟨rfl,rfl⟩)
      | (go_at_call 84;refine Z9.mono ?_;rintro e w2 ⟨rfl,h2,f2⟩)
      | (go_at_call 81;refine(HW.out w2 h2 f2).mono ?_;rintro e w3 ⟨rfl,hd⟩))
     go_ret;exact⟨by rw[HP.out,jT a hc];rfl,by rw[HP.out];exact dW.trans hq hsub hfr hd⟩
  ·have ej:S.safe.length-j=0:=by omega
   rw[ej,p8] at hwp;have j1:¬(j:Int)<(S.safe.length:Int):=by omega
   have HFl:Hid (Zc 83 #[Zp d.p] wr fun e w'=>e=.returned (dx a (dS S1).2)/\dW wr w' d1 (dS S1).1):=by
    rw[<-hq];exact wF hG1 hR JS ok1 hf1
   have HP:Hid _:=hwp;clear hwp hR hl1 hw1 hG1;go_wp2_with(first
    | (go_at_call 62;refine hS.mono ?_;rintro e w2 ⟨rfl,rfl⟩)
    | (go_at_call 83;refine Calls.mono HFl.out ?_;rintro e w3 ⟨rfl,hd⟩))
   go_ret;exact⟨by rw[HP.out];rfl,by rw[HP.out];exact dW.trans hq hsub hfr hd⟩
theorem JU(h:S.fuse<=9223372036854775807)(i:Nat):(dN S i).1.fuse<=9223372036854775807:=MV _ _ _ h
theorem D9(G:eO a w)(h:aB w d S)(hF:wY d)(ok:S.Ok)(hf:S.fuse<=9223372036854775807)(gV:S.wait.length<=800000)(hG:18<=w.heap.size):
  Zc 44 #[Zp d.p] w fun e w'=>e=.returned (dx a (kz S).2)/\dW w w' d (kz S).1:=by
 have jD:=ok.most;have hS:=fK h ok;by_cases h4:S.safe.length<4
 ·have he:Hid (kz S=(S,1)):=by show kz S=_;unfold kz;rw[if_pos h4]
  have H:Hid _:=h;clear h;have h4':(S.safe.length:Int)<4:=by omega
  have e0:=G.err 0 (by decide);go_enter func44,ntmps44;go_wp2_with(go_at_call 62;refine hS.mono ?_;rintro e w2 ⟨rfl,rfl⟩);go_ret;exact⟨by rw[he.out];rfl,by rw[he.out];exact H.out.done (Fr.refl _ []) (by simp)⟩
 ·have h4':¬(S.safe.length:Int)<4:=by omega
  have QB:=zR G h hF ok hf (by omega) hG 0 (Nat.zero_le _);obtain⟨ok1,hl1,hw1⟩:=GJ ok (by omega) 0 (Nat.zero_le _);have hf1:=JU hf 0;have he:kz S=if(dN S 0).2≠0 then dN S 0 else if(bK (dN S 0).1 0 (dG S.safe.length)).2≠0 then bK (dN S 0).1 0 (dG S.safe.length) else dS (bK (dN S 0).1 0 (dG S.safe.length)).1:=by
   unfold kz;rw[if_neg h4]
  generalize dN S 0=W at *;obtain⟨S1,k1⟩:=W;simp only at QB ok1 hl1 hw1 he hf1;have okw:=oW ok1 0 (by omega) (dG S.safe.length) (uf _) (by omega);have hsw:=lN S1 0 (dG S.safe.length);have hfw:=jV hf1 0 (dG S.safe.length);have HHd:Hid (∀w1,Zc 82 #[Zi S.safe.length] w1 fun e w'=>e=.returned (.string (dG S.safe.length))/\Below w1.heap.size w1 w'):=fun w1=>OT S.safe.length jD w1;have Lu:Hid (∀w1 d1,Fr w w1 d.blocks->(∀b∈DP.blocks d1,b∈d.blocks\/w.heap.size<=b)->eO a w1/\wY d1):=fun w1 d1 f1 hs1=>⟨G.fr f1 hF,hF.step hG hs1⟩;clear h hF G;by_cases hk:k1=0
  ·subst hk;rw[jI] at QB;rw[if_neg (by simp)] at he;have HS:Hid (∀w1 d1,aB w1 d1 S1->Zc 62 #[Zp d1.p] w1 fun e w'=>e=.returned (Zi S.safe.length)/\w1=w'):=fun w1 d1 hd=>by have:=fK hd ok1;rw[hl1] at this;exact this
   have HW:Hid (∀w1 d1,aB w1 d1 S1->eO a w1->wY d1->Zc 81 #[Zp d1.p,.int .i64 0,.string (dG S.safe.length)] w1 fun e w'=>e=.returned (dx a (bK S1 0 (dG S.safe.length)).2)/\dW w1 w' d1 (bK S1 0 (dG S.safe.length)).1):=fun w1 d1 hr g1 f1=>wE g1 hr f1 ok1 hf1 0 (by omega) _ (uf _) (by omega);generalize bK S1 0 (dG S.safe.length)=X at *;obtain⟨S2,k2⟩:=X;simp only at HW okw he hsw hfw;by_cases hk2:k2=0
   ·subst hk2;rw[jI] at HW;rw[if_neg (by simp)] at he;have HFl:Hid (∀w1 d1,aB w1 d1 S2->eO a w1->wY d1->Zc 83 #[Zp d1.p] w1 fun e w'=>e=.returned (dx a (dS S2).2)/\dW w1 w' d1 (dS S2).1):=fun w1 d1 hr g1 f1=>wF g1 hr f1 okw hfw;have HE:Hid _:=he;clear he;generalize dG S.safe.length=st at *;generalize dS S2=Y at *;obtain⟨S3,k3⟩:=Y;simp only at HFl;go_enter func44,ntmps44;go_wp2_with(first
     | (go_at_call 62;refine hS.mono ?_;rintro e w0 ⟨rfl,rfl⟩;clear hS)
     | (go_at_call 80;refine QB.mono ?_;rintro e w1 ⟨rfl,hd⟩;clear QB;obtain⟨d1,a1,a2,a3,a4⟩:=hd;have hS1:=HS.out w1 d1 a1;rw[a2] at hS1;have A1:Hid _:=a1;have A3:Hid _:=a3;have A4:Hid _:=a4;clear a1 a3 a4)
     | (go_at_call 62;refine hS1.mono ?_;rintro e w2 ⟨rfl,rfl⟩;clear hS1)
     | (go_at_call 82;refine(HHd.out _).mono ?_;rintro e w3 ⟨rfl,hb3⟩;have A5:Hid (Fr w w3 d.blocks):=A4.out.trans (Fr.of_below hb3 []) (fun x hx=>nomatch hx);have hW:=HW.out w3 d1 (A1.out.below hb3) (Lu.out w3 d1 A5.out A3.out).1 (Lu.out w3 d1 A5.out A3.out).2;rw[a2] at hW)
     | (go_at_call 81;refine hW.mono ?_;rintro e w4 ⟨rfl,hd2⟩;clear hW;have HD:Hid _:=dW.trans a2 A3.out A5.out hd2;clear hd2;obtain⟨d3,b1,b2,b3,b4⟩:=HD.out;have hFl:=HFl.out w4 d3 b1 (Lu.out w4 d3 b4 b3).1 (Lu.out w4 d3 b4 b3).2;rw[b2] at hFl;have B3:Hid _:=b3;have B4:Hid _:=b4;clear b1 b3 b4)
     | (go_at_call 83;refine hFl.mono ?_;rintro e w5 ⟨rfl,hd5⟩;clear hFl))
    go_ret;exact⟨by rw[HE.out];rfl,by rw[HE.out];exact dW.trans b2 B3.out B4.out hd5⟩
   ·rw[if_pos hk2] at he;rw[jT a hk2] at HW;unfold eF at HW;have HE:Hid _:=he;clear he;generalize dG S.safe.length=st at *;go_enter func44,ntmps44;go_wp2_with(first
     | (go_at_call 62;refine hS.mono ?_;rintro e w0 ⟨rfl,rfl⟩;clear hS)
     | (go_at_call 80;refine QB.mono ?_;rintro e w1 ⟨rfl,hd⟩;clear QB;obtain⟨d1,a1,a2,a3,a4⟩:=hd;have hS1:=HS.out w1 d1 a1;rw[a2] at hS1;have A1:Hid _:=a1;have A3:Hid _:=a3;have A4:Hid _:=a4;clear a1 a3 a4)
     | (go_at_call 62;refine hS1.mono ?_;rintro e w2 ⟨rfl,rfl⟩;clear hS1)
     | (go_at_call 82;refine(HHd.out _).mono ?_;rintro e w3 ⟨rfl,hb3⟩;have A5:Hid (Fr w w3 d.blocks):=A4.out.trans (Fr.of_below hb3 []) (fun x hx=>nomatch hx);have hW:=HW.out w3 d1 (A1.out.below hb3) (Lu.out w3 d1 A5.out A3.out).1 (Lu.out w3 d1 A5.out A3.out).2;rw[a2] at hW)
     | (go_at_call 81;refine hW.mono ?_;rintro e w4 ⟨rfl,hd2⟩;clear hW;have HD:Hid _:=dW.trans a2 A3.out A5.out hd2;clear hd2))
    go_ret;exact⟨by rw[HE.out,jT a hk2];rfl,by rw[HE.out];exact HD.out⟩
  ·rw[if_pos hk] at he;rw[jT a hk] at QB;unfold eF at QB;have HE:Hid _:=he;clear he;go_enter func44,ntmps44;go_wp2_with(first
    | (go_at_call 62;refine hS.mono ?_;rintro e w0 ⟨rfl,rfl⟩;clear hS)
    | (go_at_call 80;refine QB.mono ?_;rintro e w1 ⟨rfl,hd⟩;clear QB))
   go_ret;exact⟨by rw[HE.out,jT a hk];rfl,by rw[HE.out];exact hd⟩
def aG(ms:List Nat):List Value:=ms.map fun m=>.map (some m)
structure kJ(w:World)(B:Nat)(ms:List Nat):Prop where
 empty:∀m∈ms,w.heap[m]? =some (.map #[] 0)
 far:∀m∈ms,B<=m
 apart:ms.Pairwise (·<·)
theorem kJ.lt(h:kJ w B ms):∀m∈ms,m<w.heap.size:=fun m hm=>(Array.getElem?_eq_some_iff.1 (h.empty m hm)).1
theorem kJ.fr(h:kJ w B ms)(f:Fr w w' bs)(hb:∀m∈ms,m∉bs):kJ w' B ms:=
 ⟨fun m hm=>by rw[f.block m (h.lt m hm) (hb m hm)];exact h.empty m hm,h.far,h.apart⟩
theorem kJ.snoc(h:kJ w B ms)(hB:B<=w.heap.size):kJ (w.alloc (.map #[] 0)) B (ms++[w.heap.size]):=by
 have hl:=h.lt;refine⟨fun m hm=>?_,fun m hm=>?_,?_⟩
 ·rcases mem_append.1 hm with hm|hm
  ·rw[heap_alloc_old _ _ (hl m hm)];exact h.empty m hm
  ·rw[Zm.1 hm];exact heap_alloc_new _ _
 ·rcases mem_append.1 hm with hm|hm
  ·exact h.far m hm
  ·rw[Zm.1 hm];exact hB
 ·rw[pairwise_append];refine⟨h.apart,pairwise_singleton _ _,fun x hx y hy=>?_⟩;rw[Zm.1 hy];exact hl x hx
theorem TQ(ms:List Nat)(k:Nat)(v:Value)(x:Value):((aG ms)++replicate (k+1) x).set ms.length v=aG ms++v::replicate k x:=by
 have hl:(aG ms).length=ms.length:=by simp[aG]
 rw[<-hl,set_append];simp[replicate_succ]
theorem MX(ms:List Nat)(m:Nat)(l:List Value):aG ms ++ .map (some m)::l=aG (ms++[m])++l:=by simp[aG]
theorem vM(w:World):
  Zc 149 #[] w fun e w'=>∃ms:List Nat,ms.length=4/\e=.returned (.agg (aG ms).toArray)/\kJ w' w.heap.size ms/\Below w.heap.size w w':=by
 have hmm:∀(t:TypeId) (w:World),(Instr.makeMap t none).run prog w=.ok (.map (some w.heap.size)) (w.alloc (.map #[] 0)):=fun t w=>run_makeMap t w;go_enter func149,ntmps149;go_wp2;go_loopw [3] (fun iv wr=>∃(j:Nat) (ms:List Nat),iv=.int .i64 j/\j=ms.length/\j<=4/\ai wr w.heap.size 114 (replicate 4 (.map none))/\ai wr (w.heap.size+1) 114 (aG ms++replicate (4-j) (.map none))/\kJ wr (w.heap.size+2) ms/\w.heap.size+2<=wr.heap.size/\Below w.heap.size w wr) (fun iv _=>4-(RowKit.intOf iv).toNat)
 case atStart=>
  refine⟨0,[],rfl,rfl,by decide,?_,?_,⟨by simp,by simp,Pairwise.nil⟩,by simp,((Below.refl _ w).alloc (Zn) _).alloc (by simp) _⟩
  ·exact⟨by rw[heap_alloc_old _ _ (by simp)];exact heap_alloc_new _ _⟩
  ·exact⟨by have:=heap_alloc_new (w.alloc (.cells (replicate 4 (.map none)).toArray 114)) (.cells (replicate 4 (.map none)).toArray 114);simpa [aG] using this⟩
 case round=>
  obtain⟨j,ms,rfl,hj,hj4,r0,r1,hN,hsz,hB⟩:=hrel;by_cases hlt:j<4
  ·have j1:(j:Int)<4:=by omega
   have j0:(0:Int)<=(j:Int):=by omega
   have r1':ai (wr.alloc (.map #[] 0)) (w.heap.size+1) 114 (aG ms++replicate (4-j) (.map none)):=⟨by rw[heap_alloc_old _ _ (by omega)];exact r1.heap⟩;have c1:(wr.alloc (.map #[] 0)).cell? (Za (w.heap.size+1) j)=some (.map none):=by
    rw[r1'.cell j,getElem?_append_right (by simp[aG];omega)];simp only[aG,length_map,<-hj];rw[Nat.sub_self,getElem?_replicate,if_pos (by omega)]
   have f1:=r1'.frozen j;have HJ:Hid _:=hj;clear hj;go_wp2;refine⟨⟨j+1,ms++[wr.heap.size],by go_num,by rw[length_append,HJ.out];rfl,by omega,?_,?_,?_,?_,?_⟩,by simp[intOf];omega⟩
   ·have r0':ai (wr.alloc (.map #[] 0)) w.heap.size 114 (replicate 4 (.map none)):=⟨by rw[heap_alloc_old _ _ (by omega)];exact r0.heap⟩;exact r0'.other _ (by show w.heap.size≠w.heap.size+1;omega)
   ·have:=r1'.set j (.map (some wr.heap.size));rw[HJ.out,show 4-ms.length=(4-(ms.length+1))+1 by have:=HJ.out;omega,TQ,MX,<-HJ.out] at this;exact this
   ·refine(hN.snoc (by omega)).fr (bs:=[w.heap.size+1]) ((Fr.refl _ _).setCell _ _ (.inl (by simp))) (fun m hm he=>?_);have:=(hN.snoc (by omega)).far m hm;have:=Zm.1 he;omega
   ·simp;omega
   ·exact(hB.alloc (by omega) _).setCell (by show w.heap.size<=w.heap.size+1;omega) _
  ·have e4:j=4:=by omega
   subst e4;obtain⟨m0,m1,m2,m3,rfl⟩:∃m0 m1 m2 m3,ms=[m0,m1,m2,m3]:=by
    match ms,hj with
    |[m0,m1,m2,m3],_=>exact⟨_,_,_,_,rfl⟩
   have c0:wr.cell? (Za (w.heap.size+1) 0)=some (.map (some m0)):=r1.cell 0;have c1:wr.cell? (Za (w.heap.size+1) 1)=some (.map (some m1)):=r1.cell 1;have c2:wr.cell? (Za (w.heap.size+1) 2)=some (.map (some m2)):=r1.cell 2;have c3:wr.cell? (Za (w.heap.size+1) 3)=some (.map (some m3)):=r1.cell 3;have d0:wr.cell? (Za w.heap.size 0)=some (.map none):=r0.cell 0;have d1:wr.cell? (Za w.heap.size 1)=some (.map none):=r0.cell 1;have d2:wr.cell? (Za w.heap.size 2)=some (.map none):=r0.cell 2;have d3:wr.cell? (Za w.heap.size 3)=some (.map none):=r0.cell 3;have f0:=r0.frozen 0;have f1:=r0.frozen 1;have f2:=r0.frozen 2;have f3:=r0.frozen 3;have HR:Hid _:=r0;clear hj;go_wp2;have r3:=(((HR.out.set 0 (.map (some m0))).set 1 (.map (some m1))).set 2 (.map (some m2))).set 3 (.map (some m3));refine bodyPost_ret (results_cell_row (P:=prog) results149 _ _ w.heap.size _ _ _ _ rfl r3.heap underlying114 rfl (by kernel_rfl)) rfl ⟨[m0,m1,m2,m3],rfl,rfl,?_,?_⟩
   ·have hN2:kJ wr w.heap.size [m0,m1,m2,m3]:=⟨hN.empty,fun m hm=>by have:=hN.far m hm;omega,hN.apart⟩;refine hN2.fr (bs:=[w.heap.size]) (((((Fr.refl _ _).setCell _ _ (.inl (by simp))).setCell _ _ (.inl (by simp))).setCell _ _ (.inl (by simp))).setCell _ _ (.inl (by simp))) (fun m hm he=>?_);have:=hN.far m hm;have:=Zm.1 he;omega
   ·exact(((hB.setCell (Zn) _).setCell (Zn) _).setCell (Zn) _).setCell (Zn) _
theorem MZ(w:World):
  Zc 85 #[] w fun e w'=>∃(ms:List Nat) (mx b:Nat),ms.length=4/\e=.returned (Zp b)/\ai w' b 169 (aG ms++[.map (some mx),.slice none 0 0])/\kJ w' w.heap.size (ms++[mx])/\mx<b/\Below w.heap.size w w':=by
 have hmm:∀(t:TypeId) (w:World),(Instr.makeMap t none).run prog w=.ok (.map (some w.heap.size)) (w.alloc (.map #[] 0)):=fun t w=>run_makeMap t w;have c:=vM w;go_enter func85,ntmps85;go_wp2_with(go_at_call 149;refine c.mono ?_;rintro e w1 ⟨ms,hl,rfl,hN,hb⟩;obtain⟨m0,m1,m2,m3,rfl⟩:∃m0 m1 m2 m3,ms=[m0,m1,m2,m3]:=(by match ms,hl with|[m0,m1,m2,m3],_=>exact⟨_,_,_,_,rfl⟩);have ev:(aG [m0,m1,m2,m3]).toArray= #[.map (some m0),.map (some m1),.map (some m2),.map (some m3)]:=rfl;rw[ev];clear ev hl);have hs:=hb.size;have h1:Below w.heap.size w (w1.alloc (.map #[] 0)):=hb.alloc hs _;refine bodyPost_ret (results_tmp rfl _ _ _) rfl ⟨[m0,m1,m2,m3],w1.heap.size,w1.heap.size+1,rfl,rfl,?_,?_,by omega,h1.alloc (by simp;omega) _⟩
 ·have:=ai.new (w1.alloc (.map #[] 0)) 169 [.map (some m0),.map (some m1),.map (some m2),.map (some m3),.map (some w1.heap.size),.slice none 0 0];rw[show(w1.alloc (.map #[] 0)).heap.size=w1.heap.size+1 by simp] at this;exact this
 ·exact(hN.snoc hs).fr (bs:=[]) ((Fr.refl _ _).alloc _) (by simp)
def gX(n:Nat):Dk:=⟨replicate n aX,[],0,false⟩
def headD(n:Nat):Dk:=⟨dG n::replicate (n-1) aX,[],0,false⟩
theorem E5(S:Dk)(h:S.fuse=0):S.tick=S:=by unfold Dk.tick;rw[if_pos h]
theorem su(S:Dk)(h:S.fuse=0)(hd:S.down=false):dS S=({S with safe:=S.seen,wait:=[]},0):=by
 unfold dS;rw[E5 S h,if_neg (by simp[hd])]
theorem sw(S:Dk)(k:Nat)(d:Zy)(h:S.fuse=0)(hd:S.down=false):bK S k d=({S with wait:=S.wait++[(k,d)]},0):=by
 unfold bK;rw[E5 S h,if_neg (by simp[hd])]
theorem zS(S:Dk):∀(f i:Nat),(∀j,i<=j->j<i+f->S.seen.getD j ByteArray.empty=aX)->p8 S f i=dS S:=by
 intro f;induction f with
 | zero=>intro i _;rfl
 | succ f ih=>
  intro i h;unfold p8;rw[if_pos (h i (Zn) (by omega))];exact ih (i+1) (fun j h1 h2=>h j (by omega) (by omega))
theorem zf(n:Nat):(headD n).seen=dG n::replicate (n-1) aX:=rfl
theorem JV(n j:Nat)(h:j<n):(replicate n aX).getD j ByteArray.empty=aX:=by
 rw[getD_eq_getElem?_getD,getElem?_replicate,if_pos h];rfl
theorem Az(n j:Nat)(h1:1<=j)(h:j<n):(headD n).seen.getD j ByteArray.empty=aX:=by
 rw[zf];obtain⟨k,rfl⟩:∃k,j=k+1:=⟨j-1,by omega⟩;rw[getD_cons_succ];exact JV (n-1) k (by omega)
theorem TT(n:Nat)(h:0<n)(h2:n<=4096):(gX n).Ok:=by
 refine⟨by simpa [gX] using h,by simpa [gX] using h2,?_,?_,?_⟩
 ·intro x hx;rw[eq_of_mem_replicate hx];exact kY
 ·intro x hx;cases hx
 ·exact Nat.zero_le _
theorem nL(n:Nat)(h:0<n):(headD n).safe.length=n:=by
 show(dG n::replicate (n-1) aX).length=n;simp;omega
theorem E8(n:Nat):(gX n).safe.length=n:=by
 show(replicate n aX).length=n;simp
theorem GK(n:Nat)(h:0<n)(h2:n<=4096):(headD n).Ok:=by
 refine⟨by rw[nL n h];exact h,by rw[nL n h];exact h2,?_,?_,?_⟩
 ·intro x hx;rcases mem_cons.1 hx with rfl|hx
  ·exact uf n
  ·rw[eq_of_mem_replicate hx];exact kY
 ·intro x hx;cases hx
 ·exact Nat.zero_le _
theorem QC(n:Nat)(h:0<n):dN (headD n) 1=(headD n,0):=by
 unfold dN;rw[nL n h,zS _ _ _ (fun j h1 h2=>Az n j h1 (by omega)),su _ rfl rfl];rfl
theorem M0(n:Nat):dN (gX n) 0=(gX n,0):=by
 unfold dN;rw[E8,zS (gX n) _ _ (fun j h1 h2=>JV n j (by omega)),su _ rfl rfl];rfl
theorem TU(n:Nat)(h:0<n):replicate n aX=aX::replicate (n-1) aX:=by
 obtain⟨k,rfl⟩:∃k,n=k+1:=⟨n-1,by omega⟩;rfl
theorem QD(n:Nat)(h:0<n):dS (bK (gX n) 0 (dG n)).1=(headD n,0):=by
 rw[sw _ _ _ rfl rfl,su _ rfl rfl];have hs:({gX n with wait:=(gX n).wait++[(0,dG n)]}:Dk).seen=dG n::replicate (n-1) aX:=by
  show(replicate n aX).set 0 (dG n)=_;rw[TU n h];rfl
 rw[hs];rfl
theorem sD(n:Nat)(h:4<=n):kz (gX n)=(headD n,0):=by
 unfold kz;rw[E8,if_neg (by omega),M0,if_neg (by simp),sw (gX n) _ _ rfl rfl,if_neg (by simp),<-sw (gX n) _ _ rfl rfl,QD n (by omega)]
theorem QE(n:Nat):aX≠dG n:=by
 intro h;have h1:=congrArg (fun t=>t.data.toList.headD 0) h;have h2:aX.data.toList.headD 0=0:=by decide +kernel
 have h3:(dG n).data.toList.headD 0=97:=by
  unfold dG jB fC;simp only[ByteArray.data_append,Array.toList_append];rfl
 simp only[h2,h3] at h1;exact absurd h1 (by decide)
def Wz:Value:=.agg #[.int .i64 0,.int .u8 0,.string ⟨#[]⟩]
theorem zT{fn:Func}{p q u:Tmp}{s t:TypeId}(h:fn.results= #[.cell p s,.cell q t,.tmp u])(tmps:Array Value)(w:World){a:Nat}(hp:tmps.getD p undef=(Zp a))(hq:tmps.getD q undef=(Zp b))(hx:(loadVar s (Za a 0)).run prog w=.ok x w)(hy:(loadVar t (Za b 0)).run prog w=.ok y w):
  (results fn tmps).run prog w=.ok (.tuple #[x,y,tmps.getD u undef]) w:=by
 have hp':tmps[p]?.getD undef=(Zp a):=by simpa using hp
 have hq':tmps[q]?.getD undef=(Zp b):=by simpa using hq
 simp[results,h,hp',hq',asAddr,hx,hy]
def iV(z:Zy):Nat:=(z.data.toList.getD 0 0).toNat*256+(z.data.toList.getD 1 0).toNat
def eT(z:Zy):Nat:=(z.data.toList.getD 2 0).toNat
theorem TV(x y:Nat)(hx:x<256)(hy:y<256):bits .or .i64 (wrap64 (wrap64 (x:Int)*256)) (wrap64 (y:Int))=((x*256+y:Nat):Int):=by
 have e1:wrap64 (x:Int)=(x:Int):=by unfold wrap64;omega
 have e2:wrap64 ((x:Int)*256)=((x*256:Nat):Int):=by unfold wrap64;omega
 have e3:wrap64 (y:Int)=(y:Int):=by unfold wrap64;omega
 rw[e1,e2,e3,LC _ _ (by omega) (by omega)];have:=Nat.two_pow_add_eq_or_of_lt (i:=8) (b:=y) (by simpa using hy) x;rw[show x*256=2 ^ 8*x by omega,<-this]
theorem qM(z:Zy)(k:Nat)(h:k<z.size):z.data.toList.getD k 0=z[k]:=by
 rw[getD_eq_getElem?_getD,getElem?_eq_getElem (by rw[fe];exact h)];rfl
theorem JW(h:aB w d S)(ok:S.Ok)(at_ num crc:Nat)(ha:at_<S.safe.length)(z:Zy)(hz:S.seen.getD at_ ByteArray.empty=z)(hz2:z.size=64)(hbad:1000<iV z\/eT z<1\/4<eT z):
  Zc 151 #[iZ at_ num crc,Zp d.p] w fun e w'=>e=.returned (.tuple #[Wz,iZ at_ num crc,.bool false])/\aB w' d S/\Fr w w' [d.p]:=by
 have jD:=ok.most;have b0:Below w.heap.size w (((w.alloc (.cells #[Zi at_,.int .u32 (num:Nat),.int .u32 (crc:Nat)] 117)).alloc (.cells #[.int .i64 0,.int .u8 0,.string ⟨#[]⟩] 257)).alloc (.cells #[.int .i64 0,.int .u32 0,.int .u32 0] 117)):=(((Zr).alloc (Zn) _).alloc (by simp) _).alloc (by simp;omega) _;have c:=jH (h.below b0) ok at_ ha;rw[hz] at c;have hor:Hid (∀(h0:0<z.size) (h1:1<z.size),bits BinOp.or IntKind.i64 (wrap64 (wrap64 ((z[0]'h0).toNat:Int)*256)) (wrap64 ((z[1]'h1).toNat:Int))=((iV z:Nat):Int)):=fun h0 h1=>by
  rw[TV _ _ (UInt8.toNat_lt _) (UInt8.toNat_lt _)];unfold iV;rw[qM z 0 h0,qM z 1 h1]
 have hki:Hid (∀(h2:2<z.size),(z[2]'h2).toNat=eT z):=fun h2=>by unfold eT;rw[qM z 2 h2]
 have hpl:d.p<w.heap.size:=h.row.lt;have hk8:eT z<256:=UInt8.toNat_lt _;generalize iV z=n at *;generalize eT z=k at *;unfold iZ;go_enter func151,ntmps151;go_wp2_with(go_at_call 84;refine c.mono ?_;rintro e w2 ⟨rfl,h2,f2⟩);go_region;rw[hor.out,hki.out];have q:ai w2 w.heap.size 117 [Zi at_,.int .u32 (num:Nat),.int .u32 (crc:Nat)]/\ai w2 (w.heap.size+1) 257 [.int .i64 0,.int .u8 0,.string ⟨#[]⟩]/\ai w2 (w.heap.size+1+1) 117 [.int .i64 0,.int .u32 0,.int .u32 0]:=by
  refine⟨f2.row ⟨?_⟩ (by simp;omega),f2.row ⟨?_⟩ (by simp;omega),f2.row ⟨?_⟩ (by simp;omega)⟩
  ·rw[heap_alloc_old _ _ (by simp;omega),heap_alloc_old _ _ (by simp)];exact heap_alloc_new _ _
  ·have:=heap_alloc_new (w.alloc (.cells #[Zi at_,.int .u32 (num:Nat),.int .u32 (crc:Nat)] 117)) (.cells #[.int .i64 0,.int .u8 0,.string ⟨#[]⟩] 257);rw[show(w.alloc (.cells #[Zi at_,.int .u32 (num:Nat),.int .u32 (crc:Nat)] 117)).heap.size=w.heap.size+1 by simp] at this;rw[heap_alloc_old _ _ (by simp)];exact this
  ·have:=heap_alloc_new ((w.alloc (.cells #[Zi at_,.int .u32 (num:Nat),.int .u32 (crc:Nat)] 117)).alloc (.cells #[.int .i64 0,.int .u8 0,.string ⟨#[]⟩] 257)) (.cells #[.int .i64 0,.int .u32 0,.int .u32 0] 117);rw[show((w.alloc (.cells #[Zi at_,.int .u32 (num:Nat),.int .u32 (crc:Nat)] 117)).alloc (.cells #[.int .i64 0,.int .u8 0,.string ⟨#[]⟩] 257)).heap.size=w.heap.size+1+1 by simp] at this;exact this
 have HF:Hid (Fr w w2 [d.p]):=((((Fr.refl w [d.p]).alloc _).alloc _).alloc _).trans f2 (fun x hx _=>hx);have HD:Hid _:=h2;have HN:Hid (∀b∈d.blocks,b∉ [w.heap.size+1,w.heap.size+1+1]):=fun b hb hm=>by
  have:=h.lt b hb;simp at hm;omega
 clear h2 f2 c h;have n01:w.heap.size≠w.heap.size+1:=by omega
 have n02:w.heap.size≠w.heap.size+1+1:=by omega
 have n12:w.heap.size+1≠w.heap.size+1+1:=by omega
 have HG:Hid (w.heap.size<=w.heap.size+1/\w.heap.size<=w.heap.size+1+1):=⟨by omega,by omega⟩;generalize w.heap.size+1+1=B2 at *;generalize w.heap.size+1=B1 at *;generalize hB0:w.heap.size=B0 at *;obtain⟨q0,q1,q2⟩:=q;have a0:w2.cell? (Za B0 0)=some (Zi at_):=q0.cell 0;have a1:w2.cell? (Za B0 1)=some (.int .u32 (num:Nat)):=q0.cell 1;have a2:w2.cell? (Za B0 2)=some (.int .u32 (crc:Nat)):=q0.cell 2;have c0:w2.cell? (Za B1 0)=some (.int .i64 0):=q1.cell 0;have c1:w2.cell? (Za B1 1)=some (.int .u8 0):=q1.cell 1;have c2:w2.cell? (Za B1 2)=some (.string ⟨#[]⟩):=q1.cell 2;have d0:w2.cell? (Za B2 0)=some (.int .i64 0):=q2.cell 0;have d1:w2.cell? (Za B2 1)=some (.int .u32 0):=q2.cell 1;have d2:w2.cell? (Za B2 2)=some (.int .u32 0):=q2.cell 2;have f10:=q1.frozen 0;have f11:=q1.frozen 1;have f12:=q1.frozen 2;have f20:=q2.frozen 0;have f21:=q2.frozen 1;have f22:=q2.frozen 2;have HQ:Hid _:=q1;have HQ2:Hid _:=q2;clear q1 q2 q0;have kk:(1000:Int)<(n:Int)\/(¬(1000:Int)<(n:Int)/\(k:Int)<1)\/(¬(1000:Int)<(n:Int)/\¬(k:Int)<1/\(4:Int)<(k:Int)):=by omega
 rcases kk with k1|⟨k1,k2⟩|⟨k1,k2,k3⟩
 all_goals
  go_wp2;go_region;go_wp2;have r1:=(((HQ.out.set 0 (.int .i64 0)).set 1 (.int .u8 0)).set 2 (.string ⟨#[]⟩));have r1':=((r1.other (a:=(Za B2 0)) (Zi at_) n12).other (a:=(Za B2 1)) (.int .u32 (num:Nat)) n12).other (a:=(Za B2 2)) (.int .u32 (crc:Nat)) n12;have r2:=((((HQ2.out.other (a:=(Za B1 0)) (.int .i64 0) n12.symm).other (a:=(Za B1 1)) (.int .u8 0) n12.symm).other (a:=(Za B1 2)) (.string ⟨#[]⟩) n12.symm).set 0 (Zi at_)).set 1 (.int .u32 (num:Nat));have r2':=r2.set 2 (.int .u32 (crc:Nat));refine bodyPost_ret (zT results151 _ _ rfl rfl (run_loadVar_row _ _ _ _ _ _ _ r1'.drew.drew.heap underlying257 rfl (by kernel_rfl)) (run_loadVar_row _ _ _ _ _ _ _ r2'.drew.drew.heap underlying117 rfl (by kernel_rfl))) rfl ?_;refine⟨rfl,?_,?_⟩
  ·refine HD.out.fr (bs:=[B1,B2]) (((((((((Fr.refl _ _).setCell _ _ (.inl (by simp))).setCell _ _ (.inl (by simp))).setCell _ _ (.inl (by simp))).setCell _ _ (.inl (by simp))).setCell _ _ (.inl (by simp))).setCell _ _ (.inl (by simp))).drew).drew) (HN.out)
  ·refine(((((((HF.out.setCell _ _ (.inr ?_)).setCell _ _ (.inr ?_)).setCell _ _ (.inr ?_)).setCell _ _ (.inr ?_)).setCell _ _ (.inr ?_)).setCell _ _ (.inr ?_)).drew).drew
   all_goals first|exact hB0▸HG.out.1|exact hB0▸HG.out.2
end
section
open Go.RowKit Go.Lib
theorem kK(a b:Zy):strCells (a++b)=strCells a++strCells b:=by
 simp[strCells,ByteArray.data_append]
theorem TW(h:w.ownsRow b 5 1 v m (strCells s))(hv:v≠ .slice none 0 0):(convert 124 9 v).run prog w=.ok (.string s) w:=by
 rcases h.2 with⟨h0,_⟩|⟨g,cap,cur,rfl,hb,hg,hc,hm,hs,ht⟩
 ·exact absurd h0 hv
 ·have hl:m=s.data.toList.length:=by have:=h.1;rw[strCells_length] at this;rw[Array.length_toList];show m=s.size;omega
  have hr:=run_convert_bytes_back (P:=prog) w 124 9 5 (Za g 0) cap s.data.toList underlying124 underlying5 underlying9 (fun j hj=>by
   have hadd:((Za g 0):Addr).add j=(Za g j):=by unfold Addr.add;split<;>simp_all
   rw[hadd,cell_of_row w g j cur _ (0,0) hg];have:(cur.toList.take (m*1))[j]? =(strCells s)[j]? :=by rw[ht]
   rw[getElem?_take_of_lt (by omega)] at this;simp only[Array.getElem?_toList] at this;rw[this];simp only[strCells,getElem?_map,getElem?_eq_getElem hj,Option.map_some])
  rw[<-hl] at hr;simpa using hr
theorem Dk.seen_size(ok:S.Ok):∀x∈S.seen,x.size=64:=by
 have:∀(ws:List (Nat × Zy)) (l:List Zy),(∀x∈l,x.size=64)->(∀x∈ws,x.2.size=64)->∀x∈over l ws,x.size=64:=by
  intro ws;induction ws with
  | nil=>intro l h _ x hx;exact h x hx
  | cons y ws ih=>
   intro l h1 h2;show∀x∈over (l.set y.1 y.2) ws,x.size=64;refine ih _ (fun x hx=>?_) (fun x hx=>h2 x (by simp[hx]));rcases mem_or_eq_of_mem_set hx with h|rfl
   ·exact h1 x h
   ·exact h2 y (by simp)
 exact this S.wait S.safe ok.sec (fun x hx=>(ok.wr x hx).2)
theorem TY:(prog.info? 5).map (fun i=>(i.zero,i.size,i.bytes))=some (some (.int .u8 0),1,1):=by kernel_rfl
theorem BF(h:aB w d S)(ok:S.Ok)(i n:Nat)(hn:1<=n)(hin:i+n<=S.safe.length):
  Zc 216 #[Zp d.p,Zi i,Zi n] w fun e w'=>e=.returned (.tuple #[.string (jS S.seen i n),.nilIface])/\aB w' d S/\Fr w w' [d.p]:=by
 obtain⟨i0,hi0,hz0,hz1,hz2⟩:=info_parts TY;have jD:=ok.most;have hss:=S.seen_length;have HS:Hid (∀j,(jS S.seen i j).size<=64*j):=fun j=>by
  by_cases hj:i+j<=S.seen.length
  ·rw[qK _ _ _ hj (Dk.seen_size ok)];omega
  ·unfold jS;rw[pE 64 _ (fun x hx=>Dk.seen_size ok x (mem_of_mem_drop (mem_of_mem_take hx))),length_take];omega
 have HH:Hid _:=h;have hpl:d.p<w.heap.size:=h.row.lt;clear h;obtain⟨R,HR⟩:∃R,Hid (jS S.seen i n=R):=⟨_,rfl⟩;rw[HR.out];go_enter func216,ntmps216;go_wp2;go_loopw [8,9] (fun dv iv wr=>∃k:Nat,i<=k/\k<=i+n/\iv=(Zi k)/\Hid (wr.ownsRow w.heap.size 5 1 dv (jS S.seen i (k-i)).size (strCells (jS S.seen i (k-i))))/\Hid (aB wr d S)/\Hid (Fr w wr [d.p])/\Hid (i<k->dv≠ .slice none 0 0)) (fun _ iv _=>i+n-(RowKit.intOf iv).toNat)
 case atStart=>exact⟨i,by omega,by omega,rfl,by show World.ownsRow _ _ _ _ _ _ _;rw[Nat.sub_self];exact World.ownsRow_nil _ _ _ _,HH.out,Fr.refl _ _,fun h=>absurd h (by omega)⟩
 case round=>
  obtain⟨k,hik,hkn,rfl,HO,HD,HF,hnil⟩:=hrel;by_cases hlt:k<i+n
  ·have i1:(k:Int)<(i:Int)+(n:Int):=by omega
   have cR':=jH HD.out ok k (by omega);have Gt:(S.seen.getD k ByteArray.empty).size=64:=by
    rw[getD_eq_getElem?_getD,getElem?_eq_getElem (by omega)];exact Dk.seen_size ok _ (Zg _)
   have hsucc:Hid (jS S.seen i (k+1-i)=jS S.seen i (k-i)++S.seen.getD k ByteArray.empty):=by
    show jS _ _ _=_;rw[show k+1-i=(k-i)+1 by omega,ES _ _ _ (by omega),show i+(k-i)=k by omega]
   have hsz:=HS.out (k-i);obtain⟨z,hz⟩:∃z,S.seen.getD k ByteArray.empty=z:=⟨_,rfl⟩;rw[hz] at cR' Gt hsucc;have cR:Hid _:=cR';clear cR';obtain⟨C,hC⟩:∃C,jS S.seen i (k-i)=C:=⟨_,rfl⟩;rw[hC] at HO hsucc hsz;clear hC hz;go_wp2_with(first
    | (go_at_call 84;refine Calls.mono cR.out ?_;rintro e w1 ⟨rfl,hd1,hf1⟩;have Vq:=aT HO.out hf1 (fun g hg hm=>by have:=(HO.out.lt g hg).1;simp at hm;omega))
    | (at_builtin;refine wpList_append_own_string _ rfl _ _ 124 9 rfl w.heap.size 5 i0 underlying124 underlying9 hi0 hz0 hz1 hz2 _ _ _ rfl Vq z rfl (by unfold maxLen;omega) (by omega) (by have:=hf1.size;have:=HF.out.size;omega) ?_;intro v' w2 hO2 hg2 Yf))
   refine⟨⟨k+1,by omega,by omega,rfl,?_,?_,?_,fun _ e=>?_⟩,?_⟩
   ·show World.ownsRow _ _ _ _ _ _ _;rw[hsucc.out,ByteArray.size_append,kK];exact hO2
   ·refine aB.fr (bs:=u8.ownBlock.toList) hd1 ((Fr.refl _ _).grown hg2 (fun g e=>.inl (Zo.2 e))) (fun b hb hm=>?_);have h1:=HH.out.lt b hb;have h2:=(HO.out.lt b (Zo.1 hm)).1;omega
   ·exact(HF.out.trans hf1 (fun x hx _=>hx)).grown hg2 (fun g e=>.inr (HO.out.lt g e).1)
   ·have:=(Yf.1 e).2;omega
   ·show i+n-(((k+1:Nat):Int)).toNat<i+n-((k:Int)).toNat;omega
  ·have i1:¬(k:Int)<(i:Int)+(n:Int):=by omega
   have hb:=TW HO.out (hnil.out (by omega));rw[show k-i=n by omega,HR.out] at hb;go_wp2;refine bodyPost_ret (results_tmp2 rfl _ _ _) rfl ?_;exact⟨rfl,HD.out,HF.out⟩
theorem Vr(h:aB w d S)(ok:S.Ok)(i n:Nat)(hn:n<=100)(hi:i<=S.safe.length)(hin:S.safe.length<i+n)(ea:Addr)(hg:w.cell? (Za 0 0)=some (.iface 452 (.pointer (some ea))))(hp:d.p≠0):
  Zc 216 #[Zp d.p,Zi i,Zi n] w fun e w'=>e=.returned (.tuple #[.string ⟨#[]⟩,.iface 452 (.pointer (some ea))])/\aB w' d S/\Fr w w' [d.p]:=by
 obtain⟨i0,hi0,hz0,hz1,hz2⟩:=info_parts TY;have jD:=ok.most;have hss:=S.seen_length;have HS:Hid (∀j,(jS S.seen i j).size<=64*j):=fun j=>by
  by_cases hj:i+j<=S.seen.length
  ·rw[qK _ _ _ hj (Dk.seen_size ok)];omega
  ·unfold jS;rw[pE 64 _ (fun x hx=>Dk.seen_size ok x (mem_of_mem_drop (mem_of_mem_take hx))),length_take];omega
 have HH:Hid _:=h;have hpl:d.p<w.heap.size:=h.row.lt;have HG:Hid _:=hg;have HG0:Hid (0<w.heap.size):=World.block_lt_of_cell? w _ hg;clear h hg;go_enter func216,ntmps216;go_wp2;go_loopw [8,9] (fun dv iv wr=>∃k:Nat,i<=k/\k<=S.safe.length/\iv=(Zi k)/\Hid (wr.ownsRow w.heap.size 5 1 dv (jS S.seen i (k-i)).size (strCells (jS S.seen i (k-i))))/\Hid (aB wr d S)/\Hid (Fr w wr [d.p])) (fun _ iv _=>i+n-(RowKit.intOf iv).toNat)
 case atStart=>exact⟨i,by omega,by omega,rfl,by show World.ownsRow _ _ _ _ _ _ _;rw[Nat.sub_self];exact World.ownsRow_nil _ _ _ _,HH.out,Fr.refl _ _⟩
 case round=>
  obtain⟨k,hik,hkn,rfl,HO,HD,HF⟩:=hrel;have i1:(k:Int)<(i:Int)+(n:Int):=by omega
  by_cases hlt:k<S.safe.length
  ·have cR':=jH HD.out ok k (by omega);have Gt:(S.seen.getD k ByteArray.empty).size=64:=by
    rw[getD_eq_getElem?_getD,getElem?_eq_getElem (by omega)];exact Dk.seen_size ok _ (Zg _)
   have hsucc:Hid (jS S.seen i (k+1-i)=jS S.seen i (k-i)++S.seen.getD k ByteArray.empty):=by
    show jS _ _ _=_;rw[show k+1-i=(k-i)+1 by omega,ES _ _ _ (by omega),show i+(k-i)=k by omega]
   have hsz:=HS.out (k-i);obtain⟨z,hz⟩:∃z,S.seen.getD k ByteArray.empty=z:=⟨_,rfl⟩;rw[hz] at cR' Gt hsucc;have cR:Hid _:=cR';clear cR';obtain⟨C,hC⟩:∃C,jS S.seen i (k-i)=C:=⟨_,rfl⟩;rw[hC] at HO hsucc hsz;clear hC hz;go_wp2_with(first
    | (go_at_call 84;refine Calls.mono cR.out ?_;rintro e w1 ⟨rfl,hd1,hf1⟩;have Vq:=aT HO.out hf1 (fun g hg hm=>by have:=(HO.out.lt g hg).1;simp at hm;omega))
    | (at_builtin;refine wpList_append_own_string _ rfl _ _ 124 9 rfl w.heap.size 5 i0 underlying124 underlying9 hi0 hz0 hz1 hz2 _ _ _ rfl Vq z rfl (by unfold maxLen;omega) (by omega) (by have:=hf1.size;have:=HF.out.size;omega) ?_;intro v' w2 hO2 hg2 Yf))
   refine⟨⟨k+1,by omega,by omega,rfl,?_,?_,?_⟩,?_⟩
   ·show World.ownsRow _ _ _ _ _ _ _;rw[hsucc.out,ByteArray.size_append,kK];exact hO2
   ·refine aB.fr (bs:=u8.ownBlock.toList) hd1 ((Fr.refl _ _).grown hg2 (fun g e=>.inl (Zo.2 e))) (fun b hb hm=>?_);have h1:=HH.out.lt b hb;have h2:=(HO.out.lt b (Zo.1 hm)).1;omega
   ·exact(HF.out.trans hf1 (fun x hx _=>hx)).grown hg2 (fun g e=>.inr (HO.out.lt g e).1)
   ·show i+n-(((k+1:Nat):Int)).toNat<i+n-((k:Int)).toNat;omega
  ·have hc:wr.cell? (Za 0 0)=some (.iface 452 (.pointer (some ea))):=by
    rw[World.cell?_of_block (HF.out.block 0 HG0.out (by simp;omega))];exact HG.out
   have cR':=JB HD.out ok (k:Int) (by omega) ea hc hp;have cR:Hid _:=cR';clear cR';go_wp2_with(go_at_call 84;refine Calls.mono cR.out ?_;rintro e w1 ⟨rfl,hd1,hf1⟩);refine bodyPost_ret (results_tmp2 rfl _ _ _) rfl ?_;exact⟨rfl,hd1,HF.out.trans hf1 (fun x hx _=>hx)⟩
end
section
open Go.RowKit
def Am(at_ k:Nat)(t:Zy):Value:=.agg #[Zi at_,.int .u8 (k:Nat),.string t]
theorem JX(h:aB w d S)(ok:S.Ok)(at_ num crc:Nat)(ha:at_<S.safe.length)(z:Zy)(hz:S.seen.getD at_ ByteArray.empty=z)(hz2:z.size=64)(hn:iV z<=1000)(hk1:1<=eT z)(hk4:eT z<=4)(hfit:at_+fU (iV z)<=S.safe.length)(JY:num+1<4294967296)(T9:crc<4294967296):
  Zc 151 #[iZ at_ num crc,Zp d.p] w fun e w'=>e=.returned (.tuple #[Am at_ (eT z) (mJ S.seen at_ (iV z)),iZ (at_+fU (iV z)) (num+1) (gB (eT z) num crc (mJ S.seen at_ (iV z))),.bool (decide (jS S.seen at_ (fU (iV z))=mq (eT z) num crc (mJ S.seen at_ (iV z))))])/\aB w' d S/\Fr w w' [d.p]:=by
 have jD:=ok.most;have b0:Below w.heap.size w (((w.alloc (.cells #[Zi at_,.int .u32 (num:Nat),.int .u32 (crc:Nat)] 117)).alloc (.cells #[.int .i64 0,.int .u8 0,.string ⟨#[]⟩] 257)).alloc (.cells #[.int .i64 0,.int .u32 0,.int .u32 0] 117)):=(((Zr).alloc (Zn) _).alloc (by simp) _).alloc (by simp;omega) _;have c:=jH (h.below b0) ok at_ ha;rw[hz] at c;have hor:Hid (∀(h0:0<z.size) (h1:1<z.size),bits BinOp.or IntKind.i64 (wrap64 (wrap64 ((z[0]'h0).toNat:Int)*256)) (wrap64 ((z[1]'h1).toNat:Int))=((iV z:Nat):Int)):=fun h0 h1=>by
  rw[TV _ _ (UInt8.toNat_lt _) (UInt8.toNat_lt _)];unfold iV;rw[qM z 0 h0,qM z 1 h1]
 have hki:Hid (∀(h2:2<z.size),(z[2]'h2).toNat=eT z):=fun h2=>by unfold eT;rw[qM z 2 h2]
 have hpl:d.p<w.heap.size:=h.row.lt;have hk8:eT z<256:=UInt8.toNat_lt _;generalize iV z=n at *;generalize eT z=k at *;have hN:1<=fU n/\fU n<=20:=by unfold fU;omega
 have cS:Hid (∀w,Zc 217 #[Zi n] w fun e w'=>e=.returned ((Zi (fU n)))/\w=w'):=fun w=>xD n (by omega) w;have hts:(mJ S.seen at_ n).size=n:=nG _ _ _ (by rw[S.seen_length];exact hfit) (Dk.seen_size ok);have hrs:(jS S.seen at_ (fU n)).size=64*fU n:=qK _ _ _ (by rw[S.seen_length];exact hfit) (Dk.seen_size ok);have cW':=fun w=>Gg at_ num crc k (mJ S.seen at_ n) (by omega) hk8 JY T9 (by omega) w;rw[hts] at cW';have hte:Hid ((jS S.seen at_ (fU n)).extract 11 (11+n)=mJ S.seen at_ n):=rfl;have hb64:11+n<=64*fU n:=by unfold fU;omega
 have cT:Hid (∀w,aB w d S->Zc 216 #[Zp d.p,Zi at_,(Zi (fU n))] w fun e w'=>e=.returned (.tuple #[.string (jS S.seen at_ (fU n)),.nilIface])/\aB w' d S/\Fr w w' [d.p]):=fun w hw=>BF hw ok at_ (fU n) hN.1 hfit;rw[show(11+n+63) / 64=fU n from rfl] at cW';unfold iZ at cW';generalize hAN:at_+fU n=AN at *;generalize hNN:num+1=NN at *;have cW:Hid _:=cW';clear cW';generalize mJ S.seen at_ n=T at *;generalize jS S.seen at_ (fU n)=R at *;generalize mq k num crc T=RT at *;generalize gB k num crc T=RC at *;generalize fU n=N at *;unfold iZ;go_enter func151,ntmps151;go_wp2_with(go_at_call 84;refine c.mono ?_;rintro e w2 ⟨rfl,h2,f2⟩);go_region;rw[hor.out,hki.out];have q:ai w2 w.heap.size 117 [Zi at_,.int .u32 (num:Nat),.int .u32 (crc:Nat)]/\ai w2 (w.heap.size+1) 257 [.int .i64 0,.int .u8 0,.string ⟨#[]⟩]/\ai w2 (w.heap.size+1+1) 117 [.int .i64 0,.int .u32 0,.int .u32 0]:=by
  refine⟨f2.row ⟨?_⟩ (by simp;omega),f2.row ⟨?_⟩ (by simp;omega),f2.row ⟨?_⟩ (by simp;omega)⟩
  ·rw[heap_alloc_old _ _ (by simp;omega),heap_alloc_old _ _ (by simp)];exact heap_alloc_new _ _
  ·have:=heap_alloc_new (w.alloc (.cells #[Zi at_,.int .u32 (num:Nat),.int .u32 (crc:Nat)] 117)) (.cells #[.int .i64 0,.int .u8 0,.string ⟨#[]⟩] 257);rw[show(w.alloc (.cells #[Zi at_,.int .u32 (num:Nat),.int .u32 (crc:Nat)] 117)).heap.size=w.heap.size+1 by simp] at this;rw[heap_alloc_old _ _ (by simp)];exact this
  ·have:=heap_alloc_new ((w.alloc (.cells #[Zi at_,.int .u32 (num:Nat),.int .u32 (crc:Nat)] 117)).alloc (.cells #[.int .i64 0,.int .u8 0,.string ⟨#[]⟩] 257)) (.cells #[.int .i64 0,.int .u32 0,.int .u32 0] 117);rw[show((w.alloc (.cells #[Zi at_,.int .u32 (num:Nat),.int .u32 (crc:Nat)] 117)).alloc (.cells #[.int .i64 0,.int .u8 0,.string ⟨#[]⟩] 257)).heap.size=w.heap.size+1+1 by simp] at this;exact this
 have HF:Hid (Fr w w2 [d.p]):=((((Fr.refl w [d.p]).alloc _).alloc _).alloc _).trans f2 (fun x hx _=>hx);have HD:Hid _:=h2;have HN:Hid (∀b∈d.blocks,b∉ [w.heap.size+1,w.heap.size+1+1]):=fun b hb hm=>by
  have:=h.lt b hb;simp at hm;omega
 clear h2 f2 c h;have nd:w.heap.size≠d.p/\w.heap.size+1≠d.p/\w.heap.size+1+1≠d.p:=by omega
 have n01:w.heap.size≠w.heap.size+1:=by omega
 have n02:w.heap.size≠w.heap.size+1+1:=by omega
 have n12:w.heap.size+1≠w.heap.size+1+1:=by omega
 have HG:Hid (w.heap.size<=w.heap.size+1/\w.heap.size<=w.heap.size+1+1):=⟨by omega,by omega⟩;generalize w.heap.size+1+1=B2 at *;generalize w.heap.size+1=B1 at *;generalize hB0:w.heap.size=B0 at *;obtain⟨q0,q1,q2⟩:=q;have a0:w2.cell? (Za B0 0)=some (Zi at_):=q0.cell 0;have k1:¬(1000:Int)<(n:Int):=by omega
 have k2:¬(k:Int)<1:=by omega
 have k3:¬(4:Int)<(k:Int):=by omega
 have Q0:Hid _:=q0;have Q1:Hid _:=q1;have Q2:Hid _:=q2;clear q0 q1 q2;go_wp2;go_region_held3 (fun w'=>w'.cell? (Za B0 0)=some (Zi at_)) ((first|exact a0|assumption|exact ay a0 (O8.block _ Q0.out.lt (by simp;exact nd.1)))) ((first|(go_at_call 217;refine Calls.mono (cS.out _) ?_;rintro e w3 ⟨rfl,rfl⟩)|(go_at_call 216;refine Calls.mono (cT.out _ (HD.out.below (Zr).drew.drew)) ?_;rintro e w4 ⟨rfl,hd4,O8⟩)));have q0:=O8.row Q0.out.drew.drew (by simp;exact nd.1);have q1:=O8.row Q1.out.drew.drew (by simp;exact nd.2.1);have q2:=O8.row Q2.out.drew.drew (by simp;exact nd.2.2);have l1:=q1.lt;have l2:=q2.lt;have a0:=q0.cell 0;have a1:=q0.cell 1;have a2:=q0.cell 2;have HF4:Hid (Fr w w4 [d.p]):=(HF.out.drew.drew).trans O8 (fun x hx _=>hx);have HD4:Hid _:=hd4;have P1:Hid _:=q1;have P2:Hid _:=q2;have P0:Hid _:=q0;clear q1 q2 q0 O8 hd4;have e1:(11:Int)+(n:Int)<=(R.size:Int):=by rw[hrs];omega
 have e2:((11+n:Nat):Int)=11+(n:Int):=by omega
 have e3:((11:Int)+(n:Int)).toNat=11+n:=by omega
 go_wp2_with(go_at_call 167;go_loud (rw[hte.out];refine Calls.mono (cW.out _) ?_;rintro e w5 ⟨rfl,hb5⟩;have p0:=P0.out.below hb5 P0.out.lt));have Iy:Below w4.heap.size w4 (w5.alloc (.cells #[Zi AN,.int .u32 (NN:Nat),.int .u32 (RC:Nat)] 117)):=hb5.alloc hb5.size _;have r0:=P0.out.below Iy P0.out.lt;have r1:=P1.out.below Iy P1.out.lt;have r2:=P2.out.below Iy P2.out.lt;have r3:=ai.new w5 117 [Zi AN,.int .u32 (NN:Nat),.int .u32 (RC:Nat)];have hl5:=hb5.size;have l0:=P0.out.lt;generalize(w5.alloc (.cells #[Zi AN,.int .u32 (NN:Nat),.int .u32 (RC:Nat)] 117))=W at *;have n31:w5.heap.size≠B1:=by omega
 have n32:w5.heap.size≠B2:=by omega
 generalize w5.heap.size=B3 at *;clear a0 a1 a2 p0;have a0:W.cell? (Za B0 0)=some (Zi at_):=r0.cell 0;have t0:W.cell? (Za B3 0)=some (Zi AN):=r3.cell 0;have t1:W.cell? (Za B3 1)=some (.int .u32 (NN:Nat)):=r3.cell 1;have t2:W.cell? (Za B3 2)=some (.int .u32 (RC:Nat)):=r3.cell 2;have c0:W.cell? (Za B1 0)=some (.int .i64 0):=r1.cell 0;have c1:W.cell? (Za B1 1)=some (.int .u8 0):=r1.cell 1;have c2:W.cell? (Za B1 2)=some (.string ⟨#[]⟩):=r1.cell 2;have d0:W.cell? (Za B2 0)=some (.int .i64 0):=r2.cell 0;have d1:W.cell? (Za B2 1)=some (.int .u32 0):=r2.cell 1;have d2:W.cell? (Za B2 2)=some (.int .u32 0):=r2.cell 2;have f10:=r1.frozen 0;have f11:=r1.frozen 1;have f12:=r1.frozen 2;have f20:=r2.frozen 0;have f21:=r2.frozen 1;have f22:=r2.frozen 2;have HQ:Hid _:=r1;have HQ2:Hid _:=r2;have HA:Hid _:=Iy;clear r0 r1 r2 r3 Iy hb5;go_region;go_wp2;have r1:=(((HQ.out.set 0 (Zi at_)).set 1 (.int .u8 (k:Nat))).set 2 (.string T));have r1':=((r1.other (a:=(Za B2 0)) (Zi AN) n12).other (a:=(Za B2 1)) (.int .u32 (NN:Nat)) n12).other (a:=(Za B2 2)) (.int .u32 (RC:Nat)) n12;have r2:=((((HQ2.out.other (a:=(Za B1 0)) (Zi at_) n12.symm).other (a:=(Za B1 1)) (.int .u8 (k:Nat)) n12.symm).other (a:=(Za B1 2)) (.string T) n12.symm).set 0 (Zi AN)).set 1 (.int .u32 (NN:Nat));have r2':=r2.set 2 (.int .u32 (RC:Nat));refine bodyPost_ret (zT results151 _ _ rfl rfl (run_loadVar_row _ _ _ _ _ _ _ r1'.drew.heap underlying257 rfl (by kernel_rfl)) (run_loadVar_row _ _ _ _ _ _ _ r2'.drew.heap underlying117 rfl (by kernel_rfl))) rfl ?_;refine⟨by rw[<-gP];rfl,?_,?_⟩
 ·refine(HD4.out.below HA.out).fr (bs:=[B1,B2]) ((((((((Fr.refl _ _).setCell _ _ (.inl (by simp))).setCell _ _ (.inl (by simp))).setCell _ _ (.inl (by simp))).setCell _ _ (.inl (by simp))).setCell _ _ (.inl (by simp))).setCell _ _ (.inl (by simp))).drew) (HN.out)
 ·refine(((((((HF4.out.trans (Fr.of_below HA.out [d.p]) (fun x hx _=>hx)).setCell _ _ (.inr ?_)).setCell _ _ (.inr ?_)).setCell _ _ (.inr ?_)).setCell _ _ (.inr ?_)).setCell _ _ (.inr ?_)).setCell _ _ (.inr ?_)).drew
  all_goals first|exact hB0▸HG.out.1|exact hB0▸HG.out.2
end
section
open Go.RowKit Go.Maps
theorem aa0:WideMaps.KeyLaw prog 121:=deep_law (m:=2) (by omega) (by kernel_rfl) (by kernel_rfl) (by kernel_rfl)
theorem iJ:Keyed prog 121:=Keyed.of_law aa0
theorem E9{α β:Type}{f:α->Option β}{g:α->β}:∀{l:List α},(∀x∈l,f x=some (g x))->l.mapM f=some (l.map g)
 |[],_=>rfl
 | a::l,h=>by
  rw[mapM_cons,h a (by simp),E9 (fun x hx=>h x (by simp[hx]))];rfl
theorem M4{α β:Type}(l:List α)(f:α->β)(d:α):((List.range l.length).map fun i=> [f (l.getD i d)]).flatten=l.map f:=by
 have h1:∀(L:List Nat) (g:Nat->β),(L.map fun i=> [g i]).flatten=L.map g:=fun L g=>by induction L<;>simp_all
 rw[h1 (List.range l.length) (fun i=>f (l.getD i d))];apply ext_getElem
 ·simp
 ·intro i h1 h2;simp at h1 h2;simp[h1]
theorem wG:prog.cellsOf 121=32/\prog.cellsOf 5=1/\prog.keyType 121=true/\decide (1<=prog.types.size)=true:=⟨by kernel_rfl,by kernel_rfl,by kernel_rfl,by kernel_rfl⟩
theorem JZ(d:Nat)(l:List Nat)(hl:l.length=32)(h:∀x∈l,x<256):prog.keyLits (d+2) 121 (bytes l)=some (l.map fun(x:Nat)=>Lit.int .u8 (x:Nat)):=by
 obtain⟨c1,c2,_,_⟩:=wG;have hu:prog.underlying 121=some (.array 32 5):=underlying121;have hb:prog.underlying 5=some (.int .u8):=underlying5;have e1:∀i∈List.range 32,prog.keyLits (d+1) 5 (((bytes l).drop (i*1)).take 1)=some ([Lit.int .u8 (l.getD i 0:Nat)]):=fun i hi=>by
  have hi':i<l.length:=by rw[hl];exact mem_range.1 hi
  have hx:=h _ (Zg hi');have hd:((bytes l).drop (i*1)).take 1=[.int .u8 (l[i]:Nat)]:=by
   rw[Nat.mul_one,drop_eq_getElem_cons (by rw[aF];exact hi')];simp[bytes]
  have hw:(Lit.int .u8 (l[i]:Nat)).wf=true:=by
   simp[Lit.wf,IntKind.min,IntKind.max,IntKind.signed,IntKind.bits];omega
  rw[hd];simp only[Program.keyLits,hb,hw,and_self,if_true,getD_eq_getElem?_getD,getElem?_eq_getElem hi',Option.getD_some]
 unfold Program.keyLits;simp only[hu,c1,c2,aF,hl,if_true];rw[E9 e1];simp only[Option.map_some];refine congrArg some ?_;rw[<-hl];exact M4 l (fun x:Nat=>Lit.int .u8 (x:Nat)) 0
theorem J2(l:List Nat)(h:∀x∈l,x<256):keyBytes (l.map fun(x:Nat)=>Lit.int .u8 (x:Nat))=l.map UInt8.ofNat:=by
 unfold keyBytes;rw[flatMap_map];induction l with
 | nil=>rfl
 | cons a l ih=>
  rw[flatMap_cons,ih (fun x hx=>h x (by simp[hx])),map_cons];have ha:=h a (by simp);have e:((a:Int) % 2 ^ 8).toNat=a:=by omega
  show bytesBE (8 / 8) ((a:Int) % 2 ^ 8).toNat++_=_;rw[e];simp[bytesBE,bytesLE,Nat.mod_eq_of_lt ha]
theorem jW(s:Zy)(h:s.size=32):keyOf prog 121 (dA s)=some (.string s.data.toList):=by
 obtain⟨c1,c2,c3,c4⟩:=wG;have hu:prog.underlying 121=some (.array 32 5):=underlying121;have hl:(af s).length=32:=by rw[aM];exact h
 obtain⟨d,hd⟩:∃d,prog.types.size=d+1:=⟨prog.types.size-1,by have:=of_decide_eq_true c4;omega⟩;have hk:=JZ d (af s) hl (jP s);have hf:(dA s).formed prog 121=true:=by
  unfold dA Value.formed;simp only[hu,c1,size_toArray,aF,hl,beq_self_eq_true]
 unfold keyOf;simp only[hu,c3,hf,Bool.and_self,if_true,hd];unfold dA;simp only[Value.cells];rw[hk];simp only[Option.map_some];rw[J2 _ (jP s)];refine congrArg (fun z=>some (Lit.string z)) ?_;have e:UInt8.ofNat∘UInt8.toNat=id:=by funext x;simp
 simp[af,e]
def qz(a n:Nat):DataW Unit:=.agg [.lit (.int .i64 (a:Nat)),.lit (.int .i64 (n:Nat))]
def kU(a n:Nat):Value:=.agg #[Zi a,Zi n]
open Classical in
noncomputable def sF(v:Value):Option (DataW Unit × List MemPlace):=if h:∃p:Nat × Nat,v=kU p.1 p.2 then some (qz h.choose.1 h.choose.2,[]) else none
theorem J3{a:Nat}(h:kU a n=kU a' n'):a=a'/\n=n':=by
 simp[kU] at h;omega
theorem lV{a:Nat}(h:qz a n=qz a' n'):a=a'/\n=n':=by
 simp[qz] at h;omega
theorem uR(a n:Nat):sF (kU a n)=some (qz a n,[]):=by
 have h:∃p:Nat × Nat,kU a n=kU p.1 p.2:=⟨(a,n),rfl⟩;unfold sF;rw[dif_pos h];obtain⟨h1,h2⟩:=J3 h.choose_spec;rw[<-h1,<-h2]
theorem pK{y:DataW Unit × List MemPlace}(h:sF v=some y):∃a n:Nat,v=kU a n/\y.1=qz a n:=by
 unfold sF at h;split at h
 ·rename_i h0;cases h
  exact⟨_,_,h0.choose_spec,rfl⟩
 ·cases h
def cu(w:World)(b n:Nat)(D:DataW Unit):Prop:=w.ownsMap prog 121 sF b n D
theorem O9:(prog.info? 290).map (fun i=>(i.zero,i.size))=some (some (kU 0 0),2):=by kernel_rfl
theorem BG(h:cu w b n D)(s:Zy)(hs:s.size=32):∃a m:Nat,(Instr.lookup 112 (.map (some b)) (dA s) true).run prog w=.ok (.tuple #[kU a m,.bool (Maps.has D (.string s.data.toList))]) w/\D.atKey (.string s.data.toList) (qz 0 0)=qz a m:=by
 obtain⟨hz,_⟩:=zero_of_info O9;obtain⟨v,ps,hrun,hv⟩:=World.ownsMap.look_ok h (t:=112) (e:=290) iJ underlying112 (hz w) (uR 0 0) (jW s hs);obtain⟨a,m,rfl,hd⟩:=pK hv;exact⟨a,m,hrun,hd⟩
theorem Fa(ms:List Nat)(hms:ms.length=4)(k:Nat)(hk:k<4)(sum:Zy)(hs:sum.size=32)(h:cu w (ms[k]'(by omega)) n D):
  Zc 219 #[.agg (aG ms).toArray,.int .u8 (k:Nat),dA sum] w fun e w'=>e=.returned (.bool (Maps.has D (.string sum.data.toList)))/\Below w.heap.size w w':=by
 have hk4:(k:Int)<4:=by omega
 have hk0:(0:Int)<=(k:Int):=by omega
 have hsv:dA sum=.agg (bytes (af sum)).toArray:=rfl;rw[hsv];go_enter func219,ntmps219;go_upto_region 1 with fail
 obtain⟨m,hm⟩:∃m,ms[k]'(by omega)=m:=⟨_,rfl⟩;rw[hm] at h;obtain⟨a,c,hrun,hat⟩:=BG h sum hs;have HL:Hid (∀w',cu w' m n D->(Instr.lookup 112 (.map (some m)) (.agg (bytes (af sum)).toArray) true).run prog w'=.ok (.tuple #[kU a c,.bool (Maps.has D (.string sum.data.toList))]) w'):=fun w' hw'=>by
  obtain⟨a',c',hrun',hat'⟩:=BG hw' sum hs;obtain⟨e1,e2⟩:=lV (hat.symm.trans hat');subst e1 e2;exact hrun'
 generalize hbb:Maps.has D (.string sum.data.toList)=bb at *;have Hbb:Hid _:=hbb;clear hbb;have hl32:(bytes (af sum)).length=32:=by rw[aF,aM,hs]
 have jR:(prog.info? 121).map (·.size)=some (bytes (af sum)).length:=by rw[hl32];kernel_rfl
 have r0:ai ((w.alloc (.cells (aG ms).toArray 114)).alloc (.cells (bytes (af sum)).toArray 121)) w.heap.size 114 (aG ms):=(ai.new w _ _).below ((Zr).alloc (Zn) _) (by simp);have r1:=ai.new (w.alloc (.cells (aG ms).toArray 114)) 121 (bytes (af sum));rw[show(w.alloc (.cells (aG ms).toArray 114)).heap.size=w.heap.size+1 by simp] at r1;have hO:cu ((w.alloc (.cells (aG ms).toArray 114)).alloc (.cells (bytes (af sum)).toArray 121)) m n D:=World.ownsMap.alloc (World.ownsMap.alloc h _) _;have hb:Below w.heap.size w ((w.alloc (.cells (aG ms).toArray 114)).alloc (.cells (bytes (af sum)).toArray 121)):=((Zr).alloc (Zn) _).alloc (by simp) _;generalize((w.alloc (.cells (aG ms).toArray 114)).alloc (.cells (bytes (af sum)).toArray 121))=W at *;have ck:W.cell? (Za w.heap.size k)=some (.map (some m)):=by rw[r0.cell k];simp[aG,hms,hk,hm]
 have hrg:W.rangeAt (w.heap.size+1) 0 (bytes (af sum)):=fun j v hv=>by rw[Nat.zero_add,r1.cell j];exact hv
 generalize bytes (af sum)=C at *;refine bF ?_;refine wp_region_held_drew (S:=fun w'=>w'.cell? (Za w.heap.size k)=some (.map (some m))/\w'.rangeAt (w.heap.size+1) 0 C/\cu w' m n D) (by kernel_rfl) ⟨by simpa using ck,by simpa using hrg,World.ownsMap.drew hO⟩ (fun ah=>?_);refine Zt 0 (.int .u8 (k:Nat)) ?_;refine Zt 1 (.pointer (some (Za w.heap.size k))) ?_;refine Zt 2 (.map (some m)) ?_;refine Zt 3 (.agg C.toArray) ?_ (hy:=yieldsIf_load_mid (by rfl) _ _ rfl (w.heap.size+1) 0 rfl C _ (fun w h=>h.2.1) underlying121 rfl jR);refine Zt 4 (.tuple #[kU a c,.bool bb]) ?_ (hy:=Or.inl ⟨by rfl,by intro w hSw;unfold execOp;simp only[Sem.run_bind];erw[HL.out w hSw.2.2];rfl⟩);refine Zt 5 (.tuple #[kU a c,.bool bb]) ?_;refine Zt 6 (kU a c) ?_;refine Zt 7 (.bool bb) ?_;have hS':∀(w1:World) (o:Obj),(w1.cell? (Za w.heap.size k)=some (.map (some m))/\w1.rangeAt (w.heap.size+1) 0 C/\cu w1 m n D)->((w1.alloc o).cell? (Za w.heap.size k)=some (.map (some m))/\(w1.alloc o).rangeAt (w.heap.size+1) 0 C/\cu (w1.alloc o) m n D):=fun w1 o h=>⟨by rw[World.cell?_alloc_lt _ _ _ (Zd h.1)];exact h.1,World.rangeAt_alloc h.2.1 o,World.ownsMap.alloc h.2.2 o⟩;refine Zh 8 fun K hK=>?_;refine aD rfl (v:=(Zp W.drew.heap.size)) (w':=W.drew.alloc (.cells #[.int .i64 0,.int .i64 0] 290)) (by go_simp) ?_;refine hK.out _ _ (hS' _ _ ah) (fun ah=>?_);clear hK K;(try simp only[Act.put,lA,lZ,lS]);refine Zh 9 fun K hK=>?_;refine step_skip rfl (w':=W.drew.alloc (.cells #[Zi a,Zi c] 290)) (by unfold kU;go_simp) ?_;refine hK.out _ _ (hS' _ _ ⟨by simpa using ck,by simpa using hrg,World.ownsMap.drew hO⟩) (fun ah=>?_);clear hK K
 try simp only[Act.put]
 refine Zh 10 fun K hK=>?_;go_simp;refine hK.out _ _ ah (fun ah=>?_);clear hK K;(try simp only[Act.put,lA,lZ,lS]);refine Zx ?_;simp only[At];go_wp2;go_ret;exact⟨by rw[Hbb.out];rfl,(hb.drew).alloc (by have:=hb.size;simpa using this) _⟩
theorem cu.fr(h:cu w b n D)(f:Fr w w' bs)(hb:b∉bs):cu w' b n D:=by
 have hlt:=World.ownsMap.lt h;obtain⟨es,clock,h1,F,hs,hD⟩:=h;exact⟨es,clock,(f.block b hlt hb).trans h1,F,hs,hD⟩
theorem WC(h:cu w b n D)(hn:n<maxLen)(s:Zy)(hs:s.size=32)(a c:Nat):∃w',(Instr.mapUpdate 112 (.map (some b)) (dA s) (kU a c)).run prog w=.ok () w'/\cu w' b (n+1) (D.put (.string s.data.toList) (qz a c))/\w.grownBy w' (some b):=
 World.ownsMap.update h iJ underlying112 hn (jW s hs) (uR a c)
theorem QF(ms:List Nat)(hms:ms.length=4)(k:Nat)(hk:k<4)(sum:Zy)(hs:sum.size=32)(a c:Nat)(hn:n<maxLen)(h:cu w (ms[k]'(by omega)) n D):
  Zc 223 #[.agg (aG ms).toArray,.int .u8 (k:Nat),dA sum,kU a c] w fun e w'=>e=.returned (.tuple #[])/\cu w' (ms[k]'(by omega)) (n+1) (if Maps.has D (.string sum.data.toList)=true then D else D.put (.string sum.data.toList) (qz a c))/\Fr w w' [ms[k]'(by omega)]:=by
 obtain⟨D',HD⟩:∃D',Hid ((if Maps.has D (.string sum.data.toList)=true then D else D.put (.string sum.data.toList) (qz a c))=D'):=⟨_,rfl⟩;rw[HD.out];have hk4:(k:Int)<4:=by omega
 have hk0:(0:Int)<=(k:Int):=by omega
 obtain⟨m,hm⟩:∃m,ms[k]'(by omega)=m:=⟨_,rfl⟩;have cH:Hid (∀w',cu w' m n D->Zc 219 #[.agg (aG ms).toArray,.int .u8 (k:Nat),.agg (bytes (af sum)).toArray] w' fun e w2=>e=.returned (.bool (Maps.has D (.string sum.data.toList)))/\Below w'.heap.size w' w2):=fun w' hw'=>Fa ms hms k hk sum hs (by rw[hm];exact hw');rw[hm] at h⊢;have hsv:dA sum=.agg (bytes (af sum)).toArray:=rfl;have HP:Hid (∀w',cu w' m n D->∃w2,(Instr.mapUpdate 112 (.map (some m)) (.agg (bytes (af sum)).toArray) (kU a c)).run prog w'=.ok () w2/\cu w2 m (n+1) (D.put (.string sum.data.toList) (qz a c))/\w'.grownBy w2 (some m)):=fun w' hw'=>WC hw' hn sum hs a c;rw[hsv];have hl32:(bytes (af sum)).length=32:=by rw[aF,aM,hs]
 have jR:(prog.info? 121).map (·.size)=some (bytes (af sum)).length:=by rw[hl32];kernel_rfl
 have hiM:(prog.info? 114).map (·.size)=some (aG ms).toArray.size:=by simp only[aG,size_toArray,length_map,hms];kernel_rfl
 have hiC':(prog.info? 121).map (·.size)=some (bytes (af sum)).toArray.size:=jR;go_enter func223,ntmps223;unfold kU;go_upto_region 1 with fail
 have r0:ai (((w.alloc (.cells (aG ms).toArray 114)).alloc (.cells (bytes (af sum)).toArray 121)).alloc (.cells #[Zi a,Zi c] 290)) w.heap.size 114 (aG ms):=((ai.new w _ _).below ((Zr).alloc (Zn) _) (by simp)).below ((Zr).alloc (Zn) _) (by simp;omega);have r1':=(ai.new (w.alloc (.cells (aG ms).toArray 114)) 121 (bytes (af sum))).below ((Zr).alloc (Zn) (.cells #[Zi a,Zi c] 290)) (by simp);have r1:ai (((w.alloc (.cells (aG ms).toArray 114)).alloc (.cells (bytes (af sum)).toArray 121)).alloc (.cells #[Zi a,Zi c] 290)) (w.heap.size+1) 121 (bytes (af sum)):=by
  rw[show(w.alloc (.cells (aG ms).toArray 114)).heap.size=w.heap.size+1 by simp] at r1';exact r1'
 have r2:ai (((w.alloc (.cells (aG ms).toArray 114)).alloc (.cells (bytes (af sum)).toArray 121)).alloc (.cells #[Zi a,Zi c] 290)) (w.heap.size+1+1) 290 [Zi a,Zi c]:=by
  have:=ai.new ((w.alloc (.cells (aG ms).toArray 114)).alloc (.cells (bytes (af sum)).toArray 121)) 290 [Zi a,Zi c];rw[show((w.alloc (.cells (aG ms).toArray 114)).alloc (.cells (bytes (af sum)).toArray 121)).heap.size=w.heap.size+1+1 by simp] at this;exact this
 have hO:cu (((w.alloc (.cells (aG ms).toArray 114)).alloc (.cells (bytes (af sum)).toArray 121)).alloc (.cells #[.int .i64 (a:Nat),.int .i64 (c:Nat)] 290)) m n D:=World.ownsMap.alloc (World.ownsMap.alloc (World.ownsMap.alloc h _) _) _;have hb:Below w.heap.size w (((w.alloc (.cells (aG ms).toArray 114)).alloc (.cells (bytes (af sum)).toArray 121)).alloc (.cells #[.int .i64 (a:Nat),.int .i64 (c:Nat)] 290)):=(((Zr).alloc (Zn) _).alloc (by simp) _).alloc (by simp;omega) _;have lm:m<w.heap.size:=World.ownsMap.lt h;clear r1';generalize(((w.alloc (.cells (aG ms).toArray 114)).alloc (.cells (bytes (af sum)).toArray 121)).alloc (.cells #[.int .i64 (a:Nat),.int .i64 (c:Nat)] 290))=W at *;have HO:Hid _:=hO;have Hh:Hid _:=h;clear hO h hsv;cases hbb:Maps.has D (.string sum.data.toList) with
 | true=>
  rw[hbb] at cH;have Hbb:Hid _:=hbb;clear hbb;go_wp2_with(first
   | (refine wpList_load_row rfl 114 _ rfl w.heap.size rfl _ _ _ _ r0.heap underlying114 rfl hiM ?_)
   | (refine wpList_load_row rfl 121 _ rfl (w.heap.size+1) rfl _ _ _ _ r1.heap underlying121 rfl hiC' ?_)
   | (go_at_call 219;refine Calls.mono (cH.out _ HO.out) ?_;rintro e w3 ⟨rfl,hb3⟩))
  go_end0;refine⟨rfl,?_,Fr.of_below (hb.trans (hb3.mono hb.size)) _⟩;rw[<-HD.out,if_pos Hbb.out];exact World.ownsMap.mono (cu.fr HO.out (Fr.of_below hb3 []) (by simp)) (by omega)
 | false=>
  rw[hbb] at cH;have Hbb:Hid _:=hbb;clear hbb;go_wp2_with(first
   | (refine wpList_load_row rfl 114 _ rfl w.heap.size rfl _ _ _ _ r0.heap underlying114 rfl hiM ?_)
   | (refine wpList_load_row rfl 121 _ rfl (w.heap.size+1) rfl _ _ _ _ r1.heap underlying121 rfl hiC' ?_)
   | (go_at_call 219;refine Calls.mono (cH.out _ HO.out) ?_;rintro e w3 ⟨rfl,hb3⟩))
  have s0:=r0.below hb3 r0.lt;have s1:=r1.below hb3 r1.lt;have s2:=r2.below hb3 r2.lt;have QG:=cu.fr HO.out (Fr.of_below hb3 []) (by simp);have bw3:=hb.trans (hb3.mono hb.size);have ck:w3.cell? (Za w.heap.size k)=some (.map (some m)):=by rw[s0.cell k];simp[aG,hms,hk,hm]
  have hrg:w3.rangeAt (w.heap.size+1) 0 (bytes (af sum)):=fun j v hv=>by rw[Nat.zero_add,s1.cell j];exact hv
  have hrg2:w3.rangeAt (w.heap.size+1+1) 0 [Zi a,Zi c]:=fun j v hv=>by rw[Nat.zero_add,s2.cell j];exact hv
  obtain⟨w4,hup,hO4,hg4⟩:=HP.out w3.drew (World.ownsMap.drew QG);have b1:w.heap.size+1+1<w3.heap.size:=s2.lt;clear s0 s1 s2 r0 r1 r2;generalize bytes (af sum)=C at *;unfold kU at hup;refine bF ?_;refine wp_region_held_drew (S:=fun w'=>w'.cell? (Za w.heap.size k)=some (.map (some m))/\w'.rangeAt (w.heap.size+1) 0 C/\w'.rangeAt (w.heap.size+1+1) 0 [Zi a,Zi c]) (by kernel_rfl) ⟨by simpa using ck,by simpa using hrg,by simpa using hrg2⟩ (fun ah=>?_);refine Zt 0 (.int .u8 (k:Nat)) ?_;refine Zt 1 (.pointer (some (Za w.heap.size k))) ?_;refine Zt 2 (.map (some m)) ?_;refine Zt 3 (.agg C.toArray) ?_ (hy:=yieldsIf_load_mid (by rfl) _ _ rfl (w.heap.size+1) 0 rfl C _ (fun w h=>h.2.1) underlying121 rfl jR);refine Zt 4 (.agg #[Zi a,Zi c]) ?_ (hy:=yieldsIf_load_mid (by rfl) _ _ rfl (w.heap.size+1+1) 0 rfl [Zi a,Zi c] _ (fun w h=>h.2.2) underlying290 rfl (by kernel_rfl));have hcell:=fun(x:Addr) (h1:x.block<w3.heap.size) (h2:x.block≠m)=>hg4.cell_far x (by simpa using h1) (fun e=>h2 (Option.some.inj e));refine Zh 5 fun K hK=>?_;refine step_skip rfl (w':=w4) (by unfold execOp;simp only[Sem.run_bind];erw[hup];rfl) ?_;refine hK.out _ _ ⟨by rw[hcell _ (by show w.heap.size<_;omega) (by show w.heap.size≠_;omega)];exact ah.1,fun j v hv=>by rw[hcell _ (by show w.heap.size+1<_;omega) (by show w.heap.size+1≠_;omega)];exact ah.2.1 j v hv,fun j v hv=>by rw[hcell _ (by show w.heap.size+1+1<_;omega) (by show w.heap.size+1+1≠_;omega)];exact ah.2.2 j v hv⟩ (fun ah=>?_);clear hK K;refine Zx ?_;simp only[At];go_wp2;go_end0;refine⟨rfl,?_,((Fr.of_below bw3 [m]).drew).grown hg4 (fun x hx=>.inl (by cases hx;simp))⟩;rw[<-HD.out,if_neg (by rw[Hbb.out];simp)];exact hO4
structure Ob where
 sum:Zy
 kind:Nat
 loc:Nat
 n:Nat
def WE(k:Nat)(s:Zy)(o:Ob):Bool:=decide (o.kind=k/\o.sum=s)
def gH(H:List Ob)(k:Nat)(s:Zy):Option Ob:=H.find? (WE k s)
def hasO(H:List Ob)(k:Nat)(s:Zy):Bool:=(gH H k s).isSome
def pO(H:List Ob)(o:Ob):List Ob:=if hasO H o.kind o.sum=true then H else H++[o]
def qj(seen:List Zy)(i num c:Nat):Option (Nat × Zy):=
 if i<seen.length/\iV (seen.getD i ByteArray.empty)<=1000/\1<=eT (seen.getD i ByteArray.empty)/\eT (seen.getD i ByteArray.empty)<=4/\i+fU (iV (seen.getD i ByteArray.empty))<=seen.length/\
   jS seen i (fU (iV (seen.getD i ByteArray.empty)))=mq (eT (seen.getD i ByteArray.empty)) num c (mJ seen i (iV (seen.getD i ByteArray.empty)))
 then some (eT (seen.getD i ByteArray.empty),mJ seen i (iV (seen.getD i ByteArray.empty))) else none
theorem wH(H:List Ob)(o:Ob)(k:Nat)(s:Zy):gH (H++[o]) k s=(gH H k s).or (if o.kind=k/\o.sum=s then some o else none):=by
 unfold gH;rw[find?_append];congr 1;simp only[find?_cons,find?_nil,WE];by_cases h:o.kind=k/\o.sum=s<;>simp[h]
theorem uq(H:List Ob)(o:Ob)(k:Nat)(s:Zy):hasO (pO H o) k s=(hasO H k s||decide (o.kind=k/\o.sum=s)):=by
 unfold pO;split
 ·rename_i h;by_cases e:o.kind=k/\o.sum=s
  ·obtain⟨rfl,rfl⟩:=e;simp[h]
  ·simp[e]
 ·unfold hasO;rw[wH];by_cases e:o.kind=k/\o.sum=s
  ·simp[e]
  ·simp[e]
theorem Fb{H:List Ob}{o:Ob}(h:gH H k s=some o):o∈H/\o.kind=k/\o.sum=s:=
 ⟨mem_of_find?_eq_some h,by have:=find?_some h;simpa [WE] using this⟩
structure Dn(D:DataW Unit)(H:List Ob)(k:Nat):Prop where
 map:Tidy D
 few:Maps.size D<=H.length
 has:∀s:Zy,Maps.has D (.string s.data.toList)=hasO H k s
 get:∀(s:Zy) (o:Ob),gH H k s=some o->∀z,D.atKey (.string s.data.toList) z=qz o.loc o.n
theorem uS{a b:Zy}(h:a≠b):Lit.string a.data.toList≠Lit.string b.data.toList:=fun e=>h (ji (by simpa using e))
theorem Dn.add{H:List Ob}(h:Dn D H k)(o:Ob)(hk:o.kind=k):Dn (if Maps.has D (.string o.sum.data.toList)=true then D else D.put (.string o.sum.data.toList) (qz o.loc o.n)) (pO H o) k:=by
 rw[h.has];subst hk;by_cases e:hasO H o.kind o.sum=true
 ·rw[if_pos e,pO,if_pos e];exact h
 ·rw[if_neg e];have hne:gH H o.kind o.sum=none:=by unfold hasO at e;simpa using e
  refine⟨Maps.Tidy.put h.map (by simp[WideAt.IsKeyLit]) _,?_,fun s=>?_,fun s x hx z=>?_⟩
  ·rw[Maps.size_put h.map,h.has,if_neg e,pO,if_neg e];have:=h.few;simp;omega
  ·rw[uq];by_cases es:o.sum=s
   ·subst es;rw[Maps.has_put_same h.map.isMap (by simp[WideAt.IsKeyLit])];simp
   ·rw[Maps.has_put_other (uS (Ne.symm es)),h.has];simp[es]
  ·rw[pO,if_neg e,wH] at hx;by_cases es:o.sum=s
   ·subst es;rw[hne] at hx;have:x=o:=by simpa using hx.symm
    subst this;exact Maps.atKey_put_same h.map.isMap (by simp[WideAt.IsKeyLit]) _ z
   ·rw[if_neg (fun h=>es h.2),Option.or_none] at hx;rw[Maps.atKey_put_other (uS (Ne.symm es))];exact h.get s x hx z
theorem Dn.other{H:List Ob}(h:Dn D H k)(o:Ob)(hk:o.kind≠k):Dn D (pO H o) k:=by
 refine⟨h.map,?_,fun s=>?_,fun s x hx z=>h.get s x ?_ z⟩
 ·have:=h.few;unfold pO;split
  ·exact this
  ·simp;omega
 ·rw[uq,h.has];simp[hk]
 ·unfold pO at hx;split at hx
  ·exact hx
  ·rw[wH,if_neg (fun h=>hk h.1),Option.or_none] at hx;exact hx
def gQ(E:List (Zy × Nat × Nat))(s:Zy):Option (Nat × Nat):=(E.find? fun x=>decide (x.1=s)).map (·.2)
structure Ea(D:DataW Unit)(E:List (Zy × Nat × Nat)):Prop where
 map:Tidy D
 few:Maps.size D<=E.length
 has:∀s:Zy,Maps.has D (.string s.data.toList)=(gQ E s).isSome
 get:∀(s:Zy) (x:Nat × Nat),gQ E s=some x->∀z,D.atKey (.string s.data.toList) z=qz x.1 x.2
theorem Fe(E:List (Zy × Nat × Nat))(y:Zy × Nat × Nat)(s:Zy):gQ (E++[y]) s=(gQ E s).or (if y.1=s then some y.2 else none):=by
 unfold gQ;rw[find?_append];cases h:E.find? (fun x=>decide (x.1=s)) with
 | some v=>simp
 | none=>
  by_cases e:y.1=s<;>simp[e]
theorem Ea.add(h:Ea D E)(s:Zy)(a b:Nat)(hn:gQ E s=none):Ea (D.put (.string s.data.toList) (qz a b)) (E++[(s,a,b)]):=by
 refine⟨Maps.Tidy.put h.map (by simp[WideAt.IsKeyLit]) _,?_,fun t=>?_,fun t x hx z=>?_⟩
 ·rw[Maps.size_put h.map,h.has,hn];have:=h.few;simp;omega
 ·rw[Fe];by_cases es:s=t
  ·subst es;rw[Maps.has_put_same h.map.isMap (by simp[WideAt.IsKeyLit])];simp
  ·rw[Maps.has_put_other (uS (Ne.symm es)),h.has];simp[es]
 ·rw[Fe] at hx;by_cases es:s=t
  ·subst es;rw[hn] at hx;have:x=(a,b):=by simpa using hx.symm
   subst this;exact Maps.atKey_put_same h.map.isMap (by simp[WideAt.IsKeyLit]) _ z
  ·rw[if_neg (show¬(s,a,b).1=t from es),Option.or_none] at hx;rw[Maps.atKey_put_other (uS (Ne.symm es))];exact h.get t x hx z
theorem Dn.empty(k:Nat):Dn (.map []) [] k:=⟨Maps.tidy_empty,by simp[Maps.size],fun _=>rfl,fun _ _ h=>by cases h⟩
theorem Ea.empty:Ea (.map []) []:=⟨Maps.tidy_empty,by simp[Maps.size],fun _=>rfl,fun _ _ h=>by cases h⟩
theorem wI(h:cu w b n D):cu w b (Maps.size D) D:=by
 obtain⟨es,clock,h1,h2,h3,rfl⟩:=h;exact⟨es,clock,h1,h2,by simp[Maps.size,length_sorted],rfl⟩
theorem BH{l:List Nat}(h:l.Nodup)(i j:Nat)(hi:i<l.length)(hj:j<l.length)(e:i≠j):l[i]≠l[j]:=by
 rcases Nat.lt_or_gt_of_ne e with h1|h1
 ·exact pairwise_iff_getElem.1 h i j hi hj h1
 ·exact fun he=>pairwise_iff_getElem.1 h j i hj hi h1 he.symm
structure fF(w:World)(ms:List Nat)(H:List Ob):Prop where
 len:ms.length=4
 nodup:ms.Nodup
 at_:∀k (hk:k<4),∃D,cu w (ms[k]'(by omega)) (Maps.size D) D/\Dn D H k
theorem fF.lt{H:List Ob}(h:fF w ms H):∀b∈ms,b<w.heap.size:=fun b hb=>by
 obtain⟨k,hk,rfl⟩:=mem_iff_getElem.1 hb;obtain⟨D,h1,_⟩:=h.at_ k (by have:=h.len;omega);exact World.ownsMap.lt h1
theorem fF.fr{H:List Ob}(h:fF w ms H)(f:Fr w w' bs)(hb:∀b∈ms,b∉bs):fF w' ms H:=
 ⟨h.len,h.nodup,fun k hk=>by
  obtain⟨D,h1,h2⟩:=h.at_ k hk;exact⟨D,h1.fr f (hb _ (Zg _)),h2⟩⟩
theorem AA{H:List Ob}(h:fF w ms H)(k:Nat)(hk:k<4)(s:Zy)(hs:s.size=32):
  Zc 219 #[.agg (aG ms).toArray,.int .u8 (k:Nat),dA s] w fun e w'=>e=.returned (.bool (hasO H k s))/\Below w.heap.size w w':=by
 obtain⟨D,h1,h2⟩:=h.at_ k hk;have:=Fa ms h.len k hk s hs h1;rw[h2.has] at this;exact this
theorem Pb{H:List Ob}(h:fF w ms H)(o:Ob)(hk:o.kind<4)(hs:o.sum.size=32)(hf:H.length<=100000):
  Zc 223 #[.agg (aG ms).toArray,.int .u8 (o.kind:Nat),dA o.sum,kU o.loc o.n] w fun e w'=>e=.returned (.tuple #[])/\fF w' ms (pO H o)/\Fr w w' ms:=by
 obtain⟨D,h1,h2⟩:=h.at_ o.kind hk;have hl:=h.len;refine(QF ms h.len o.kind hk o.sum hs o.loc o.n (by have:=h2.few;unfold maxLen;omega) h1).mono ?_;rintro e w' ⟨rfl,h3,f⟩;refine⟨rfl,⟨h.len,h.nodup,fun k hk'=>?_⟩,f.wider (by intro b hb;rw[Zm.1 hb];exact Zg _)⟩;by_cases e:k=o.kind
 ·subst e;exact⟨_,wI h3,h2.add o rfl⟩
 ·obtain⟨D',h4,h5⟩:=h.at_ k hk';refine⟨D',h4.fr f ?_,h5.other o (fun he=>e he.symm)⟩;rw[Zm];intro he;exact BH h.nodup _ _ _ _ e he
def mV(H:List Ob)(t:Zy):Bool:=match pu t with
 | none=>false
 | some (n,l)=>l.zipIdx.all fun x=>match gH H 1 x.1 with
  | none=>false
  | some o=>decide ((o.n:Int)=min ((n:Int)-x.2*96) 96)
structure Sc where
 H:List Ob
 E:List (Zy × Nat × Nat)
 I:List (Zy × Zy)
structure lH where
 q:Nat
 em:Nat
 ms:List Nat
 ao:Option Addr
 co:Nat
def bG(I:List (Zy × Zy)):List Value:=I.zipIdx.flatMap fun x=>aH (x.2+1) x.1.1 x.1.2
def lH.blocks(p:lH):List Nat:=p.q::p.em::p.ms++(Value.slice p.ao 0 0).ownBlock.toList
def lH.cells(p:lH)(n:Nat):List Value:=aG p.ms++[.map (some p.em),.slice p.ao n p.co]
structure aR(w:World)(p:lH)(s:Sc):Prop where
 row:ai w p.q 169 (p.cells s.I.length)
 objs:fF w p.ms s.H
 ext:∃D,cu w p.em (Maps.size D) D/\Ea D s.E
 own:w.ownsRow 0 123 34 (.slice p.ao s.I.length p.co) s.I.length (bG s.I)
 apart:p.q∉p.ms/\p.em∉p.ms/\p.q≠p.em/\∀g,(Value.slice p.ao s.I.length p.co).ownBlock=some g->g≠p.q/\g≠p.em/\g∉p.ms
 few:s.H.length<=5000/\s.E.length<=5000/\s.I.length<=5000
theorem bO(ao:Option Addr)(n m n' m':Nat):(Value.slice ao n m).ownBlock=(Value.slice ao n' m').ownBlock:=by cases ao<;>rfl
theorem aR.fr{p:lH}{s:Sc}(h:aR w p s)(f:Fr w w' bs)(hb:∀b∈p.blocks,b∉bs):aR w' p s:=by
 refine⟨f.row h.row (hb _ (by simp[lH.blocks])),h.objs.fr f (fun b hm=>hb b (by simp[lH.blocks,hm])),?_,aT h.own f (fun g hg=>hb g ?_),h.apart,h.few⟩
 ·obtain⟨D,h1,h2⟩:=h.ext;exact⟨D,h1.fr f (hb _ (by simp[lH.blocks])),h2⟩
 ·simp only[lH.blocks,mem_append];exact .inr (Zo.2 (by rw[bO _ _ _ s.I.length p.co];exact hg))
theorem aR.below{p:lH}{s:Sc}(h:aR w p s)(f:Below w.heap.size w w'):aR w' p s:=h.fr (Fr.of_below f []) (by simp)
theorem aR.lt{p:lH}{s:Sc}(h:aR w p s):∀b∈p.blocks,b<w.heap.size:=fun b hb=>by
 simp only[lH.blocks,mem_append,mem_cons,Zo,cons_append] at hb;rcases hb with rfl|rfl|hb|hb
 ·exact h.row.lt
 ·obtain⟨D,h1,_⟩:=h.ext;exact World.ownsMap.lt h1
 ·exact h.objs.lt b hb
 ·exact vW h.own b (by rw[bO _ _ _ 0 0];exact hb)
theorem aR.map{p:lH}{s:Sc}(h:aR w p s)(k:Nat)(hk:k<4):w.cell? (Za p.q k)=some (.map (some (p.ms[k]'(by have:=h.objs.len;omega)))):=by
 have hl:=h.objs.len;rw[h.row.cell k,lH.cells,getElem?_append_left (by simp[aG,hl,hk])];simp[aG,hl,hk]
theorem aR.em_{p:lH}{s:Sc}(h:aR w p s):w.cell? (Za p.q 4)=some (.map (some p.em)):=by
 have hl:=h.objs.len;rw[h.row.cell 4,lH.cells,getElem?_append_right (by simp[aG,hl])];simp[aG,hl]
theorem aR.sl{p:lH}{s:Sc}(h:aR w p s):w.cell? (Za p.q 5)=some (.slice p.ao s.I.length p.co):=by
 have hl:=h.objs.len;rw[h.row.cell 5,lH.cells,getElem?_append_right (by simp[aG,hl])];simp[aG,hl]
theorem aR.maps{p:lH}{s:Sc}(h:aR w p s):w.rangeAt p.q 0 (aG p.ms):=fun j v hv=>by
 have hj:=(List.getElem?_eq_some_iff.1 hv).1;rw[Nat.zero_add,h.row.cell j,lH.cells,getElem?_append_left hj];exact hv
theorem Pd:(prog.info? 346).map (fun i=>(i.zero,i.size))=some (some (kU 0 0),2):=by kernel_rfl
theorem Ua(h:cu w b (Maps.size D) D)(hE:Ea D E)(s:Zy)(hs:s.size=32):(Instr.lookup 167 (.map (some b)) (dA s) true).run prog w=.ok (.tuple #[kU ((gQ E s).getD (0,0)).1 ((gQ E s).getD (0,0)).2,.bool (gQ E s).isSome]) w:=by
 obtain⟨hz,_⟩:=zero_of_info Pd;obtain⟨v,ps,hrun,hv⟩:=World.ownsMap.look_ok h (t:=167) (e:=346) iJ underlying167 (hz w) (uR 0 0) (jW s hs);obtain⟨a,m,rfl,hd⟩:=pK hv;rw[hE.has] at hrun;rw[hrun];cases hx:gQ E s with
 | none=>
  simp only at hd;rw[Maps.atKey_of_not_has (by rw[hE.has,hx];rfl)] at hd;obtain⟨rfl,rfl⟩:=lV hd;rfl
 | some x=>
  simp only at hd;rw[hE.get s x hx] at hd;obtain⟨rfl,rfl⟩:=lV hd;rfl
theorem Fg(h:cu w b (Maps.size D) D)(hE:Ea D E)(s:Zy)(hs:s.size=32):(Instr.lookup 167 (.map (some b)) (dA s) false).run prog w=.ok (kU ((gQ E s).getD (0,0)).1 ((gQ E s).getD (0,0)).2) w:=by
 obtain⟨hz,_⟩:=zero_of_info Pd;obtain⟨v,ps,hrun,hv⟩:=World.ownsMap.lookup h (t:=167) (e:=346) iJ underlying167 (hz w) (uR 0 0) (jW s hs);obtain⟨a,m,rfl,hd⟩:=pK hv;rw[hrun];cases hx:gQ E s with
 | none=>
  simp only at hd;rw[Maps.atKey_of_not_has (by rw[hE.has,hx];rfl)] at hd;obtain⟨rfl,rfl⟩:=lV hd;rfl
 | some x=>
  simp only at hd;rw[hE.get s x hx] at hd;obtain⟨rfl,rfl⟩:=lV hd;rfl
theorem WG(h:cu w b (Maps.size D) D)(hE:Ea D E)(hf:E.length<=5000)(s:Zy)(hs:s.size=32)(a c:Nat):∃w',(Instr.mapUpdate 167 (.map (some b)) (dA s) (kU a c)).run prog w=.ok () w'/\cu w' b (Maps.size (D.put (.string s.data.toList) (qz a c))) (D.put (.string s.data.toList) (qz a c))/\w.grownBy w' (some b):=by
 obtain⟨w',h1,h2,h3⟩:=World.ownsMap.update h iJ underlying167 (by have:=hE.few;unfold maxLen;omega) (jW s hs) (uR a c);exact⟨w',h1,wI h2,h3⟩
theorem QI{H:List Ob}(h:cu w b (Maps.size D) D)(hR:Dn D H k)(s:Zy)(hs:s.size=32):(Instr.lookup 112 (.map (some b)) (dA s) true).run prog w=.ok (.tuple #[kU ((gH H k s).elim 0 Ob.loc) ((gH H k s).elim 0 Ob.n),.bool (hasO H k s)]) w:=by
 obtain⟨a,m,h1,h2⟩:=BG h s hs;rw[h1,hR.has];unfold hasO;cases hx:gH H k s with
 | none=>
  rw[Maps.atKey_of_not_has (by rw[hR.has,hasO,hx];rfl)] at h2;obtain⟨rfl,rfl⟩:=lV h2;rfl
 | some x=>
  rw[hR.get s x hx] at h2;obtain⟨rfl,rfl⟩:=lV h2;rfl
def nS(H:List Ob)(n:Nat)(x:Zy × Nat):Bool:=match gH H 1 x.1 with
 | none=>false
 | some o=>decide ((o.n:Int)=min ((n:Int)-x.2*96) 96)
theorem GL{H:List Ob}(h:pu t=some (n,l)):mV H t=l.zipIdx.all (nS H n):=by
 unfold mV;rw[h];rfl
theorem zU(h:pu t=some (n,l)):n<=1536/\l.length=(n+95) / 96/\∀x∈l,x.size=32:=by
 unfold pu at h;split at h
 ·rename_i h0;cases h
  refine⟨h0.2.1,by simp,fun x hx=>?_⟩;obtain⟨i,hi,rfl⟩:=mem_map.1 hx;have:=mem_range.1 hi;unfold aW;rw[ByteArray.size_extract,ByteArray.size_extract];omega
 ·cases h
theorem M5(H:List Ob)(t:Zy)(ht:t.size<=1000000)(w:World):
  Zc 264 #[.string t] w fun e w'=>(∃(n:Nat) (l:List Zy) (ok:Bool) (ao:Option Addr) (co:Nat),e=.returned (.tuple #[.agg #[Zi n,.slice ao l.length co],.bool ok])/\w'.ownsRow w.heap.size 121 32 (.slice ao l.length co) l.length (dY l)/\n<=1536/\l.length<=16/\(∀x∈l,x.size=32)/\mV H t=(ok&&l.zipIdx.all (nS H n)))/\Below w.heap.size w w':=by
 refine(ER t ht w).mono ?_;rintro e w' ⟨h,hb⟩;refine⟨?_,hb⟩;cases hf:pu t with
 | none=>
  rw[hf] at h;exact⟨0,[],false,none,0,h,World.ownsRow_nil _ _ _ _,by omega,by simp,by simp,by unfold mV;rw[hf];rfl⟩
 | some nl=>
  obtain⟨n,l⟩:=nl;obtain⟨h1,h2,h3⟩:=zU hf;rw[hf] at h;obtain⟨ao,co,he,hO⟩:=h;exact⟨n,l,true,ao,co,he,hO,h1,by omega,h3,by rw[GL hf];simp⟩
theorem QJ{p:lH}{s:Sc}(h:aR w p s)(t:Zy)(ht:t.size<=1000000):
  Zc 221 #[Zp p.q,.string t] w fun e w'=>e=.returned (.bool (mV s.H t))/\Below w.heap.size w w':=by
 have M6:=M5 s.H t ht w;have cF:Hid _:=M6;clear M6;have hpq:p.q<w.heap.size:=h.row.lt;have hms:p.ms.length=4:=h.objs.len;have HS:Hid (∀w',Below w.heap.size w w'->aR w' p s):=fun w' hb=>h.below hb;clear h;obtain⟨R,HR⟩:∃R,Hid (mV s.H t=R):=⟨_,rfl⟩;rw[HR.out];go_enter func221,ntmps221;go_wp2_with(go_at_call 264;refine Calls.mono cF.out ?_;rintro e w1 ⟨⟨n,l,ok,ao,co,rfl,Vq,hn,hll,hl,hR⟩,hb1⟩);rw[HR.out] at hR;have HRR:Hid _:=hR;clear hR HR cF;have r5':=ai.new w1 360 [Zi n,.slice ao l.length co];have hbW:Below w.heap.size w (w1.alloc (.cells #[Zi n,.slice ao l.length co] 360)):=hb1.alloc hb1.size _;have HO:Hid ((w1.alloc (.cells #[Zi n,.slice ao l.length co] 360)).ownsRow w.heap.size 121 32 (.slice ao l.length co) l.length (dY l)):=World.ownsRow.alloc Vq _;clear Vq;generalize(w1.alloc (.cells #[Zi n,.slice ao l.length co] 360))=W at *;have hl1:w.heap.size<=w1.heap.size:=hb1.size;have r5:Hid _:=r5';have HL:Hid _:=hl;clear r5' hl;generalize w1.heap.size=B5 at *;have Yg:Hid _:=hbW;have hWs:w.heap.size<=W.heap.size:=hbW.size;clear hbW hb1;go_loopw [6,19] (fun ov iv wr=>∃j:Nat,j<=l.length/\iv=.int .i64 j/\ov=.bool (ok&&(l.zipIdx.take j).all (nS s.H n))/\Hid (Below W.heap.size W wr)) (fun _ iv _=>l.length-(RowKit.intOf iv).toNat)
 case atStart=>exact⟨0,by omega,rfl,by simp,Zr⟩
 case round=>
  obtain⟨j,hj,rfl,rfl,HB⟩:=hrel;by_cases hlt:j<l.length
  ·have i0:(0:Int)<=(j:Int):=by omega
   have i1:(j:Int)<(l.length:Int):=by omega
   obtain⟨g,rfl,hbg,hgl,hrg⟩:=dH HO.out (by omega);have hx:=HL.out l[j] (Zg hlt);have hsucc:Hid ((l.zipIdx.take (j+1)).all (nS s.H n)=((l.zipIdx.take j).all (nS s.H n)&&nS s.H n (l[j],j))):=by
    show List.all _ _=_;rw[<-take_append_getElem (by simpa using hlt),all_append];simp
   have Mw:Hid (wr.rangeAt g (j*32) (bytes (af l[j]))):=fun k v hv=>by
    rw[<-iB _ 32 (fun x hx=>dh x (HL.out x hx)) hrg j hlt k v hv];exact World.cell?_of_block (HB.out.block _ hgl)
   have jR:(prog.info? 121).map (·.size)=some (bytes (af l[j])).length:=by rw[dh _ hx];kernel_rfl
   have vv:(bytes (replicate 32 0)).toArray.size=(bytes (af l[j])).toArray.size:=by rw[size_toArray,size_toArray,dh _ hx];rfl
   have om:=bY (af l[j]);have hScr:aR wr p s:=HS.out wr (Yg.out.trans (HB.out.mono hWs));obtain⟨m,hm⟩:∃m,p.ms[1]'(by omega)=m:=⟨_,rfl⟩;have hlk:Hid (∀w',aR w' p s->(Instr.lookup 112 (.map (some m)) (.agg (bytes (af l[j])).toArray) true).run prog w'=.ok (.tuple #[.agg #[.int .i64 ((gH s.H 1 l[j]).elim 0 Ob.loc:Nat),.int .i64 ((gH s.H 1 l[j]).elim 0 Ob.n:Nat)],.bool (hasO s.H 1 l[j])]) w'):=fun w' hw=>by
    obtain⟨D,h1,h2⟩:=hw.objs.at_ 1 (by omega);rw[<-hm];exact QI h1 h2 l[j] hx
   have hck:Hid (nS s.H n (l[j],j)=(hasO s.H 1 l[j]&&decide ((((gH s.H 1 l[j]).elim 0 Ob.n:Nat):Int)=min ((n:Int)-j*96) 96))):=by
    show nS _ _ _=_;unfold nS hasO;simp only;cases gH s.H 1 l[j] with
    | none=>rfl
    | some o=>show decide _=(true&&decide _);rw[Bool.true_and];rfl
   have HScr:Hid _:=hScr;clear hScr;generalize(gH s.H 1 l[j]).elim 0 Ob.loc=oa at *;generalize(gH s.H 1 l[j]).elim 0 Ob.n=on at *;generalize hasO s.H 1 l[j]=bb at *;generalize l[j]=x at *;generalize bytes (af x)=C at *;generalize(l.zipIdx.take j).all (nS s.H n)=av at *;go_wp2_with(first
    | (refine wpList_load_mid rfl 121 _ rfl g (j*32) rfl C _ Mw.out underlying121 rfl jR ?_)
    | (refine aJ rfl 121 _ _ rfl wr.heap.size _ C.toArray rfl rfl rfl jR vv om ?_))
   have HB2:Hid (Below W.heap.size W (wr.alloc (.cells C.toArray 121))):=HB.out.alloc HB.out.size _;have r8':=ai.new wr 121 C;have hl8:W.heap.size<=wr.heap.size:=HB.out.size;generalize(wr.alloc (.cells C.toArray 121))=W2 at *;generalize wr.heap.size=B8 at *;have Eb:aR W2 p s:=HS.out _ (Yg.out.trans (HB2.out.mono hWs));have Ub:aR W2.drew p s:=Eb.below (Zr).drew;have k1:W2.drew.cell? (Za p.q 1)=some (.map (some m)):=by rw[<-hm];exact Ub.map 1 (by omega)
   have k2:W2.drew.rangeAt B8 0 C:=fun i v hv=>by rw[Nat.zero_add];exact(r8'.drew.cell i).trans hv
   have hS1:Hid (∀(t:TypeId) (cs:Array Value),(W2.drew.alloc (.cells cs t)).cell? (Za p.q 1)=some (.map (some m))/\(W2.drew.alloc (.cells cs t)).rangeAt B8 0 C/\(Instr.lookup 112 (.map (some m)) (.agg C.toArray) true).run prog (W2.drew.alloc (.cells cs t))=.ok (.tuple #[.agg #[Zi oa,Zi on],.bool bb]) (W2.drew.alloc (.cells cs t))):=fun t cs=>by
    have hb:Below W2.drew.heap.size W2.drew (W2.drew.alloc (.cells cs t)):=(Zr).alloc (Zn) _;exact⟨by rw[<-hm];exact(Ub.below hb).map 1 (by omega),World.rangeAt_alloc k2 _,hlk.out _ (Ub.below hb)⟩
   refine bF ?_;refine wp_region_held_drew (S:=fun w'=>w'.cell? (Za p.q 1)=some (.map (some m))/\w'.rangeAt B8 0 C/\(Instr.lookup 112 (.map (some m)) (.agg C.toArray) true).run prog w'=.ok (.tuple #[.agg #[Zi oa,Zi on],.bool bb]) w') (by kernel_rfl) ⟨k1,k2,hlk.out _ Ub⟩ (fun ah=>?_);refine Zt 0 (Zp p.q) ?_;refine Zt 1 (Zp p.q) ?_;refine Zt 2 (Zp p.q) ?_;refine Zt 3 (.pointer (some (Za p.q 1))) ?_;refine Zt 4 (.map (some m)) ?_;refine Zt 5 (.agg (C).toArray) ?_ (hy:=yieldsIf_load_mid (by rfl) _ _ rfl (B8) (0) rfl C _ (fun w h=>h.2.1) underlying121 rfl jR);refine Zt 6 (.tuple #[.agg #[Zi oa,Zi on],.bool bb]) ?_ (hy:=Or.inl ⟨by rfl,by intro w hSw;unfold execOp;simp only[Sem.run_bind];erw[hSw.2.2];rfl⟩);refine Zt 7 (.tuple #[.agg #[Zi oa,Zi on],.bool bb]) ?_;refine Zt 8 (.agg #[Zi oa,Zi on]) ?_;refine Zt 9 (.bool bb) ?_;refine Zh 10 fun K hK=>?_;refine aD rfl (v:=(Zp W2.drew.heap.size)) (w':=W2.drew.alloc (.cells #[.int .i64 0,.int .i64 0] 290)) (by go_simp) ?_;refine hK.out _ _ (hS1.out _ _) (fun ah=>?_);clear hK K;(try simp only[Act.put,lA,lZ,lS]);refine Zh 11 fun K hK=>?_;refine step_skip rfl (w':=W2.drew.alloc (.cells #[Zi oa,Zi on] 290)) (by go_simp) ?_;refine hK.out _ _ (hS1.out _ _) (fun ah=>?_);clear hK K
   try simp only[Act.put]
   refine Zh 12 fun K hK=>?_;go_simp;refine hK.out _ _ (ah) (fun ah=>?_);clear hK K;(try simp only[Act.put,lA,lZ,lS]);refine Zx ?_;simp only[At];have hb3:Below W2.heap.size W2 (W2.alloc (.cells #[Zi oa,Zi on] 290)).drew:=((Zr).alloc (Zn) _).drew;have HB3:Hid (Below W.heap.size W (W2.alloc (.cells #[Zi oa,Zi on] 290)).drew):=HB2.out.trans (hb3.mono HB2.out.size);have q1:(W2.alloc (.cells #[Zi oa,Zi on] 290)).drew.cell? (Za W2.heap.size 1)=some (Zi on):=(ai.new W2 290 [Zi oa,Zi on]).drew.cell 1;have q0:(W2.alloc (.cells #[Zi oa,Zi on] 290)).drew.cell? (Za B5 0)=some (Zi n):=(r5.out.below HB3.out r5.out.lt).cell 0;generalize(W2.alloc (.cells #[Zi oa,Zi on] 290)).drew=W3 at *;have cZ:Hid (∀w,Zc 265 #[Zi n,Zi j] w fun e w'=>e=.returned (.int .i64 (min ((n:Int)-j*96) 96))/\w=w'):=fun w=>Bj n j (by omega) (by omega) w;generalize hmz:min ((n:Int)-j*96) 96=mz at *;generalize W2.heap.size=B9 at *;clear hS1 k1 k2 Ub Eb ah r8' hlk;have HS2:Hid _:=hsucc;clear hsucc;have close:∀(W4:World),Below W.heap.size W W4->(∃WH:Nat,WH<=l.length/\Value.int .i64 ((j:Int)+1)=(Zi WH)/\Value.bool (ok&&av&&bb&&decide ((on:Int)=mz))=.bool (ok&&(l.zipIdx.take WH).all (nS s.H n))/\Hid (Below W.heap.size W W4))/\l.length-(intOf (Value.int .i64 ((j:Int)+1))).toNat<l.length-(intOf (Value.int .i64 (j:Int))).toNat:=fun W4 hb4=>by
    refine⟨⟨j+1,by omega,rfl,?_,hb4⟩,?_⟩
    ·rw[HS2.out,hck.out];cases ok<;>cases av<;>cases bb<;>rfl
    ·show l.length-((j+1:Nat):Int).toNat<l.length-(j:Int).toNat;omega
   have sG:Hid _:=close;clear close;cases hoa:(ok&&av) with
   | false=>
    rw[hoa] at sG;go_wp2;go_region;go_wp2;exact sG.out _ HB3.out.drew
   | true=>
    rw[hoa] at sG;cases bb with
    | false=>
     go_wp2;go_region;go_wp2;exact sG.out _ HB3.out.drew
    | true=>
     go_wp2;go_region_held3 (fun w'=>w'.cell? (Za B9 1)=some (Zi on)/\w'.cell? (Za B5 0)=some (Zi n)) ((first|exact⟨q1,q0⟩|assumption)) ((go_at_call 265;refine Calls.mono (cZ.out _) ?_;rintro e w6 ⟨rfl,rfl⟩));go_wp2;exact sG.out _ HB3.out.drew
  ·have i1:¬(j:Int)<(l.length:Int):=by omega
   have Tm:Hid ((ok&&(l.zipIdx.take j).all (nS s.H n))=R):=by
    show(_&&_)=_;rw[take_of_length_le (by simp;omega)];exact HRR.out.symm
   rw[Tm.out];go_wp2;go_ret;exact⟨rfl,Yg.out.trans (HB.out.mono hWs)⟩
end
end Go.Proofs.YtdidjdoifpfmmaaGreatDoor
