import Derived.Test.YtdidjdoifpfmmaaGreatDoorGO26
set_option maxRecDepth 100000
set_option maxHeartbeats 16000000
namespace Go.Proofs.YtdidjdoifpfmmaaGreatDoor
section
open Go.RowKit Go.Maps Go.Lib
def Ox:List Nat:=[1779033703,3144134277,1013904242,2773480762,1359893119,2600822924,528734635,1541459225]
def PI:List Nat:=[1116352408,1899447441,3049323471,3921009573,961987163,1508970993,2453635748,2870763221,3624381080,310598401,607225278,1426881987,1925078388,2162078206,2614888103,3248222580,3835390401,4022224774,264347078,604807628,770255983,1249150122,1555081692,1996064986,2554220882,2821834349,2952996808,3210313671,3336571891,3584528711,113926993,338241895,666307205,773529912,1294757372,1396182291,1695183700,1986661051,2177026350,2456956037,2730485921,2820302411,3259730800,3345764771,3516065817,3600352804,4094571909,275423344,430227734,506948616,659060556,883997877,958139571,1322822218,1537002063,1747873779,1955562222,2024104815,2227730452,2361852424,2428436474,2756734187,3204031479,3329325298]
theorem xOk:(ofList Ox).Ok:=by
 constructor<;>decide
def xc:dz:=⟨PI,ofList Ox,by decide,by decide +kernel,xOk⟩
theorem aaO:xc.of (X1 xc)≠xc.of ⟨#[100,97,116,97]⟩:=by decide +kernel
theorem aaP:xc.of (X2 xc)≠xc.of ⟨#[100,97,116,97]⟩:=by decide +kernel
theorem aaQ:xc.of (X2 xc)≠xc.of (X1 xc):=by decide +kernel
theorem PK:aC T1:=by
 refine⟨by decide +kernel,fun x hx=>?_,by decide,by decide,by decide,by decide⟩;obtain rfl:=Zm.1 hx;exact⟨⟨#[]⟩,⟨#[102]⟩,by decide +kernel,by decide +kernel,.inl rfl⟩
theorem U8:fP T1:=fun p=>by
 rw[rz];exact Nat.le_trans (List.length_filter_le _ _) (by decide)
def xA:jc:={pY 54 with L:=T1}
def Ew:Zy:=⟨#[120]⟩
theorem Y2:vS xA:=by
 obtain⟨u1,u2,u3,u4,u5,u6,u7,u8,u9⟩:=(AO 54 (by decide) (by decide)).1;exact⟨u1,u2,u3,u4,u5,u6,u7,u8,u9⟩
theorem U9:xA.Fit:=by
 obtain⟨f1,f2,f3,_,_,f6,f7,f8,f9,f10⟩:=(AO 54 (by decide) (by decide)).2;exact⟨f1,f2,f3,PK,U8,f6,f7,f8,f9,f10⟩
def xB:jc:=(dJ xc xA Ew).2
theorem PL:(dJ xc xA Ew).1.2=0:=by decide +kernel
theorem Iq:dJ xc xA Ew=((1,0),xB)/\vS xB/\xB.Fit/\xB.L=T1/\xB.I=[(dQ xc xA,Ew)]/\xB.S.safe.length=54:=by
 rcases CW (c:=xc) Y2 U9 Ew with(e|e)|⟨A',e,h1,h2,h3,h4,h5,_⟩
 ·have:=PL;rw[e] at this;exact absurd this (by decide)
 ·have:=PL;rw[e] at this;exact absurd this (by decide)
 ·have eb:xB=A':=by unfold xB;rw[e]
  rw[eb];exact⟨e,h1,h2,h3,h4,h5.trans (nL 54 (by decide))⟩
def xR:(Nat × Nat × Nat) × Sc:=qO xc xB.S.seen 54 1 1 (bQ 54) ⟨[],[],[]⟩
theorem aaR:nU xc xB.S.seen 54 1 1 (bQ 54) ⟨[],[],[]⟩=true:=by decide +kernel
theorem Y3:xR.1.1=5:=by decide +kernel
theorem xR_I:xR.2.I=[(dQ xc xA,Ew)]:=by decide +kernel
def xS:Dk:=(dN xB.S 5).1
theorem XL:(dN xB.S 5).2=0:=by decide +kernel
theorem XM:xS.safe=xB.S.safe:=by decide +kernel
theorem XO:xS.wait=[]/\xS.fuse=0/\xS.down=false:=by decide +kernel
theorem aaS:xS=xB.S:=by
 obtain⟨_,h1,_⟩:=Iq;have e1:=h1.wait;have e2:=h1.fuse;have e3:=h1.up;have e4:=XM;obtain⟨r1,r2,r3⟩:=XO;cases hx:xS with
 | mk a b c d=>
  cases hy:xB.S with
  | mk a' b' c' d'=>
   rw[hx] at e4 r1 r2 r3;rw[hy] at e1 e2 e3 e4;simp only at e1 e2 e3 e4 r1 r2 r3;rw[e4,e1,e2,e3,r1,r2,r3]
theorem aai:wM xR.2.H 54:=by
 unfold wM;decide +kernel
theorem aaj:xB.S.seen.getD 0 ByteArray.empty=dG 54:=by decide +kernel
def xLn:Ln:=⟨⟨#[102]⟩,false,xc.of (X1 xc)⟩
theorem xDir:wO xc xB.S xR.2.H (dQ xc xA)=.ok [xLn]:=by kernel_rfl
theorem aaT:uy xc xB.S xR.2.H (xc.of (X1 xc))=.ok ⟨#[100,97,116,97]⟩:=by kernel_rfl
theorem aaU:FJ xc xB.S xR.2.H [(dQ xc xA,Ew)] 1 ⟨#[]⟩=.ok [⟨⟨#[102]⟩,false,4⟩]:=by kernel_rfl
theorem aaV:FI xc xB.S xR.2.H [(dQ xc xA,Ew)] 1 ⟨#[102]⟩=.ok ⟨#[100,97,116,97]⟩:=by kernel_rfl
theorem aak:∀o∈xR.2.H,(match fu xc xB.S xR.2.H o.kind o.sum with | .ok _=>true | .error _=>false)=true:=by decide +kernel
end
end Go.Proofs.YtdidjdoifpfmmaaGreatDoor
