import Derived.Test.YtdihdapmphkhpaaGreatQ10
set_option linter.all false
set_option maxRecDepth 200000
set_option maxHeartbeats 16000000
namespace Go.Proofs.YtdihdapmphkhpaaGreat
open Go.RowKit
variable{w:World}
theorem Ei{base:Nat}{v:Value}{l:List Int}(h:owns w base v l):∃a cap,v=.slice a l.length cap∧ng w a l∧l.length<=cap:=by
 obtain⟨a,cap,e,hs⟩:=GQ h;refine⟨a,cap,e,hs,?_⟩;obtain⟨_,⟨h1,h2⟩|⟨g,cap',cur,h1,hb,hg,hn,_⟩⟩:=h
 ·omega
 rw[e]at h1;simp only[bs]at h1;omega
theorem By(a:Int):gA (IntKind.u64.wrap a):=by rw[aS];unfold gA;omega
def pK(l:List Int)(i:Nat):Int:=if l.length=0 then 0 else l.getD (i%l.length) 0
theorem FG{l:List Int}(hl:eV l)(i:Nat):0<=pK l i∧pK l i<=255:=by
 unfold pK;split
 ·omega
 exact ez hl _
theorem Gd(a:Option Addr)(cap i:Nat)(l:List Int)(w:World)(hs:ng w a l)(hl:eV l)(hn:l.length<=1048576)(hi:i<=1000000):
 Calls Tryz.prog 34 #[.slice a l.length cap,.int .i64 (i:Int)] w fun e w'=>e=.returned (.int .i64 (pK l i))∧Below w.heap.size w w':=by
 obtain⟨V,hV⟩:∃V,pK l i=V:=⟨_,rfl⟩;rw[hV];unfold pK at hV;by_cases h0:l.length=0
 ·rw[if_pos h0]at hV;subst hV;rw[h0];go_enter Tryz.func34,Tryz.ntmps34;go_wp2;go_ret;exact⟨rfl,af _ _⟩
 rw[if_neg h0]at hV;rcases hs with hs|⟨b,o,rfl,hb,hc⟩
 ·exact absurd (by rw[hs];rfl) h0
 have hlt:i%l.length<l.length:=Nat.mod_lt _ (by omega);have hcell:=hc (i%l.length) hlt;have hbd:=ez hl (i%l.length);rw[hV]at hcell hbd;generalize l.length=n at*;have hn0:¬(n:Int)=0:=by omega
 have htm:((i:Int)).tmod (n:Int)=((i%n:Nat):Int):=by rw[cH (by omega)];omega
 have hlt':((i%n:Nat):Int)<(n:Int):=by omega
 generalize i%n=j at*;clear hV hc h0;go_enter Tryz.func34,Tryz.ntmps34;go_wp2;go_ret;exact⟨rfl,af _ _⟩
def C4(w:World)(e:Ending)(w':World):Prop:=∃v,gA v∧e=.returned (.int .u64 v)∧Below w.heap.size w w'
theorem BA(a:Option Addr)(cap i:Nat)(l:List Int)(w:World)(hs:ng w a l)(hl:eV l)(hn:l.length<=1048576)(hi:i<=1000):
 Calls Tryz.prog 14 #[.slice a l.length cap,.int .i64 (i:Int)] w (C4 w):=by
 have HT:Hid (∀k w1,k<=8->Below w.heap.size w w1->Calls Tryz.prog 34 #[.slice a l.length cap,.int .i64 ((i+k:Nat):Int)] w1 fun e w'=>e=.returned (.int .i64 (pK l (i+k)))∧Below w1.heap.size w1 w'):=fun k w1 hk hb=>Gd a cap (i+k) l w1 (hs.below hb) hl hn (by omega)
 have HB:Hid (∀k,0<=pK l (i+k)∧pK l (i+k)<=255):=fun k=>FG hl _
 clear hs hl;generalize l.length=n at*;go_enter Tryz.func14,Tryz.ntmps14;go_wp2_with fail;go_loopw [5,6](fun x y wr=>∃(k:Nat)(v:Int),k<=8∧x=.int .u64 v∧y=.int .i64 (k:Int)∧gA v∧Below w.heap.size w wr)(fun _ y _=>8-(intOf y).toNat)
 case atStart=>exact⟨0,0,by omega,rfl,rfl,⟨by omega,by omega⟩,af _ _⟩
 case round=>
  obtain⟨k,v,hk,rfl,rfl,hv,B⟩:=hrel;by_cases hk8:k<8
  ·have hk8':(k:Int)<8:=by omega
   have HT':=HT.out k wr hk B;obtain⟨t0,t1⟩:=HB.out k;have HTk:Hid (Calls Tryz.prog 34 #[.slice a n cap,.int .i64 ((i:Int)+(k:Int))] wr fun e w'=>e=.returned (.int .i64 (pK l (i+k)))∧Below wr.heap.size wr w'):=by rw[show(i:Int)+(k:Int)=((i+k:Nat):Int)by omega];exact HT'
   clear HT HT' HB;generalize pK l (i+k)=t at*;obtain⟨hv0,hv1⟩:=hv;have hw:IntKind.i64.wrap ((i:Int)+(k:Int))=(i:Int)+(k:Int):=by rw[aT];omega
   go_wp2_with fail;refine HTk.out.mono ?_;rintro _ w1⟨rfl,hb1⟩;have B1:=B.trans (hb1.mono B.size);go_wp2;go_roundw
   case rel=>exact⟨k+1,_,by omega,rfl,by go_num,By _,B1⟩
   case measure=>simp[intOf];omega
  go_wp2;go_ret;exact⟨v,hv,rfl,B⟩
def PEC(w:World)(b o:Nat)(e:E):Prop:=w.cell? ⟨b,o,none⟩=some (.int .u32 e.et)∧w.cell? ⟨b,o+1,none⟩=some (.int .u32 e.nr)∧∃a cap,w.cell? ⟨b,o+2,none⟩=some (.slice a e.rules.length cap)∧e.rules.length<=cap∧eS 1 PR w a e.rules
theorem PEC.stays:mK PEC:=fun w w' b o x hlt hb⟨h0,h1,a,cap,h2,h3,h4⟩=>⟨(hb.cell (p:=⟨b,_,none⟩) hlt).trans h0,(hb.cell (p:=⟨b,_,none⟩) hlt).trans h1,a,cap,(hb.cell (p:=⟨b,_,none⟩) hlt).trans h2,h3,h4.below PR.stays hb⟩
theorem PEC.plain{b o:Nat}{e:E}(h:PEC w b o e):PE w b o e:=by
 obtain⟨h0,h1,a,cap,h2,_,h3⟩:=h;exact⟨h0,h1,a,cap,h2,h3⟩
theorem PEC.uq{a:Option Addr}{p:List E}(h:eS 3 PEC w a p):eS 3 PE w a p:=by
 rcases h with h|⟨b,o,h1,h2,h3⟩
 ·exact .inl h
 exact .inr ⟨b,o,h1,h2,fun i hi=>(h3 i hi).plain⟩
end Go.Proofs.YtdihdapmphkhpaaGreat
namespace Go.Proofs.YtdihdapmphkhpaaGreat.fnCompile
open Go.RowKit Go.Deep
def Im(r:List Int)(w:World)(e:Ending)(w':World):Prop:=∃a7 c7,e=.returned (.slice a7 64 c7)∧ng w' a7 r∧64<=c7∧Below w.heap.size w w'
def resV(V:Bool):Int:=if V=true then 2147418112 else 2147483648
theorem walk0(a0 b0:Option Addr)(ll cap mm mcap n pl:Nat)(D out:List E)(X:C)(V:Bool)(Cc:Int)(PP:World->Option Addr->Prop)(RC:Int->List Int)(T:Int->Int)(w:World)(hll:ll<=1048576)(hmm:mm<=1048576)(hn:n<=1000)(hpl:pl<=4096)
 (HDr:Hid (∀w1,Below w.heap.size w w1->Calls Tryz.prog 4 #[.slice a0 ll cap] w1 fun e w'=>∃a2 c2 b2 cb2,e=.returned (.tuple #[.agg #[.slice a2 n c2],.agg #[.int .u32 X.et,.int .u32 X.nr,.slice b2 6 cb2]])∧eS 3 PE w' a2 D∧kV w' b2 X.args∧Below w1.heap.size w1 w'))
 (HV:Hid (∀a2 c2 w1,eS 3 PE w1 a2 D->Calls Tryz.prog 5 #[.agg #[.slice a2 n c2]] w1 fun e w'=>e=.returned (.bool true)∧Below w1.heap.size w1 w'))
 (HA:Hid (∀a2 c2 b2 cb2 w1,eS 3 PE w1 a2 D->kV w1 b2 X.args->Calls Tryz.prog 6 #[.agg #[.slice a2 n c2],.agg #[.int .u32 X.et,.int .u32 X.nr,.slice b2 6 cb2]] w1 fun e w'=>e=.returned (.bool V)∧Below w1.heap.size w1 w'))
 (HMs:Hid (∀a2 c2 w1,eS 3 PE w1 a2 D->Calls Tryz.prog 8 #[.agg #[.slice a2 n c2]] w1 fun e w'=>∃a3 c3,e=.returned (.agg #[.slice a3 n c3])∧(eS 3 PEC w' a3 out∧n<=c3)∧Below w1.heap.size w1 w'))
 (HMi:Hid (∀a2 c2 w1,eS 3 PE w1 a2 D->Calls Tryz.prog 10 #[.agg #[.slice a2 n c2]] w1 fun e w'=>∃a3 c3,e=.returned (.agg #[.slice a3 n c3])∧(eS 3 PEC w' a3 out∧n<=c3)∧Below w1.heap.size w1 w'))
 (HCs:Hid (∀a2 c2 w1,eS 3 PEC w1 a2 out∧n<=c2->Calls Tryz.prog 7 #[.agg #[.slice a2 n c2]] w1 fun e w'=>∃a3 c3,e=.returned (.tuple #[.slice a3 pl c3,.int .i64 Cc])∧PP w' a3∧Below w1.heap.size w1 w'))
 (HCi:Hid (∀a2 c2 w1,eS 3 PEC w1 a2 out∧n<=c2->Calls Tryz.prog 9 #[.agg #[.slice a2 n c2]] w1 fun e w'=>∃a3 c3,e=.returned (.tuple #[.slice a3 pl c3,.int .i64 Cc])∧PP w' a3∧Below w1.heap.size w1 w'))
 (HPK:Hid (∀wa wb a2,Below wa.heap.size wa wb->PP wa a2->PP wb a2))
 (HN0:Hid (Cc≠0->pl=0))
 (HVa:Hid (Cc=0->∀a2 c2 w1,PP w1 a2->Calls Tryz.prog 11 #[.slice a2 pl c2] w1 fun e w'=>e=.returned (.tuple #[.int .i64 0,.int .i64 0])∧Below w1.heap.size w1 w'))
 (HNu:Hid (∀w1,Below w.heap.size w w1->Calls Tryz.prog 14 #[.slice b0 mm mcap,.int .i64 0] w1 (C4 w1)))
 (HRe:Hid (∀ip b2 cb2 w1,gA ip->kV w1 b2 X.args->Calls Tryz.prog 13 #[.agg #[.int .u32 X.et,.int .u32 X.nr,.slice b2 6 cb2],.int .u64 ip] w1 (Im (RC ip) w1)))
 (HRu:Hid (Cc=0->∀ip a2 c2 a3 c3 w1,gA ip->PP w1 a2->ng w1 a3 (RC ip)->64<=c3->Calls Tryz.prog 12 #[.slice a2 pl c2,.slice a3 64 c3] w1 fun e w'=>e=.returned (.tuple #[.int .u32 (resV V),.int .i64 (T ip),.int .i64 0])∧Below w1.heap.size w1 w'))
 (HT:Hid (Cc=0->∀ip,gA ip->1<=T ip∧T ip<=pl)):
 Calls Tryz.prog 3 #[.slice a0 ll cap,.slice b0 mm mcap] w fun e w'=>e=.returned (.bool true)∧Below w.heap.size w w':=by
 have hll':¬(1048576:Int)<(ll:Int):=by omega
 have hmm':¬(1048576:Int)<(mm:Int):=by omega
 go_enter Tryz.func3,Tryz.ntmps3
 go_wp2_with fail
 refine(HDr.out w (af _ _)).mono ?_
 rintro _ w1⟨a1,c1,b1,cb1,rfl,hp1,hu1,B1⟩
 have S2:=MnP.new (n:=n) (c1:=c1) (cb1:=cb1) B1 hp1 hu1
 clear hp1 hu1 B1
 go_upto_region 4 with fail
 generalize((w1.alloc (.cells #[.slice a1 n c1] 25)).alloc (.cells #[.int .u32 X.et,.int .u32 X.nr,.slice b1 6 cb1] 29))=W2 at*
 generalize w1.heap.size=G at*
 have p2:=S2.p
 go_wp2_with fail
 refine(HV.out _ _ _ S2.sp).mono ?_
 rintro _ w3⟨rfl,hb3⟩
 have S3:=S2.ey hb3
 clear S2 hb3 p2
 have p3:=S3.p
 obtain⟨_,x30,x31,x32,_⟩:=id S3.x
 go_wp2_with fail
 refine(HA.out _ _ _ _ _ S3.sp S3.su).mono ?_
 rintro _ w4⟨rfl,hb4⟩
 have S4:=S3.ey hb4
 clear S3 hb4 p3 x30 x31 x32
 have p4:=S4.p
 go_wp2_with fail
 refine(HMs.out _ _ _ S4.sp).mono ?_
 rintro _ w5⟨a5,c5,rfl,h5,B5⟩
 have b5:=S4.b.trans (B5.mono S4.b.size)
 clear S4 B5 p4
 go_wp2_with fail
 refine(HCs.out _ _ _ h5).mono ?_
 rintro _ w6⟨a6,c6,rfl,_,B6⟩
 have b6:=b5.trans (B6.mono b5.size)
 clear b5 B6 h5
 go_wp2_with fail
 refine(HDr.out _ b6).mono ?_
 rintro _ w7⟨a7,c7,b7,cb7,rfl,hp7,hu7,B7⟩
 have S8:=MnP.new (n:=n) (c1:=c7) (cb1:=cb7) (b6.trans (B7.mono b6.size)) hp7 hu7
 clear hp7 hu7 B7 b6
 go_upto_region 9 with fail
 generalize((w7.alloc (.cells #[.slice a7 n c7] 25)).alloc (.cells #[.int .u32 X.et,.int .u32 X.nr,.slice b7 6 cb7] 29))=W8 at*
 generalize w7.heap.size=H at*
 have p8:=S8.p
 go_wp2_with fail
 refine(HMi.out _ _ _ S8.sp).mono ?_
 rintro _ w9⟨a9,c9,rfl,h9,B9⟩
 have S9:=S8.ey B9
 clear S8 B9 p8
 go_wp2_with fail
 refine(HCi.out _ _ _ h9).mono ?_
 rintro _ w10⟨aP,cP,rfl,hP,B10⟩
 have S10:=S9.ey B10
 clear S9 B10 h9 HDr HV HA HMs HMi HCs HCi
 by_cases hC:Cc=0
 ·have HVa':Hid (∀a2 c2 w1,PP w1 a2->Calls Tryz.prog 11 #[.slice a2 pl c2] w1 fun e w'=>e=.returned (.tuple #[.int .i64 0,.int .i64 0])∧Below w1.heap.size w1 w'):=HVa.out hC
  have HRu':Hid (∀ip a2 c2 a3 c3 w1,gA ip->PP w1 a2->ng w1 a3 (RC ip)->64<=c3->Calls Tryz.prog 12 #[.slice a2 pl c2,.slice a3 64 c3] w1 fun e w'=>e=.returned (.tuple #[.int .u32 (resV V),.int .i64 (T ip),.int .i64 0])∧Below w1.heap.size w1 w'):=HRu.out hC
  have HT':Hid (∀ip,gA ip->1<=T ip∧T ip<=pl):=HT.out hC
  subst hC
  clear HVa HRu HT HN0
  go_wp2_with fail
  refine(HVa'.out _ _ _ hP).mono ?_
  rintro _ w11⟨rfl,hb11⟩
  have S11:=S10.ey hb11
  have hP11:=HPK.out _ _ _ hb11 hP
  clear S10 hP hb11 HVa'
  go_upto_region 17 with fail
  have SK:Hid (∀W,MnP w W H n a7 b7 c7 cb7 D X∧PP W aP->W.cell? ⟨H+1,0,none⟩=some (.int .u32 X.et)∧W.cell? ⟨H+1,1,none⟩=some (.int .u32 X.nr)∧W.cell? ⟨H+1,2,none⟩=some (.slice b7 6 cb7)∧MnP w W H n a7 b7 c7 cb7 D X∧PP W aP):=fun W h=>⟨h.1.x.c0,h.1.x.c1,h.1.x.c2,h.1,h.2⟩
  have SN:Hid (∀wa wb,Below wa.heap.size wa wb->MnP w wa H n a7 b7 c7 cb7 D X∧PP wa aP->MnP w wb H n a7 b7 c7 cb7 D X∧PP wb aP):=fun wa wb hb h=>⟨h.1.ey hb,HPK.out _ _ _ hb h.2⟩
  have hS1:=SK.out w11.drew (SN.out _ _ (af _ _).drew ⟨S11,hP11⟩)
  clear S11 hP11
  go_region_held3(fun W=>W.cell? ⟨H+1,0,none⟩=some (.int .u32 X.et)∧W.cell? ⟨H+1,1,none⟩=some (.int .u32 X.nr)∧W.cell? ⟨H+1,2,none⟩=some (.slice b7 6 cb7)∧MnP w W H n a7 b7 c7 cb7 D X∧PP W aP)
   (assumption)
   (first
    |(go_at_call 14;refine(HNu.out _ hS1.2.2.2.1.b).mono ?_;rintro _ w12⟨ip,hip,rfl,hb12⟩;have hS1:=SK.out _ (SN.out _ _ hb12 hS1.2.2.2))
    |(go_at_call 13;refine(HRe.out _ _ _ _ hip hS1.2.2.2.1.su).mono ?_;rintro _ w13⟨aR,cR,rfl,hR13,hcR,hb13⟩;have hS1:=SK.out _ (SN.out _ _ hb13 hS1.2.2.2))
    |(go_at_call 12;refine(HRu'.out _ _ _ _ _ _ hip hS1.2.2.2.2 hR13 hcR).mono ?_;rintro _ w14⟨rfl,hb14⟩;have hS1:=SK.out _ (SN.out _ _ hb14 hS1.2.2.2)))
  have hB:=hS1.2.2.2.1.b
  obtain⟨t1,t2⟩:=HT'.out _ hip
  generalize T ip=tt at*
  have ht1:¬tt<1:=by omega
  have ht2:¬(pl:Int)<tt:=by omega
  clear hS1 SK SN HRu' HT' HNu HRe HPK hR13 hip t1 t2
  cases V with
  |true=>
   go_wp2
   go_ret
   exact⟨rfl,hB⟩
  |false=>
   go_wp2
   go_ret
   exact⟨rfl,hB⟩
 ·have hpl0:=HN0.out hC
  subst hpl0
  have hCb:(Cc !=0)=true:=by simpa using hC
  have hB:=S10.b
  clear HVa HRu HT HN0 S10 hP hC HNu HRe HPK
  go_wp2
  go_ret
  exact⟨rfl,hB⟩
end Go.Proofs.YtdihdapmphkhpaaGreat.fnCompile
