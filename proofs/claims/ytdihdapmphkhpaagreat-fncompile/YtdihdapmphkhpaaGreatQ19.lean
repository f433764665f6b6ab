import Derived.Test.YtdihdapmphkhpaaGreatQ18
set_option linter.all false
set_option maxRecDepth 200000
set_option maxHeartbeats 16000000
namespace Go.Proofs.YtdihdapmphkhpaaGreat
open Go.RowKit
variable{c:K}{x y:Int}
def vq(c:K):Bool:=if c.kind=1 then iA (inv c.a)else true
theorem xg(h:fZ c):fB c=if vq c=true then some (jd c,gD c)else none:=by
 have ho:=h.ok;rcases h with rfl|⟨a,b,rfl,_,ha,hv⟩|⟨l,h,rfl,_⟩
 ·rfl
 ·have e1:fB ⟨1,a,b⟩=if iA (inv a)then some (b,b+inv a)else none:=rfl
  have e2:vq ⟨1,a,b⟩=iA (inv a):=rfl;have e3:jd ⟨1,a,b⟩=b:=rfl;have e4:gD ⟨1,a,b⟩=b|||inv a:=rfl;rw[e1,e2,e3,e4];by_cases g:iA (inv a)=true
  ·obtain⟨k,hk,e⟩:=(lP (jX a)).1 g;have hz:=ss ha hv;rw[e]at hz;rw[if_pos g,if_pos g,e,(pU hz).1]
  rw[if_neg g,if_neg g]
 rfl
theorem unbAny(w:World):Calls Tryz.prog 190 #[.agg #[]] w fun e w'=>e=.returned (.bool true)∧Below w.heap.size w w':=by
 go_enter Tryz.func190,Tryz.ntmps190;go_wp2;go_ret;exact⟨rfl,by first|exact af _ _|exact(af _ _).alloc (ae _) _⟩
theorem Fq(a b:Nat)(w:World):Calls Tryz.prog 200 #[.agg #[.int .u64 (a:Int),.int .u64 (b:Int)]] w fun e w'=>e=.returned (.bool true)∧Below w.heap.size w w':=by
 go_enter Tryz.func200,Tryz.ntmps200;go_wp2;go_ret;exact⟨rfl,by first|exact af _ _|exact(af _ _).alloc (ae _) _⟩
theorem H4(a b:Nat)(w:World)(ha:a<18446744073709551616):Calls Tryz.prog 195 #[.agg #[.int .u64 (a:Int),.int .u64 (b:Int)]] w fun e w'=>e=.returned (.bool (iA (inv a)))∧Below w.heap.size w w':=by
 have HN:Hid (bits .xor .u64 IntKind.u64.max (a:Int)=((inv a:Nat):Int)):=yG a ha;have HL:Hid (∀w,Calls Tryz.prog 142 #[.int .u64 ((inv a:Nat):Int)] w fun e w'=>e=.returned (.bool (iA (inv a)))∧w'=w):=fun w=>qv (inv a) w (jX a)
 generalize iA (inv a)=R at*;go_enter Tryz.func195,Tryz.ntmps195;go_wp2_with fail;rw[HN.out];refine(HL.out _).mono ?_;rintro e w1⟨rfl,rfl⟩;go_wp2;go_ret;exact⟨rfl,(af _ _).alloc (ae _) _⟩
theorem zm(h:fZ c):Meth c "loop.example/s0039/impl.isUnbroken" #[] (.bool (vq c)):=by
 have ho:=h.ok;rcases h with rfl|⟨a,b,rfl,_⟩|⟨a,b,rfl,_⟩
 ·exact⟨_,_,190,rfl,fun _=>by kernel_rfl,fun _ _=>by kernel_rfl,unbAny⟩
 ·exact⟨_,_,195,rfl,fun _=>by kernel_rfl,fun _ _=>by kernel_rfl,fun w=>H4 a b w ho.2.1⟩
 exact⟨_,_,200,rfl,fun _=>by kernel_rfl,fun _ _=>by kernel_rfl,Fq a b⟩
theorem ts(h l:Nat)(w:World)(hh:h<18446744073709551616)(hl:l<18446744073709551616):
 Calls Tryz.prog 157 #[.int .u64 (h:Int),.int .u64 (l:Int)] w fun e w'=>e=.returned (.bool (decide (l<=h+1)))∧w'=w:=by
 obtain⟨R,hR⟩:∃R,decide (l<=h+1)=R:=⟨_,rfl⟩;have HR:Hid (decide (l<=h+1)=R):=hR;rw[hR];clear hR;by_cases l0:l=0
 ·subst l0;have e:R=true:=by rw[<-HR.out];simp
  subst e;clear HR;go_enter Tryz.func157,Tryz.ntmps157;go_wp2;go_ret;exact⟨rfl,rfl⟩
 have e0:((l:Int)==0)=false:=by rw[beq_eq_false_iff_ne];omega
 have e1:IntKind.u64.wrap ((l:Int)-1)=(l:Int)-1:=by rw[aS,Int.emod_eq_of_lt (by omega) (by omega)]
 have hp:1<=(l:Int):=by omega
 clear l0;go_enter Tryz.func157,Tryz.ntmps157;go_wp2;go_ret;refine⟨?_,rfl⟩;rw[<-HR.out];congr 2;simp;try omega
theorem rV(a x b y:Nat)(w:World)(hx:x<18446744073709551616)(hy:y<18446744073709551616):
 Calls Tryz.prog 155 #[.agg #[.int .u64 (a:Int),.int .u64 (x:Int)],.agg #[.int .u64 (b:Int),.int .u64 (y:Int)]] w fun e w'=>e=.returned (.bool (decide (a=b∧jq (x^^^y) 64=1)))∧Below w.heap.size w w':=by
 have HX:Hid (bits .xor .u64 (x:Int) (y:Int)=((x^^^y:Nat):Int)):=u64_xor x y hx hy;have HO:Hid (∀w,Calls Tryz.prog 164 #[.int .u64 ((x^^^y:Nat):Int)] w fun e w'=>e=.returned (.int .i64 ((jq (x^^^y) 64:Nat):Int))∧w'=w):=fun w=>wL _ w (mj hx hy)
 obtain⟨R,hR⟩:∃R,decide (a=b∧jq (x^^^y) 64=1)=R:=⟨_,rfl⟩;have HR:Hid (decide (a=b∧jq (x^^^y) 64=1)=R):=hR;rw[hR];clear hR;generalize jq (x^^^y) 64=Z at*;have B0:Below w.heap.size w ((w.alloc (.cells #[.int .u64 (a:Int),.int .u64 (x:Int)] 202)).alloc (.cells #[.int .u64 (b:Int),.int .u64 (y:Int)] 202)):=((af _ _).alloc (ae _) _).alloc (by simp) _;by_cases h1:a=b
 ·subst h1;have hR:R=decide (Z=1):=by rw[<-HR.out];simp
  subst hR;clear HR;go_enter Tryz.func155,Tryz.ntmps155;go_wp2_with fail;rw[HX.out];refine(HO.out _).mono ?_;rintro e w1⟨rfl,rfl⟩;clear HO HX;go_wp2;go_ret;have eZ:decide (Z=1)=((Z:Int)==1):=by rw[cB,beq_iff_eq,decide_eq_true_eq];omega
  exact⟨by rw[eZ];rfl,B0⟩
 have hR:R=false:=by rw[<-HR.out];simp[h1]
 have e1:((a:Int)==(b:Int))=false:=by rw[beq_eq_false_iff_ne];omega
 subst hR;clear HR h1 HO HX;go_enter Tryz.func155,Tryz.ntmps155;go_wp2;go_ret;exact⟨rfl,B0⟩
theorem Ap(a x z:Nat)(w:World)(ha:a<18446744073709551616)(hx:x<18446744073709551616)(hz:z<18446744073709551616):
 Calls Tryz.prog 156 #[.agg #[.int .u64 (a:Int),.int .u64 (x:Int)],.int .u64 (z:Int)] w fun e w'=>e=.returned (gh (fI (a&&&inv z) (x&&&inv z)))∧Below w.heap.size w w':=by
 have H1:Hid (bits .andNot .u64 (a:Int) (z:Int)=((a&&&inv z:Nat):Int)):=u64_andNot a z ha hz;have H2:Hid (bits .andNot .u64 (x:Int) (z:Int)=((x&&&inv z:Nat):Int)):=u64_andNot x z hx hz;have HM:Hid (∀w,Calls Tryz.prog 128 #[.int .u64 ((a&&&inv z:Nat):Int),.int .u64 ((x&&&inv z:Nat):Int)] w fun e w'=>e=.returned (gh (fI (a&&&inv z) (x&&&inv z)))∧w'=w):=fun w=>pz _ _ w (sx ha) (sx hx)
 generalize gh (fI (a&&&inv z) (x&&&inv z))=V at*;go_enter Tryz.func156,Tryz.ntmps156;go_wp2_with fail;rw[H1.out,H2.out];refine(HM.out _).mono ?_;rintro e w1⟨rfl,rfl⟩;clear HM H1 H2;go_wp2;go_ret;exact⟨rfl,(af _ _).alloc (ae _) _⟩
def jVI:Option K->Value
 |some c=>gh c
 |none=>.nilIface
abbrev xy(j:Option K):Value:=.tuple #[jVI j,.bool j.isSome]
theorem I7(T T':TypeId)(P P':Value)(F1 F2 G1 G2:Nat)(l1 h1 l2 h2:Nat)(u1 u2 q1 q2:Bool)(J:Option K)(R:K)(w:World)
 (hk:(∀w,(Instr.typeAssert (.iface T P) 115 202 true).run Tryz.prog w=.ok (.tuple #[.agg #[.int .u64 0,.int .u64 0],.bool false]) w)∨(∃a x:Nat,T=202∧P=.agg #[.int .u64 (a:Int),.int .u64 (x:Int)]∧∀w,(Instr.typeAssert (.iface T' P') 115 202 true).run Tryz.prog w=.ok (.tuple #[.agg #[.int .u64 0,.int .u64 0],.bool false]) w)∨(∃a x b y:Nat,T=202∧P=.agg #[.int .u64 (a:Int),.int .u64 (x:Int)]∧T'=202∧P'=.agg #[.int .u64 (b:Int),.int .u64 (y:Int)]∧Hid (∀w,Calls Tryz.prog 155 #[.agg #[.int .u64 (a:Int),.int .u64 (x:Int)],.agg #[.int .u64 (b:Int),.int .u64 (y:Int)]] w fun e w'=>e=.returned (.bool false)∧Below w.heap.size w w')))
 (a1:∀w,(method 349 T P "loop.example/s0039/impl.bounds").run Tryz.prog w=.ok (F1,P) w)(a2:∀(xs:Array Value)(w:World),(callFunc F1 xs).run Tryz.prog w=.ok (.enter F1 xs) w)
 (b1:∀w,(method 349 T' P' "loop.example/s0039/impl.bounds").run Tryz.prog w=.ok (F2,P') w)(b2:∀(xs:Array Value)(w:World),(callFunc F2 xs).run Tryz.prog w=.ok (.enter F2 xs) w)
 (c1:∀w,(method 349 T P "loop.example/s0039/impl.isUnbroken").run Tryz.prog w=.ok (G1,P) w)(c2:∀(xs:Array Value)(w:World),(callFunc G1 xs).run Tryz.prog w=.ok (.enter G1 xs) w)
 (d1:∀w,(method 349 T' P' "loop.example/s0039/impl.isUnbroken").run Tryz.prog w=.ok (G2,P') w)(d2:∀(xs:Array Value)(w:World),(callFunc G2 xs).run Tryz.prog w=.ok (.enter G2 xs) w)
 (HB1:Hid (∀w,Calls Tryz.prog F1 #[P] w fun e w'=>e=.returned (two l1 h1)∧Below w.heap.size w w'))
 (HB2:Hid (∀w,Calls Tryz.prog F2 #[P'] w fun e w'=>e=.returned (two l2 h2)∧Below w.heap.size w w'))
 (HU1:Hid (∀w,Calls Tryz.prog G1 #[P] w fun e w'=>e=.returned (.bool u1)∧Below w.heap.size w w'))
 (HU2:Hid (∀w,Calls Tryz.prog G2 #[P'] w fun e w'=>e=.returned (.bool u2)∧Below w.heap.size w w'))
 (HQ1:Hid (∀w,Calls Tryz.prog 157 #[.int .u64 (h1:Int),.int .u64 (l2:Int)] w fun e w'=>e=.returned (.bool q1)∧w'=w))
 (HQ2:Hid (∀w,Calls Tryz.prog 157 #[.int .u64 (h2:Int),.int .u64 (l1:Int)] w fun e w'=>e=.returned (.bool q2)∧w'=w))
 (HR:Hid (∀w,Calls Tryz.prog 129 #[.int .u64 ((min l1 l2:Nat):Int),.int .u64 ((max h1 h2:Nat):Int)] w fun e w'=>e=.returned (gh R)∧w'=w))
 (HMin:Hid (min (l1:Int) (l2:Int)=((min l1 l2:Nat):Int)))
 (HMax:Hid (max (h1:Int) (h2:Int)=((max h1 h2:Nat):Int)))
 (HJ0:Hid ((u1&&u2&&q1&&q2)=false->J=none))(HJ1:Hid ((u1&&u2&&q1&&q2)=true->J=some R)):
 Calls Tryz.prog 135 #[.iface T P,.iface T' P'] w fun e w'=>e=.returned (xy J)∧Below w.heap.size w w':=by
 rcases hk with ta|⟨a,x,rfl,rfl,ta⟩|⟨a,x,b,y,rfl,rfl,rfl,rfl,HBe⟩
 case' inl=>
  go_enter Tryz.func135,Tryz.ntmps135
  go_wp2_with fail
  have B:Below w.heap.size w w:=af _ _
 case' inr.inl=>
  have B:Below w.heap.size w ((w.alloc (.cells #[.int .u64 (a:Int),.int .u64 (x:Int)] 202)).alloc (.cells #[.int .u64 0,.int .u64 0] 202)):=((af _ _).alloc (ae _) _).alloc (by simp) _
  have ta1:=qk (a:Int) (x:Int)
  go_enter Tryz.func135,Tryz.ntmps135
  go_wp2_with fail
  generalize(w.alloc (.cells #[.int .u64 (a:Int),.int .u64 (x:Int)] 202)).alloc (.cells #[.int .u64 0,.int .u64 0] 202)=W at*
 case' inr.inr=>
  have ta2:=qk (b:Int) (y:Int)
  have B:Below w.heap.size w ((w.alloc (.cells #[.int .u64 (a:Int),.int .u64 (x:Int)] 202)).alloc (.cells #[.int .u64 (b:Int),.int .u64 (y:Int)] 202)):=((af _ _).alloc (ae _) _).alloc (by simp) _
  have ta1:=qk (a:Int) (x:Int)
  go_enter Tryz.func135,Tryz.ntmps135
  go_wp2_with fail
  refine(HBe.out _).mono ?_
  rintro e w0⟨rfl,hb⟩
  replace B:=B.trans (hb.mono B.size)
  clear hb HBe
  go_wp2_with fail
 all_goals
  refine(HB1.out _).mono ?_
  rintro e w1⟨rfl,hb⟩
  have B1:=B.trans (hb.mono B.size)
  clear hb B HB1
  go_wp2_with fail
  refine(HB2.out _).mono ?_
  rintro e w2⟨rfl,hb⟩
  have B2:=B1.trans (hb.mono B1.size)
  clear hb B1 HB2
  go_wp2_with fail
  refine(HU1.out _).mono ?_
  rintro e w3⟨rfl,hb⟩
  have B3:=B2.trans (hb.mono B2.size)
  clear hb B2 HU1
  cases u1 with
  |false=>
   have hJ:J=none:=HJ0.out (by simp)
   subst hJ
   clear HJ0 HJ1
   go_wp2
   go_ret2
   exact⟨rfl,B3⟩
  |true=>
   go_wp2_with fail
   refine(HU2.out _).mono ?_
   rintro e w4⟨rfl,hb⟩
   have B4:=B3.trans (hb.mono B3.size)
   clear hb B3 HU2
   cases u2 with
   |false=>
    have hJ:J=none:=HJ0.out (by simp)
    subst hJ
    clear HJ0 HJ1
    go_wp2
    go_ret2
    exact⟨rfl,B4⟩
   |true=>
    go_wp2_with fail
    refine(HQ1.out _).mono ?_
    rintro e w5⟨rfl,rfl⟩
    clear HQ1
    cases q1 with
    |false=>
     have hJ:J=none:=HJ0.out (by simp)
     subst hJ
     clear HJ0 HJ1
     go_wp2
     go_ret2
     exact⟨rfl,B4⟩
    |true=>
     go_wp2_with fail
     refine(HQ2.out _).mono ?_
     rintro e w6⟨rfl,rfl⟩
     clear HQ2
     cases q2 with
     |false=>
      have hJ:J=none:=HJ0.out (by simp)
      subst hJ
      clear HJ0 HJ1
      go_wp2
      go_ret2
      exact⟨rfl,B4⟩
     |true=>
      have hJ:J=some R:=HJ1.out (by simp)
      subst hJ
      clear HJ0 HJ1
      go_wp2_with fail
      rw[HMin.out,HMax.out]
      refine(HR.out _).mono ?_
      rintro e w7⟨rfl,rfl⟩
      clear HR HMin HMax
      go_wp2
      go_ret2
      exact⟨rfl,B4⟩
theorem zw(a x b y:Nat)(Z:Nat)(V:Value)(w:World)
 (HBe:Hid (∀w,Calls Tryz.prog 155 #[.agg #[.int .u64 (a:Int),.int .u64 (x:Int)],.agg #[.int .u64 (b:Int),.int .u64 (y:Int)]] w fun e w'=>e=.returned (.bool true)∧Below w.heap.size w w'))
 (HX:Hid (bits .xor .u64 (x:Int) (y:Int)=(Z:Int)))
 (HW:Hid (∀w,Calls Tryz.prog 156 #[.agg #[.int .u64 (a:Int),.int .u64 (x:Int)],.int .u64 (Z:Int)] w fun e w'=>e=.returned V∧Below w.heap.size w w')):
 Calls Tryz.prog 135 #[.iface 202 (.agg #[.int .u64 (a:Int),.int .u64 (x:Int)]),.iface 202 (.agg #[.int .u64 (b:Int),.int .u64 (y:Int)])] w fun e w'=>e=.returned (.tuple #[V,.bool true])∧Below w.heap.size w w':=by
 have ta1:=qk (a:Int) (x:Int)
 have ta2:=qk (b:Int) (y:Int)
 have B:Below w.heap.size w ((w.alloc (.cells #[.int .u64 (a:Int),.int .u64 (x:Int)] 202)).alloc (.cells #[.int .u64 (b:Int),.int .u64 (y:Int)] 202)):=((af _ _).alloc (ae _) _).alloc (by simp) _
 have HX':Hid (∀w1,Below ((w.alloc (.cells #[.int .u64 (a:Int),.int .u64 (x:Int)] 202)).alloc (.cells #[.int .u64 (b:Int),.int .u64 (y:Int)] 202)).heap.size ((w.alloc (.cells #[.int .u64 (a:Int),.int .u64 (x:Int)] 202)).alloc (.cells #[.int .u64 (b:Int),.int .u64 (y:Int)] 202)) w1->
  w1.cell? ⟨w.heap.size,0,none⟩=some (.int .u64 (a:Int))∧w1.cell? ⟨w.heap.size,1,none⟩=some (.int .u64 (x:Int))∧w1.cell? ⟨w.heap.size+1,1,none⟩=some (.int .u64 (y:Int))):=by
  intro w1 hb
  refine⟨(hb.cell (p:=⟨w.heap.size,0,none⟩) (by simp;omega)).trans ?_,(hb.cell (p:=⟨w.heap.size,1,none⟩) (by simp;omega)).trans ?_,(hb.cell (p:=⟨w.heap.size+1,1,none⟩) (by simp)).trans ?_⟩
  ·exact(((af (w.alloc (.cells #[.int .u64 (a:Int),.int .u64 (x:Int)] 202)).heap.size _).alloc (ae _) _).cell (p:=⟨w.heap.size,0,none⟩) (by simp)).trans (by simp)
  ·exact(((af (w.alloc (.cells #[.int .u64 (a:Int),.int .u64 (x:Int)] 202)).heap.size _).alloc (ae _) _).cell (p:=⟨w.heap.size,1,none⟩) (by simp)).trans (by simp)
  ·have e:w.heap.size+1=(w.alloc (.cells #[.int .u64 (a:Int),.int .u64 (x:Int)] 202)).heap.size:=by simp
   rw[e];simp
 go_enter Tryz.func135,Tryz.ntmps135
 go_wp2_with fail
 refine(HBe.out _).mono ?_
 rintro e w0⟨rfl,hb⟩
 obtain⟨x0,x1,y1⟩:=HX'.out _ hb
 replace B:=B.trans (hb.mono B.size)
 clear hb HBe HX'
 go_wp2_with fail
 rw[HX.out]
 refine(HW.out _).mono ?_
 rintro e w1⟨rfl,hb⟩
 replace B:=B.trans (hb.mono B.size)
 clear hb HW HX x0 x1 y1
 go_wp2
 go_ret2
 exact⟨rfl,B⟩
theorem AT{d:K}(hc:fZ c)(hd:fZ d)(h:¬(c.kind=1∧d.kind=1∧c.a=d.a∧jq (c.b^^^d.b) 64=1)):
 gl c d=if(vq c&&vq d&&decide (jd d<=gD c+1)&&decide (jd c<=gD d+1))=true then some (eF (min (jd c) (jd d)) (max (gD c) (gD d)))else none:=by
 unfold gl;rw[if_neg h,xg hc,xg hd]
 cases vq c<;>cases vq d
 ·rfl
 ·rfl
 ·rfl
 simp
theorem qR(c d:K)(w:World)(hc:fZ c)(hd:fZ d):
 Calls Tryz.prog 135 #[gh c,gh d] w fun e w'=>e=.returned (xy (gl c d))∧Below w.heap.size w w':=by
 have oc:=hc.ok;have od:=hd.ok;obtain⟨lc,hc1,_⟩:=sY hc;obtain⟨ld,hd1,_⟩:=sY hd;by_cases hb:c.kind=1∧d.kind=1∧c.a=d.a∧jq (c.b^^^d.b) 64=1
 ·obtain⟨ck,a,x⟩:=c;obtain⟨dk,b,y⟩:=d;obtain⟨h1,h2,h3,h4⟩:=hb;simp only at h1 h2 h3 h4;subst h1;subst h2;subst h3;have e:gl ⟨1,a,x⟩ ⟨1,a,y⟩=some (fI (a&&&inv (x^^^y)) (x&&&inv (x^^^y))):=by
   unfold gl;rw[if_pos ⟨rfl,rfl,rfl,h4⟩]
  rw[e];refine zw a x a y (x^^^y) _ w ?_ (u64_xor x y oc.2.2 od.2.2) (fun w=>Ap a x (x^^^y) w oc.2.1 oc.2.2 (mj oc.2.2 od.2.2));intro w;have:=rV a x a y w oc.2.2 od.2.2;rw[decide_eq_true ⟨rfl,h4⟩]at this;exact this
 have hJ:=AT hc hd hb;obtain⟨T,P,F1,e1,a1,a2,HB1⟩:=oR hc;obtain⟨T2,P2,G1,e2,c1,c2,HU1⟩:=zm hc;obtain⟨T',P',F2,e1',b1,b2,HB2⟩:=oR hd;obtain⟨T2',P2',G2,e2',d1,d2,HU2⟩:=zm hd;obtain⟨rfl,rfl⟩:T2=T∧P2=P:=by rw[e1]at e2;cases e2;exact⟨rfl,rfl⟩
 obtain⟨rfl,rfl⟩:T2'=T'∧P2'=P':=by rw[e1']at e2';cases e2';exact⟨rfl,rfl⟩
 rw[e1,e1'];have HQ1:∀w,Calls Tryz.prog 157 #[.int .u64 ((gD c:Nat):Int),.int .u64 ((jd d:Nat):Int)] w fun e w'=>e=.returned (.bool (decide (jd d<=gD c+1)))∧w'=w:=fun w=>ts _ _ w hc1 ld
 have HQ2:∀w,Calls Tryz.prog 157 #[.int .u64 ((gD d:Nat):Int),.int .u64 ((jd c:Nat):Int)] w fun e w'=>e=.returned (.bool (decide (jd c<=gD d+1)))∧w'=w:=fun w=>ts _ _ w hd1 lc
 have HR:∀w,Calls Tryz.prog 129 #[.int .u64 ((min (jd c) (jd d):Nat):Int),.int .u64 ((max (gD c) (gD d):Nat):Int)] w fun e w'=>e=.returned (gh (eF (min (jd c) (jd d)) (max (gD c) (gD d))))∧w'=w:=fun w=>rC _ _ w (by omega) (by omega)
 have HMin:min ((jd c:Nat):Int) ((jd d:Nat):Int)=((min (jd c) (jd d):Nat):Int):=by omega
 have HMax:max ((gD c:Nat):Int) ((gD d:Nat):Int)=((max (gD c) (gD d):Nat):Int):=by omega
 have HJ0:(vq c&&vq d&&decide (jd d<=gD c+1)&&decide (jd c<=gD d+1))=false->gl c d=none:=fun h=>by rw[hJ,if_neg (by rw[h];decide)]
 have HJ1:(vq c&&vq d&&decide (jd d<=gD c+1)&&decide (jd c<=gD d+1))=true->gl c d=some (eF (min (jd c) (jd d)) (max (gD c) (gD d))):=fun h=>by rw[hJ,if_pos h]
 by_cases kc:c.kind=1
 ·obtain⟨ck,a,x⟩:=c;simp only at kc;subst kc;have eT:gh ⟨1,a,x⟩=.iface 202 (.agg #[.int .u64 (a:Int),.int .u64 (x:Int)]):=rfl;rw[e1]at eT;injection eT with hT hP
  by_cases kd:d.kind=1
  ·obtain⟨dk,b,y⟩:=d;simp only at kd;subst kd;have eT':gh ⟨1,b,y⟩=.iface 202 (.agg #[.int .u64 (b:Int),.int .u64 (y:Int)]):=rfl;rw[e1']at eT';injection eT' with hT' hP'
   refine I7 _ _ _ _ F1 F2 G1 G2 _ _ _ _ _ _ _ _ _ _ w (.inr (.inr ⟨a,x,b,y,hT,hP,hT',hP',?_⟩)) a1 a2 b1 b2 c1 c2 d1 d2 HB1 HB2 HU1 HU2 HQ1 HQ2 HR HMin HMax HJ0 HJ1;intro w;have:=rV a x b y w oc.2.2 od.2.2;rw[decide_eq_false (fun h=>hb ⟨rfl,rfl,h.1,h.2⟩)]at this;exact this
  refine I7 _ _ _ _ F1 F2 G1 G2 _ _ _ _ _ _ _ _ _ _ w (.inr (.inl ⟨a,x,hT,hP,?_⟩)) a1 a2 b1 b2 c1 c2 d1 d2 HB1 HB2 HU1 HU2 HQ1 HQ2 HR HMin HMax HJ0 HJ1;rw[<-e1'];rcases hd with rfl|⟨b,y,rfl,_⟩|⟨l,h,rfl,_⟩
  ·exact oS
  ·exact absurd rfl kd
  exact mU _ _
 refine I7 _ _ _ _ F1 F2 G1 G2 _ _ _ _ _ _ _ _ _ _ w (.inl ?_) a1 a2 b1 b2 c1 c2 d1 d2 HB1 HB2 HU1 HU2 HQ1 HQ2 HR HMin HMax HJ0 HJ1;rw[<-e1];rcases hc with rfl|⟨b,y,rfl,_⟩|⟨l,h,rfl,_⟩
 ·exact oS
 ·exact absurd rfl kc
 exact mU _ _
def tot:List C->Nat
 |[]=>0
 |c::r=>c.args.length+tot r
theorem CSrc.at{w:World}{a:Option Addr}{cs:List C}(hs:CSrc w a cs)(i:Nat)(hi:i<cs.length):∃b o,a=some ⟨b,o,none⟩∧b<w.heap.size∧w.cell? ⟨b,o+i*3,none⟩=some (.int .u32 (cs.getD i C.zero).et)∧w.cell? ⟨b,o+i*3+1,none⟩=some (.int .u32 (cs.getD i C.zero).nr)∧
 ∃a' cap',w.cell? ⟨b,o+i*3+2,none⟩=some (.slice a' (cs.getD i C.zero).args.length cap')∧kV w a' (cs.getD i C.zero).args:=by
 rcases hs with rfl|⟨b,o,h1,h2,h3⟩
 ·simp at hi
 obtain⟨c0,c1,a',cap',c2,hu⟩:=h3 i hi;exact⟨b,o,h1,h2,c0,c1,a',cap',c2,hu⟩
theorem pd(x:Int)(w:World):Calls Tryz.prog 122 #[.int .u32 x] w fun e w'=>e=.returned (.bool false)∧w'=w:=by
 go_enter Tryz.func122,Tryz.ntmps122;go_wp2;go_ret;exact⟨rfl,rfl⟩
theorem pF(x:Int)(w:World):Calls Tryz.prog 154 #[.int .u64 x] w fun e w'=>e=.returned (.bool false)∧w'=w:=by
 go_enter Tryz.func154,Tryz.ntmps154;go_wp2;go_ret;exact⟨rfl,rfl⟩
theorem ph(h:x<y):fM x y= -1:=by unfold fM;rw[if_pos h]
theorem oT(h:y<x):fM x y=1:=by unfold fM;rw[if_neg (by omega),if_pos h]
theorem ni(h:x=y):fM x y=0:=by unfold fM;rw[if_neg (by omega),if_neg (by omega)]
theorem EJ(x y:Int)(w:World)(hx:0<=x∧x<=4294967295)(hy:0<=y∧y<=4294967295):Calls Tryz.prog 90 #[.int .u32 x,.int .u32 y] w fun e w'=>e=.returned (.int .i64 (fM x y))∧w'=w:=by
 rcases dM x y with h|h|h
 ·rw[ph h];go_enter Tryz.func90,Tryz.ntmps90;go_wp2_with(go_at_call 122;refine(pd _ _).mono ?_;rintro e w'⟨rfl,rfl⟩);go_ret;exact⟨rfl,rfl⟩
 ·rw[ni h];subst h;go_enter Tryz.func90,Tryz.ntmps90;go_wp2_with(go_at_call 122;refine(pd _ _).mono ?_;rintro e w'⟨rfl,rfl⟩);go_ret;exact⟨rfl,rfl⟩
 rw[oT h];go_enter Tryz.func90,Tryz.ntmps90;go_wp2_with(go_at_call 122;refine(pd _ _).mono ?_;rintro e w'⟨rfl,rfl⟩);go_ret;exact⟨rfl,rfl⟩
theorem DY(x y:Int)(w:World)(hx:gA x)(hy:gA y):Calls Tryz.prog 133 #[.int .u64 x,.int .u64 y] w fun e w'=>e=.returned (.int .i64 (fM x y))∧w'=w:=by
 obtain⟨x0,x1⟩:=hx;obtain⟨y0,y1⟩:=hy;rcases dM x y with h|h|h
 ·rw[ph h];go_enter Tryz.func133,Tryz.ntmps133;go_wp2_with(go_at_call 154;refine(pF _ _).mono ?_;rintro e w'⟨rfl,rfl⟩);go_ret;exact⟨rfl,rfl⟩
 ·rw[ni h];subst h;go_enter Tryz.func133,Tryz.ntmps133;go_wp2_with(go_at_call 154;refine(pF _ _).mono ?_;rintro e w'⟨rfl,rfl⟩);go_ret;exact⟨rfl,rfl⟩
 rw[oT h];go_enter Tryz.func133,Tryz.ntmps133;go_wp2_with(go_at_call 154;refine(pF _ _).mono ?_;rintro e w'⟨rfl,rfl⟩);go_ret;exact⟨rfl,rfl⟩
theorem kV.at{w:World}{a:Option Addr}{l:List Int}(h:kV w a l)(i:Nat)(hi:i<l.length):∃b o,a=some ⟨b,o,none⟩∧b<w.heap.size∧w.cell? ⟨b,o+i,none⟩=some (.int .u64 (l.getD i 0)):=by
 rcases h with rfl|⟨b,o,ha,hb,hp⟩
 ·simp at hi
 exact⟨b,o,ha,hb,hp i hi⟩
def or3(x y z:Int):Int:=if x≠0 then x else if y≠0 then y else z
def tO(x y z:Int)(j:Nat):Int:=if j=0 then x else if j=1 then y else z
theorem DZ (g : Nat) (x y z : Int) (w : World) (c : ∀ j, j < 3 -> w.cell? ⟨g, j, none⟩ = some (.int .i64 (tO x y z j))) :
    Calls Tryz.prog 89 #[.slice (some ⟨g, 0, none⟩) 3 3] w fun e w' => e = .returned (.int .i64 (or3 x y z)) ∧ w' = w := by
  have HC : Hid (∀ j, j < 3 -> w.cell? ⟨g, j, none⟩ = some (.int .i64 (tO x y z j))) := c
  have H1 : Hid (∀ j, j < 3 -> (∀ i, i < j -> tO x y z i = 0) -> tO x y z j ≠ 0 -> or3 x y z = tO x y z j) := by
    intro j hj h0 h1
    have : j = 0 ∨ j = 1 ∨ j = 2 := by omega
    rcases this with rfl | rfl | rfl
    · simp only [tO, if_true] at h1 ⊢; unfold or3; rw [if_pos h1]
    · have a0 := h0 0 (by omega)
      simp [tO] at h1 a0 ⊢; unfold or3; rw [if_neg (by omega), if_pos h1]
    · have a0 := h0 0 (by omega)
      have a1 := h0 1 (by omega)
      simp [tO] at h1 a0 a1 ⊢; unfold or3; rw [if_neg (by omega), if_neg (by omega)]
  have H2 : Hid ((∀ i, i < 3 -> tO x y z i = 0) -> or3 x y z = 0) := by
    intro h0
    have a0 := h0 0 (by omega)
    have a1 := h0 1 (by omega)
    have a2 := h0 2 (by omega)
    simp [tO] at a0 a1 a2; unfold or3; rw [if_neg (by omega), if_neg (by omega), a2]
  generalize or3 x y z = R at *
  generalize tO x y z = G at *
  clear c
  go_enter Tryz.func89, Tryz.ntmps89
  go_wp2_with fail
  go_loopw [8] (fun i wr => ∃ j : Nat, j <= 3 ∧ i = .int .i64 j ∧ wr = w ∧ Hid (∀ i, i < j -> G i = 0)) (fun i _ => 3 - (intOf i).toNat)
  case atStart => exact ⟨0, by omega, rfl, rfl, fun i hi => by omega⟩
  case round =>
    obtain ⟨j, hj, rfl, rfl, HJ⟩ := hrel
    by_cases hlt : j < 3
    · have c0 := HC.out j hlt
      by_cases hq : G j = 0
      · have HJ2 : Hid (∀ i, i < j + 1 -> G i = 0) := by
          intro i hi
          by_cases e : i = j
          · rw [e]; exact hq
          · exact HJ.out i (by omega)
        rw [hq] at c0
        clear HC H1 H2 HJ hq
        go_wp2
        go_roundw
        case rel => exact ⟨j + 1, by omega, by go_num, trivial, HJ2⟩
        case measure => simp [intOf]; omega
      · have E : Hid (R = G j) := H1.out j hlt HJ.out hq
        have hq' : (G j != 0) = true := by simpa using hq
        clear HC H1 H2 HJ
        generalize G j = q at *
        go_wp2
        go_ret
        exact ⟨fL E.out.symm, rfl⟩
    · have E : Hid (R = 0) := H2.out (fun i hi => HJ.out i (by omega))
      clear HC H1 H2 HJ
      go_wp2
      go_ret
      exact ⟨fL E.out.symm, rfl⟩
theorem tF{W:World}{a:Addr}{v:Value}(o:Obj)(h:W.cell? a=some v):(W.alloc o).cell? a=some v:=by
 have hlt:a.block<W.heap.size:=by
  rcases de a.block W.heap.size with h'|h'
  ·exact h'
  simp[World.cell?,cI h']at h
 rw[World.cell?_alloc_lt _ _ _ hlt];exact h
end Go.Proofs.YtdihdapmphkhpaaGreat
namespace Go.Proofs.YtdihdapmphkhpaaGreat
variable{A:Nat->Nat}{i:Nat}{p:List E}{α:Type}
abbrev Ru:=List K
def NR(r:Ru):Prop:=r.length=6∧∀i,fZ (r.getD i K.zero)
theorem pE:fZ K.zero:=.inl rfl
theorem nE(l:List α)(i j:Nat)(c d:α):(l.set i c).getD j d=if i=j∧i<l.length then c else l.getD j d:=by
 simp only[aa,dL];by_cases h:i=j
 ·subst h;by_cases h2:i<l.length
  ·simp[h2]
  simp[h2]
 simp[h]
theorem NR.set{r:Ru}(h:NR r)(i:Nat){c:K}(hc:fZ c):NR (r.set i c):=by
 refine⟨by rw[aK];exact h.1,fun j=> ?_⟩;rw[nE];split
 ·exact hc
 exact h.2 j
def fw(a b:Ru):Bool:=(List.range 6).all fun i=>fU (a.getD i K.zero) (b.getD i K.zero)
theorem kW(a b:Ru):fw a b=true↔∀i,i<6->fU (a.getD i K.zero) (b.getD i K.zero)=true:=by
 simp[fw,bC]
theorem uh{a b:Ru}(hi:i<6)(h:fU (a.getD i K.zero) (b.getD i K.zero)=false):fw a b=false:=by
 cases e:fw a b with
 |false=>rfl
 |true=>rw[(kW a b).1 e i hi]at h;exact absurd h (by decide)
theorem yh{a:Ru}(h:NR a):fw a a=true:=(kW a a).2 fun i _=>(pM (h.2 i) (h.2 i)).2 fun v _ h=>h
def lj(r:Ru)(A:Nat->Nat):Prop:=∀i,i<6->eX (r.getD i K.zero) (A i)=true
def A64(A:Nat->Nat):Prop:=∀i,A i<18446744073709551616
theorem wg{a b:Ru}(ha:NR a)(hb:NR b)(h:fw a b=true)(hA:A64 A)(h1:lj a A):lj b A:=fun i hi=>
 (pM (ha.2 i) (hb.2 i)).1 ((kW a b).1 h i hi) (A i) (hA i) (h1 i hi)
def JoinAt(a b:Ru)(i:Nat)(c:K):Prop:=i<6∧a.getD i K.zero≠b.getD i K.zero∧(∀j,j<6->j≠i->a.getD j K.zero=b.getD j K.zero)∧gl (a.getD i K.zero) (b.getD i K.zero)=some c
def jD(a b r:Ru):Prop:=∃i c,JoinAt a b i c∧r=a.set i c
def gj(a b:Ru):Prop:=∀r,¬jD a b r
theorem jD.uniq{a b r s:Ru}(h:jD a b r)(h':jD a b s):r=s:=by
 obtain⟨i,c,⟨h1,h2,h3,h4⟩,rfl⟩:=h;obtain⟨j,d,⟨k1,k2,k3,k4⟩,rfl⟩:=h';have:i=j:=by
  by_cases e:i=j
  ·exact e
  exact absurd (k3 i h1 e) h2
 subst this;rw[h4]at k4
 cases k4;rfl
theorem gj.symm{a b:Ru}(h:gj a b):gj b a:=by
 rintro r⟨i,c,⟨h1,h2,h3,h4⟩,rfl⟩
 cases e:gl (a.getD i K.zero) (b.getD i K.zero)with
 |some d=>exact h _ ⟨i,d,⟨h1,fun e=>h2 e.symm,fun j hj hne=>(h3 j hj hne).symm,e⟩,rfl⟩
 |none=>rw[Cs e]at h4;cases h4
theorem jD.normal{a b r:Ru}(ha:NR a)(hb:NR b)(h:jD a b r):NR r:=by
 obtain⟨i,c,⟨h1,h2,h3,h4⟩,rfl⟩:=h;exact ha.set i (uQ (ha.2 i) (hb.2 i) h4).1
theorem jD.holds{a b r:Ru}(ha:NR a)(hb:NR b)(h:jD a b r)(hA:A64 A):lj r A↔(lj a A∨lj b A):=by
 obtain⟨i,c,⟨h1,h2,h3,h4⟩,rfl⟩:=h;have hc:=(uQ (ha.2 i) (hb.2 i) h4).2 (A i) (hA i);have hl:=ha.1;constructor
 ·intro h;have hi:=h i h1;rw[nE,if_pos ⟨rfl,by omega⟩]at hi;rcases hc.1 hi with g|g
  ·left;intro j hj;by_cases e:i=j
   ·subst e;exact g
   have:=h j hj;rw[nE,if_neg (by rintro⟨q,_⟩;exact e q)]at this;exact this
  right;intro j hj;by_cases e:i=j
  ·subst e;exact g
  have:=h j hj;rw[nE,if_neg (by rintro⟨q,_⟩;exact e q)]at this;rw[<-h3 j hj (fun q=>e q.symm)];exact this
 intro h j hj;rw[nE];by_cases e:i=j
 ·subst e;rw[if_pos ⟨rfl,by omega⟩];apply hc.2;rcases h with h|h
  ·exact .inl (h i hj)
  exact .inr (h i hj)
 rw[if_neg (by rintro⟨q,_⟩;exact e q)];rcases h with h|h
 ·exact h j hj
 rw[h3 j hj (fun q=>e q.symm)];exact h j hj
def at'(l:List Ru)(i:Nat):Ru:=l.getD i []
def ji(l:List Ru)(i:Nat):Prop:=∀p,p<i->∀q,q<l.length->p≠q->fw (at' l p) (at' l q)=false
def NoW(l:List Ru):Prop:=ji l l.length
def mO(l:List Ru)(i:Nat):Prop:=i<l.length∧ji l i∧∃j,j<l.length∧i≠j∧fw (at' l i) (at' l j)=true
def jk(l:List Ru)(i:Nat):Prop:=∀p,p<i->∀q,p<q->q<l.length->gj (at' l p) (at' l q)
def NoJ(l:List Ru):Prop:=jk l l.length
def mX(l:List Ru)(i j:Nat)(r:Ru):Prop:=i<j∧j<l.length∧jk l i∧(∀q,i<q->q<j->gj (at' l i) (at' l q))∧jD (at' l i) (at' l j) r
inductive Step(l:List Ru):List Ru->Prop
 |drop{i:Nat}(h:mO l i):Step l (l.eraseIdx i)
 |join{i j:Nat}{r:Ru}(h0:NoW l)(h:mX l i j r):Step l ((l.set i r).eraseIdx j)
def rq(l:List Ru):Prop:=NoW l∧NoJ l
inductive Steps:List Ru->List Ru->Prop
 |done{l:List Ru}(h:rq l):Steps l l
 |more{l m n:List Ru}(h:Step l m)(h':Steps m n):Steps l n
theorem mO.uniq{l:List Ru}{i':Nat}(h:mO l i)(h':mO l i'):i=i':=by
 obtain⟨h1,h2,j,h3,h4,h5⟩:=h;obtain⟨k1,k2,j',k3,k4,k5⟩:=h';rcases dN i i' with g|g|g
 ·rw[k2 i g j h3 h4]at h5;exact absurd h5 (by decide)
 ·exact g
 rw[h2 i' g j' k3 k4]at k5;exact absurd k5 (by decide)
theorem mO.Bh{l:List Ru}(h:mO l i)(h':NoW l):False:=by
 obtain⟨h1,h2,j,h3,h4,h5⟩:=h;rw[h' i h1 j h3 h4]at h5;exact absurd h5 (by decide)
theorem mX.uniq{l:List Ru}{i j i' j':Nat}{r r':Ru}(h:mX l i j r)(h':mX l i' j' r'):i=i'∧j=j'∧r=r':=by
 obtain⟨h1,h2,h3,h4,h5⟩:=h;obtain⟨k1,k2,k3,k4,k5⟩:=h';have e:i=i':=by
  rcases dN i i' with g|g|g
  ·exact absurd h5 (k3 i g j h1 h2 r)
  ·exact g
  exact absurd k5 (h3 i' g j' k1 k2 r')
 subst e;have e:j=j':=by
  rcases dN j j' with g|g|g
  ·exact absurd h5 (k4 j h1 g r)
  ·exact g
  exact absurd k5 (h4 j' k1 g r')
 subst e;exact⟨rfl,rfl,h5.uniq k5⟩
theorem mX.notNoJ{l:List Ru}{j:Nat}{r:Ru}(h:mX l i j r)(h':NoJ l):False:=by
 obtain⟨h1,h2,h3,h4,h5⟩:=h;exact h' i (by omega) j h1 h2 r h5
theorem Step.uniq{l m n:List Ru}(h:Step l m)(h':Step l n):m=n:=by
 cases h with
 |drop h=>cases h' with
  |drop k=>rw[h.uniq k]
  |join k0 k=>exact(h.Bh k0).elim
 |join h0 h=>cases h' with
  |drop k=>exact(k.Bh h0).elim
  |join k0 k=>obtain⟨rfl,rfl,rfl⟩:=h.uniq k;rfl
theorem Step.zv{l m:List Ru}(h:Step l m)(h':rq l):False:=by
 cases h with
 |drop h=>exact h.Bh h'.1
 |join h0 h=>exact h.notNoJ h'.2
theorem Steps.uniq{l m n:List Ru}(h:Steps l m)(h':Steps l n):m=n:=by
 induction h with
 |done h=>cases h' with
  |done k=>rfl
  |more k k'=>exact(k.zv h).elim
 |more h hh ih=>cases h' with
  |done k=>exact(h.zv k).elim
  |more k k'=>obtain rfl:=h.uniq k;exact ih k'
theorem Steps.stuck{l m:List Ru}(h:Steps l m):rq m:=by
 induction h with
 |done h=>exact h
 |more h hh ih=>exact ih
def NRs(l:List Ru):Prop:=∀r∈l,NR r
theorem at_mem{l:List Ru}(h:i<l.length):at' l i∈l:=by
 rw[at',aa,ag h];exact aI h
theorem pH{l:List Ru}{r:Ru}(h:r∈l):∃i,i<l.length∧at' l i=r:=by
 obtain⟨i,hi,rfl⟩:=bH h;exact⟨i,hi,by rw[at',aa,ag hi];rfl⟩
theorem mem_erase{l:List α}{x:α}:x∈l.eraseIdx i↔∃j,j≠i∧l[j]? =some x:=by
 rw[List.mem_eraseIdx_iff_getElem?]
theorem Bg{l:List Ru}(h:i<l.length):l[i]? =some (at' l i):=by
 rw[at',aa,ag h];rfl
def kl(l:List Ru)(A:Nat->Nat):Prop:=∃r∈l,lj r A
theorem Step.keeps{l m:List Ru}(h:Step l m)(hl:NRs l):NRs m∧m.length+1=l.length∧(l≠[]->m≠[])∧∀A,A64 A->(kl m A↔kl l A):=by
 cases h with
 | @drop i h=>
   obtain⟨h1,h2,j,h3,h4,h5⟩:=h;have hlen:(l.eraseIdx i).length+1=l.length:=by rw[dq,if_pos h1];omega
   refine⟨fun r hr=>hl r (List.mem_of_mem_eraseIdx hr),hlen,fun _ e=>by rw[e]at hlen;simp at hlen;omega,fun A hA=>⟨?_,?_⟩⟩
   ·rintro⟨r,hr,h⟩;exact⟨r,List.mem_of_mem_eraseIdx hr,h⟩
   rintro⟨r,hr,h⟩;obtain⟨k,hk,rfl⟩:=pH hr;by_cases e:k=i
   ·subst e;exact⟨at' l j,mem_erase.2 ⟨j,fun q=>h4 q.symm,Bg h3⟩,wg (hl _ (at_mem hk)) (hl _ (at_mem h3)) h5 hA h⟩
   exact⟨at' l k,mem_erase.2 ⟨k,e,Bg hk⟩,h⟩
 | @join i j r h0 h=>
   obtain⟨h1,h2,h3,h4,h5⟩:=h;have hi:i<l.length:=by omega
   have nr:=h5.normal (hl _ (at_mem hi)) (hl _ (at_mem h2));have hh:∀A,A64 A->(lj r A↔(lj (at' l i) A∨lj (at' l j) A)):=fun A hA=>h5.holds (hl _ (at_mem hi)) (hl _ (at_mem h2)) hA
   have hlen:((l.set i r).eraseIdx j).length+1=l.length:=by rw[dq,aK,if_pos h2];omega
   have gi:(l.set i r)[i]? =some r:=by rw[List.getElem?_set_self hi]
   have gk:∀k,k≠i->(l.set i r)[k]? =l[k]? :=fun k hk=>List.getElem?_set_ne (fun e=>hk e.symm)
   refine⟨fun s hs=> ?_,hlen,fun _ e=>by rw[e]at hlen;simp at hlen;omega,fun A hA=>⟨?_,?_⟩⟩
   ·obtain⟨k,hk,hs⟩:=mem_erase.1 hs;by_cases e:k=i
    ·subst e;rw[gi]at hs;cases hs;exact nr
    rw[gk k e]at hs;exact hl s (dr hs)
   ·rintro⟨s,hs,h⟩;obtain⟨k,hk,hs⟩:=mem_erase.1 hs;by_cases e:k=i
    ·subst e;rw[gi]at hs;cases hs;rcases(hh A hA).1 h with h|h
     ·exact⟨_,at_mem hi,h⟩
     exact⟨_,at_mem h2,h⟩
    rw[gk k e]at hs;exact⟨s,dr hs,h⟩
   rintro⟨s,hs,h⟩;obtain⟨k,hk,rfl⟩:=pH hs;by_cases e:k=i
   ·subst e;exact⟨r,mem_erase.2 ⟨k,by omega,gi⟩,(hh A hA).2 (.inl h)⟩
   by_cases e2:k=j
   ·subst e2;exact⟨r,mem_erase.2 ⟨i,by omega,gi⟩,(hh A hA).2 (.inr h)⟩
   exact⟨at' l k,mem_erase.2 ⟨k,e2,by rw[gk k e];exact Bg hk⟩,h⟩
theorem Steps.keeps{l m:List Ru}(h:Steps l m)(hl:NRs l):NRs m∧m.length<=l.length∧(l≠[]->m≠[])∧∀A,A64 A->(kl m A↔kl l A):=by
 induction h with
 |done h=>exact⟨hl,ae _,fun h=>h,fun A _=>Iff.rfl⟩
 |more h hh ih=>
  obtain⟨a,b,c,d⟩:=h.keeps hl;obtain⟨a',b',c',d'⟩:=ih a;exact⟨a',by omega,fun q=>c' (c q),fun A hA=>(d' A hA).trans (d A hA)⟩
def gm(r:Ru):Ru:=(List.range 6).map fun i=>eQ (r.getD i K.zero)
def iI(rules out:List Ru):Prop:=∃l m,jh ie (rules.map gm) l∧Steps l m∧jh ie m out
theorem iI.uniq{rules out out':List Ru}(h:iI rules out)(h':iI rules out'):out=out':=by
 obtain⟨l,m,h1,h2,h3⟩:=h;obtain⟨l',m',k1,k2,k3⟩:=h';obtain rfl:=vJ ou h1 k1;obtain rfl:=h2.uniq k2;exact vJ ou h3 k3
theorem iI.perm{rules rules' out:List Ru}(h:iI rules out)(hp:∀r,r∈rules↔r∈rules'):iI rules' out:=by
 obtain⟨l,m,h1,h2,h3⟩:=h;refine⟨l,m,⟨h1.1,fun c=> ?_⟩,h2,h3⟩;rw[h1.2 c];simp only[bT];constructor
 ·rintro⟨a,ha,rfl⟩;exact⟨a,(hp a).1 ha,rfl⟩
 rintro⟨a,ha,rfl⟩;exact⟨a,(hp a).2 ha,rfl⟩
theorem iD(r:Ru)(h:i<6):(gm r).getD i K.zero=eQ (r.getD i K.zero):=by
 simp[gm,aa,h]
theorem lN(r:Ru):(gm r).length=6:=by simp[gm]
theorem wm(r:Ru)(h:6<=i):(gm r).getD i K.zero=K.zero:=by
 rw[aa,bw (by rw[lN];exact h)];rfl
def VR(r:Ru):Prop:=r.length=6∧∀i,(r.getD i K.zero).ok∧eI (r.getD i K.zero)=true
theorem NR.vr{r:Ru}(h:NR r):VR r:=⟨h.1,fun i=>⟨(h.2 i).ok,(h.2 i).valid⟩⟩
theorem vz{r:Ru}(h:VR r):NR (gm r):=by
 refine⟨lN r,fun i=> ?_⟩;by_cases hi:i<6
 ·rw[iD r hi];exact yJ (h.2 i).1 (h.2 i).2
 rw[wm r (by omega)];exact pE
theorem tp{r:Ru}(h:VR r)(hA:A64 A):lj (gm r) A↔lj r A:=by
 constructor
 ·intro h1 i hi;have:=h1 i hi;rw[iD r hi,tC (h.2 i).1 (h.2 i).2 (hA i)]at this;exact this
 intro h1 i hi;rw[iD r hi,tC (h.2 i).1 (h.2 i).2 (hA i)];exact h1 i hi
theorem NoW.nodup{m:List Ru}(h:NoW m)(hm:NRs m):m.Nodup:=by
 rw[List.nodup_iff_pairwise_ne,dt];intro i j hi hj hij e;have h1:=h i hi j hj (by omega);have ei:at' m i=m[i]:=by rw[at',aa,ag hi];rfl
 have ej:at' m j=m[j]:=by rw[at',aa,ag hj];rfl
 rw[ei,ej,<-e]at h1;rw[yh (hm _ (aI hi))]at h1;exact absurd h1 (by decide)
theorem xb{m:List Ru}(hm:NRs m):rq m↔(m.Nodup∧(∀a∈m,∀b∈m,a≠b->fw a b=false)∧(∀a∈m,∀b∈m,a≠b->gj a b)):=by
 constructor
 ·intro h;refine⟨h.1.nodup hm,fun a ha b hb hne=> ?_,fun a ha b hb hne=> ?_⟩
  ·obtain⟨i,hi,rfl⟩:=pH ha;obtain⟨j,hj,rfl⟩:=pH hb;exact h.1 i hi j hj (fun e=>hne (by rw[e]))
  obtain⟨i,hi,rfl⟩:=pH ha;obtain⟨j,hj,rfl⟩:=pH hb;rcases dN i j with g|g|g
  ·exact h.2 i hi j g hj
  ·subst g;exact absurd rfl hne
  exact(h.2 j hj i g hi).symm
 rintro⟨h1,h2,h3⟩;have hd:∀p q,p<m.length->q<m.length->p≠q->at' m p≠at' m q:=by
  intro p q hp hq hne e;have ep:at' m p=m[p]:=by rw[at',aa,ag hp];rfl
  have eq:at' m q=m[q]:=by rw[at',aa,ag hq];rfl
  rw[ep,eq]at e;rw[List.nodup_iff_pairwise_ne,dt]at h1;rcases dJ hne with g|g
  ·exact h1 p q hp hq g e
  exact h1 q p hq hp g e.symm
 refine⟨fun p hp q hq hne=>h2 _ (at_mem hp) _ (at_mem hq) (hd p q hp hq hne),fun p hp q hpq hq=>h3 _ (at_mem hp) _ (at_mem hq) (hd p q hp hq (by omega))⟩
structure qS(rules out:List Ru):Prop where
 nr:NRs out
 len:out.length<=rules.length
 ne:rules≠[]->out≠[]
 Bz:∀A,A64 A->(kl out A↔kl rules A)
 asc:rW ie out
 stuck:rq out
theorem iI.facts {rules out : List Ru} (hr : ∀ r ∈ rules, VR r) (h : iI rules out) : qS rules out := by
  obtain ⟨l, m, h1, h2, h3⟩ := h
  have hl : NRs l := fun r hr' => by
    have := (h1.2 r).1 hr'
    simp only [bT] at this
    obtain ⟨a, ha, rfl⟩ := this
    exact vz (hr a ha)
  obtain ⟨k1, k2, k3, k4⟩ := h2.keeps hl
  have ho : NRs out := fun r hr' => k1 r ((h3.2 r).1 hr')
  have st := (xb k1).1 h2.stuck
  have lo : out.length <= m.length := pW (lV ou h3.1) fun c hc => (h3.2 c).1 hc
  have ll : l.length <= rules.length := by
    have := pW (lV ou h1.1) fun c hc => (h1.2 c).1 hc
    simpa using this
  refine ⟨ho, by omega, fun hne e => ?_, fun A hA => ?_, h3.1, (xb ho).2 ⟨lV ou h3.1, fun a ha b hb => st.2.1 a ((h3.2 a).1 ha) b ((h3.2 b).1 hb), fun a ha b hb => st.2.2 a ((h3.2 a).1 ha) b ((h3.2 b).1 hb)⟩⟩
  · cases rules with
    | nil => exact hne rfl
    | cons a t =>
      have hl0 : l ≠ [] := fun e => by
        have := (h1.2 (gm a)).2 (by simp)
        rw [e] at this; simp at this
      have hm0 := k3 hl0
      cases m with
      | nil => exact hm0 rfl
      | cons b s =>
        have := (h3.2 b).2 (by simp)
        rw [e] at this; simp at this
  · have e1 : kl out A ↔ kl m A := by
      constructor
      · rintro ⟨r, hr', h⟩; exact ⟨r, (h3.2 r).1 hr', h⟩
      · rintro ⟨r, hr', h⟩; exact ⟨r, (h3.2 r).2 hr', h⟩
    have e2 : kl l A ↔ kl rules A := by
      constructor
      · rintro ⟨r, hr', h⟩
        have := (h1.2 r).1 hr'
        simp only [bT] at this
        obtain ⟨a, ha, rfl⟩ := this
        exact ⟨a, ha, (tp (hr a ha) hA).1 h⟩
      · rintro ⟨r, hr', h⟩
        exact ⟨gm r, (h1.2 _).2 (bT.2 ⟨r, hr', rfl⟩), (tp (hr r hr') hA).2 h⟩
    exact e1.trans ((k4 A hA).trans e2)
theorem C1{r:Ru}(ho:okR r)(hv:eG r=true):VR r:=by
 rw[eG,aL,beq_iff_eq,kS K.zero]at hv;refine⟨hv.1,fun i=>⟨ti ho i,?_⟩⟩;by_cases hi:i<r.length
 ·exact hv.2 i hi
 rw[aa,bw (by omega)];rfl
theorem VR.valid{r:Ru}(h:VR r):eG r=true:=by
 rw[eG,aL,beq_iff_eq,kS K.zero];exact⟨h.1,fun i _=>(h.2 i).2⟩
theorem VR.okR{r:Ru}(h:VR r):okR r:=by
 intro c hc;obtain⟨i,hi,rfl⟩:=bH hc;have:=(h.2 i).1;rw[aa,ag hi]at this;exact this
def argN(args:List Int)(i:Nat):Nat:=(args.getD i 0).toNat
theorem qy(r:Ru)(args:List Int):eO r args=true↔lj r (argN args):=by
 rw[eO,bC];constructor
 ·intro h i hi;exact h i (bD.2 hi)
 intro h i hi;exact h i (bD.1 hi)
theorem tx(l:List Ru)(args:List Int):(l.any fun r=>eO r args)=true↔kl l (argN args):=by
 rw[List.any_eq_true];constructor
 ·rintro⟨r,hr,h⟩;exact⟨r,hr,(qy r args).1 h⟩
 rintro⟨r,hr,h⟩;exact⟨r,hr,(qy r args).2 h⟩
def rS(p out:List E):Prop:=out.length=p.length∧∀i,i<p.length->(out.getD i E.zero).et=(p.getD i E.zero).et∧(out.getD i E.zero).nr=(p.getD i E.zero).nr∧iI (p.getD i E.zero).rules (out.getD i E.zero).rules
theorem Fu(d:α){l m:List α}(h:l.length=m.length)(h':∀i,i<l.length->l.getD i d=m.getD i d):l=m:=by
 apply dz h;intro i h1 h2;have:=h' i h1;rw[aa,aa,ag h1,ag h2]at this;exact this
theorem rS.uniq{p out out':List E}(h:rS p out)(h':rS p out'):out=out':=by
 apply Fu E.zero (by rw[h.1,h'.1]);intro i hi;rw[h.1]at hi;obtain⟨a,b,c⟩:=h.2 i hi;obtain⟨a',b',c'⟩:=h'.2 i hi;have e:=c.uniq c';generalize out.getD i E.zero=x at*;generalize out'.getD i E.zero=y at*;obtain⟨x1,x2,x3⟩:=x;obtain⟨y1,y2,y3⟩:=y;simp only at a b a' b' e;rw[a,a',b,b',e]
theorem gY(h:eW p=true)(hi:i<p.length):gP (p.getD i E.zero)=true∧(0<i->jG (p.getD (i-1) E.zero) (p.getD i E.zero)=true):=by
 have:=mA h hi;rw[fS,aL,dX]at this;refine⟨this.2,fun h0=> ?_⟩;rcases this.1 with g|g
 ·simp at g;omega
 exact g
theorem gZ{e:E}(h:gP e=true):1<=e.rules.length∧e.rules.length<=200∧∀r∈e.rules,eG r=true:=by
 rw[gP,aL,aL,decide_eq_true_eq,decide_eq_true_eq,bC]at h;exact⟨h.1.1,h.1.2,h.2⟩
theorem ED{e:E}(h1:1<=e.rules.length)(h2:e.rules.length<=200)(h3:∀r∈e.rules,eG r=true):gP e=true:=by
 rw[gP,aL,aL,decide_eq_true_eq,decide_eq_true_eq,bC];exact⟨⟨h1,h2⟩,h3⟩
theorem pj(hv:eW p=true)(ho:okP p)(hi:i<p.length):∀r∈(p.getD i E.zero).rules,VR r:=fun r hr=>
 C1 ((mQ ho i).2.2 r hr) ((gZ (gY hv hi).1).2.2 r hr)
theorem zy{q:List E}:∀(h:p.length=q.length),(∀i,i<p.length->(p.getD i E.zero).rules.length<=(q.getD i E.zero).rules.length)->fp p<=fp q:=by
 induction p generalizing q with
 |nil=>intro h _;simp[fp]
 |cons a p ih=>
  intro h h1
  cases q with
  |nil=>simp at h
  |cons b q=>
   have h0:=h1 0 (by simp);have:=ih (q:=q) (by simpa using h) (fun i hi=>by have:=h1 (i+1) (by simpa using hi);simpa using this);simp only[fp];simp at h0;omega
structure GX(p out:List E):Prop where
 valid:eW out=true
 ok:okP out
 len:out.length=p.length
 each:∀i,i<p.length->qS (p.getD i E.zero).rules (out.getD i E.zero).rules
 Bz:∀c:C,A64 (argN c.args)->kP out c=kP p c
theorem rS.facts{p out:List E}(hv:eW p=true)(ho:okP p)(h:rS p out):GX p out:=by
 have each:∀i,i<p.length->qS (p.getD i E.zero).rules (out.getD i E.zero).rules:=fun i hi=>(h.2 i hi).2.2.facts (pj hv ho hi)
 have vo:eW out=true:=by
  rw[rm]
  ·rw[decide_eq_true_eq];have h1:fp p<=1000:=by
    rw[eW,aL,decide_eq_true_eq]at hv;exact hv.2
   exact aW (zy h.1 (fun i hi=>(each i (by rw[<-h.1];exact hi)).len)) h1
  intro i hi;rw[h.1]at hi;obtain⟨e1,e2⟩:=gY hv hi;obtain⟨v1,v2,v3⟩:=gZ e1;have f:=each i hi;rw[fS,aL,dX];constructor
  ·by_cases h0:i=0
   ·left;simp[h0]
   right;have:=e2 (by omega);obtain⟨a,b,_⟩:=h.2 i hi;obtain⟨a',b',_⟩:=h.2 (i-1) (by omega);unfold jG at this⊢;rw[a,b,a',b'];exact this
  refine ED ?_ ?_ ?_
  ·have:=f.ne (fun e=>by rw[e]at v1;simp at v1)
   cases h:(out.getD i E.zero).rules with
   |nil=>exact absurd h this
   |cons a t=>simp
  ·have:=f.len;omega
  intro r hr;exact(f.nr r hr).vr.valid
 refine⟨vo,?_,h.1,each,?_⟩
 ·intro e he;obtain⟨i,hi,rfl⟩:=bH he;have hi':i<p.length:=by rw[<-h.1];exact hi
  have e1:out.getD i E.zero=out[i]:=by rw[aa,ag hi];rfl
  rw[<-e1];obtain⟨a,b,_⟩:=h.2 i hi';have f:=each i hi';have o:=mQ ho i;refine⟨by rw[a];exact o.1,by rw[b];exact o.2.1,fun r hr=>(f.nr r hr).vr.okR⟩
 intro c hA;rw[kP,kP,vo,hv];congr 1;rw[cB,oC E.zero,oC E.zero];have key:∀i,i<p.length->((meets (out.getD i E.zero) c&&(out.getD i E.zero).rules.any fun r=>eO r c.args)=true↔(meets (p.getD i E.zero) c&&(p.getD i E.zero).rules.any fun r=>eO r c.args)=true):=by
  intro i hi;obtain⟨a,b,_⟩:=h.2 i hi;have f:=(each i hi).Bz (argN c.args) hA;rw[aL,aL,tx,tx,f];unfold meets;rw[a,b]
 constructor
 ·rintro⟨i,hi,h1⟩;rw[h.1]at hi;exact⟨i,hi,(key i hi).1 h1⟩
 rintro⟨i,hi,h1⟩;exact⟨i,by rw[h.1];exact hi,(key i hi).2 h1⟩
end Go.Proofs.YtdihdapmphkhpaaGreat
