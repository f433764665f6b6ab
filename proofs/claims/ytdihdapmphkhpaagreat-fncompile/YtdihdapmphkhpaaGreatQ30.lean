import Derived.Test.YtdihdapmphkhpaaGreatQ29
set_option linter.all false
set_option maxRecDepth 200000
set_option maxHeartbeats 16000000
namespace Go.Proofs.YtdihdapmphkhpaaGreat
open Go.RowKit
variable{c d:K}
def jV:Option K->Value
 |some c=>.tuple #[fC c,.bool true]
 |none=>.tuple #[fC ⟨0,0,0⟩,.bool false]
def bV:Option (Nat×Nat)->Value
 |some (lo,hi)=>.tuple #[.int .u64 (lo:Int),.int .u64 (hi:Int),.bool true]
 |none=>.tuple #[.int .u64 0,.int .u64 0,.bool false]
theorem CM(c:K):mS c=bV (fB c):=by
 unfold mS bV
 cases fB c<;>rfl
theorem jR:bV none=.tuple #[.int .u64 0,.int .u64 0,.bool false]:=rfl
theorem jS(lo hi:Nat):bV (some (lo,hi))=.tuple #[.int .u64 (lo:Int),.int .u64 (hi:Int),.bool true]:=rfl
def lh(c d:K):Prop:=c.kind=1∧d.kind=1∧c.a=d.a∧jq (c.b^^^d.b) 64=1
theorem DO{m x y k:Nat}(hk:k<64)(h:x^^^y=2^k):gl ⟨1,m,x⟩ ⟨1,m,y⟩=some (fI (m&&&inv (2^k)) (x&&&inv (2^k))):=by
 unfold gl;rw[if_pos ⟨rfl,rfl,rfl,by show jq (x^^^y) 64=1;rw[h];exact zR hk⟩];show some (fI (m&&&inv (x^^^y)) (x&&&inv (x^^^y)))=_;rw[h]
theorem FX(h:¬lh c d)(hb:fB c=none):gl c d=none:=by
 unfold lh at h;unfold gl;rw[if_neg h,hb]
theorem GP(h:¬lh c d)(hb:fB d=none):gl c d=none:=by
 unfold lh at h;unfold gl;rw[if_neg h,hb]
 cases fB c<;>rfl
theorem GM(h:¬lh c d){l1 h1 l2 h2:Nat}(e1:fB c=some (l1,h1))(e2:fB d=some (l2,h2)):gl c d=if l2<=h1+1∧l1<=h2+1 then some (eF (min l1 l2) (max h1 h2))else none:=by
 unfold lh at h;unfold gl;rw[if_neg h,e1,e2]
theorem FJ(a b:Nat)(ha:a<18446744073709551616)(hb:b<18446744073709551616):bits .xor .u64 (a:Int) (b:Int)=((a^^^b:Nat):Int):=bits_xor_u64_nat a b ha hb
theorem Hw{k:Nat}(hk:k<64):low k+1=2^k:=by
 unfold low;have:=di k;omega
theorem mtc(h l:Nat)(hh:h<=18446744073709551615)(hA:¬h+1<l):(h=18446744073709551615∧((h:Int)!=18446744073709551615)=false)∨(h≠18446744073709551615∧((h:Int)!=18446744073709551615)=true∧∃s:Int,IntKind.u64.wrap ((h:Int)+1)=s∧¬s<l):=by
 by_cases g:h=18446744073709551615
 ·exact .inl ⟨g,by rw[bne_eq_false_iff_eq];omega⟩
 exact .inr ⟨g,by rw[bne_iff_ne];omega,_,rfl,by simp only[aS];omega⟩
theorem wM(c d:K)(w:World)(hc:fZ c)(hd:fZ d):
 Calls Tryz.prog 121 #[fC c,fC d] w fun e w'=>e=.returned (jV (gl c d))∧Below w.heap.size w w':=by
 have HC:Hid (∀w,Calls Tryz.prog 83 #[fC c] w fun e w'=>e=.returned (mS c)∧Below w.heap.size w w'):=fun w=>mJ c w hc.ok hc.valid
 have HD:Hid (∀w,Calls Tryz.prog 83 #[fC d] w fun e w'=>e=.returned (mS d)∧Below w.heap.size w w'):=fun w=>mJ d w hd.ok hd.valid
 have HR:Hid (∀lo hi:Nat,lo<=hi->hi<18446744073709551616->∀w,Calls Tryz.prog 50 #[fC ⟨2,lo,hi⟩] w fun e w'=>e=.returned (fC (eF lo hi))∧Below w.heap.size w w'):=fun lo hi h1 h2 w=>qY ⟨2,lo,hi⟩ w ⟨by simp,by simp only;omega,h2⟩ (by simp[eI,h1])
 have LC:Hid (∀lo hi,fB c=some (lo,hi)->lo<=hi∧hi<18446744073709551616):=fun lo hi h=>me hc.ok hc.valid h
 have LD:Hid (∀lo hi,fB d=some (lo,hi)->lo<=hi∧hi<18446744073709551616):=fun lo hi h=>me hd.ok hd.valid h
 have J1:Hid (¬lh c d->fB c=none->gl c d=none):=FX;have J2:Hid (¬lh c d->fB d=none->gl c d=none):=GP;have J3:Hid (¬lh c d->∀l1 h1 l2 h2,fB c=some (l1,h1)->fB d=some (l2,h2)->gl c d=if l2<=h1+1∧l1<=h2+1 then some (eF (min l1 l2) (max h1 h2))else none):=fun h l1 h1 l2 h2 e1 e2=>GM h e1 e2
 have oc:=hc.ok;have od:=hd.ok;have M1:Hid (c.kind=1->c.a<18446744073709551616∧c.b<18446744073709551616∧c.a|||c.b=c.a):=fun h=>by
  rcases hc with rfl|⟨m,v,rfl,_,hm,hv⟩|⟨l,h',rfl,_⟩
  ·simp at h
  ·exact⟨hm,oc.2.2,hv⟩
  simp at h
 have M2:Hid (d.kind=1->d.a<18446744073709551616∧d.b<18446744073709551616∧d.a|||d.b=d.a):=fun h=>by
  rcases hd with rfl|⟨m,v,rfl,_,hm,hv⟩|⟨l,h',rfl,_⟩
  ·simp at h
  ·exact⟨hm,od.2.2,hv⟩
  simp at h
 clear hc hd oc od;obtain⟨ck,ca,cb⟩:=c;obtain⟨dk,da,db⟩:=d;obtain⟨BC,eBC⟩:∃x,fB ⟨ck,ca,cb⟩=x:=⟨_,rfl⟩;obtain⟨BD,eBD⟩:∃x,fB ⟨dk,da,db⟩=x:=⟨_,rfl⟩;rw[eBC]at LC J1 J3;rw[eBD]at LD J2 J3;rw[CM,eBC]at HC;rw[CM,eBD]at HD;clear eBC eBD;have JB:Hid (∀k m,k<64->ck=1->dk=1->ca=m->da=m->cb^^^db=2^k->gl ⟨ck,ca,cb⟩ ⟨dk,da,db⟩=some (fI (m&&&inv (2^k)) (cb&&&inv (2^k)))):=by
  rintro k m hk rfl rfl rfl rfl h;exact DO hk h
 have NB1:Hid (¬(ck=1∧dk=1∧ca=da)->¬lh ⟨ck,ca,cb⟩ ⟨dk,da,db⟩):=fun h⟨a,b,c,_⟩=>h ⟨a,b,c⟩
 have NB2:Hid (cb<18446744073709551616->db<18446744073709551616->(∀k,k<64->cb^^^db≠2^k)->¬lh ⟨ck,ca,cb⟩ ⟨dk,da,db⟩):=fun h1 h2 h⟨_,_,_,e⟩=>by
  obtain⟨k,hk,e⟩:=(tq (mj h1 h2)).1 e;exact h k hk e
 simp only at M1 M2;generalize lh ⟨ck,ca,cb⟩ ⟨dk,da,db⟩=OB at*;generalize gl ⟨ck,ca,cb⟩ ⟨dk,da,db⟩=J at*;simp only[fC]at HC HD HR;go_enter Tryz.func121,Tryz.ntmps121;have X:=((gu.new w 84 (.int .i64 ck) (.int .u64 (ca:Int)) (.int .u64 (cb:Int))).alloc (.cells #[.int .i64 dk,.int .u64 (da:Int),.int .u64 (db:Int)] 84)).alloc (.cells #[.int .i64 0,.int .u64 0,.int .u64 0] 84);have Y:=(gu.new (w.alloc (.cells #[.int .i64 ck,.int .u64 (ca:Int),.int .u64 (cb:Int)] 84)) 84 (.int .i64 dk) (.int .u64 (da:Int)) (.int .u64 (db:Int))).alloc (.cells #[.int .i64 0,.int .u64 0,.int .u64 0] 84);have Z:=gu.new ((w.alloc (.cells #[.int .i64 ck,.int .u64 (ca:Int),.int .u64 (cb:Int)] 84)).alloc (.cells #[.int .i64 dk,.int .u64 (da:Int),.int .u64 (db:Int)] 84)) 84 (.int .i64 0) (.int .u64 0) (.int .u64 0);have hsz1:(w.alloc (.cells #[.int .i64 ck,.int .u64 (ca:Int),.int .u64 (cb:Int)] 84)).heap.size=w.heap.size+1:=by simp
 have hsz2:((w.alloc (.cells #[.int .i64 ck,.int .u64 (ca:Int),.int .u64 (cb:Int)] 84)).alloc (.cells #[.int .i64 dk,.int .u64 (da:Int),.int .u64 (db:Int)] 84)).heap.size=w.heap.size+2:=by simp
 have B0:Below w.heap.size w (((w.alloc (.cells #[.int .i64 ck,.int .u64 (ca:Int),.int .u64 (cb:Int)] 84)).alloc (.cells #[.int .i64 dk,.int .u64 (da:Int),.int .u64 (db:Int)] 84)).alloc (.cells #[.int .i64 0,.int .u64 0,.int .u64 0] 84)):=(((af _ _).alloc (ae _) _).alloc (by simp) _).alloc (by simp;omega) _;rw[hsz1]at Y;rw[hsz2]at Z;by_cases hm:ck=1∧dk=1∧ca=da
 ·obtain⟨rfl,rfl,rfl⟩:=hm;obtain⟨am,bm,vm⟩:=M1.out rfl;obtain⟨_,bm',vm'⟩:=M2.out rfl;have HX:Hid (bits .xor .u64 (cb:Int) (db:Int)=((cb^^^db:Nat):Int)):=FJ cb db bm bm';have HF:Hid (∀k,k<64->cb^^^db=2^k->∀w,Calls Tryz.prog 50 #[fC ⟨1,ca&&&inv (2^k),cb&&&inv (2^k)⟩] w fun e w'=>e=.returned (fC (fI (ca&&&inv (2^k)) (cb&&&inv (2^k))))∧Below w.heap.size w w'):=fun k hk h w=>by
   have hv:=(yM am vm vm' hk h).1;exact qY ⟨1,ca&&&inv (2^k),cb&&&inv (2^k)⟩ w ⟨by simp,sx am,sx bm⟩ (by simp[eI,hv])
  have JB1:Hid (∀k,k<64->cb^^^db=2^k->J=some (fI (ca&&&inv (2^k)) (cb&&&inv (2^k)))):=fun k hk h=>JB.out k ca hk rfl rfl rfl rfl h
  clear M1 M2 vm vm' NB1 JB;go_wp2_with fail;generalize((w.alloc (.cells #[.int .i64 1,.int .u64 (ca:Int),.int .u64 (cb:Int)] 84)).alloc (.cells #[.int .i64 1,.int .u64 (ca:Int),.int .u64 (db:Int)] 84)).alloc (.cells #[.int .i64 0,.int .u64 0,.int .u64 0] 84)=W at*;clear hsz1 hsz2;obtain⟨_,x0,x1,x2,_,_,_⟩:=X;obtain⟨_,y0,y1,y2,_,_,_⟩:=Y;have Z0:=Z;obtain⟨zl,z0,z1,z2,f0,f1,f2⟩:=Z0;go_loopw [6](fun i wr=>∃k:Nat,k<=64∧i=.int .i64 k∧Hid (∀j,j<k->cb^^^db≠2^j)∧wr=W)(fun i _=>64-(intOf i).toNat)
  case atStart=>exact⟨0,by omega,rfl,fun j hj=>by omega,rfl⟩
  case round=>
   obtain⟨k,hk,rfl,HJ,rfl⟩:=hrel;rename World=>W
   by_cases hk6:k<64
   ·have hk6':(k:Int)<64:=by omega
    have hls:low k+1=2^k:=Hw hk6;have hp:2^k<18446744073709551616:=cU (a:=2) (by omega) hk6;have HL:Hid (∀w,Calls Tryz.prog 84 #[.int .i64 (k:Int)] w fun e w'=>e=.returned (.int .u64 (low k:Nat))∧w'=w):=fun w=>kF k w (by omega)
    have HA1:Hid (bits .andNot .u64 (ca:Int) ((2^k:Nat):Int)=((ca&&&inv (2^k):Nat):Int)):=u64_andNot _ _ am hp;have HA2:Hid (bits .andNot .u64 (cb:Int) ((2^k:Nat):Int)=((cb&&&inv (2^k):Nat):Int)):=u64_andNot _ _ bm hp;have HFk:Hid _:=HF.out k hk6;have JBk:Hid (cb^^^db=2^k->J=some (fI (ca&&&inv (2^k)) (cb&&&inv (2^k)))):=JB1.out k hk6;have HJ1:Hid (cb^^^db≠2^k->∀j,j<k+1->cb^^^db≠2^j):=fun h j hj=>by
     by_cases hjk:j=k
     ·subst hjk;exact h
     exact HJ.out j (by omega)
    clear HF JB1 HJ NB2 HC HD HR LC LD J1 J2 J3;go_wp2_with fail;refine(HL.out _).mono ?_;rintro e w1⟨rfl,rfl⟩;have hw:((low k:Nat):Int)+1=((2^k:Nat):Int):=by omega
    generalize hpk:2^k=P at*;clear hpk HL;generalize hlk:low k=L at*;clear hlk;generalize hmk:ca&&&inv P=A1 at*;generalize hvk:cb&&&inv P=A2 at*;clear hmk hvk;have hL:(L:Int)+1<=18446744073709551615:=by omega
    by_cases e:cb^^^db=P
    ·have HV:Hid (J=some (fI A1 A2)):=JBk.out e;have HF1:=HFk.out e;have HX1:bits .xor .u64 (cb:Int) (db:Int)=(L:Int)+1:=by rw[HX.out,hw,e]
     have HA1':bits .andNot .u64 (ca:Int) ((L:Int)+1)=(A1:Int):=by rw[hw,HA1.out]
     have HA2':bits .andNot .u64 (cb:Int) ((L:Int)+1)=(A2:Int):=by rw[hw,HA2.out]
     simp only[fC]at HF1;have HF2:Hid (∀w,Calls Tryz.prog 50 #[.agg #[.int .i64 1,.int .u64 (A1:Int),.int .u64 (A2:Int)]] w fun e w'=>e=.returned (.agg #[.int .i64 (fI A1 A2).kind,.int .u64 ((fI A1 A2).a:Int),.int .u64 ((fI A1 A2).b:Int)])∧Below w.heap.size w w'):=HF1;clear HF1 HFk JBk HJ1 HX hw HA1 HA2 e;generalize fI A1 A2=N at*;obtain⟨nk,na,nb⟩:=N;simp only at HF2;go_wp2_with fail;refine(HF2.out _).mono ?_;rintro e w1⟨rfl,hb1⟩;have B1:=eo hb1 B0;obtain⟨zl1,z01,z11,z21,f01,f11,f21⟩:=Z.ey hb1;clear hb1 HF2;go_wp2;rw[HV.out];exact bodyPost_ret (v:=jV (some ⟨nk,na,nb⟩)) (by simp[results,Tryz.results121,go_sem,z01,z11,z21,jV]) rfl ⟨rfl,eM B1 (by omega) _ _ _⟩
    have HJ2:Hid (∀j,j<k+1->cb^^^db≠2^j):=HJ1.out e;have HX1:(bits .xor .u64 (cb:Int) (db:Int)==(L:Int)+1)=false:=by rw[HX.out,beq_eq_false_iff_ne];omega
    clear HFk JBk HJ1 HX hw HA1 HA2 e;go_wp2;go_roundw
    case rel=>exact⟨k+1,by omega,by go_num,HJ2,by first|rfl|trivial⟩
    case measure=>simp[intOf];omega
   have hk':k=64:=by omega
   subst hk';have HOB:Hid (¬OB):=NB2.out bm bm' HJ.out;clear HF JB1 HJ NB2 HX;go_wp2_with fail;refine(HC.out _).mono ?_;rintro e w1⟨rfl,hb1⟩;have B1:=eo hb1 B0;have y01:=eh hb1 y0;have y11:=eh hb1 y1;have y21:=eh hb1 y2;have Z1:=Z.ey hb1;clear hb1 B0 y0 y1 y2 x0 x1 x2 Z HC
   cases BC with
   |none=>
    have HV:Hid (J=none):=J1.out HOB.out rfl;rw[jR];clear J1 J2 J3 LC LD HR;go_wp2_with fail;refine(HD.out _).mono ?_;rintro e w2⟨rfl,hb2⟩;have B2:=eo hb2 B1;obtain⟨zl,z0,z1,z2,f0,f1,f2⟩:=Z1.ey hb2;clear hb2 B1 Z1 HD y01 y11 y21
    cases BD with
    |none=>
     rw[jR];go_wp2;rw[HV.out];exact bodyPost_ret (v:=jV none) (by simp[results,Tryz.results121,go_sem,z0,z1,z2,jV]) rfl ⟨rfl,eM B2 (by omega) _ _ _⟩
    |some q=>
     obtain⟨l2,h2⟩:=q;rw[jS];go_wp2;rw[HV.out];exact bodyPost_ret (v:=jV none) (by simp[results,Tryz.results121,go_sem,z0,z1,z2,jV]) rfl ⟨rfl,eM B2 (by omega) _ _ _⟩
   |some q=>
    obtain⟨l1,h1⟩:=q;rw[jS];obtain⟨q1,q2⟩:=LC.out l1 h1 rfl;clear J1 LC;go_wp2_with fail;refine(HD.out _).mono ?_;rintro e w2⟨rfl,hb2⟩;have B2:=eo hb2 B1;have Z2:=Z1.ey hb2;obtain⟨zl,z0,z1,z2,f0,f1,f2⟩:=Z1.ey hb2;clear hb2 B1 Z1 HD y01 y11 y21
    cases BD with
    |none=>
     have HV:Hid (J=none):=J2.out HOB.out rfl;rw[jR];clear J2 J3 LD HR;go_wp2;rw[HV.out];exact bodyPost_ret (v:=jV none) (by simp[results,Tryz.results121,go_sem,z0,z1,z2,jV]) rfl ⟨rfl,eM B2 (by omega) _ _ _⟩
    |some q=>
     obtain⟨l2,h2⟩:=q;rw[jS];obtain⟨q3,q4⟩:=LD.out l2 h2 rfl;have HV0:Hid (J=if l2<=h1+1∧l1<=h2+1 then some (eF (min l1 l2) (max h1 h2))else none):=J3.out HOB.out l1 h1 l2 h2 rfl rfl;clear J2 J3 LD HOB;have k1:(l1:Int)<=h1:=by omega
     have k2:(h1:Int)<=18446744073709551615:=by omega
     have k3:(l2:Int)<=h2:=by omega
     have k4:(h2:Int)<=18446744073709551615:=by omega
     by_cases hA:h1+1<l2
     ·have HV:Hid (J=none):=HV0.out.trans (if_neg (fun h=>by omega));have a1:((h1:Int)!=18446744073709551615)=true:=by rw[bne_iff_ne];omega
      have a2:(h1:Int)+1<l2:=by omega
      have a3:(h1:Int)+1<=18446744073709551615:=by omega
      clear HV0 HR hA q1 q2 q3 q4;go_wp2;rw[HV.out];exact bodyPost_ret (v:=jV none) (by simp[results,Tryz.results121,go_sem,z0,z1,z2,jV]) rfl ⟨rfl,eM B2 (by omega) _ _ _⟩
     by_cases hB:h2+1<l1
     ·have HV:Hid (J=none):=HV0.out.trans (if_neg (fun h=>by omega));have b1:((h2:Int)!=18446744073709551615)=true:=by rw[bne_iff_ne];omega
      have b2:(h2:Int)+1<l1:=by omega
      have b3:(h2:Int)+1<=18446744073709551615:=by omega
      clear HV0 HR;by_cases hA1:h1=18446744073709551615
      ·have a1:((h1:Int)!=18446744073709551615)=false:=by rw[bne_eq_false_iff_eq];omega
       clear hA hB q1 q2 q3 q4 hA1;go_wp2;rw[HV.out];exact bodyPost_ret (v:=jV none) (by simp[results,Tryz.results121,go_sem,z0,z1,z2,jV]) rfl ⟨rfl,eM B2 (by omega) _ _ _⟩
      have a1:((h1:Int)!=18446744073709551615)=true:=by rw[bne_iff_ne];omega
      have a2:¬(h1:Int)+1<l2:=by omega
      have a3:(h1:Int)+1<=18446744073709551615:=by omega
      clear hA hB q1 q2 q3 q4 hA1;go_wp2;rw[HV.out];exact bodyPost_ret (v:=jV none) (by simp[results,Tryz.results121,go_sem,z0,z1,z2,jV]) rfl ⟨rfl,eM B2 (by omega) _ _ _⟩
     have HV:Hid (J=some (eF (min l1 l2) (max h1 h2))):=HV0.out.trans (if_pos ⟨by omega,by omega⟩);clear HV0;obtain⟨lo,elo⟩:∃lo,min l1 l2=lo:=⟨_,rfl⟩;obtain⟨hi,ehi⟩:∃hi,max h1 h2=hi:=⟨_,rfl⟩;rw[elo,ehi]at HV;have HR1:=HR.out lo hi (by omega) (by omega);have HR2:Hid (∀w,Calls Tryz.prog 50 #[.agg #[.int .i64 2,.int .u64 (lo:Int),.int .u64 (hi:Int)]] w fun e w'=>e=.returned (.agg #[.int .i64 (eF lo hi).kind,.int .u64 ((eF lo hi).a:Int),.int .u64 ((eF lo hi).b:Int)])∧Below w.heap.size w w'):=HR1;clear HR HR1;generalize eF lo hi=N at*;obtain⟨nk,na,nb⟩:=N;simp only at HR2;have hlo:((l2:Int)<l1∧lo=l2)∨(¬(l2:Int)<l1∧lo=l1):=by omega
     have hhi:((h1:Int)<h2∧hi=h2)∨(¬(h1:Int)<h2∧hi=h1):=by omega
     have hAc:=mtc h1 l2 (by omega) (by omega);have hBc:=mtc h2 l1 (by omega) (by omega);clear hA hB q1 q2 q3 q4 elo ehi;rcases hAc with⟨g1,a1⟩|⟨g1,a1,sa,a2,a3⟩<;>rcases hBc with⟨g2,b1⟩|⟨g2,b1,sb,b2,b3⟩<;>rcases hlo with⟨c1,rfl⟩|⟨c1,rfl⟩<;>rcases hhi with⟨d1,rfl⟩|⟨d1,rfl⟩
     all_goals try(exfalso;omega)
     all_goals
      clear g1 g2;go_wp2_with fail;refine(HR2.out _).mono ?_;rintro e w3⟨rfl,hb3⟩;have B3:=eo hb3 B2;obtain⟨zl3,z03,z13,z23,f03,f13,f23⟩:=Z2.ey hb3;clear hb3 HR2;go_wp2;rw[HV.out];exact bodyPost_ret (v:=jV (some ⟨nk,na,nb⟩)) (by simp[results,Tryz.results121,go_sem,z03,z13,z23,jV]) rfl ⟨rfl,eM B3 (by omega) _ _ _⟩
 have HOB:Hid (¬OB):=NB1.out hm;clear M1 M2 JB NB1 NB2;by_cases h1:ck=1
 case' neg=>
  have e1:(ck==1)=false:=by simpa using h1
  clear hm h1;go_wp2_with fail;generalize((w.alloc (.cells #[.int .i64 ck,.int .u64 (ca:Int),.int .u64 (cb:Int)] 84)).alloc (.cells #[.int .i64 dk,.int .u64 (da:Int),.int .u64 (db:Int)] 84)).alloc (.cells #[.int .i64 0,.int .u64 0,.int .u64 0] 84)=W at*;clear hsz1 hsz2 e1;obtain⟨_,x0,x1,x2,_,_,_⟩:=X;obtain⟨_,y0,y1,y2,_,_,_⟩:=Y
 case' pos=>
  by_cases h2:dk=1
  case' neg=>
   have e2:(dk==1)=false:=by simpa using h2
   subst h1;clear hm h2;go_wp2_with fail;generalize((w.alloc (.cells #[.int .i64 1,.int .u64 (ca:Int),.int .u64 (cb:Int)] 84)).alloc (.cells #[.int .i64 dk,.int .u64 (da:Int),.int .u64 (db:Int)] 84)).alloc (.cells #[.int .i64 0,.int .u64 0,.int .u64 0] 84)=W at*;clear hsz1 hsz2 e2;obtain⟨_,x0,x1,x2,_,_,_⟩:=X;obtain⟨_,y0,y1,y2,_,_,_⟩:=Y
  case' pos=>
   have h3:ca≠da:=fun h=>hm ⟨h1,h2,h⟩
   have e3:((ca:Int)==(da:Int))=false:=by rw[beq_eq_false_iff_ne];omega
   subst h1;subst h2;clear hm h3;go_wp2_with fail;generalize((w.alloc (.cells #[.int .i64 1,.int .u64 (ca:Int),.int .u64 (cb:Int)] 84)).alloc (.cells #[.int .i64 1,.int .u64 (da:Int),.int .u64 (db:Int)] 84)).alloc (.cells #[.int .i64 0,.int .u64 0,.int .u64 0] 84)=W at*;clear hsz1 hsz2 e3;obtain⟨_,x0,x1,x2,_,_,_⟩:=X;obtain⟨_,y0,y1,y2,_,_,_⟩:=Y
 all_goals
  refine(HC.out _).mono ?_;rintro e w1⟨rfl,hb1⟩;have B1:=eo hb1 B0;have y01:=eh hb1 y0;have y11:=eh hb1 y1;have y21:=eh hb1 y2;have Z1:=Z.ey hb1;clear hb1 B0 y0 y1 y2 x0 x1 x2 Z HC
  cases BC with
  |none=>
   have HV:Hid (J=none):=J1.out HOB.out rfl;rw[jR];clear J1 J2 J3 LC LD HR;go_wp2_with fail;refine(HD.out _).mono ?_;rintro e w2⟨rfl,hb2⟩;have B2:=eo hb2 B1;obtain⟨zl,z0,z1,z2,f0,f1,f2⟩:=Z1.ey hb2;clear hb2 B1 Z1 HD y01 y11 y21
   cases BD with
   |none=>
    rw[jR];go_wp2;rw[HV.out];exact bodyPost_ret (v:=jV none) (by simp[results,Tryz.results121,go_sem,z0,z1,z2,jV]) rfl ⟨rfl,eM B2 (by omega) _ _ _⟩
   |some q=>
    obtain⟨l2,h2⟩:=q;rw[jS];go_wp2;rw[HV.out];exact bodyPost_ret (v:=jV none) (by simp[results,Tryz.results121,go_sem,z0,z1,z2,jV]) rfl ⟨rfl,eM B2 (by omega) _ _ _⟩
  |some q=>
   obtain⟨l1,h1⟩:=q;rw[jS];obtain⟨q1,q2⟩:=LC.out l1 h1 rfl;clear J1 LC;go_wp2_with fail;refine(HD.out _).mono ?_;rintro e w2⟨rfl,hb2⟩;have B2:=eo hb2 B1;have Z2:=Z1.ey hb2;obtain⟨zl,z0,z1,z2,f0,f1,f2⟩:=Z1.ey hb2;clear hb2 B1 Z1 HD y01 y11 y21
   cases BD with
   |none=>
    have HV:Hid (J=none):=J2.out HOB.out rfl;rw[jR];clear J2 J3 LD HR;go_wp2;rw[HV.out];exact bodyPost_ret (v:=jV none) (by simp[results,Tryz.results121,go_sem,z0,z1,z2,jV]) rfl ⟨rfl,eM B2 (by omega) _ _ _⟩
   |some q=>
    obtain⟨l2,h2⟩:=q;rw[jS];obtain⟨q3,q4⟩:=LD.out l2 h2 rfl;have HV0:Hid (J=if l2<=h1+1∧l1<=h2+1 then some (eF (min l1 l2) (max h1 h2))else none):=J3.out HOB.out l1 h1 l2 h2 rfl rfl;clear J2 J3 LD HOB;have k1:(l1:Int)<=h1:=by omega
    have k2:(h1:Int)<=18446744073709551615:=by omega
    have k3:(l2:Int)<=h2:=by omega
    have k4:(h2:Int)<=18446744073709551615:=by omega
    by_cases hA:h1+1<l2
    ·have HV:Hid (J=none):=HV0.out.trans (if_neg (fun h=>by omega));have a1:((h1:Int)!=18446744073709551615)=true:=by rw[bne_iff_ne];omega
     have a2:(h1:Int)+1<l2:=by omega
     have a3:(h1:Int)+1<=18446744073709551615:=by omega
     clear HV0 HR hA q1 q2 q3 q4;go_wp2;rw[HV.out];exact bodyPost_ret (v:=jV none) (by simp[results,Tryz.results121,go_sem,z0,z1,z2,jV]) rfl ⟨rfl,eM B2 (by omega) _ _ _⟩
    by_cases hB:h2+1<l1
    ·have HV:Hid (J=none):=HV0.out.trans (if_neg (fun h=>by omega));have b1:((h2:Int)!=18446744073709551615)=true:=by rw[bne_iff_ne];omega
     have b2:(h2:Int)+1<l1:=by omega
     have b3:(h2:Int)+1<=18446744073709551615:=by omega
     clear HV0 HR;by_cases hA1:h1=18446744073709551615
     ·have a1:((h1:Int)!=18446744073709551615)=false:=by rw[bne_eq_false_iff_eq];omega
      clear hA hB q1 q2 q3 q4 hA1;go_wp2;rw[HV.out];exact bodyPost_ret (v:=jV none) (by simp[results,Tryz.results121,go_sem,z0,z1,z2,jV]) rfl ⟨rfl,eM B2 (by omega) _ _ _⟩
     have a1:((h1:Int)!=18446744073709551615)=true:=by rw[bne_iff_ne];omega
     have a2:¬(h1:Int)+1<l2:=by omega
     have a3:(h1:Int)+1<=18446744073709551615:=by omega
     clear hA hB q1 q2 q3 q4 hA1;go_wp2;rw[HV.out];exact bodyPost_ret (v:=jV none) (by simp[results,Tryz.results121,go_sem,z0,z1,z2,jV]) rfl ⟨rfl,eM B2 (by omega) _ _ _⟩
    have HV:Hid (J=some (eF (min l1 l2) (max h1 h2))):=HV0.out.trans (if_pos ⟨by omega,by omega⟩);clear HV0;obtain⟨lo,elo⟩:∃lo,min l1 l2=lo:=⟨_,rfl⟩;obtain⟨hi,ehi⟩:∃hi,max h1 h2=hi:=⟨_,rfl⟩;rw[elo,ehi]at HV;have HR1:=HR.out lo hi (by omega) (by omega);have HR2:Hid (∀w,Calls Tryz.prog 50 #[.agg #[.int .i64 2,.int .u64 (lo:Int),.int .u64 (hi:Int)]] w fun e w'=>e=.returned (.agg #[.int .i64 (eF lo hi).kind,.int .u64 ((eF lo hi).a:Int),.int .u64 ((eF lo hi).b:Int)])∧Below w.heap.size w w'):=HR1;clear HR HR1;generalize eF lo hi=N at*;obtain⟨nk,na,nb⟩:=N;simp only at HR2;have hlo:((l2:Int)<l1∧lo=l2)∨(¬(l2:Int)<l1∧lo=l1):=by omega
    have hhi:((h1:Int)<h2∧hi=h2)∨(¬(h1:Int)<h2∧hi=h1):=by omega
    have hAc:=mtc h1 l2 (by omega) (by omega);have hBc:=mtc h2 l1 (by omega) (by omega);clear hA hB q1 q2 q3 q4 elo ehi;rcases hAc with⟨g1,a1⟩|⟨g1,a1,sa,a2,a3⟩<;>rcases hBc with⟨g2,b1⟩|⟨g2,b1,sb,b2,b3⟩<;>rcases hlo with⟨c1,rfl⟩|⟨c1,rfl⟩<;>rcases hhi with⟨d1,rfl⟩|⟨d1,rfl⟩
    all_goals try(exfalso;omega)
    all_goals
     clear g1 g2;go_wp2_with fail;refine(HR2.out _).mono ?_;rintro e w3⟨rfl,hb3⟩;have B3:=eo hb3 B2;obtain⟨zl3,z03,z13,z23,f03,f13,f23⟩:=Z2.ey hb3;clear hb3 HR2;go_wp2;rw[HV.out];exact bodyPost_ret (v:=jV (some ⟨nk,na,nb⟩)) (by simp[results,Tryz.results121,go_sem,z03,z13,z23,jV]) rfl ⟨rfl,eM B3 (by omega) _ _ _⟩
end Go.Proofs.YtdihdapmphkhpaaGreat
