import Derived.Test.YtdihdapmphkhpaaGreatQ13
import Derived.Test.YtdihdapmphkhpaaGreatQ14
import Derived.Test.YtdihdapmphkhpaaGreatQ15
import Derived.Test.YtdihdapmphkhpaaGreatQ16
set_option linter.all false
set_option maxRecDepth 200000
set_option maxHeartbeats 16000000
namespace Go.Proofs.YtdihdapmphkhpaaGreat
open Go.RowKit Go.Deep
variable{B n:Nat}{l:List Int}{w:World}
theorem El(P:List E)(hP:∀e∈P,OkE e)(hl4:P.length<=4)(hasc:2<=P.length->jG (P.getD 0 E.zero) (P.getD 1 E.zero)=true)(B R cap:Nat)(ad:Option Addr)(l:List Int)(j:Nat)(v:Value)(rv:Nat->Value)(lo hi:Nat->Nat)(w:World)(hR:Rd w R ad cap l j)(hp:PsD w B v P rv lo hi)(hRB:R<B)(hB:B<=w.heap.size):
 Calls Tryz.prog 37 #[.agg #[v],.pointer (some ⟨R,0,none⟩)] w fun e w'=>∃v',e=.returned (.agg #[v'])∧fE B R ad cap l ((spP l P j,spN P j),spB l P j) w w' v':=by
 have hx:=ez hR.bys j;rcases(by omega:(l.getD j 0%9<5∧(l.getD j 0%9=2->1<P.length))∨l.getD j 0%9=5∨((l.getD j 0%9=2∧P.length<=1)∨5<l.getD j 0%9))with h|h|h
 ·exact Hz P hP hl4 hasc B R cap ad l j v rv lo hi w hR hp hRB hB h
 ·exact IQ P hP hl4 hasc B R cap ad l j v rv lo hi w hR hp hRB hB h
 exact Iq P hP hl4 hasc B R cap ad l j v rv lo hi w hR hp hRB hB h
def GK(l:List Int):Prop:=∀(P:List E)(hP:∀e∈P,OkE e)(hl4:P.length<=4)(hasc:2<=P.length->jG (P.getD 0 E.zero) (P.getD 1 E.zero)=true)(B R cap:Nat)(ad:Option Addr)(j:Nat)(v:Value)(rv:Nat->Value)(lo hi:Nat->Nat)(w:World)(hR:Rd w R ad cap l j)(hp:PsD w B v P rv lo hi)(hRB:R<B)(hB:B<=w.heap.size),
 Calls Tryz.prog 37 #[.agg #[v],.pointer (some ⟨R,0,none⟩)] w fun e w'=>∃v',e=.returned (.agg #[v'])∧fE B R ad cap l ((spP l P j,spN P j),spB l P j) w w' v'
theorem BZ(l:List Int)(F:Nat->K×Nat)(hF:KdF l F)(hSp:GK l)(R cap:Nat)(ad:Option Addr)(j:Nat)(w:World)(hR:Rd w R ad cap l j):
 Calls Tryz.prog 16 #[.pointer (some ⟨R,0,none⟩)] w fun e w'=>∃v,e=.returned (.agg #[v])∧fE w.heap.size R ad cap l ((mi l F j,rY l F j),uW l F j) w w' v:=by
 have HB:Hid (∀t,0<=l.getD t 0∧l.getD t 0<=255):=ez hR.bys;have HN:=nxH R cap ad l;have HPo:Hid (∀W,Rd W R ad cap l (j+1)->Calls Tryz.prog 36 #[.pointer (some ⟨R,0,none⟩)] W fun e w'=>∃v rv lo hi,e=.returned (.agg #[v])∧PsD w' W.heap.size v (iV l F (j+1)).1 rv lo hi∧Rd w' R ad cap l (iV l F (j+1)).2∧W.grownBy w' (some R)):=fun W h=>vP l F hF R cap ad (j+1) W h
 have hRw:=hR.lt;have hx:=HB.out j;have hy:=HB.out (j+1);obtain⟨RES,hRES⟩:∃RES,mi l F j=RES:=⟨_,rfl⟩;obtain⟨RJ,hRJ⟩:∃RJ,rY l F j=RJ:=⟨_,rfl⟩;obtain⟨RB,hRB⟩:∃RB,uW l F j=RB:=⟨_,rfl⟩;have HJ0:Hid (l.getD j 0%60<2->RJ=j+2∧RB=false):=fun h=>by rw[<-hRJ,<-hRB,rY,uW,if_pos h,if_pos h];exact⟨rfl,rfl⟩
 have HJ2:Hid (1<l.getD j 0%60->l.getD j 0%60<10->RJ=spN (iV l F (j+1)).1 (iV l F (j+1)).2∧RB=spB l (iV l F (j+1)).1 (iV l F (j+1)).2):=fun h h'=>by rw[<-hRJ,<-hRB,rY,uW,if_neg (by omega),if_pos h',if_neg (by omega),if_pos h'];exact⟨rfl,rfl⟩
 have HJ3:Hid (¬l.getD j 0%60<10->RJ=(iV l F (j+1)).2∧RB=false):=fun h'=>by rw[<-hRJ,<-hRB,rY,uW,if_neg (by omega),if_neg h',if_neg (by omega),if_neg h'];exact⟨rfl,rfl⟩
 have HR0:Hid (l.getD j 0%60=0->RES=j6 5 (200+(l.getD (j+1) 0%2).toNat)):=fun h=>by rw[<-hRES,mi,if_pos h]
 have HR1:Hid (l.getD j 0%60=1->RES=j6 (249+(l.getD (j+1) 0%3).toNat) 4):=fun h=>by rw[<-hRES,mi,if_neg (by omega),if_pos h]
 have HR2:Hid (1<l.getD j 0%60->l.getD j 0%60<10->RES=spP l (iV l F (j+1)).1 (iV l F (j+1)).2):=fun h h'=>by rw[<-hRES,mi,if_neg (by omega),if_neg (by omega),if_pos h']
 have HR3:Hid (¬l.getD j 0%60<10->RES=(iV l F (j+1)).1):=fun h'=>by rw[<-hRES,mi,if_neg (by omega),if_neg (by omega),if_neg h']
 have hok:=CL hR.bys hF (j+1);have hasc:=E0 hR.bys F (j+1);rw[hRES,hRJ,hRB];clear hRES hRJ hRB;have HSp:Hid (∀B v rv lo hi W,Rd W R ad cap l (iV l F (j+1)).2->PsD W B v (iV l F (j+1)).1 rv lo hi->R<B->B<=W.heap.size->Calls Tryz.prog 37 #[.agg #[v],.pointer (some ⟨R,0,none⟩)] W fun e w'=>∃v',e=.returned (.agg #[v'])∧fE B R ad cap l ((spP l (iV l F (j+1)).1 (iV l F (j+1)).2,spN (iV l F (j+1)).1 (iV l F (j+1)).2),spB l (iV l F (j+1)).1 (iV l F (j+1)).2) W w' v'):=fun B v rv lo hi W h1 h2 h3 h4=>hSp _ hok.1 hok.2 hasc B R cap ad _ v rv lo hi W h1 h2 h3 h4
 clear hok hasc hSp hF;have HN0:=nx1 R cap ad l j (j+1) rfl;have HN1:=nx1 R cap ad l (j+1) (j+2) rfl;clear HN HB;generalize iV l F (j+1)=PP at*;generalize l.getD j 0=x at*;generalize l.getD (j+1) 0=y at*;have hR0:=hR.alloc (.cells #[.slice none 0 0] 25);have g0:w.grownBy (w.alloc (.cells #[.slice none 0 0] 25)) (some R):=fu (ah _ _) _;have q0:=gw w (.slice none 0 0) 25 _ rfl;have e0:w.heap.size<(w.alloc (.cells #[.slice none 0 0] 25)).heap.size:=by simp
 go_enter Tryz.func16,Tryz.ntmps16;go_wp2_with fail;refine(HN0.out _ hR0).mono ?_;generalize w.alloc (.cells #[.slice none 0 0] 25)=W0 at*;rintro _ w1⟨rfl,hR1,hg1⟩;have g1:=eU g0 hg1;have e1:=an e0 hg1.size;obtain⟨a1,a2⟩:=eB (g:=w.heap.size) (o:=0) hg1 e0 (by simp;omega);have q1:=a1.trans q0.1;have f1:=a2.trans q0.2;clear hR0 hg1 g0 q0 e0 a1 a2 HN0 hR;go_upto_region 2 with fail
 have hk:x%60=0∨x%60=1∨(1<x%60∧x%60<10)∨10<=x%60:=by omega
 generalize x%60=kk at*;rcases hk with rfl|rfl|hk|hk
 ·have eR:=HR0.out rfl;have eJ:=HJ0.out (by omega);obtain⟨d,hd⟩:∃d:Nat,(d:Int)=y%2:=⟨(y%2).toNat,by omega⟩;have hdn:(y%2).toNat=d:=by omega
  rw[hdn]at eR;have hd2:d<2:=by omega
  have HW:Hid (∀W,Calls Tryz.prog 35 #[.int .i64 5,.int .i64 (200+(d:Int))] W fun e w'=>∃v rv lo hi,e=.returned (.agg #[v])∧PsD w' W.heap.size v RES rv lo hi∧Below W.heap.size W w'):=fun W=>by
   have:=Aw 5 (200+d) (by omega) (by omega) (by omega) W;rw[eR];simpa using this
  have Hd:Hid _:=hd;have HeJ:Hid _:=eJ;clear HR0 HR1 HR2 HR3 HSp HPo hd hdn eR eJ HJ0 HJ2 HJ3;go_wp2_with fail;refine(HN1.out _ hR1).mono ?_;rintro _ w2⟨rfl,hR2,hg2⟩;obtain⟨a1,a2⟩:=eB (g:=w.heap.size) (o:=0) hg2 e1 (by simp;omega);have q2:=a1.trans q1;have f2:=a2.trans f1;have g2:=eU g1 hg2;have e2:=an e1 hg2.size;clear hg2 q1 f1 g1 e1 hR1 HN1 a1 a2;go_upto_region 4 with fail
  rw[<-Hd.out];go_wp2_with fail;refine(HW.out _).mono ?_;rintro _ w3⟨v,rv,lo,hi,rfl,hp3,b3⟩;obtain⟨av,cv,ev,_⟩:=hp3.form;subst ev;have q3:=(b3.cell (p:=⟨w.heap.size,0,none⟩) e2).trans q2;have f3:=(b3.frozen (p:=⟨w.heap.size,0,none⟩) e2).trans f2;have HF:Hid (fE w.heap.size R ad cap l ((RES,RJ),RB) w (w3.setCell ⟨w.heap.size,0,none⟩ (.slice av RES.length cv)) (.slice av RES.length cv)):=by
   unfold Hid;rw[HeJ.out.1,HeJ.out.2];exact rp hp3 e2 (hR2.below b3) (eU g2 (fJ b3)) hRw
  clear hp3 b3 q2 f2 hR2 g2;go_wp2;exact bodyPost_ret (v:=.agg #[.slice av RES.length cv]) (by simp[results,Tryz.results16,go_sem,q3]) rfl ⟨_,rfl,HF.out⟩
 ·have eR:=HR1.out rfl;have eJ:=HJ0.out (by omega);obtain⟨d,hd⟩:∃d:Nat,(d:Int)=y%3:=⟨(y%3).toNat,by omega⟩;have hdn:(y%3).toNat=d:=by omega
  rw[hdn]at eR;have hd2:d<3:=by omega
  have HW:Hid (∀W,Calls Tryz.prog 35 #[.int .i64 (249+(d:Int)),.int .i64 4] W fun e w'=>∃v rv lo hi,e=.returned (.agg #[v])∧PsD w' W.heap.size v RES rv lo hi∧Below W.heap.size W w'):=fun W=>by
   have:=Aw (249+d) 4 (by omega) (by omega) (by omega) W;rw[eR];simpa using this
  have Hd:Hid _:=hd;have HeJ:Hid _:=eJ;clear HR0 HR1 HR2 HR3 HSp HPo hd hdn eR eJ HJ0 HJ2 HJ3;go_wp2_with fail;refine(HN1.out _ hR1).mono ?_;rintro _ w2⟨rfl,hR2,hg2⟩;obtain⟨a1,a2⟩:=eB (g:=w.heap.size) (o:=0) hg2 e1 (by simp;omega);have q2:=a1.trans q1;have f2:=a2.trans f1;have g2:=eU g1 hg2;have e2:=an e1 hg2.size;clear hg2 q1 f1 g1 e1 hR1 HN1 a1 a2;go_upto_region 7 with fail
  rw[<-Hd.out];go_wp2_with fail;refine(HW.out _).mono ?_;rintro _ w3⟨v,rv,lo,hi,rfl,hp3,b3⟩;obtain⟨av,cv,ev,_⟩:=hp3.form;subst ev;have q3:=(b3.cell (p:=⟨w.heap.size,0,none⟩) e2).trans q2;have f3:=(b3.frozen (p:=⟨w.heap.size,0,none⟩) e2).trans f2;have HF:Hid (fE w.heap.size R ad cap l ((RES,RJ),RB) w (w3.setCell ⟨w.heap.size,0,none⟩ (.slice av RES.length cv)) (.slice av RES.length cv)):=by
   unfold Hid;rw[HeJ.out.1,HeJ.out.2];exact rp hp3 e2 (hR2.below b3) (eU g2 (fJ b3)) hRw
  clear hp3 b3 q2 f2 hR2 g2;go_wp2;exact bodyPost_ret (v:=.agg #[.slice av RES.length cv]) (by simp[results,Tryz.results16,go_sem,q3]) rfl ⟨_,rfl,HF.out⟩
 all_goals
  have hk0:¬kk=0:=by omega
  have hk1:¬kk=1:=by omega
  go_wp2_with fail;refine(HPo.out _ hR1).mono ?_;rintro _ w2⟨v,rv,lo,hi,rfl,hp2,hR2,hg2⟩;obtain⟨av,cv,ev,_⟩:=hp2.form;subst ev;obtain⟨a1,a2⟩:=eB (g:=w.heap.size) (o:=0) hg2 e1 (by simp;omega);have q2:=a1.trans q1;have f2:=a2.trans f1;have g2:=eU g1 hg2;have e2:=an e1 hg2.size;have b3:Below w2.heap.size w2 (w2.alloc (.cells #[.slice av PP.1.length cv] 25)):=(af _ _).alloc (ae _) _;have hp3:=hp2.far b3.size (fun k _ hk=>b3.block k hk);have q3:=(b3.cell (p:=⟨w.heap.size,0,none⟩) e2).trans q2;have f3:=(b3.frozen (p:=⟨w.heap.size,0,none⟩) e2).trans f2;have x3:=nZ w2 25 (.slice av PP.1.length cv);have g3:=eU g2 (fJ b3);have hR3:=hR2.below b3;have hs3:w1.heap.size<=(w2.alloc (.cells #[.slice av PP.1.length cv] 25)).heap.size:=aW hg2.size b3.size;have e3:=an e2 b3.size;clear hg2 q1 f1 g1 hR1 HN1 a1 a2 hp2 b3 q2 f2 g2 hR2
 ·have eR:=HR2.out hk.1 hk.2;have eJ:=HJ2.out hk.1 hk.2;have hk10:=hk.2;clear HR0 HR1 HR2 HR3 HPo HJ0 HJ2 HJ3;go_upto_region 10 with fail
  generalize(w2.alloc (.cells #[.slice av PP.1.length cv] 25))=W3 at*;go_wp2_with fail;refine(HSp.out _ _ _ _ _ _ hR3 hp3 (by omega) hs3).mono ?_;rintro _ w4⟨v',rfl,h4⟩;obtain⟨a4,n4,c4,e4⟩:=h4.form;subst e4;have hf:=h4.fr;have q4:=(aN (a:=⟨w.heap.size,0,none⟩) (hf.block w.heap.size e1 (by omega))).trans q3;have f4:=(ch (a:=⟨w.heap.size,0,none⟩) (hf.block w.heap.size e1 (by omega))).trans f3;have HF:Hid (fE w.heap.size R ad cap l ((RES,RJ),RB) w (w4.setCell ⟨w.heap.size,0,none⟩ (.slice a4 n4 c4)) (.slice a4 n4 c4)):=by
   unfold Hid;rw[eR,eJ.1,eJ.2];exact Bi h4 e1 hs3 g3 hRw
  clear h4 hf q3 f3 HSp hp3 hR3 g3 x3 eR eJ;go_wp2;exact bodyPost_ret (v:=.agg #[.slice a4 n4 c4]) (by simp[results,Tryz.results16,go_sem,q4]) rfl ⟨_,rfl,HF.out⟩
 have hk10:¬kk<10:=by omega
 have eR:=HR3.out (by omega);have eJ:=HJ3.out (by omega);clear HR0 HR1 HR2 HR3 HPo HSp HJ0 HJ2 HJ3;have HF:Hid (fE w.heap.size R ad cap l ((RES,RJ),RB) w ((w2.alloc (.cells #[.slice av PP.1.length cv] 25)).setCell ⟨w.heap.size,0,none⟩ (.slice av PP.1.length cv)) (.slice av PP.1.length cv)):=by
  unfold Hid;rw[eR,eJ.1,eJ.2];exact rp hp3 e1 hR3 g3 hRw
 clear hp3 hR3 g3 eR eJ;go_upto_region 11 with fail
 generalize(w2.alloc (.cells #[.slice av PP.1.length cv] 25))=W3 at*;go_wp2;exact bodyPost_ret (v:=.agg #[.slice av PP.1.length cv]) (by simp[results,Tryz.results16,go_sem,q3]) rfl ⟨_,rfl,HF.out⟩
theorem spoilC(l:List Int):GK l:=fun P hP hl4 hasc B R cap ad j v rv lo hi w hR hp hRB hB=>El P hP hl4 hasc B R cap ad l j v rv lo hi w hR hp hRB hB
theorem zZ(l:List Int)(F:Nat->K×Nat)(hF:KdF l F)(R cap:Nat)(ad:Option Addr)(j:Nat)(w:World)(hR:Rd w R ad cap l j):
 Calls Tryz.prog 16 #[.pointer (some ⟨R,0,none⟩)] w fun e w'=>∃v,e=.returned (.agg #[v])∧fE w.heap.size R ad cap l ((mi l F j,rY l F j),uW l F j) w w' v:=BZ l F hF (spoilC l) R cap ad j w hR
theorem fE.read{R cap:Nat}{ad:Option Addr}{D:(List E×Nat)×Bool}{w':World}{v:Value}(h:fE B R ad cap l D w w' v):∃P a c,v=.slice a P.length c∧P.length<=c∧ga B 3 (PEB B) w' a P∧((D.2=true∧okP P∧eW P=false∧BdP P)∨(D.2=false∧P=D.1.1∧Rd w' R ad cap l D.1.2∧∃g gb cb,PsC w' v D.1.1 g gb cb∧GeB B D.1.1 g gb cb)):=by
 rcases h.or with⟨hD,P,a,c,h1,h2,h3,h4,h5,h6⟩|⟨hD,hr2,g,gb,cb,pc,ge⟩
 ·exact⟨P,a,c,h1,h2,h6,.inl ⟨hD,h3,h4,h5⟩⟩
 obtain⟨a,c,h1,h2,h3⟩:=pc.srcB ge;exact⟨D.1.1,a,c,h1,h2,h3,.inr ⟨hD,rfl,hr2,g,gb,cb,pc,ge⟩⟩
theorem GB{m i:Nat}(hm:m<=201)(hi:i<=251):GoE (vg m i):=by
 have hlen:(vg m i).rules.length=m:=by simp[vg]
 refine⟨⟨⟨by show(0:Int)<=5;decide,by show(5:Int)<=4294967295;decide⟩,⟨by show(0:Int)<=(i:Int)*2;omega,by show(i:Int)*2<=4294967295;omega⟩,fun r hr c hc=> ?_⟩,by omega,fun r hr=> ?_⟩
 ·obtain⟨t,ht,rfl⟩:=bT.1 hr;have ht':=bD.1 ht;simp only[nH,bF,cM,or_false]at hc;rcases hc with rfl|rfl|rfl|rfl|rfl|rfl
  all_goals exact⟨⟨by simp[ptK,fQ],by simp[ptK,fQ]⟩,by simp[ptK,fQ]<;>omega,by simp[ptK,fQ]<;>omega⟩
 obtain⟨t,ht,rfl⟩:=bT.1 hr;simp[nH]
theorem yO{m:Nat}(hm:m<=201)(hn:n<=251):(∀e∈j6 n m,GoE e)∧(j6 n m).length<=300:=by
 refine⟨fun e he=> ?_,by simp[j6];omega⟩;obtain⟨i,hi,rfl⟩:=bT.1 he;exact GB hm (by have:=bD.1 hi;omega)
theorem Hb(hl:eV l){F:Nat->K×Nat}(hF:KdF l F)(j:Nat):(∀e∈mi l F j,GoE e)∧(mi l F j).length<=300:=by
 have hb:=ez hl j;have hb1:=ez hl (j+1);have hp:=CL hl hF (j+1);have hg:∀e∈(iV l F (j+1)).1,GoE e:=fun e he=>mo (hp.1 e he)
 unfold mi;split
 ·exact yO (by omega) (by omega)
 split
 ·exact yO (by omega) (by omega)
 split
 ·unfold spP;split
  ·exact⟨hg,by have:=hp.2;omega⟩
  rename_i hne;generalize(iV l F (j+1)).1=P at*;generalize(iV l F (j+1)).2=j2 at*;have hpos:0<P.length:=cZ.2 hne;have hi:spI l P j2<P.length:=by
   unfold spI;have:=bQ (l.getD (j2+1) 0) (show(0:Int)<(P.length:Int)by omega);have:=cf (l.getD (j2+1) 0) (show(P.length:Int)≠0 by omega);omega
  have hE:=hg _ (gq (d:=E.zero) hi);have hOk:=hp.1 _ (gq (d:=E.zero) hi);have hs:spJ l P j2<(eu P (spI l P j2)).length:=by
   have h0:0<(eu P (spI l P j2)).length:=hOk.2.2.1;unfold spJ;have:=bQ (l.getD (j2+2) 0) (show(0:Int)<((eu P (spI l P j2)).length:Int)by omega);have:=cf (l.getD (j2+2) 0) (show((eu P (spI l P j2)).length:Int)≠0 by omega);omega
  have hR:fh P (spI l P j2) (spJ l P j2)∈eu P (spI l P j2):=gq hs;refine⟨lJ hg (tW hE (lJ hE.1.2.2 (lJ (hE.1.2.2 _ hR) (spK_ok (ti (hE.1.2.2 _ hR) _) _))) (by rw[aK];exact hE.2.1) (lJ hE.2.2 (by rw[aK];exact hE.2.2 _ hR))),by show(List.set _ _ _).length<=300;rw[aK];have:=hp.2;omega⟩
 exact⟨hg,by have:=hp.2;omega⟩
theorem C7(hl:eV l){F:Nat->K×Nat}(hF:KdF l F)(j:Nat):okP (mi l F j)∧BdP (mi l F j):=by
 obtain⟨h1,h2⟩:=Hb hl hF j;exact⟨fun e he=>(h1 e he).1,h2,fun e he=>(h1 e he).2⟩
def BH(L:List Int)(F:Nat->K×Nat):C:=
 if L.getD (oq L (mi L F 0) (rY L F 0)).2 0%20=7 then⟨(oq L (mi L F 0) (rY L F 0)).1.et,(oq L (mi L F 0) (rY L F 0)).1.nr,(oq L (mi L F 0) (rY L F 0)).1.args.take 5⟩
 else(oq L (mi L F 0) (rY L F 0)).1
def CQ(bd:Bool)(D:List E)(X:C)(w:World)(e:Ending)(w':World):Prop:=∃vp ar nr q n cq args,e=.returned (.tuple #[.agg #[vp],.agg #[.int .u32 ar,.int .u32 nr,.slice (some ⟨q,0,none⟩) n cq]])∧args.length=n∧(n=5∨n=6)∧kV w' (some ⟨q,0,none⟩) args∧C.ok ⟨ar,nr,args⟩∧Below w.heap.size w w'∧((bd=true∧BadP w.heap.size w' vp)∨(bd=false∧(⟨ar,nr,args⟩:C)=X∧tB w.heap.size D w' vp))
theorem Cl{q cq:Nat}(h:iq w B (.slice (some ⟨q,0,none⟩) n cq) l):kV w (some ⟨q,0,none⟩) l:=by
 obtain⟨a,c,e,hs⟩:=wP h;simp only[bs]at e;rw[e.1];exact hs
theorem kV.take{w:World}{a:Option Addr}{l:List Int}(h:kV w a l)(n:Nat):kV w a (l.take n):=by
 rcases h with h|⟨b,o,ha,hlt,hc⟩
 ·exact .inl (by rw[h];simp)
 refine .inr ⟨b,o,ha,hlt,fun i hi=> ?_⟩;have h2:i<l.length:=by simp at hi;omega
 have h3:i<n:=by simp at hi;omega
 have:=hc i h2;rw[this];simp[aa,h3]
theorem CO{w3 V:World}{B0 q cq:Nat}{args:List Int}(x0 x1 x2 x3:Value)(hB:w.heap.size+1<B)(k:iT B w3 V)(b:Below w.heap.size w V)(o:iq V B0 (.slice (some ⟨q,0,none⟩) n cq) args)(hB0:w.heap.size+1<B0):
 iT B w3 ((((V.setCell ⟨w.heap.size,0,none⟩ x0).setCell ⟨w.heap.size+1,0,none⟩ x1).setCell ⟨w.heap.size+1,1,none⟩ x2).setCell ⟨w.heap.size+1,2,none⟩ x3).drew∧Below w.heap.size w ((((V.setCell ⟨w.heap.size,0,none⟩ x0).setCell ⟨w.heap.size+1,0,none⟩ x1).setCell ⟨w.heap.size+1,1,none⟩ x2).setCell ⟨w.heap.size+1,2,none⟩ x3).drew∧kV ((((V.setCell ⟨w.heap.size,0,none⟩ x0).setCell ⟨w.heap.size+1,0,none⟩ x1).setCell ⟨w.heap.size+1,1,none⟩ x2).setCell ⟨w.heap.size+1,2,none⟩ x3).drew (some ⟨q,0,none⟩) args:=by
 have h3:=(o.lt q rfl).1;have n0:∀k,(Value.slice (some ⟨q,0,none⟩) n cq).ownBlock=some k->k≠w.heap.size:=fun k hk=>by simp[Value.ownBlock]at hk;omega
 have n1:∀k,(Value.slice (some ⟨q,0,none⟩) n cq).ownBlock=some k->k≠w.heap.size+1:=fun k hk=>by simp[Value.ownBlock]at hk;omega
 refine⟨((((k.set (.inl (by omega)) 0 x0).set (.inl hB) 0 x1).set (.inl hB) 1 x2).set (.inl hB) 2 x3).below (af _ _).drew,((((b.setCell (p:=⟨w.heap.size,0,none⟩) (ae _) x0).setCell (p:=⟨w.heap.size+1,0,none⟩) (Nat.le_succ _) x1).setCell (p:=⟨w.heap.size+1,1,none⟩) (Nat.le_succ _) x2).setCell (p:=⟨w.heap.size+1,2,none⟩) (Nat.le_succ _) x3).drew,?_⟩;exact(Cl (gJ (gJ (gJ (gJ o n0) n1) n1) n1)).below (af _ _).drew
def ForC(l:List Int):Prop:=∀(P:List E)(a:Option Addr)(c B R cap:Nat)(ad:Option Addr)(j:Nat)(w:World),okP P->BdP P->Rd w R ad cap l j->R<B->ga B 3 (PEB B) w a P->
 Calls Tryz.prog 17 #[.agg #[.slice a P.length c],.pointer (some ⟨R,0,none⟩)] w (ql w R ad cap l (oq l P j))
theorem vY(l:List Int)(hl:eV l)(hn:l.length<=1048576)(F:Nat->K×Nat)(hF:KdF (l.take 600) F)(hFor:ForC (l.take 600))(a:Option Addr)(cap:Nat)(w:World)(hs:ng w a l)(hcap:l.length<=cap):
 Calls Tryz.prog 4 #[.slice a l.length cap] w (CQ (uW (l.take 600) F 0) (mi (l.take 600) F 0) (BH (l.take 600) F) w):=by
 have HO:Hid (∀w1,Below w.heap.size w w1->Calls Tryz.prog 15 #[.slice a l.length cap] w1 fun e w'=>∃R cap',e=.returned (.pointer (some ⟨R,0,none⟩))∧w1.heap.size<=R∧Rd w' R a cap' (l.take 600) 0∧Below w1.heap.size w1 w'):=fun w1 hb=>Fa a cap l w1 (hs.below hb) hl hcap hn
 have hbL:=nS hl 600;generalize l.take 600=L at*;clear hs hcap;generalize l.length=ll at*;have HAny:Hid (∀R cap W,Rd W R a cap L 0->Calls Tryz.prog 16 #[.pointer (some ⟨R,0,none⟩)] W fun e w'=>∃v,e=.returned (.agg #[v])∧fE W.heap.size R a cap L ((mi L F 0,rY L F 0),uW L F 0) W w' v):=fun R cap W h=>zZ L F hF R cap a 0 W h
 have HFor:Hid (∀P a2 c B R cap j W,okP P->BdP P->Rd W R a cap L j->R<B->ga B 3 (PEB B) W a2 P->Calls Tryz.prog 17 #[.agg #[.slice a2 P.length c],.pointer (some ⟨R,0,none⟩)] W (ql W R a cap L (oq L P j))):=fun P a2 c B R cap j W h1 h2 h3 h4 h5=>hFor P a2 c B R cap a j W h1 h2 h3 h4 h5
 have HN:Hid (∀t R cap W,Rd W R a cap L t->Calls Tryz.prog 18 #[.pointer (some ⟨R,0,none⟩)] W fun e w'=>e=.returned (.int .i64 (L.getD t 0))∧Rd w' R a cap L (t+1)∧W.grownBy w' (some R)):=fun t R cap W h=>lT R cap a L t W h
 have HB:Hid (∀t,0<=L.getD t 0∧L.getD t 0<=255):=ez hbL;have HGo:Hid _:=C7 hbL hF 0;have HX:Hid (∀C J,oq L (mi L F 0) (rY L F 0)=(C,J)->(L.getD J 0%20=7->BH L F=⟨C.et,C.nr,C.args.take 5⟩)∧(¬L.getD J 0%20=7->BH L F=C)):=fun C J h=>by
  unfold BH;rw[h];exact⟨fun h=>by rw[if_pos h],fun h=>by rw[if_neg h]⟩
 generalize BH L F=X at*;generalize mi L F 0=D at*;generalize rY L F 0=DJ at*;generalize uW L F 0=DB at*;clear hbL hF hl hn hFor;have B2:Below w.heap.size w ((w.alloc (.cells #[.slice none 0 0] 25)).alloc (.cells #[.int .u32 0,.int .u32 0,.slice none 0 0] 29)):=((af _ _).alloc (ae _) _).alloc (by simp) _;have e2:((w.alloc (.cells #[.slice none 0 0] 25)).alloc (.cells #[.int .u32 0,.int .u32 0,.slice none 0 0] 29)).heap.size=w.heap.size+2:=by simp
 have q2:((w.alloc (.cells #[.slice none 0 0] 25)).alloc (.cells #[.int .u32 0,.int .u32 0,.slice none 0 0] 29)).cell? ⟨w.heap.size,0,none⟩=some (.slice none 0 0)∧((w.alloc (.cells #[.slice none 0 0] 25)).alloc (.cells #[.int .u32 0,.int .u32 0,.slice none 0 0] 29)).frozen? ⟨w.heap.size,0,none⟩=false:=by
  have q:=gw w (.slice none 0 0) 25 _ rfl;obtain⟨c3,c4⟩:=eB (g:=w.heap.size) (o:=0) (fu (ah (w.alloc (.cells #[.slice none 0 0] 25)) none) (.cells #[.int .u32 0,.int .u32 0,.slice none 0 0] 29)) (by simp) (by simp);exact⟨c3.trans q.1,c4.trans q.2⟩
 have z2:fY ((w.alloc (.cells #[.slice none 0 0] 25)).alloc (.cells #[.int .u32 0,.int .u32 0,.slice none 0 0] 29)) (w.heap.size+1) (.int .u32 0) (.int .u32 0) (.slice none 0 0):=by
  have:=fY.new (w.alloc (.cells #[.slice none 0 0] 25)) 29 (.int .u32 0) (.int .u32 0) (.slice none 0 0);simpa using this
 go_enter Tryz.func4,Tryz.ntmps4;go_wp2_with fail;generalize((w.alloc (.cells #[.slice none 0 0] 25)).alloc (.cells #[.int .u32 0,.int .u32 0,.slice none 0 0] 29))=W2 at*;refine(HO.out _ B2).mono ?_;rintro _ w1⟨R,cap',rfl,hR0,hR1,b1⟩;rw[e2]at hR0;have B1:=B2.trans (b1.mono B2.size);have hs1:=b1.size;rw[e2]at hs1;have q1:=(b1.cell (p:=⟨w.heap.size,0,none⟩) (by show w.heap.size<_;omega)).trans q2.1;have f1:=(b1.frozen (p:=⟨w.heap.size,0,none⟩) (by show w.heap.size<_;omega)).trans q2.2;have z1:=z2.ey b1;have hRw:=hR1.lt;clear HO B2 q2 z2 b1 e2;go_wp2_with fail;refine(HAny.out _ _ _ hR1).mono ?_;rintro _ w3⟨vp,rfl,hp3⟩;obtain⟨P,a2,c2,ev,hc2,hsrc,hor⟩:=hp3.read;subst ev;have hfr:=hp3.fr;have hs3:=hfr.size;have q3:=(aN (a:=⟨w.heap.size,0,none⟩) (hfr.block w.heap.size (by omega) (by omega))).trans q1;have f3:=(ch (a:=⟨w.heap.size,0,none⟩) (hfr.block w.heap.size (by omega) (by omega))).trans f1;have z3:fY w3 (w.heap.size+1) (.int .u32 0) (.int .u32 0) (.slice none 0 0):=by
  have e:=hfr.block (w.heap.size+1) (by omega) (by omega);have ec:∀o,w3.cell? ⟨w.heap.size+1,o,none⟩=w1.cell? ⟨w.heap.size+1,o,none⟩:=fun o=>aN (w:=w1) e
  have ef:∀o,w3.frozen? ⟨w.heap.size+1,o,none⟩=w1.frozen? ⟨w.heap.size+1,o,none⟩:=fun o=>ch (a:=⟨w.heap.size+1,o,none⟩) e
  exact⟨by omega,(ec 0).trans z1.c0,(ec 1).trans z1.c1,(ec 2).trans z1.c2,(ef 0).trans z1.f0,(ef 1).trans z1.f1,(ef 2).trans z1.f2⟩
 have B3:Below w.heap.size w w3:=B1.trans ⟨hfr.os,hfr.tape,hfr.output,hfr.size,fun k hk=>hfr.block k (by omega) (by omega)⟩;obtain⟨j3,hR3,hbd3,hokP,HKp⟩:∃j3,Rd w3 R a cap' L j3∧BdP P∧okP P∧Hid (∀W' C J,iT w1.heap.size w3 W'->oq L P j3=(C,J)->(DB=true∧BadP w.heap.size W' (.slice a2 P.length c2))∨(DB=false∧oq L D DJ=(C,J)∧tB w.heap.size D W' (.slice a2 P.length c2))):=by
  rcases hor with⟨hD,h1,h2,h3⟩|⟨hD,h1,h2,g,gb,cb,pc,ge⟩
  ·obtain⟨j3,h4⟩:=hp3.rd;exact⟨j3,h4,h3,h1,fun W' C J hk _=>.inl ⟨hD,P,a2,c2,rfl,hc2,h1,h2,h3,xt (sI hsrc hk) (by omega)⟩⟩
  subst h1;exact⟨DJ,h2,HGo.out.2,HGo.out.1,fun W' C J hk e=>.inr ⟨hD,e,g,gb,cb,pc.oj ge hk,ge.mono (by omega)⟩⟩
 have b4:Below w3.heap.size w3 (w3.alloc (.cells #[.slice a2 P.length c2] 25)):=(af _ _).alloc (ae _) _;have x4:=nZ w3 25 (.slice a2 P.length c2);have q4:=(b4.cell (p:=⟨w.heap.size,0,none⟩) (by show w.heap.size<_;omega)).trans q3;have f4:=(b4.frozen (p:=⟨w.heap.size,0,none⟩) (by show w.heap.size<_;omega)).trans f3;have z4:=z3.ey b4;have B4:=B3.trans (b4.mono B3.size);have k4:=(iT.refl w1.heap.size w3).below b4;have hR4:=hR3.below b4;have hsrc4:=sI hsrc k4;have e4:(w3.alloc (.cells #[.slice a2 P.length c2] 25)).heap.size=w3.heap.size+1:=by simp
 clear hor hp3 hfr hsrc q1 f1 z1 q3 f3 z3 HAny HGo b4 hR3 B3 B1;go_upto_region 3 with fail
 generalize(w3.alloc (.cells #[.slice a2 P.length c2] 25))=W4 at*;obtain⟨CJ,hCJ⟩:∃CJ,oq L P j3=CJ:=⟨_,rfl⟩;have HF4:Hid (Calls Tryz.prog 17 #[.agg #[.slice a2 P.length c2],.pointer (some ⟨R,0,none⟩)] W4 (ql W4 R a cap' L CJ)):=by rw[<-hCJ];exact HFor.out P a2 c2 _ R cap' j3 W4 hokP hbd3 hR4 hRw hsrc4
 obtain⟨⟨car,cnr,cargs⟩,CJ2⟩:=CJ;have HKp4:Hid (∀W',iT w1.heap.size w3 W'->(DB=true∧BadP w.heap.size W' (.slice a2 P.length c2))∨(DB=false∧oq L D DJ=(⟨car,cnr,cargs⟩,CJ2)∧tB w.heap.size D W' (.slice a2 P.length c2))):=fun W' hk=>HKp.out W' _ _ hk hCJ
 clear HFor hCJ hokP hbd3 HKp hsrc4 hc2;generalize P.length=pn at*;generalize hG3:w3.heap.size=G3 at*;go_wp2_with fail;refine HF4.out.mono ?_;rintro _ w5⟨q,cq,rfl,ho5,hl6,hok5,hR5,hg5⟩;simp only at ho5 hl6 hok5 hR5;simp only;have hs4:=hg5.size;have hcq:6<=cq:=by
  obtain⟨_,h|⟨g',cap',cur,e,_,_,hn',_⟩⟩:=id ho5
  ·cases h.1
  simp only[bs]at e;rw[hl6]at hn';omega
 have hq5:=ho5.lt q rfl;have hR5w:R<W4.heap.size:=hR4.lt;have q5:=(eB (g:=w.heap.size) (o:=0) hg5 (by omega) (by simp;omega)).1.trans q4;have f5:=(eB (g:=w.heap.size) (o:=0) hg5 (by omega) (by simp;omega)).2.trans f4;have x5:=(eB (g:=G3) (o:=0) hg5 (by omega) (by simp;omega)).1.trans x4;have z5:=z4.gX hg5 (by simp;omega);have B5:=B4.grown hg5 (by omega) (fun z hz=>by simp at hz;omega);have k5:=k4.grown hg5 hRw;have b6:Below w5.heap.size w5 (w5.alloc (.cells #[.int .u32 car,.int .u32 cnr,.slice (some ⟨q,0,none⟩) 6 cq] 29)):=(af _ _).alloc (ae _) _;have y6:=fY.new w5 29 (.int .u32 car) (.int .u32 cnr) (.slice (some ⟨q,0,none⟩) 6 cq);have q6:=(b6.cell (p:=⟨w.heap.size,0,none⟩) (by show w.heap.size<_;omega)).trans q5;have f6:=(b6.frozen (p:=⟨w.heap.size,0,none⟩) (by show w.heap.size<_;omega)).trans f5;have x6:=(b6.cell (p:=⟨G3,0,none⟩) (by show G3<_;omega)).trans x5;have z6:=z5.ey b6;have B6:=B5.trans (b6.mono B5.size);have k6:=k5.below b6;have o6:=pG ho5 b6;have hR6:=hR5.below b6;have e6:(w5.alloc (.cells #[.int .u32 car,.int .u32 cnr,.slice (some ⟨q,0,none⟩) 6 cq] 29)).heap.size=w5.heap.size+1:=by simp
 clear q5 f5 x5 z5 B5 k5 b6 ho5 hR5 q4 f4 x4 z4 B4 k4 hR4 hg5;go_upto_region 4 with fail
 generalize(w5.alloc (.cells #[.int .u32 car,.int .u32 cnr,.slice (some ⟨q,0,none⟩) 6 cq] 29))=W6 at*;generalize w5.heap.size=G6 at*;have hx:=HB.out CJ2;have HN6:Hid (∀W,Rd W R a cap' L CJ2->Calls Tryz.prog 18 #[.pointer (some ⟨R,0,none⟩)] W fun e w'=>e=.returned (.int .i64 (L.getD CJ2 0))∧Rd w' R a cap' L (CJ2+1)∧W.grownBy w' (some R)):=HN.out CJ2 R cap';have HX6:Hid (∀W',iT w1.heap.size w3 W'->(DB=true∧BadP w.heap.size W' (.slice a2 pn c2))∨(DB=false∧(L.getD CJ2 0%20=7->X=⟨car,cnr,cargs.take 5⟩)∧(¬L.getD CJ2 0%20=7->X=⟨car,cnr,cargs⟩)∧tB w.heap.size D W' (.slice a2 pn c2))):=fun W' hk=>by
  rcases HKp4.out W' hk with h|⟨h0,h1,h2⟩
  ·exact .inl h
  obtain⟨h3,h4⟩:=HX.out _ _ h1;exact .inr ⟨h0,h3,h4,h2⟩
 clear HN HB HX HKp4;generalize L.getD CJ2 0=x at*;go_wp2_with fail;refine(HN6.out _ hR6).mono ?_;rintro _ w7⟨rfl,_,hg7⟩;have hs7:=hg7.size;obtain⟨q7,f7⟩:=eB (g:=w.heap.size) (o:=0) hg7 (by omega) (by simp;omega);replace q7:=q7.trans q6;replace f7:=f7.trans f6;have x7:=(eB (g:=G3) (o:=0) hg7 (by omega) (by simp;omega)).1.trans x6;have z7:=z6.gX hg7 (by simp;omega);have y7:=y6.gX hg7 (by simp;omega);have B7:=B6.grown hg7 (by omega) (fun z hz=>by simp at hz;omega);have k7:=k6.grown hg7 hRw;have o7:=sD o6 hg7 hR5w;clear q6 f6 x6 z6 y6 B6 k6 o6 hR6 hg7 HN6;by_cases h7:x%20=7
 ·have hc5:(5:Int)<=(cq:Int):=by omega
  obtain⟨_,y0,y1,y2,yf0,yf1,yf2⟩:=id y7;obtain⟨_,z0,z1,z2,zf0,zf1,zf2⟩:=id z7;have n1:¬w.heap.size=G3:=by omega
  have n2:¬w.heap.size=G6:=by omega
  have n3:¬w.heap.size+1=G6:=by omega
  have n4:¬w.heap.size+1=G3:=by omega
  have y8:=y7.set2 (.slice (some ⟨q,0,none⟩) 5 cq);have z8:fY (w7.setCell ⟨G6,2,none⟩ (.slice (some ⟨q,0,none⟩) 5 cq)) (w.heap.size+1) (.int .u32 0) (.int .u32 0) (.slice none 0 0):=z7.sW n3;have x8:(w7.setCell ⟨G6,2,none⟩ (.slice (some ⟨q,0,none⟩) 5 cq)).cell? ⟨G3,0,none⟩=some (.slice a2 pn c2):=by rw[eY (by omega)];exact x7
  have q8:(w7.setCell ⟨G6,2,none⟩ (.slice (some ⟨q,0,none⟩) 5 cq)).cell? ⟨w.heap.size,0,none⟩=some (.slice none 0 0):=by rw[eY (by omega)];exact q7
  have f8:(w7.setCell ⟨G6,2,none⟩ (.slice (some ⟨q,0,none⟩) 5 cq)).frozen? ⟨w.heap.size,0,none⟩=false:=by simpa using f7
  have k8:=k7.set (D:=G6) (.inr (by omega)) 2 (.slice (some ⟨q,0,none⟩) 5 cq);have B8:=B7.setCell (p:=⟨G6,2,none⟩) (by show w.heap.size<=G6;omega) (.slice (some ⟨q,0,none⟩) 5 cq);have o8:=gJ (j:=2) (x:=.slice (some ⟨q,0,none⟩) 5 cq) o7 (fun k hk=>by simp[Value.ownBlock]at hk;omega:∀k,(Value.slice (some ⟨q,0,none⟩) 6 cq).ownBlock=some k->k≠G6);have HEnd:Hid _:=CO (.slice a2 pn c2) (.int .u32 car) (.int .u32 cnr) (.slice (some ⟨q,0,none⟩) 5 cq) (show w.heap.size+1<w1.heap.size by omega) k8 B8 o8 (by omega);clear z0 z1 z2 zf0 zf1 zf2 k7 B7 o7 k8 B8 o8 z7 y7;go_upto_region 6 with fail
  clear y0 y1 y2 yf0 yf1 yf2 q7 f7 x7;generalize w7.setCell ⟨G6,2,none⟩ (.slice (some ⟨q,0,none⟩) 5 cq)=W8 at*;obtain⟨_,y0,y1,y2,yf0,yf1,yf2⟩:=y8;obtain⟨_,z0,z1,z2,zf0,zf1,zf2⟩:=z8;go_region_with(fail);all_goals
   go_wp2;obtain⟨hk,hb,hu⟩:=HEnd.out;refine bodyPost_ret (v:=.tuple #[.agg #[.slice a2 pn c2],.agg #[.int .u32 car,.int .u32 cnr,.slice (some ⟨q,0,none⟩) 5 cq]]) (by simp[results,Tryz.results4,go_sem,q8,z0,z1,z2]) rfl ⟨_,_,_,_,5,_,cargs.take 5,rfl,by rw[bN,hl6];rfl,.inl rfl,hu.take 5,⟨hok5.1,hok5.2.1,hok5.2.2.1,hok5.2.2.2.1,fun y hy=>hok5.2.2.2.2 y (aB hy)⟩,hb,?_⟩;rcases HX6.out _ hk with h|⟨h0,h1,h2,h3⟩
   ·exact .inl h
   exact .inr ⟨h0,(h1 h7).symm,h3⟩
 obtain⟨_,y0,y1,y2,yf0,yf1,yf2⟩:=id y7;obtain⟨_,z0,z1,z2,zf0,zf1,zf2⟩:=id z7;have n1:¬w.heap.size=G3:=by omega
 have n2:¬w.heap.size=G6:=by omega
 have n3:¬w.heap.size+1=G6:=by omega
 have n4:¬w.heap.size+1=G3:=by omega
 have HEnd:Hid _:=CO (.slice a2 pn c2) (.int .u32 car) (.int .u32 cnr) (.slice (some ⟨q,0,none⟩) 6 cq) (show w.heap.size+1<w1.heap.size by omega) k7 B7 o7 (by omega);clear k7 B7 o7;go_upto_region 6 with fail
 go_region_with(fail);all_goals
  go_wp2;obtain⟨hk,hb,hu⟩:=HEnd.out;refine bodyPost_ret (v:=.tuple #[.agg #[.slice a2 pn c2],.agg #[.int .u32 car,.int .u32 cnr,.slice (some ⟨q,0,none⟩) 6 cq]]) (by simp[results,Tryz.results4,go_sem,q7,z0,z1,z2]) rfl ⟨_,_,_,_,6,_,cargs,rfl,hl6,.inr rfl,hu,hok5,hb,?_⟩;rcases HX6.out _ hk with h|⟨h0,h1,h2,h3⟩
  ·exact .inl h
  exact .inr ⟨h0,(h2 h7).symm,h3⟩
theorem forC(l:List Int):ForC l:=fun P a c B R cap ad j w h1 h2 h3 h4 h5=>yD P h1 h2 a c B R cap ad l j w h3 h4 h5
theorem vl(l:List Int)(hl:eV l)(hn:l.length<=1048576)(F:Nat->K×Nat)(hF:KdF (l.take 600) F)(a:Option Addr)(cap:Nat)(w:World)(hs:ng w a l)(hcap:l.length<=cap):
 Calls Tryz.prog 4 #[.slice a l.length cap] w (CQ (uW (l.take 600) F 0) (mi (l.take 600) F 0) (BH (l.take 600) F) w):=vY l hl hn F hF (forC _) a cap w hs hcap
end Go.Proofs.YtdihdapmphkhpaaGreat
