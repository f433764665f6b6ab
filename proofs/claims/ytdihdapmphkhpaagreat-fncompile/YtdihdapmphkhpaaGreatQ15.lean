import Derived.Test.YtdihdapmphkhpaaGreatQ12
set_option linter.all false
set_option maxRecDepth 200000
set_option maxHeartbeats 16000000
namespace Go.Proofs.YtdihdapmphkhpaaGreat
open Go.RowKit Go.Deep
theorem IQ(P:List E)(hP:∀e∈P,OkE e)(hl4:P.length<=4)(hasc:2<=P.length->jG (P.getD 0 E.zero) (P.getD 1 E.zero)=true)(B R cap:Nat)(ad:Option Addr)(l:List Int)(j:Nat)(v:Value)(rv:Nat->Value)(lo hi:Nat->Nat)(w:World)(hR:Rd w R ad cap l j)(hp:PsD w B v P rv lo hi)(hRB:R<B)(hB:B<=w.heap.size)(hKX:l.getD j 0%9=5):
 Calls Tryz.prog 37 #[.agg #[v],.pointer (some ⟨R,0,none⟩)] w fun e w'=>∃v',e=.returned (.agg #[v'])∧fE B R ad cap l ((spP l P j,spN P j),spB l P j) w w' v':=by
 have HSB:Hid (P≠[]->spB l P j=true):=fun hne=>decide_eq_true ⟨hne,by omega⟩
 have HKX:Hid _:=hKX
 clear hKX
 obtain⟨iE,hiE,hE0,hE1,hE2⟩:=info_parts pt
 obtain⟨iC,hiC,hC0,hC1,hC2⟩:=info_parts oL
 obtain⟨iL,hiL,hL0,hL1,hL2⟩:=info_parts nD
 obtain⟨g,gb,cb,pc,gg,gr1,gc1⟩:=hp.psc
 have ps:=hp.pss pc
 have hge:GeB B P g gb cb:=⟨gg,fun t ht=>by have:=gr1 t ht;have:=hp.lt t ht;omega,fun t s ht hs=>by have:=gc1 t s ht hs;have:=hp.lt t ht;omega⟩
 have hold:(P≠[]->g<w.heap.size)∧(∀t,t<P.length->gb t<w.heap.size)∧∀t s,t<P.length->s<(eu P t).length->cb t s<w.heap.size:=⟨fun hn=>(pc.frg hn).1,fun t ht=>(pc.frr t ht).1,fun t s ht hs=>(pc.frc t s ht hs).1⟩
 have HB:Hid (∀t,0<=l.getD t 0∧l.getD t 0<=255):=ez hR.bys
 have HN:=nxH R cap ad l
 obtain⟨a,cp,ev,hcp,hav⟩:=pc.val
 have S0:SpS w ((w.alloc (.cells #[v] 25)).alloc (.cells #[.slice none 0 0] 25)) R ad cap l j B v P g gb cb:=by
  have b0:Below w.heap.size w (w.alloc (.cells #[v] 25)):=(af _ _).alloc (ae _) _
  have b1:=b0.alloc (by simp) (.cells #[.slice none 0 0] 25)
  have hbl:∀k,k<w.heap.size->((w.alloc (.cells #[v] 25)).alloc (.cells #[.slice none 0 0] 25)).heap[k]? =w.heap[k]? :=fun k hk=>b1.block k hk
  have q1:=gw w v 25 _ rfl
  have e1:(w.alloc (.cells #[v] 25)).heap.size=w.heap.size+1:=by simp
  have q2:=gw (w.alloc (.cells #[v] 25)) (.slice none 0 0) 25 _ rfl
  rw[e1]at q2
  obtain⟨c3,c4⟩:=eB (g:=w.heap.size) (o:=0) (fu (ah (w.alloc (.cells #[v] 25)) none) (.cells #[.slice none 0 0] 25)) (by omega) (by simp)
  exact⟨hR.below b1,fJ b1,hRB,hB,pc.far b1.size (fun hn=>hbl _ (hold.1 hn)) (fun t ht=>hbl _ (hold.2.1 t ht)) (fun t s ht hs=>hbl _ (hold.2.2 t s ht hs)),ps.far b1.size (fun hn=>hbl _ (hold.1 hn)) (fun t ht=>hbl _ (hold.2.1 t ht)) (fun t s ht hs=>hbl _ (hold.2.2 t s ht hs)),hge,hold,c3.trans q1.1,c4.trans q1.2,q2.1,q2.2,by simp⟩
 subst ev
 clear pc ps hp gg gr1 gc1 hR
 have hx:=HB.out j
 have HN0:=nx1 R cap ad l j (j+1) rfl
 by_cases hPn:P=[]
 ·have hsp:spP l P j=P:=by unfold spP;rw[if_pos hPn]
  have hsn:spN P j=j+1:=by unfold spN;rw[if_pos hPn]
  have hsb:spB l P j=false:=by unfold spB;simp[hPn]
  rw[hsp,hsn,hsb]
  clear hsn hsb HSB
  clear hsp HN
  have hln:P.length=0:=by rw[hPn];rfl
  rw[hln]at S0
  rw[hln]
  generalize l.getD j 0=x at*
  go_enter Tryz.func37,Tryz.ntmps37
  go_wp2_with fail
  refine(HN0.out _ S0.rd).mono ?_
  generalize((w.alloc (.cells #[.slice a 0 cp] 25)).alloc (.cells #[.slice none 0 0] 25))=W0 at*
  rintro _ w1⟨rfl,hR1,hg1⟩
  have S1:=S0.draw hR1 hg1
  clear S0 hR1 hg1 HN0
  have c2:=S1.c2
  have f4:=S1.f4
  have c4:=S1.c4
  have Hsz:=S1.sz
  have HF:Hid (fE B R ad cap l ((P,j+1),false) w (w1.setCell ⟨w.heap.size+1,0,none⟩ (.slice a 0 cp)) (.slice a 0 cp)):=by
   have hset:w1.grownBy (w1.setCell ⟨w.heap.size+1,0,none⟩ (.slice a 0 cp)) (some (w.heap.size+1)):=fG (ah _ _) 0 _
   have hrd':=S1.rd.ey (w1:=w1.setCell ⟨w.heap.size+1,0,none⟩ (.slice a 0 cp)) (fun k hk=>aE w1 ⟨w.heap.size+1,0,none⟩ _ k (fun e=>by simp at e;omega))
   refine⟨⟨_,hrd'⟩,(FrB.of S1.gr hB (fun k hk=>by simp at hk;omega)).trans (FrB.of hset (by omega) (fun k hk=>by simp at hk;omega)),.inr ⟨rfl,hrd',g,gb,cb,S1.pc.far (by simp) (fun hn=>absurd hPn hn) (fun t ht=>by omega) (fun t s ht=>by omega),S1.ge⟩⟩
  clear S1
  go_wp2
  exact bodyPost_ret (v:=.agg #[.slice a 0 cp]) (by simp[results,Tryz.results37,go_sem,c4]) rfl ⟨_,rfl,HF.out⟩
 ·have ha:=hav hPn
  subst ha
  clear hav
  have hl0:0<P.length:=cZ.2 hPn
  obtain⟨n,hn⟩:∃n,P.length=n:=⟨_,rfl⟩
  rw[hn]at S0 hcp hl4 hl0⊢
  try rw[hn]at HKX
  obtain⟨i,hi⟩:∃i,spI l P j=i:=⟨_,rfl⟩
  have hy:=HB.out (j+1)
  have hi1:¬(n:Int)=0:=by omega
  have hiI:(i:Int)=l.getD (j+1) 0%(n:Int):=by
   rw[<-hi,spI,hn];have:=cf (l.getD (j+1) 0) hi1;omega
  have hin:i<n:=by have:=bQ (l.getD (j+1) 0) (show(0:Int)<n by omega);omega
  have hOk:=hP _ (gq (l:=P) (d:=E.zero) (i:=i) (by omega))
  obtain⟨e0,e1,cR,hcR,e2⟩:=S0.pc.ent i (by omega)
  obtain⟨rn,hrn⟩:∃rn,(eu P i).length=rn:=⟨_,rfl⟩
  have hr0:0<rn:=by rw[<-hrn];exact hOk.2.2.1
  have hr9:rn<=9:=by rw[<-hrn];exact hOk.2.2.2
  rw[hrn]at e2 hcR
  obtain⟨s,hs⟩:∃s,spJ l P j=s:=⟨_,rfl⟩
  have hz:=HB.out (j+2)
  have hs1:¬(rn:Int)=0:=by omega
  have hsI:(s:Int)=l.getD (j+2) 0%(rn:Int):=by
   rw[<-hs,spJ,hi,hrn];have:=cf (l.getD (j+2) 0) hs1;omega
  have hsn:s<rn:=by have:=bQ (l.getD (j+2) 0) (show(0:Int)<rn by omega);omega
  obtain⟨m,hm⟩:∃m,spM l j=m:=⟨_,rfl⟩
  have hu:=HB.out (j+3)
  have hmI:(m:Int)=l.getD (j+3) 0%6:=by rw[<-hm,spM];omega
  have hm6:m<6:=by omega
  have hsp:spP l P j=nG P i s m (spK ((fh P i s).getD m K.zero) (l.getD (j+4) 0)):=by unfold spP;rw[if_neg hPn,hi,hs,hm]
  have hspn:spN P j=j+5:=by unfold spN;rw[if_neg hPn]
  rw[hsp,hspn,HSB.out hPn]
  clear hsp hspn hi hs hm HSB
  obtain⟨C,hC⟩:∃C,(fh P i s).getD m K.zero=C:=⟨_,rfl⟩
  rw[hC]
  obtain⟨C2,hC2⟩:∃C2,spK C (l.getD (j+4) 0)=C2:=⟨_,rfl⟩
  rw[hC2]
  have HC:Hid _:=hC
  have HC2:Hid _:=hC2
  clear hC hC2
  have HN1:=nx1 R cap ad l (j+1) (j+2) rfl
  have HN2:=nx1 R cap ad l (j+2) (j+3) rfl
  have HN3:=nx1 R cap ad l (j+3) (j+4) rfl
  clear HN
  generalize l.getD j 0=x at*
  generalize l.getD (j+1) 0=y at*
  generalize l.getD (j+2) 0=z at*
  generalize l.getD (j+3) 0=u at*
  have HiI:Hid _:=hiI
  have HsI:Hid _:=hsI
  have HmI:Hid _:=hmI
  have HOk:Hid _:=hOk
  have HP:Hid _:=hP
  have Hasc:Hid _:=hasc
  clear hiI hsI hmI hOk hP hasc
  have hng:¬(n:Int)==0:=by simpa using hi1
  go_enter Tryz.func37,Tryz.ntmps37
  go_wp2_with fail
  refine(HN0.out _ S0.rd).mono ?_
  clear e0 e1 e2
  generalize((w.alloc (.cells #[.slice (some ⟨g,0,none⟩) n cp] 25)).alloc (.cells #[.slice none 0 0] 25))=W0 at*
  rintro _ w1⟨rfl,hR1,hg1⟩
  have S1:=S0.draw hR1 hg1
  clear S0 hR1 hg1 HN0
  have c2:=S1.c2
  go_wp2_with fail
  refine(HN1.out _ S1.rd).mono ?_
  rintro _ w2⟨rfl,hR2,hg2⟩
  have S2:=S1.draw hR2 hg2
  clear S1 hR2 hg2 HN1 c2
  go_upto_region 6 with fail
  rw[<-HiI.out]
  have c2:=S2.c2
  obtain⟨e0,e1,cR,hcR,e2⟩:=S2.pc.ent i (by omega)
  rw[hrn]at e2 hcR
  have X3:=fY.new w2 53 (.int .u32 (P.getD i E.zero).et) (.int .u32 (P.getD i E.zero).nr) (.slice (some ⟨gb i,0,none⟩) rn cR)
  have S3:=S2.below ((af _ _).alloc (ae _) (.cells #[.int .u32 (P.getD i E.zero).et,.int .u32 (P.getD i E.zero).nr,.slice (some ⟨gb i,0,none⟩) rn cR] 53))
  have hGE:w.heap.size+1<w2.heap.size:=S2.sz
  clear HiI
  obtain⟨ar,har⟩:∃ar,(P.getD i E.zero).et=ar:=⟨_,rfl⟩
  obtain⟨nr,hnr⟩:∃nr,(P.getD i E.zero).nr=nr:=⟨_,rfl⟩
  rw[har,hnr]at X3 S3
  rw[har]at e0
  rw[hnr]at e1
  have Har:Hid _:=har
  have Hnr:Hid _:=hnr
  clear har hnr
  go_upto_region 7 with fail
  have k2:=(eB (g:=g) (o:=i*3+2) (fu (ah w2 (some R)) (.cells #[.int .u32 ar,.int .u32 nr,.slice (some ⟨gb i,0,none⟩) rn cR] 53)) (S2.pc.frg hPn).1 (by simp;have:=hge.1 hPn;omega)).1.trans e2
  clear e0 e1 e2 c2 S2
  generalize(w2.alloc (.cells #[.int .u32 ar,.int .u32 nr,.slice (some ⟨gb i,0,none⟩) rn cR] 53))=W3 at*
  generalize w2.heap.size=GE at*
  have hRGE:R≠GE:=by omega
  have Sd:=S3.below (af _ _).drew
  have Xd:fY W3.drew GE (.int .u32 ar) (.int .u32 nr) (.slice (some ⟨gb i,0,none⟩) rn cR):=X3.ey (af _ _).drew
  obtain⟨_,_,_,xd2,_,_,_⟩:=Xd
  have kd:W3.drew.cell? ⟨g,i*3+2,none⟩=some (.slice (some ⟨gb i,0,none⟩) rn cR):=k2
  have hgR:some g≠some R:=by simp;have:=hge.1 hPn;omega
  have Xd:fY W3.drew GE (.int .u32 ar) (.int .u32 nr) (.slice (some ⟨gb i,0,none⟩) rn cR):=X3.ey (af _ _).drew
  have hrn0:¬rn=0:=by omega
  have hzt:z.tmod (rn:Int)=(s:Int):=by rw[cH hz.1];exact HsI.out.symm
  apply wp_cut (R:=fun W'=>SpS w W' R ad cap l (j+3) B (.slice (some ⟨g,0,none⟩) n cp) P g gb cb∧fY W' GE (.int .u32 ar) (.int .u32 nr) (.slice (some ⟨gb i,0,none⟩) rn cR)∧W'.cell? ⟨g,i*3+2,none⟩=some (.slice (some ⟨gb i,0,none⟩) rn cR))
  case h=>
   go_region_law(first
    |(go_simp;go_at_call 18;refine(HN2.out _ Sd.rd).mono ?_;rintro _ w4⟨rfl,hR4,hg4⟩;have S4:=Sd.draw hR4 hg4;have X4:=Xd.gX hg4 (fun e=>hRGE (by simpa using e.symm));obtain⟨_,_,_,x42,_,_,_⟩:=id X4;have k4:=(eB (g:=g) (o:=i*3+2) hg4 (Sd.pc.frg hPn).1 hgR).1.trans kd;go_wp2_with fail))
   all_goals exact xU.mk rfl ⟨S4,X4,k4⟩
  rintro W4⟨S4,X4,k4⟩
  clear S3 Sd X3 Xd xd2 HN2 hzt k2 kd
  go_wp2_with fail
  refine(HN3.out _ S4.rd).mono ?_
  rintro _ w5⟨rfl,hR5,hg5⟩
  have S5:=S4.draw hR5 hg5
  have X5:=X4.gX hg5 (fun e=>hRGE (by simpa using e.symm))
  have k5:=(eB (g:=g) (o:=i*3+2) hg5 (S4.pc.frg hPn).1 hgR).1.trans k4
  clear S4 X4 hR5 hg5 HN3 k4
  go_upto_region 9 with fail
  rw[<-HmI.out]
  clear HmI
  have hk9:x%9=0∨x%9=1∨(x%9=2∧1<n)∨x%9=3∨x%9=4∨x%9=5∨(x%9=2∧n=1)∨(5<x%9∧x%9<9):=by omega
  generalize x%9=kk at*
  clear hx hy hz hu hng hi1 hs1
  have c2:=S5.c2
  have f2:=S5.f2
  have c4:=S5.c4
  have f4:=S5.f4
  obtain⟨_,x0,x1,x2,_,_,_⟩:=id X5
  have hKX:=HKX.out
  obtain⟨e0,e1,_⟩:=S5.pc.ent i (by omega)
  have e2:=k5
  clear k5
  have hgB:=hge.1 hPn
  have hgw:=hold.1 hPn
  have hsz5:=S5.sz
  have hRb:∀b,B<=b->B<=b:=fun b hb=>hb
  rcases hk9 with rfl|rfl|⟨rfl,h1n⟩|rfl|rfl|rfl|⟨hke,hn1⟩|hk9
  ·exfalso;omega
  ·exfalso;omega
  ·exfalso;omega
  ·exfalso;omega
  ·exfalso;omega
  ·have hsr:0<(eu P i).length:=by omega
   obtain⟨cR2,xs,ec2,slr⟩:=S5.ps.sr i (by omega)
   obtain⟨c0,xs0,ev0,_⟩:=S5.ps.sc i 0 (by omega) hsr
   have ecR:cR=cR2:=by rw[hrn,e2]at ec2;simp only[bz,bs]at ec2;exact ec2.2.2
   subst ecR
   clear ec2
   have hgbw:=hold.2.1 i (by omega)
   have hgbB:=hge.2.1 i (by omega)
   have hgbg:=(S5.pc.frr i (by omega)).2.1
   have frg:=(S5.pc.frg hPn).2 (i*3+2)
   have hlt5:=X5.lt
   have L0:LpS w5 w5 R ad cap l B g (gb i) i (eu P i).length xs (.slice (some ⟨cb i 0,0,none⟩) (fh P i 0).length c0) rn (gb i) 0 cR:=by
    refine⟨⟨_,S5.rd⟩,FrB.refl _ _ _,e2,?_,fun _ _ _ _ _=>rfl,fun _ _ _=>rfl,.inl ⟨rfl,rfl⟩,by omega⟩
    rw[hrn,du,List.replicate_zero,bM]
    rw[hrn]at slr
    exact slr
   have HF:Hid (∀D W9 q o cq,LpS w5 W9 R ad cap l B g (gb i) i (eu P i).length xs (.slice (some ⟨cb i 0,0,none⟩) (fh P i 0).length c0) 201 q o cq->fE B R ad cap l (D,true) w (W9.setCell ⟨w.heap.size+1,0,none⟩ (.slice (some ⟨g,0,none⟩) n cp)) (.slice (some ⟨g,0,none⟩) n cp)):=fun D W9 q o cq L=>by
    have:=LpS.fin (D:=D) (u:=.slice (some ⟨g,0,none⟩) n cp) S5 hPn HP.out (by omega) (by omega) hsr slr ev0 L (by omega:P.length<=cp)
    rw[hn]at this;exact this
   generalize cb i 0=cb0 at*
   generalize(fh P i 0).length=ln0 at*
   rw[hrn]at L0 HF slr
   clear S5 X5 HP HOk Hasc HB x0 x1 e0 e1 e2 slr hsr hKX HKX HC HC2 HsI Har Hnr
   generalize gb i=gi at*
   go_wp2_with fail
   go_loopw [101](fun _ W=>∃k q o cq,LpS w5 W R ad cap l B g gi i rn xs (.slice (some ⟨cb0,0,none⟩) ln0 c0) k q o cq)(fun _ W=>201-(match W.cell? ⟨g,i*3+2,none⟩with|some (.slice _ n _)=>n|_=>0))
   case atStart=>exact⟨rn,gi,0,cR,L0⟩
   case round=>
    obtain⟨k,q,o,cq,L⟩:=hrel
    clear L0
    have hkk:=L.le
    have c2r:=(L.ey w.heap.size 0 (by omega) (by omega) (by omega)).trans c2
    have c4r:=(L.ey (w.heap.size+1) 0 (by omega) (by omega) (by omega)).trans c4
    have f4r:=(L.frz (w.heap.size+1) 0 (by omega)).trans f4
    have cLr:=L.c
    have hs5:=L.fr.size
    by_cases h201:k<201
    ·have h201':(k:Int)<201:=by omega
     have x2r:=(L.ey GE 2 (by omega) (by omega) (by omega)).trans x2
     have evr:=(L.ey gi 0 (by omega) (fun e=>hgbg e.1) (by omega)).trans ev0
     have frr:=(L.frz g (i*3+2) (by omega)).trans frg
     have b7:Below wr.heap.size wr (wr.drew.alloc (.cells #[.slice (some ⟨cb0,0,none⟩) ln0 c0] 57)):=((af wr.heap.size wr).drew).alloc (ae _) _
     have sl7:=L.sl.far b7.size (b7.block q L.sl.lt)
     have c2d:wr.drew.cell? ⟨w.heap.size,0,none⟩=some (.slice (some ⟨g,0,none⟩) n cp):=c2r
     have cLd:wr.drew.cell? ⟨g,i*3+2,none⟩=some (.slice (some ⟨q,o,none⟩) k cq):=cLr
     have x2d:wr.drew.cell? ⟨GE,2,none⟩=some (.slice (some ⟨gi,0,none⟩) rn cR):=x2r
     have evd:wr.drew.cell? ⟨gi,0,none⟩=some (.slice (some ⟨cb0,0,none⟩) ln0 c0):=evr
     have c2a:(wr.alloc (.cells #[.slice (some ⟨cb0,0,none⟩) ln0 c0] 57)).cell? ⟨w.heap.size,0,none⟩=some (.slice (some ⟨g,0,none⟩) n cp):=(b7.cell (p:=⟨w.heap.size,0,none⟩) (by show w.heap.size<wr.heap.size;omega)).trans c2r
     have cLa:(wr.alloc (.cells #[.slice (some ⟨cb0,0,none⟩) ln0 c0] 57)).cell? ⟨g,i*3+2,none⟩=some (.slice (some ⟨q,o,none⟩) k cq):=(b7.cell (p:=⟨g,i*3+2,none⟩) (by show g<wr.heap.size;omega)).trans cLr
     have hrI:(0:Int)<(rn:Int):=by omega
     have HL:Hid (∀g' o' cap' w9,ApC (wr.drew.alloc (.cells #[.slice (some ⟨cb0,0,none⟩) ln0 c0] 57)) 1 q o k (xs++List.replicate (k-rn) (.slice (some ⟨cb0,0,none⟩) ln0 c0)++[.slice (some ⟨cb0,0,none⟩) ln0 c0]) w9 g' o' cap'->LpS w5 (w9.setCell ⟨g,i*3+2,none⟩ (.slice (some ⟨g',o',none⟩) (k+1) cap')) R ad cap l B g gi i rn xs (.slice (some ⟨cb0,0,none⟩) ln0 c0) (k+1) g' o' cap'∧(w9.setCell ⟨g,i*3+2,none⟩ (.slice (some ⟨g',o',none⟩) (k+1) cap')).cell? ⟨g,i*3+2,none⟩=some (.slice (some ⟨g',o',none⟩) (k+1) cap')):=fun g' o' cap' w9 A=>by
      have h9:=L.next h201 b7 A hRB (by omega) hgB (by omega) hgbg hgbB
      exact⟨h9,h9.c⟩
     have Hr:Hid (∀g' o' cap' w9,ApC (wr.drew.alloc (.cells #[.slice (some ⟨cb0,0,none⟩) ln0 c0] 57)) 1 q o k (xs++List.replicate (k-rn) (.slice (some ⟨cb0,0,none⟩) ln0 c0)++[.slice (some ⟨cb0,0,none⟩) ln0 c0]) w9 g' o' cap'->w9.cell? ⟨g,i*3+2,none⟩=some (.slice (some ⟨q,o,none⟩) k cq)∧w9.frozen? ⟨g,i*3+2,none⟩=false∧w9.cell? ⟨w.heap.size,0,none⟩=some (.slice (some ⟨g,0,none⟩) n cp)∧w9.cell? ⟨GE,2,none⟩=some (.slice (some ⟨gi,0,none⟩) rn cR)∧w9.cell? ⟨gi,0,none⟩=some (.slice (some ⟨cb0,0,none⟩) ln0 c0)):=fun g' o' cap' w9 A=>by
      have hq1:¬(g=q∧o+k*1<=i*3+2):=fun e=>by rcases L.at' with⟨f,_⟩|f<;>omega
      have hq2:¬(w.heap.size=q∧o+k*1<=0):=fun e=>by rcases L.at' with⟨f,_⟩|f<;>omega
      have hq3:¬(GE=q∧o+k*1<=2):=fun e=>by rcases L.at' with⟨f,_⟩|f<;>omega
      have hq4:¬(gi=q∧o+k*1<=0):=fun e=>by omega
      exact⟨(A.lg b7 (by omega) hq1).trans cLr,(A.yN b7 (by omega)).trans frr,(A.lg b7 (by omega) hq2).trans c2r,(A.lg b7 (by omega) hq3).trans x2r,(A.lg b7 (by omega) hq4).trans evr⟩
     obtain⟨YS,hYS⟩:∃YS,xs++List.replicate (k-rn) (.slice (some ⟨cb0,0,none⟩) ln0 c0)=YS:=⟨_,rfl⟩
     rw[hYS]at sl7 HL Hr
     clear hYS
     have hbm:k+1<=maxLen:=by unfold maxLen;omega
     have hbd:(k+1)*24<=140737488355328:=by omega
     have Hb7:Hid _:=b7
     clear L b7 c2 c4 f2 f4 x2 ev0 HF
     have hSd:wr.drew.cell? ⟨w.heap.size,0,none⟩=some (.slice (some ⟨g,0,none⟩) n cp)∧wr.drew.cell? ⟨GE,2,none⟩=some (.slice (some ⟨gi,0,none⟩) rn cR)∧wr.drew.cell? ⟨gi,0,none⟩=some (.slice (some ⟨cb0,0,none⟩) ln0 c0):=⟨c2r,x2r,evr⟩
     have hSa:(wr.drew.alloc (.cells #[.slice (some ⟨cb0,0,none⟩) ln0 c0] 57)).cell? ⟨w.heap.size,0,none⟩=some (.slice (some ⟨g,0,none⟩) n cp)∧(wr.drew.alloc (.cells #[.slice (some ⟨cb0,0,none⟩) ln0 c0] 57)).cell? ⟨GE,2,none⟩=some (.slice (some ⟨gi,0,none⟩) rn cR)∧(wr.drew.alloc (.cells #[.slice (some ⟨cb0,0,none⟩) ln0 c0] 57)).cell? ⟨gi,0,none⟩=some (.slice (some ⟨cb0,0,none⟩) ln0 c0):=⟨c2a,(Hb7.out.cell (p:=⟨GE,2,none⟩) (by show GE<wr.heap.size;omega)).trans x2r,(Hb7.out.cell (p:=⟨gi,0,none⟩) (by show gi<wr.heap.size;omega)).trans evr⟩
     have hGEg:GE≠g:=by omega
     have hwg:w.heap.size≠g:=by omega
     go_upto_region 21 with fail
     clear hSd hSa c2r x2r evr frr Hb7 hwg hGEg hgbg hgbB hgbw hRb hsz5 hs5
     go_region_law(refine ko _ (by rfl) _ _ _ (by rfl) 57 iL _ 1 24 Tryz.underlying51 hiL hL0 hL1 hL2 rfl (by decide) q o k cq YS (by rfl) sl7 ⟨wr.heap.size,0,none⟩ 1 [.slice (some ⟨cb0,0,none⟩) ln0 c0] (by rfl) (by rfl) (World.news_of_block (t:=57) (fr:=(0,0)) (heap_alloc_new wr.drew _)) (by simp[Value.oneCell']) hbm hbd ?_;intro g' o' cap' w9 A;obtain⟨r6,r7,r8,r9,r10⟩:=Hr.out _ _ _ _ A)
     all_goals
      obtain⟨L9,q9⟩:=HL.out _ _ _ _ A
      clear A HL Hr sl7 r6 r7 r8 r9 r10 c2d cLd x2d evd c2a cLa
      generalize w9.setCell ⟨g,i*3+2,none⟩ (.slice (some ⟨g',o',none⟩) (k+1) cap')=W9 at*
      go_wp2
      go_roundw
      case rel=>exact⟨k+1,_,_,_,L9⟩
      case measure=>rw[q9,cLr];show 201-(k+1)<201-k;omega
    ·obtain rfl:k=201:=by omega
     have HF':Hid _:=fun D=>HF.out D _ _ _ _ L
     clear L HF
     go_wp2
     exact bodyPost_ret (v:=.agg #[.slice (some ⟨g,0,none⟩) n cp]) (by simp[results,Tryz.results37,go_sem,c4r]) rfl ⟨_,rfl,HF'.out _⟩
  ·exfalso;omega
  ·exfalso;omega
end Go.Proofs.YtdihdapmphkhpaaGreat
