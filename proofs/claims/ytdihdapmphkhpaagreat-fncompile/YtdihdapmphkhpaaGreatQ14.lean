import Derived.Test.YtdihdapmphkhpaaGreatQ12
set_option linter.all false
set_option maxRecDepth 200000
set_option maxHeartbeats 16000000
namespace Go.Proofs.YtdihdapmphkhpaaGreat
open Go.RowKit Go.Deep
theorem Hz(P:List E)(hP:∀e∈P,OkE e)(hl4:P.length<=4)(hasc:2<=P.length->jG (P.getD 0 E.zero) (P.getD 1 E.zero)=true)(B R cap:Nat)(ad:Option Addr)(l:List Int)(j:Nat)(v:Value)(rv:Nat->Value)(lo hi:Nat->Nat)(w:World)(hR:Rd w R ad cap l j)(hp:PsD w B v P rv lo hi)(hRB:R<B)(hB:B<=w.heap.size)(hKX:l.getD j 0%9<5∧(l.getD j 0%9=2->1<P.length)):
 Calls Tryz.prog 37 #[.agg #[v],.pointer (some ⟨R,0,none⟩)] w fun e w'=>∃v',e=.returned (.agg #[v'])∧fE B R ad cap l ((spP l P j,spN P j),spB l P j) w w' v':=by
 have HSB:Hid (P≠[]->spB l P j=true):=fun hne=>decide_eq_true ⟨hne,by omega⟩
 have HKX:Hid _:=hKX
 clear hKX
 obtain⟨iE,hiE,hE0,hE1,hE2⟩:=info_parts pt
 obtain⟨iC,hiC,hC0,hC1,hC2⟩:=info_parts oL
 obtain⟨iL,hiL,hL0,hL1,hL2⟩:=info_parts nD
 obtain⟨g,gb,cb,pc,gg,gr1,gc1⟩:=hp.psc
 have ps:=hp.pss pc
 have hge:GeB B P g gb cb:=⟨gg,fun t ht=>by have:=gr1 t ht;have:=hp.lt t ht;omega,fun t s ht hs=>by have:=gc1 t s ht hs;have:=hp.lt t ht;omega⟩
 have hold:(P≠[]->g<w.heap.size)∧(∀t,t<P.length->gb t<w.heap.size)∧∀t s,t<P.length->s<(eu P t).length->cb t s<w.heap.size:=⟨fun hn=>(pc.frg hn).1,fun t ht=>(pc.frr t ht).1,fun t s ht hs=>(pc.frc t s ht hs).1⟩
 have HB:Hid (∀t,0<=l.getD t 0∧l.getD t 0<=255):=ez hR.bys
 have HN:=nxH R cap ad l
 obtain⟨a,cp,ev,hcp,hav⟩:=pc.val
 have S0:SpS w ((w.alloc (.cells #[v] 25)).alloc (.cells #[.slice none 0 0] 25)) R ad cap l j B v P g gb cb:=by
  have b0:Below w.heap.size w (w.alloc (.cells #[v] 25)):=(af _ _).alloc (ae _) _
  have b1:=b0.alloc (by simp) (.cells #[.slice none 0 0] 25)
  have hbl:∀k,k<w.heap.size->((w.alloc (.cells #[v] 25)).alloc (.cells #[.slice none 0 0] 25)).heap[k]? =w.heap[k]? :=fun k hk=>b1.block k hk
  have q1:=gw w v 25 _ rfl
  have e1:(w.alloc (.cells #[v] 25)).heap.size=w.heap.size+1:=by simp
  have q2:=gw (w.alloc (.cells #[v] 25)) (.slice none 0 0) 25 _ rfl
  rw[e1]at q2
  obtain⟨c3,c4⟩:=eB (g:=w.heap.size) (o:=0) (fu (ah (w.alloc (.cells #[v] 25)) none) (.cells #[.slice none 0 0] 25)) (by omega) (by simp)
  exact⟨hR.below b1,fJ b1,hRB,hB,pc.far b1.size (fun hn=>hbl _ (hold.1 hn)) (fun t ht=>hbl _ (hold.2.1 t ht)) (fun t s ht hs=>hbl _ (hold.2.2 t s ht hs)),ps.far b1.size (fun hn=>hbl _ (hold.1 hn)) (fun t ht=>hbl _ (hold.2.1 t ht)) (fun t s ht hs=>hbl _ (hold.2.2 t s ht hs)),hge,hold,c3.trans q1.1,c4.trans q1.2,q2.1,q2.2,by simp⟩
 subst ev
 clear pc ps hp gg gr1 gc1 hR
 have hx:=HB.out j
 have HN0:=nx1 R cap ad l j (j+1) rfl
 by_cases hPn:P=[]
 ·have hsp:spP l P j=P:=by unfold spP;rw[if_pos hPn]
  have hsn:spN P j=j+1:=by unfold spN;rw[if_pos hPn]
  have hsb:spB l P j=false:=by unfold spB;simp[hPn]
  rw[hsp,hsn,hsb]
  clear hsn hsb HSB
  clear hsp HN
  have hln:P.length=0:=by rw[hPn];rfl
  rw[hln]at S0
  rw[hln]
  generalize l.getD j 0=x at*
  go_enter Tryz.func37,Tryz.ntmps37
  go_wp2_with fail
  refine(HN0.out _ S0.rd).mono ?_
  generalize((w.alloc (.cells #[.slice a 0 cp] 25)).alloc (.cells #[.slice none 0 0] 25))=W0 at*
  rintro _ w1⟨rfl,hR1,hg1⟩
  have S1:=S0.draw hR1 hg1
  clear S0 hR1 hg1 HN0
  have c2:=S1.c2
  have f4:=S1.f4
  have c4:=S1.c4
  have Hsz:=S1.sz
  have HF:Hid (fE B R ad cap l ((P,j+1),false) w (w1.setCell ⟨w.heap.size+1,0,none⟩ (.slice a 0 cp)) (.slice a 0 cp)):=by
   have hset:w1.grownBy (w1.setCell ⟨w.heap.size+1,0,none⟩ (.slice a 0 cp)) (some (w.heap.size+1)):=fG (ah _ _) 0 _
   have hrd':=S1.rd.ey (w1:=w1.setCell ⟨w.heap.size+1,0,none⟩ (.slice a 0 cp)) (fun k hk=>aE w1 ⟨w.heap.size+1,0,none⟩ _ k (fun e=>by simp at e;omega))
   refine⟨⟨_,hrd'⟩,(FrB.of S1.gr hB (fun k hk=>by simp at hk;omega)).trans (FrB.of hset (by omega) (fun k hk=>by simp at hk;omega)),.inr ⟨rfl,hrd',g,gb,cb,S1.pc.far (by simp) (fun hn=>absurd hPn hn) (fun t ht=>by omega) (fun t s ht=>by omega),S1.ge⟩⟩
  clear S1
  go_wp2
  exact bodyPost_ret (v:=.agg #[.slice a 0 cp]) (by simp[results,Tryz.results37,go_sem,c4]) rfl ⟨_,rfl,HF.out⟩
 ·have ha:=hav hPn
  subst ha
  clear hav
  have hl0:0<P.length:=cZ.2 hPn
  obtain⟨n,hn⟩:∃n,P.length=n:=⟨_,rfl⟩
  rw[hn]at S0 hcp hl4 hl0⊢
  try rw[hn]at HKX
  obtain⟨i,hi⟩:∃i,spI l P j=i:=⟨_,rfl⟩
  have hy:=HB.out (j+1)
  have hi1:¬(n:Int)=0:=by omega
  have hiI:(i:Int)=l.getD (j+1) 0%(n:Int):=by
   rw[<-hi,spI,hn];have:=cf (l.getD (j+1) 0) hi1;omega
  have hin:i<n:=by have:=bQ (l.getD (j+1) 0) (show(0:Int)<n by omega);omega
  have hOk:=hP _ (gq (l:=P) (d:=E.zero) (i:=i) (by omega))
  obtain⟨e0,e1,cR,hcR,e2⟩:=S0.pc.ent i (by omega)
  obtain⟨rn,hrn⟩:∃rn,(eu P i).length=rn:=⟨_,rfl⟩
  have hr0:0<rn:=by rw[<-hrn];exact hOk.2.2.1
  have hr9:rn<=9:=by rw[<-hrn];exact hOk.2.2.2
  rw[hrn]at e2 hcR
  obtain⟨s,hs⟩:∃s,spJ l P j=s:=⟨_,rfl⟩
  have hz:=HB.out (j+2)
  have hs1:¬(rn:Int)=0:=by omega
  have hsI:(s:Int)=l.getD (j+2) 0%(rn:Int):=by
   rw[<-hs,spJ,hi,hrn];have:=cf (l.getD (j+2) 0) hs1;omega
  have hsn:s<rn:=by have:=bQ (l.getD (j+2) 0) (show(0:Int)<rn by omega);omega
  obtain⟨m,hm⟩:∃m,spM l j=m:=⟨_,rfl⟩
  have hu:=HB.out (j+3)
  have hmI:(m:Int)=l.getD (j+3) 0%6:=by rw[<-hm,spM];omega
  have hm6:m<6:=by omega
  have hsp:spP l P j=nG P i s m (spK ((fh P i s).getD m K.zero) (l.getD (j+4) 0)):=by unfold spP;rw[if_neg hPn,hi,hs,hm]
  have hspn:spN P j=j+5:=by unfold spN;rw[if_neg hPn]
  rw[hsp,hspn,HSB.out hPn]
  clear hsp hspn hi hs hm HSB
  obtain⟨C,hC⟩:∃C,(fh P i s).getD m K.zero=C:=⟨_,rfl⟩
  rw[hC]
  obtain⟨C2,hC2⟩:∃C2,spK C (l.getD (j+4) 0)=C2:=⟨_,rfl⟩
  rw[hC2]
  have HC:Hid _:=hC
  have HC2:Hid _:=hC2
  clear hC hC2
  have HN1:=nx1 R cap ad l (j+1) (j+2) rfl
  have HN2:=nx1 R cap ad l (j+2) (j+3) rfl
  have HN3:=nx1 R cap ad l (j+3) (j+4) rfl
  clear HN
  generalize l.getD j 0=x at*
  generalize l.getD (j+1) 0=y at*
  generalize l.getD (j+2) 0=z at*
  generalize l.getD (j+3) 0=u at*
  have HiI:Hid _:=hiI
  have HsI:Hid _:=hsI
  have HmI:Hid _:=hmI
  have HOk:Hid _:=hOk
  have HP:Hid _:=hP
  have Hasc:Hid _:=hasc
  clear hiI hsI hmI hOk hP hasc
  have hng:¬(n:Int)==0:=by simpa using hi1
  go_enter Tryz.func37,Tryz.ntmps37
  go_wp2_with fail
  refine(HN0.out _ S0.rd).mono ?_
  clear e0 e1 e2
  generalize((w.alloc (.cells #[.slice (some ⟨g,0,none⟩) n cp] 25)).alloc (.cells #[.slice none 0 0] 25))=W0 at*
  rintro _ w1⟨rfl,hR1,hg1⟩
  have S1:=S0.draw hR1 hg1
  clear S0 hR1 hg1 HN0
  have c2:=S1.c2
  go_wp2_with fail
  refine(HN1.out _ S1.rd).mono ?_
  rintro _ w2⟨rfl,hR2,hg2⟩
  have S2:=S1.draw hR2 hg2
  clear S1 hR2 hg2 HN1 c2
  go_upto_region 6 with fail
  rw[<-HiI.out]
  have c2:=S2.c2
  obtain⟨e0,e1,cR,hcR,e2⟩:=S2.pc.ent i (by omega)
  rw[hrn]at e2 hcR
  have X3:=fY.new w2 53 (.int .u32 (P.getD i E.zero).et) (.int .u32 (P.getD i E.zero).nr) (.slice (some ⟨gb i,0,none⟩) rn cR)
  have S3:=S2.below ((af _ _).alloc (ae _) (.cells #[.int .u32 (P.getD i E.zero).et,.int .u32 (P.getD i E.zero).nr,.slice (some ⟨gb i,0,none⟩) rn cR] 53))
  have hGE:w.heap.size+1<w2.heap.size:=S2.sz
  clear HiI
  obtain⟨ar,har⟩:∃ar,(P.getD i E.zero).et=ar:=⟨_,rfl⟩
  obtain⟨nr,hnr⟩:∃nr,(P.getD i E.zero).nr=nr:=⟨_,rfl⟩
  rw[har,hnr]at X3 S3
  rw[har]at e0
  rw[hnr]at e1
  have Har:Hid _:=har
  have Hnr:Hid _:=hnr
  clear har hnr
  go_upto_region 7 with fail
  have k2:=(eB (g:=g) (o:=i*3+2) (fu (ah w2 (some R)) (.cells #[.int .u32 ar,.int .u32 nr,.slice (some ⟨gb i,0,none⟩) rn cR] 53)) (S2.pc.frg hPn).1 (by simp;have:=hge.1 hPn;omega)).1.trans e2
  clear e0 e1 e2 c2 S2
  generalize(w2.alloc (.cells #[.int .u32 ar,.int .u32 nr,.slice (some ⟨gb i,0,none⟩) rn cR] 53))=W3 at*
  generalize w2.heap.size=GE at*
  have hRGE:R≠GE:=by omega
  have Sd:=S3.below (af _ _).drew
  have Xd:fY W3.drew GE (.int .u32 ar) (.int .u32 nr) (.slice (some ⟨gb i,0,none⟩) rn cR):=X3.ey (af _ _).drew
  obtain⟨_,_,_,xd2,_,_,_⟩:=Xd
  have kd:W3.drew.cell? ⟨g,i*3+2,none⟩=some (.slice (some ⟨gb i,0,none⟩) rn cR):=k2
  have hgR:some g≠some R:=by simp;have:=hge.1 hPn;omega
  have Xd:fY W3.drew GE (.int .u32 ar) (.int .u32 nr) (.slice (some ⟨gb i,0,none⟩) rn cR):=X3.ey (af _ _).drew
  have hrn0:¬rn=0:=by omega
  have hzt:z.tmod (rn:Int)=(s:Int):=by rw[cH hz.1];exact HsI.out.symm
  apply wp_cut (R:=fun W'=>SpS w W' R ad cap l (j+3) B (.slice (some ⟨g,0,none⟩) n cp) P g gb cb∧fY W' GE (.int .u32 ar) (.int .u32 nr) (.slice (some ⟨gb i,0,none⟩) rn cR)∧W'.cell? ⟨g,i*3+2,none⟩=some (.slice (some ⟨gb i,0,none⟩) rn cR))
  case h=>
   go_region_law(first
    |(go_simp;go_at_call 18;refine(HN2.out _ Sd.rd).mono ?_;rintro _ w4⟨rfl,hR4,hg4⟩;have S4:=Sd.draw hR4 hg4;have X4:=Xd.gX hg4 (fun e=>hRGE (by simpa using e.symm));obtain⟨_,_,_,x42,_,_,_⟩:=id X4;have k4:=(eB (g:=g) (o:=i*3+2) hg4 (Sd.pc.frg hPn).1 hgR).1.trans kd;go_wp2_with fail))
   all_goals exact xU.mk rfl ⟨S4,X4,k4⟩
  rintro W4⟨S4,X4,k4⟩
  clear S3 Sd X3 Xd xd2 HN2 hzt k2 kd
  go_wp2_with fail
  refine(HN3.out _ S4.rd).mono ?_
  rintro _ w5⟨rfl,hR5,hg5⟩
  have S5:=S4.draw hR5 hg5
  have X5:=X4.gX hg5 (fun e=>hRGE (by simpa using e.symm))
  have k5:=(eB (g:=g) (o:=i*3+2) hg5 (S4.pc.frg hPn).1 hgR).1.trans k4
  clear S4 X4 hR5 hg5 HN3 k4
  go_upto_region 9 with fail
  rw[<-HmI.out]
  clear HmI
  have hk9:x%9=0∨x%9=1∨(x%9=2∧1<n)∨x%9=3∨x%9=4∨x%9=5∨(x%9=2∧n=1)∨(5<x%9∧x%9<9):=by omega
  generalize x%9=kk at*
  clear hx hy hz hu hng hi1 hs1
  have c2:=S5.c2
  have f2:=S5.f2
  have c4:=S5.c4
  have f4:=S5.f4
  obtain⟨_,x0,x1,x2,_,_,_⟩:=id X5
  have hKX:=HKX.out
  obtain⟨e0,e1,_⟩:=S5.pc.ent i (by omega)
  have e2:=k5
  clear k5
  have hgB:=hge.1 hPn
  have hgw:=hold.1 hPn
  have hsz5:=S5.sz
  have hRb:∀b,B<=b->B<=b:=fun b hb=>hb
  rcases hk9 with rfl|rfl|⟨rfl,h1n⟩|rfl|rfl|rfl|⟨hke,hn1⟩|hk9
  ·have fg:=(S5.pc.frg hPn).2 (i*3+2)
   have HF:Hid (∀D,fE B R ad cap l (D,true) w ((w5.setCell ⟨g,i*3+2,none⟩ (.slice none 0 0)).setCell ⟨w.heap.size+1,0,none⟩ (.slice (some ⟨g,0,none⟩) n cp)) (.slice (some ⟨g,0,none⟩) n cp)):=fun D=>by
    have hset:w5.grownBy (w5.setCell ⟨g,i*3+2,none⟩ (.slice none 0 0)) (some g):=fG (ah _ _) _ _
    refine S5.bad ⟨_,S5.rd.ey (fun k hk=>aE w5 ⟨g,i*3+2,none⟩ _ k (fun e=>by simp at e;omega))⟩ (FrB.of hset (by have:=S5.sz;omega) (fun k hk=>by simp at hk;omega)) (P.set i ⟨(P.getD i E.zero).et,(P.getD i E.zero).nr,[]⟩) (some ⟨g,0,none⟩) cp (by rw[aK,hn]) (by rw[aK,hn];exact hcp) (lJ (fun e he=>mo (HP.out e he)) (tW (mo HOk.out) (fun r hr=>by simp at hr) (by simp) (fun r hr=>by simp at hr))) (by rw[aK];omega) (nL (i:=i) (by rw[aK];omega) (by rw[iP P i i _ _ (by omega),if_pos rfl];exact yX rfl)) (fun w1 hk=> ?_)
    have hc5:∀b o,b<w.heap.size->B<=b->¬(b=g∧o=i*3+2)->w1.cell? ⟨b,o,none⟩=w5.cell? ⟨b,o,none⟩:=fun b o hb hbR hno=>by
     rw[hk.cell b o (by simp;omega) hbR (by omega),aJ _ _ _ _ (fun e=>by simp at e;exact hno ⟨e.1.symm,e.2.symm⟩)]
    refine S5.pc.putE hge (by have:=hk.size;simpa using this) (by omega) (fun o ho=>hc5 _ _ hgw (hRb _ hgB) (fun e=>ho e.2)) (c:=0) (by rw[hk.cell g _ (by simp;omega) (hRb _ hgB) (by omega)];exact aG _ _ _ e2) (.inl rfl) (fun t ht _ s hs=>hc5 _ _ (hold.2.1 t ht) (hRb _ (S5.ge.2.1 t ht)) (fun e=>(S5.pc.frr t ht).2.1 e.1)) (fun t ht _ s hs o=>hc5 _ _ (hold.2.2 t s ht hs) (hRb _ (S5.ge.2.2 t s ht hs)) (fun e=>(S5.pc.frc t s ht hs).2.1 e.1))
   have q2:(w5.setCell ⟨g,i*3+2,none⟩ (.slice none 0 0)).cell? ⟨w.heap.size,0,none⟩=some (.slice (some ⟨g,0,none⟩) n cp):=by rw[eY (by omega)];exact c2
   have q4:(w5.setCell ⟨g,i*3+2,none⟩ (.slice none 0 0)).cell? ⟨w.heap.size+1,0,none⟩=some (.slice none 0 0):=by rw[eY (by omega)];exact c4
   have q5:(w5.setCell ⟨g,i*3+2,none⟩ (.slice none 0 0)).frozen? ⟨w.heap.size+1,0,none⟩=false:=by simpa using f4
   clear S5 X5 HP HOk Hasc HB
   go_wp2
   exact bodyPost_ret (v:=.agg #[.slice (some ⟨g,0,none⟩) n cp]) (by simp[results,Tryz.results37,go_sem,q4]) rfl ⟨_,rfl,HF.out _⟩
  ·obtain⟨cp1,xs,ev1,sl⟩:=S5.ps.sg hPn
   have ecp:cp=cp1:=by simp only[bs]at ev1;exact ev1.2.2
   subst ecp
   rw[hn]at sl
   clear ev1
   have b7:Below w5.heap.size w5 (w5.alloc (.cells #[.int .u32 ar,.int .u32 nr,.slice (some ⟨gb i,0,none⟩) rn cR] 53)):=(af _ _).alloc (ae _) _
   have sl7:=sl.far b7.size (b7.block g (by omega))
   have hbm:n+1<=maxLen:=by unfold maxLen;omega
   have hbd:(n+1)*32<=140737488355328:=by omega
   go_wp2_with(at_builtin;refine qo _ rfl (.tmp 48) (.tmp 50) 23 rfl 53 iE _ 3 32 Tryz.underlying23 hiE hE0 hE1 hE2 rfl (by decide) g 0 n cp xs rfl sl7 ⟨w5.heap.size,0,none⟩ 1 [.int .u32 ar,.int .u32 nr,.slice (some ⟨gb i,0,none⟩) rn cR] rfl rfl (World.news_of_block (t:=53) (fr:=(0,0)) (heap_alloc_new w5 _)) (by simp[Value.oneCell']) hbm hbd ?_)
   intro g' o' cap' w9 A
   have r2:=(A.lg b7 (b':=w.heap.size) (o:=0) (by omega) (by omega)).trans c2
   have r3:=(A.yN b7 (b':=w.heap.size) (o:=0) (by omega)).trans f2
   have r4:=(A.lg b7 (b':=w.heap.size+1) (o:=0) (by omega) (by omega)).trans c4
   have r5:=(A.yN b7 (b':=w.heap.size+1) (o:=0) (by omega)).trans f4
   have HF:Hid (∀D,fE B R ad cap l (D,true) w ((w9.setCell ⟨w.heap.size,0,none⟩ (.slice (some ⟨g',o',none⟩) (n+1) cap')).setCell ⟨w.heap.size+1,0,none⟩ (.slice (some ⟨g',o',none⟩) (n+1) cap')) (.slice (some ⟨g',o',none⟩) (n+1) cap')):=fun D=>by
    have hil:(List.range n++[i]).length=n+1:=by simp
    have hig:∀t,t<n->(List.range n++[i]).getD t 0=t:=fun t ht=>by simp[aa,aD,ht]
    have hin':(List.range n++[i]).getD n 0=i:=by simp[aa]
    refine S5.badI hPn HP.out b7 sl A (by omega) (List.range n++[i]) hil (by omega) (fun t ht=> ?_) (fun t ht r hr=>by rw[hig t ht,aC]) (fun r hr=> ?_) (xV (i:=i) (j:=n) hin (by rw[aX,hil];omega) (by rw[rE P (by omega),rE P (by omega),hig i hin,hin'];exact AJ _))
    ·by_cases e:t=n
     ·rw[e,hin'];omega
     ·rw[hig t (by omega)];omega
    ·rw[hin']
     rcases(by omega:r=0∨r=1∨r=2)with rfl|rfl|rfl
     ·rw[cA,e0,Har.out];rfl
     ·rw[e1,Hnr.out];rfl
     ·rw[e2];rfl
   clear S5 X5 HP HOk Hasc HB A sl sl7 b7
   have q4:(w9.setCell ⟨w.heap.size,0,none⟩ (.slice (some ⟨g',o',none⟩) (n+1) cap')).cell? ⟨w.heap.size+1,0,none⟩=some (.slice none 0 0):=by rw[eY (by omega)];exact r4
   go_wp2
   exact bodyPost_ret (v:=.agg #[.slice (some ⟨g',o',none⟩) (n+1) cap']) (by simp[results,Tryz.results37,go_sem,q4]) rfl ⟨_,rfl,HF.out _⟩
  ·obtain⟨cp1,xs,ev1,sl⟩:=S5.ps.sg hPn
   have ecp:cp=cp1:=by simp only[bs]at ev1;exact ev1.2.2
   subst ecp
   rw[hn]at sl
   clear ev1
   have S6:=S5.below (af _ _).drew
   obtain⟨n',rfl⟩:∃n',n=n'+1:=⟨n-1,by omega⟩
   obtain⟨cp',rfl⟩:∃cp',cp=cp'+1:=⟨cp-1,by omega⟩
   obtain⟨a0,a1,cR0,_,a2⟩:=S6.pc.ent 0 (by omega)
   obtain⟨ar0,har0⟩:∃ar0,(P.getD 0 E.zero).et=ar0:=⟨_,rfl⟩
   obtain⟨nr0,hnr0⟩:∃nr0,(P.getD 0 E.zero).nr=nr0:=⟨_,rfl⟩
   obtain⟨rn0,hrn0'⟩:∃rn0,(eu P 0).length=rn0:=⟨_,rfl⟩
   rw[har0]at a0
   rw[hnr0]at a1
   rw[hrn0']at a2
   clear har0 hnr0 hrn0'
   have h11:(1:Int)<=(n':Int)+1:=by omega
   have hcp0:¬cp'=0:=by omega
   have b7:Below w5.drew.heap.size w5.drew (w5.drew.alloc (.cells #[.int .u32 ar0,.int .u32 nr0,.slice (some ⟨gb 0,0,none⟩) rn0 cR0] 53)):=(af _ _).alloc (ae _) _
   have sl6:SlC w5.drew 3 g 3 n' cp' (xs.drop 3):=by simpa using(sl.far (w1:=w5.drew) (ae _) rfl).tail
   have sl7:=sl6.far b7.size (b7.block g (by show g<w5.heap.size;omega))
   have hbm:n'+1<=maxLen:=by unfold maxLen;omega
   have hbd:(n'+1)*32<=140737488355328:=by omega
   have c2d:=S6.c2
   have f2d:=S6.f2
   have h1n':(1:Int)<((n'+1:Nat):Int):=by omega
   have c2a:(w5.alloc (.cells #[.int .u32 ar0,.int .u32 nr0,.slice (some ⟨gb 0,0,none⟩) rn0 cR0] 53)).cell? ⟨w.heap.size,0,none⟩=some (.slice (some ⟨g,0,none⟩) (n'+1) (cp'+1)):=(b7.cell (p:=⟨w.heap.size,0,none⟩) (by show w.heap.size<w5.heap.size;omega)).trans c2d
   go_upto_region 14 with fail
   go_region_law(refine ko _ (by rfl) _ _ _ (by rfl) 53 iE _ 3 32 Tryz.underlying23 hiE hE0 hE1 hE2 rfl (by decide) g 3 n' cp' (xs.drop 3) (by rfl) sl7 ⟨w5.heap.size,0,none⟩ 1 [.int .u32 ar0,.int .u32 nr0,.slice (some ⟨gb 0,0,none⟩) rn0 cR0] (by rfl) (by rfl) (World.news_of_block (t:=53) (fr:=(0,0)) (heap_alloc_new w5.drew _)) (by simp[Value.oneCell']) hbm hbd ?_;intro g' o' cap' w9 A;have r2:=(A.lg b7 (b':=w.heap.size) (o:=0) (by show w.heap.size<w5.heap.size;omega) (by omega)).trans c2d;have r3:=(A.yN b7 (b':=w.heap.size) (o:=0) (by show w.heap.size<w5.heap.size;omega)).trans f2d)
   all_goals
    have r4:=(A.lg b7 (b':=w.heap.size+1) (o:=0) (by show w.heap.size+1<w5.heap.size;omega) (by omega)).trans S6.c4
    have r5:=(A.yN b7 (b':=w.heap.size+1) (o:=0) (by show w.heap.size+1<w5.heap.size;omega)).trans S6.f4
    have HF:Hid (∀D,fE B R ad cap l (D,true) w ((w9.setCell ⟨w.heap.size,0,none⟩ (.slice (some ⟨g',o',none⟩) (n'+1) cap')).setCell ⟨w.heap.size+1,0,none⟩ (.slice (some ⟨g',o',none⟩) (n'+1) cap')) (.slice (some ⟨g',o',none⟩) (n'+1) cap')):=fun D=>by
     have hil:((List.range n').map (·+1)++[0]).length=n'+1:=by simp
     have hig:∀t,t<n'->((List.range n').map (·+1)++[0]).getD t 0=t+1:=fun t ht=>by simp[aa,aD,ht]
     have hin':((List.range n').map (·+1)++[0]).getD n' 0=0:=by simp[aa]
     refine S6.badI hPn HP.out b7 sl6 A (by omega) ((List.range n').map (·+1)++[0]) hil (by omega) (fun t ht=> ?_) (fun t ht r hr=>by rw[hig t ht,show 3+(t*3+r)=(t+1)*3+r by omega]) (fun r hr=> ?_) ?_
     ·by_cases e:t=n'
      ·rw[e,hin'];omega
      ·rw[hig t (by omega)];omega
     ·rw[hin',dQ,aC]
      rcases(by omega:r=0∨r=1∨r=2)with rfl|rfl|rfl
      ·exact a0.symm
      ·exact a1.symm
      ·exact a2.symm
     ·cases hc:eW (((List.range n').map (·+1)++[0]).map fun t=>P.getD t E.zero)with
      |false=>rfl
      |true=>
       have h01:=mW hc (i:=0) (j:=n') (by omega) (by rw[aX,hil];omega)
       rw[rE P (by omega),rE P (by omega),hig 0 (by omega),hin']at h01
       have:=uY (Hasc.out (by omega)) h01
       rw[AJ]at this
       exact absurd this (by decide)
    have q4:(w9.setCell ⟨w.heap.size,0,none⟩ (.slice (some ⟨g',o',none⟩) (n'+1) cap')).cell? ⟨w.heap.size+1,0,none⟩=some (.slice none 0 0):=by rw[eY (by omega)];exact r4
    have q2:(w9.setCell ⟨w.heap.size,0,none⟩ (.slice (some ⟨g',o',none⟩) (n'+1) cap')).cell? ⟨w.heap.size,0,none⟩=some (.slice (some ⟨g',o',none⟩) (n'+1) cap'):=aG _ _ _ r2
    have q5:(w9.setCell ⟨w.heap.size,0,none⟩ (.slice (some ⟨g',o',none⟩) (n'+1) cap')).frozen? ⟨w.heap.size+1,0,none⟩=false:=by simpa using r5
    clear S5 S6 X5 HP HOk Hasc HB A sl sl6 sl7 b7 c2d f2d a0 a1 a2 c2a
    generalize w9.setCell ⟨w.heap.size,0,none⟩ (.slice (some ⟨g',o',none⟩) (n'+1) cap')=W9 at*
    go_wp2
    exact bodyPost_ret (v:=.agg #[.slice (some ⟨g',o',none⟩) (n'+1) cap']) (by simp[results,Tryz.results37,go_sem,q4]) rfl ⟨_,rfl,HF.out _⟩
  ·have S6:=S5.below (af _ _).drew
   have hsr:s<(eu P i).length:=by omega
   have h6:(fh P i s).length=6:=(HOk.out.2.1 _ (gq (d:=[]) hsr)).2
   obtain⟨c6,xs,ec,slc⟩:=S6.ps.sc i s (by omega) hsr
   rw[h6]at ec slc
   have hc6:=slc.le
   have hc6':(5:Int)<=(c6:Int):=by omega
   have fr6:=(S6.pc.frr i (by omega)).2.2 s
   have x2d:w5.drew.cell? ⟨GE,2,none⟩=some (.slice (some ⟨gb i,0,none⟩) rn cR):=x2
   have hsI':(s:Int)<(rn:Int):=by omega
   go_upto_region 16 with fail
   apply wp_cut (R:=fun W'=>W'=w5.drew.setCell ⟨gb i,s,none⟩ (.slice (some ⟨cb i s,0,none⟩) 5 c6))
   case h=>
    go_region_law(fail)
    all_goals exact xU.mk rfl rfl
   rintro W6 rfl
   have hgbw:=hold.2.1 i (by omega)
   have hcbw:=hold.2.2 i s (by omega) hsr
   have hcg:=S6.pc.frc i s (by omega) hsr
   have HF:Hid (∀D,fE B R ad cap l (D,true) w ((w5.drew.setCell ⟨gb i,s,none⟩ (.slice (some ⟨cb i s,0,none⟩) 5 c6)).setCell ⟨w.heap.size+1,0,none⟩ (.slice (some ⟨g,0,none⟩) n cp)) (.slice (some ⟨g,0,none⟩) n cp)):=fun D=>by
    have hset:w5.drew.grownBy (w5.drew.setCell ⟨gb i,s,none⟩ (.slice (some ⟨cb i s,0,none⟩) 5 c6)) (some (gb i)):=fG (ah _ _) _ _
    have hgbB:=hge.2.1 i (by omega)
    have hl5:((fh P i s).take 5).length=5:=by rw[bN,h6];rfl
    have hbad:=S6.badR (D:=D) (u:=.slice (some ⟨g,0,none⟩) n cp) (W9:=w5.drew.setCell ⟨gb i,s,none⟩ (.slice (some ⟨cb i s,0,none⟩) 5 c6)) hPn HP.out (by omega) (i:=i) (s:=s) (r:=(fh P i s).take 5) (a:=some ⟨cb i s,0,none⟩) (c:=c6) (cp:=cp) (by omega) hsr ⟨_,S6.rd.ey (fun k hk=>aE w5.drew ⟨gb i,s,none⟩ _ k (fun e=>by simp at e;omega))⟩ (FrB.of hset (by show B<=w5.heap.size;omega) (fun k hk=>by simp at hk;omega)) (by rw[hl5];decide) (by rw[hl5];decide) (fun c hc=>(mo HOk.out).1.2.2 _ (gq (d:=[]) hsr) c (aB hc)) (by rw[hl5];exact aG _ _ _ ec) (fun w1 hk=>(S6.pc.ksB (w1:=w1) hge (by have:=hk.size;simpa using this) (by omega) hsr (fun o=>(hk.cell (cb i s) o (by simp;omega) (hRb _ (hge.2.2 i s (by omega) hsr)) (by omega)).trans (eY (hcg.2.2.1 i (by omega))))).take 5) (fun b o hb h1 h2 h3=>py h2) (by omega)
    rw[hn]at hbad
    exact hbad
   have q2:(w5.drew.setCell ⟨gb i,s,none⟩ (.slice (some ⟨cb i s,0,none⟩) 5 c6)).cell? ⟨w.heap.size,0,none⟩=some (.slice (some ⟨g,0,none⟩) n cp):=by rw[eY (by omega)];exact c2
   have q4:(w5.drew.setCell ⟨gb i,s,none⟩ (.slice (some ⟨cb i s,0,none⟩) 5 c6)).cell? ⟨w.heap.size+1,0,none⟩=some (.slice none 0 0):=by rw[eY (by omega)];exact c4
   have q5:(w5.drew.setCell ⟨gb i,s,none⟩ (.slice (some ⟨cb i s,0,none⟩) 5 c6)).frozen? ⟨w.heap.size+1,0,none⟩=false:=by simpa using f4
   clear S5 S6 X5 HP HOk Hasc HB slc x2d ec fr6
   generalize w5.drew.setCell ⟨gb i,s,none⟩ (.slice (some ⟨cb i s,0,none⟩) 5 c6)=W9 at*
   go_wp2
   exact bodyPost_ret (v:=.agg #[.slice (some ⟨g,0,none⟩) n cp]) (by simp[results,Tryz.results37,go_sem,q4]) rfl ⟨_,rfl,HF.out _⟩
  ·have S6:=S5.below (af _ _).drew
   have hsr:s<(eu P i).length:=by omega
   have h6:(fh P i s).length=6:=(HOk.out.2.1 _ (gq (d:=[]) hsr)).2
   obtain⟨c6,xs,ec,slc⟩:=S6.ps.sc i s (by omega) hsr
   rw[h6]at ec slc
   have fr6:=(S6.pc.frr i (by omega)).2.2 s
   have x2d:w5.drew.cell? ⟨GE,2,none⟩=some (.slice (some ⟨gb i,0,none⟩) rn cR):=x2
   have hsI':(s:Int)<(rn:Int):=by omega
   have hgbw:=hold.2.1 i (by omega)
   have hcbw:=hold.2.2 i s (by omega) hsr
   have hcg:=S6.pc.frc i s (by omega) hsr
   have hcgi:=hcg.2.2.1 i (by omega)
   have hlt5:=X5.lt
   have b7:Below w5.drew.heap.size w5.drew (w5.drew.alloc (.cells #[.int .i64 0,.int .u64 0,.int .u64 0] 84)):=(af _ _).alloc (ae _) _
   have sl7:=slc.far b7.size (b7.block (cb i s) (by show cb i s<w5.heap.size;omega))
   have x2a:(w5.alloc (.cells #[.int .i64 0,.int .u64 0,.int .u64 0] 84)).cell? ⟨GE,2,none⟩=some (.slice (some ⟨gb i,0,none⟩) rn cR):=(b7.cell (p:=⟨GE,2,none⟩) (by show GE<w5.heap.size;omega)).trans x2d
   have eca:(w5.alloc (.cells #[.int .i64 0,.int .u64 0,.int .u64 0] 84)).cell? ⟨gb i,s,none⟩=some (.slice (some ⟨cb i s,0,none⟩) 6 c6):=(b7.cell (p:=⟨gb i,s,none⟩) (by show gb i<w5.heap.size;omega)).trans ec
   have hgbB:=hge.2.1 i (by omega)
   have hcbB:=hge.2.2 i s (by omega) hsr
   have HF:Hid (∀D g' o' cap' w9,ApC (w5.drew.alloc (.cells #[.int .i64 0,.int .u64 0,.int .u64 0] 84)) 3 (cb i s) 0 6 (xs++[.int .i64 0,.int .u64 0,.int .u64 0]) w9 g' o' cap'->fE B R ad cap l (D,true) w ((w9.setCell ⟨gb i,s,none⟩ (.slice (some ⟨g',o',none⟩) (6+1) cap')).setCell ⟨w.heap.size+1,0,none⟩ (.slice (some ⟨g,0,none⟩) n cp)) (.slice (some ⟨g,0,none⟩) n cp)):=fun D g' o' cap' w9 A=>by
    have hset:w9.grownBy (w9.setCell ⟨gb i,s,none⟩ (.slice (some ⟨g',o',none⟩) (6+1) cap')) (some (gb i)):=fG (ah _ _) _ _
    have hA2:=A.at'
    have hs7:=b7.size
    have hs9:=A.gr.size
    have hlt9:=A.sl.lt
    have e5:w5.drew.heap.size=w5.heap.size:=rfl
    have hggb:g'≠gb i∧B<=g'∧g'≠w.heap.size+1:=by
     rcases hA2 with⟨h1,_⟩|⟨h1,_⟩
     ·refine⟨by rw[h1];exact hcgi,by rw[h1];omega,by rw[h1];omega⟩
     ·omega
    have r6:w9.cell? ⟨gb i,s,none⟩=some (.slice (some ⟨cb i s,0,none⟩) 6 c6):=(A.lg b7 (b':=gb i) (o:=s) (by omega) (fun e=>hcgi e.1.symm)).trans ec
    have hl7:(fh P i s++[K.zero]).length=7:=by rw[aj,h6];rfl
    have hrd9:=((S6.rd.below b7).grown A.gr hRB (fun k hk=>by simp at hk;omega)).ey (w1:=w9.setCell ⟨gb i,s,none⟩ (.slice (some ⟨g',o',none⟩) (6+1) cap')) (fun k hk=>aE w9 ⟨gb i,s,none⟩ _ k (fun e=>by simp at e;omega))
    have hfr9:=((FrB.of (R:=R) (B:=B) (fJ b7 (r:=none)) (by omega) (fun k hk=>by cases hk)).trans (FrB.of A.gr (by omega) (fun k hk=>by simp at hk;omega))).trans (FrB.of hset (by omega) (fun k hk=>by simp at hk;omega))
    have hbad:=S6.badR (D:=D) (u:=.slice (some ⟨g,0,none⟩) n cp) hPn HP.out (by omega) (i:=i) (s:=s) (r:=fh P i s++[K.zero]) (a:=some ⟨g',o',none⟩) (c:=cap') (cp:=cp) (by omega) hsr ⟨_,hrd9⟩ hfr9 (by rw[hl7];decide) (by rw[hl7];decide) (fun c hc=>by
     simp only[bj,aV]at hc
     rcases hc with hc|hc
     ·exact(mo HOk.out).1.2.2 _ (gq (d:=[]) hsr) c hc
     ·rw[hc];exact K.lB) (by rw[hl7];exact aG _ _ _ r6) (fun w1 hk=> ?_) (fun b o hb h1 h2 h3=>(py h2).trans (A.lg b7 (by omega) (fun e=>h3 e.1))) (by omega)
    ·rw[hn]at hbad;exact hbad
    ·have hks:=hk.size
     simp at hks
     have hx:∀m r,m<7->r<3->w1.cell? ⟨g',o'+(m*3+r),none⟩=(xs++[.int .i64 0,.int .u64 0,.int .u64 0])[m*3+r]? :=fun m r hm hr=>by
      rw[hk.cell g' _ (by simpa using hlt9) hggb.2.1 hggb.2.2,eY hggb.1]
      exact A.sl.cellAt (by omega)
     have hxl:=slc.len
     refine .inr ⟨g',o',rfl,hggb.2.1,by omega,LAt.of K.zero fun m hm=> ?_⟩
     rw[hl7]at hm
     by_cases e:m=6
     ·subst e
      have ek:(fh P i s++[K.zero]).getD 6 K.zero=K.zero:=by rw[aa,aw (by omega),h6];rfl
      rw[ek]
      refine⟨(hx 6 0 (by omega) (by omega)).trans ?_,(hx 6 1 (by omega) (by omega)).trans ?_,(hx 6 2 (by omega) (by omega)).trans ?_⟩
      ·rw[aw (by omega),show 6*3+0-xs.length=0 by omega];rfl
      ·rw[aw (by omega),show 6*3+1-xs.length=1 by omega];rfl
      ·rw[aw (by omega),show 6*3+2-xs.length=2 by omega];rfl
     ·have ek:(fh P i s++[K.zero]).getD m K.zero=(fh P i s).getD m K.zero:=by rw[aa,aD (by omega),aa]
      rw[ek]
      obtain⟨p0,p1,p2⟩:=S6.pc.con i s m (by omega) hsr (by omega)
      have hy:∀r,r<3->w1.cell? ⟨g',o'+(m*3+r),none⟩=w5.drew.cell? ⟨cb i s,m*3+r,none⟩:=fun r hr=>by
       rw[hx m r (by omega) hr,aD (by omega),<-slc.cellAt (j:=m*3+r) (by omega),aC]
      exact⟨(hy 0 (by omega)).trans p0,(hy 1 (by omega)).trans p1,(hy 2 (by omega)).trans p2⟩
   have HQ:Hid (∀g' o' cap' w9,ApC (w5.drew.alloc (.cells #[.int .i64 0,.int .u64 0,.int .u64 0] 84)) 3 (cb i s) 0 6 (xs++[.int .i64 0,.int .u64 0,.int .u64 0]) w9 g' o' cap'->(w9.setCell ⟨gb i,s,none⟩ (.slice (some ⟨g',o',none⟩) (6+1) cap')).cell? ⟨w.heap.size,0,none⟩=some (.slice (some ⟨g,0,none⟩) n cp)∧(w9.setCell ⟨gb i,s,none⟩ (.slice (some ⟨g',o',none⟩) (6+1) cap')).cell? ⟨w.heap.size+1,0,none⟩=some (.slice none 0 0)∧(w9.setCell ⟨gb i,s,none⟩ (.slice (some ⟨g',o',none⟩) (6+1) cap')).frozen? ⟨w.heap.size+1,0,none⟩=false):=fun g' o' cap' w9 A=>by
    have e5:w5.drew.heap.size=w5.heap.size:=rfl
    refine⟨by rw[eY (by omega)];exact(A.lg b7 (by omega) (by omega)).trans c2,by rw[eY (by omega)];exact(A.lg b7 (by omega) (by omega)).trans c4,?_⟩
    have:=(A.yN b7 (b':=w.heap.size+1) (o:=0) (by omega)).trans f4
    simpa using this
   have Hr6:Hid (∀g' o' cap' w9,ApC (w5.drew.alloc (.cells #[.int .i64 0,.int .u64 0,.int .u64 0] 84)) 3 (cb i s) 0 6 (xs++[.int .i64 0,.int .u64 0,.int .u64 0]) w9 g' o' cap'->w9.cell? ⟨gb i,s,none⟩=some (.slice (some ⟨cb i s,0,none⟩) 6 c6)∧w9.frozen? ⟨gb i,s,none⟩=false∧w9.cell? ⟨GE,2,none⟩=some (.slice (some ⟨gb i,0,none⟩) rn cR)):=fun g' o' cap' w9 A=>by
    have e5:w5.drew.heap.size=w5.heap.size:=rfl
    exact⟨(A.lg b7 (b':=gb i) (o:=s) (by omega) (fun e=>hcgi e.1.symm)).trans ec,(A.yN b7 (b':=gb i) (o:=s) (by omega)).trans fr6,(A.lg b7 (b':=GE) (o:=2) (by omega) (by omega)).trans x2d⟩
   clear S5 S6 X5 HP HOk Hasc HB slc b7 hcg hgbB hcbB hold hge
   go_upto_region 18 with fail
   go_region_law(refine ko _ (by rfl) _ _ _ (by rfl) 84 iC _ 3 24 Tryz.underlying55 hiC hC0 hC1 hC2 rfl (by decide) (cb i s) 0 6 c6 xs (by rfl) sl7 ⟨w5.heap.size,0,none⟩ 1 [.int .i64 0,.int .u64 0,.int .u64 0] (by rfl) (by rfl) (World.news_of_block (t:=84) (fr:=(0,0)) (heap_alloc_new w5.drew _)) (by simp[Value.oneCell']) (by unfold maxLen;omega) (by omega) ?_;intro g' o' cap' w9 A;obtain⟨r6,r7,r8⟩:=Hr6.out _ _ _ _ A)
   all_goals
    obtain⟨q2,q4,q5⟩:=HQ.out _ _ _ _ A
    have HF':Hid _:=fun D=>HF.out D _ _ _ _ A
    clear A HF HQ Hr6 sl7 r6 r7 r8 x2a eca ec x2d fr6 c2 f2 c4 f4 x0 x1 x2 e0 e1 e2
    generalize w9.setCell ⟨gb i,s,none⟩ (.slice (some ⟨g',o',none⟩) (6+1) cap')=W9 at*
    go_wp2
    exact bodyPost_ret (v:=.agg #[.slice (some ⟨g,0,none⟩) n cp]) (by simp[results,Tryz.results37,go_sem,q4]) rfl ⟨_,rfl,HF'.out _⟩
  ·exfalso;omega
  ·exfalso;omega
  ·exfalso;omega
end Go.Proofs.YtdihdapmphkhpaaGreat
