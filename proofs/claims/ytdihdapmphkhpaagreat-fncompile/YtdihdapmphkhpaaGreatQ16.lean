import Derived.Test.YtdihdapmphkhpaaGreatQ12
set_option linter.all false
set_option maxRecDepth 200000
set_option maxHeartbeats 16000000
namespace Go.Proofs.YtdihdapmphkhpaaGreat
open Go.RowKit Go.Deep
theorem Iq(P:List E)(hP:∀e∈P,OkE e)(hl4:P.length<=4)(hasc:2<=P.length->jG (P.getD 0 E.zero) (P.getD 1 E.zero)=true)(B R cap:Nat)(ad:Option Addr)(l:List Int)(j:Nat)(v:Value)(rv:Nat->Value)(lo hi:Nat->Nat)(w:World)(hR:Rd w R ad cap l j)(hp:PsD w B v P rv lo hi)(hRB:R<B)(hB:B<=w.heap.size)(hKX:(l.getD j 0%9=2∧P.length<=1)∨5<l.getD j 0%9):
 Calls Tryz.prog 37 #[.agg #[v],.pointer (some ⟨R,0,none⟩)] w fun e w'=>∃v',e=.returned (.agg #[v'])∧fE B R ad cap l ((spP l P j,spN P j),spB l P j) w w' v':=by
 have HSB:Hid (P≠[]->spB l P j=false):=fun hne=>decide_eq_false (fun h=>by obtain⟨_,h⟩:=h;omega)
 have HKX:Hid _:=hKX
 clear hKX
 obtain⟨iE,hiE,hE0,hE1,hE2⟩:=info_parts pt
 obtain⟨iC,hiC,hC0,hC1,hC2⟩:=info_parts oL
 obtain⟨iL,hiL,hL0,hL1,hL2⟩:=info_parts nD
 obtain⟨g,gb,cb,pc,gg,gr1,gc1⟩:=hp.psc
 have ps:=hp.pss pc
 have hge:GeB B P g gb cb:=⟨gg,fun t ht=>by have:=gr1 t ht;have:=hp.lt t ht;omega,fun t s ht hs=>by have:=gc1 t s ht hs;have:=hp.lt t ht;omega⟩
 have hold:(P≠[]->g<w.heap.size)∧(∀t,t<P.length->gb t<w.heap.size)∧∀t s,t<P.length->s<(eu P t).length->cb t s<w.heap.size:=⟨fun hn=>(pc.frg hn).1,fun t ht=>(pc.frr t ht).1,fun t s ht hs=>(pc.frc t s ht hs).1⟩
 have HB:Hid (∀t,0<=l.getD t 0∧l.getD t 0<=255):=ez hR.bys
 have HN:=nxH R cap ad l
 obtain⟨a,cp,ev,hcp,hav⟩:=pc.val
 have S0:SpS w ((w.alloc (.cells #[v] 25)).alloc (.cells #[.slice none 0 0] 25)) R ad cap l j B v P g gb cb:=by
  have b0:Below w.heap.size w (w.alloc (.cells #[v] 25)):=(af _ _).alloc (ae _) _
  have b1:=b0.alloc (by simp) (.cells #[.slice none 0 0] 25)
  have hbl:∀k,k<w.heap.size->((w.alloc (.cells #[v] 25)).alloc (.cells #[.slice none 0 0] 25)).heap[k]? =w.heap[k]? :=fun k hk=>b1.block k hk
  have q1:=gw w v 25 _ rfl
  have e1:(w.alloc (.cells #[v] 25)).heap.size=w.heap.size+1:=by simp
  have q2:=gw (w.alloc (.cells #[v] 25)) (.slice none 0 0) 25 _ rfl
  rw[e1]at q2
  obtain⟨c3,c4⟩:=eB (g:=w.heap.size) (o:=0) (fu (ah (w.alloc (.cells #[v] 25)) none) (.cells #[.slice none 0 0] 25)) (by omega) (by simp)
  exact⟨hR.below b1,fJ b1,hRB,hB,pc.far b1.size (fun hn=>hbl _ (hold.1 hn)) (fun t ht=>hbl _ (hold.2.1 t ht)) (fun t s ht hs=>hbl _ (hold.2.2 t s ht hs)),ps.far b1.size (fun hn=>hbl _ (hold.1 hn)) (fun t ht=>hbl _ (hold.2.1 t ht)) (fun t s ht hs=>hbl _ (hold.2.2 t s ht hs)),hge,hold,c3.trans q1.1,c4.trans q1.2,q2.1,q2.2,by simp⟩
 subst ev
 clear pc ps hp gg gr1 gc1 hR
 have hx:=HB.out j
 have HN0:=nx1 R cap ad l j (j+1) rfl
 by_cases hPn:P=[]
 ·have hsp:spP l P j=P:=by unfold spP;rw[if_pos hPn]
  have hsn:spN P j=j+1:=by unfold spN;rw[if_pos hPn]
  have hsb:spB l P j=false:=by unfold spB;simp[hPn]
  rw[hsp,hsn,hsb]
  clear hsn hsb HSB
  clear hsp HN
  have hln:P.length=0:=by rw[hPn];rfl
  rw[hln]at S0
  rw[hln]
  generalize l.getD j 0=x at*
  go_enter Tryz.func37,Tryz.ntmps37
  go_wp2_with fail
  refine(HN0.out _ S0.rd).mono ?_
  generalize((w.alloc (.cells #[.slice a 0 cp] 25)).alloc (.cells #[.slice none 0 0] 25))=W0 at*
  rintro _ w1⟨rfl,hR1,hg1⟩
  have S1:=S0.draw hR1 hg1
  clear S0 hR1 hg1 HN0
  have c2:=S1.c2
  have f4:=S1.f4
  have c4:=S1.c4
  have Hsz:=S1.sz
  have HF:Hid (fE B R ad cap l ((P,j+1),false) w (w1.setCell ⟨w.heap.size+1,0,none⟩ (.slice a 0 cp)) (.slice a 0 cp)):=by
   have hset:w1.grownBy (w1.setCell ⟨w.heap.size+1,0,none⟩ (.slice a 0 cp)) (some (w.heap.size+1)):=fG (ah _ _) 0 _
   have hrd':=S1.rd.ey (w1:=w1.setCell ⟨w.heap.size+1,0,none⟩ (.slice a 0 cp)) (fun k hk=>aE w1 ⟨w.heap.size+1,0,none⟩ _ k (fun e=>by simp at e;omega))
   refine⟨⟨_,hrd'⟩,(FrB.of S1.gr hB (fun k hk=>by simp at hk;omega)).trans (FrB.of hset (by omega) (fun k hk=>by simp at hk;omega)),.inr ⟨rfl,hrd',g,gb,cb,S1.pc.far (by simp) (fun hn=>absurd hPn hn) (fun t ht=>by omega) (fun t s ht=>by omega),S1.ge⟩⟩
  clear S1
  go_wp2
  exact bodyPost_ret (v:=.agg #[.slice a 0 cp]) (by simp[results,Tryz.results37,go_sem,c4]) rfl ⟨_,rfl,HF.out⟩
 ·have ha:=hav hPn
  subst ha
  clear hav
  have hl0:0<P.length:=cZ.2 hPn
  obtain⟨n,hn⟩:∃n,P.length=n:=⟨_,rfl⟩
  rw[hn]at S0 hcp hl4 hl0⊢
  try rw[hn]at HKX
  obtain⟨i,hi⟩:∃i,spI l P j=i:=⟨_,rfl⟩
  have hy:=HB.out (j+1)
  have hi1:¬(n:Int)=0:=by omega
  have hiI:(i:Int)=l.getD (j+1) 0%(n:Int):=by
   rw[<-hi,spI,hn];have:=cf (l.getD (j+1) 0) hi1;omega
  have hin:i<n:=by have:=bQ (l.getD (j+1) 0) (show(0:Int)<n by omega);omega
  have hOk:=hP _ (gq (l:=P) (d:=E.zero) (i:=i) (by omega))
  obtain⟨e0,e1,cR,hcR,e2⟩:=S0.pc.ent i (by omega)
  obtain⟨rn,hrn⟩:∃rn,(eu P i).length=rn:=⟨_,rfl⟩
  have hr0:0<rn:=by rw[<-hrn];exact hOk.2.2.1
  have hr9:rn<=9:=by rw[<-hrn];exact hOk.2.2.2
  rw[hrn]at e2 hcR
  obtain⟨s,hs⟩:∃s,spJ l P j=s:=⟨_,rfl⟩
  have hz:=HB.out (j+2)
  have hs1:¬(rn:Int)=0:=by omega
  have hsI:(s:Int)=l.getD (j+2) 0%(rn:Int):=by
   rw[<-hs,spJ,hi,hrn];have:=cf (l.getD (j+2) 0) hs1;omega
  have hsn:s<rn:=by have:=bQ (l.getD (j+2) 0) (show(0:Int)<rn by omega);omega
  obtain⟨m,hm⟩:∃m,spM l j=m:=⟨_,rfl⟩
  have hu:=HB.out (j+3)
  have hmI:(m:Int)=l.getD (j+3) 0%6:=by rw[<-hm,spM];omega
  have hm6:m<6:=by omega
  have hsp:spP l P j=nG P i s m (spK ((fh P i s).getD m K.zero) (l.getD (j+4) 0)):=by unfold spP;rw[if_neg hPn,hi,hs,hm]
  have hspn:spN P j=j+5:=by unfold spN;rw[if_neg hPn]
  rw[hsp,hspn,HSB.out hPn]
  clear hsp hspn hi hs hm HSB
  obtain⟨C,hC⟩:∃C,(fh P i s).getD m K.zero=C:=⟨_,rfl⟩
  rw[hC]
  obtain⟨C2,hC2⟩:∃C2,spK C (l.getD (j+4) 0)=C2:=⟨_,rfl⟩
  rw[hC2]
  have HC:Hid _:=hC
  have HC2:Hid _:=hC2
  clear hC hC2
  have HN1:=nx1 R cap ad l (j+1) (j+2) rfl
  have HN2:=nx1 R cap ad l (j+2) (j+3) rfl
  have HN3:=nx1 R cap ad l (j+3) (j+4) rfl
  clear HN
  generalize l.getD j 0=x at*
  generalize l.getD (j+1) 0=y at*
  generalize l.getD (j+2) 0=z at*
  generalize l.getD (j+3) 0=u at*
  have HiI:Hid _:=hiI
  have HsI:Hid _:=hsI
  have HmI:Hid _:=hmI
  have HOk:Hid _:=hOk
  have HP:Hid _:=hP
  have Hasc:Hid _:=hasc
  clear hiI hsI hmI hOk hP hasc
  have hng:¬(n:Int)==0:=by simpa using hi1
  go_enter Tryz.func37,Tryz.ntmps37
  go_wp2_with fail
  refine(HN0.out _ S0.rd).mono ?_
  clear e0 e1 e2
  generalize((w.alloc (.cells #[.slice (some ⟨g,0,none⟩) n cp] 25)).alloc (.cells #[.slice none 0 0] 25))=W0 at*
  rintro _ w1⟨rfl,hR1,hg1⟩
  have S1:=S0.draw hR1 hg1
  clear S0 hR1 hg1 HN0
  have c2:=S1.c2
  go_wp2_with fail
  refine(HN1.out _ S1.rd).mono ?_
  rintro _ w2⟨rfl,hR2,hg2⟩
  have S2:=S1.draw hR2 hg2
  clear S1 hR2 hg2 HN1 c2
  go_upto_region 6 with fail
  rw[<-HiI.out]
  have c2:=S2.c2
  obtain⟨e0,e1,cR,hcR,e2⟩:=S2.pc.ent i (by omega)
  rw[hrn]at e2 hcR
  have X3:=fY.new w2 53 (.int .u32 (P.getD i E.zero).et) (.int .u32 (P.getD i E.zero).nr) (.slice (some ⟨gb i,0,none⟩) rn cR)
  have S3:=S2.below ((af _ _).alloc (ae _) (.cells #[.int .u32 (P.getD i E.zero).et,.int .u32 (P.getD i E.zero).nr,.slice (some ⟨gb i,0,none⟩) rn cR] 53))
  have hGE:w.heap.size+1<w2.heap.size:=S2.sz
  clear HiI
  obtain⟨ar,har⟩:∃ar,(P.getD i E.zero).et=ar:=⟨_,rfl⟩
  obtain⟨nr,hnr⟩:∃nr,(P.getD i E.zero).nr=nr:=⟨_,rfl⟩
  rw[har,hnr]at X3 S3
  rw[har]at e0
  rw[hnr]at e1
  have Har:Hid _:=har
  have Hnr:Hid _:=hnr
  clear har hnr
  go_upto_region 7 with fail
  have k2:=(eB (g:=g) (o:=i*3+2) (fu (ah w2 (some R)) (.cells #[.int .u32 ar,.int .u32 nr,.slice (some ⟨gb i,0,none⟩) rn cR] 53)) (S2.pc.frg hPn).1 (by simp;have:=hge.1 hPn;omega)).1.trans e2
  clear e0 e1 e2 c2 S2
  generalize(w2.alloc (.cells #[.int .u32 ar,.int .u32 nr,.slice (some ⟨gb i,0,none⟩) rn cR] 53))=W3 at*
  generalize w2.heap.size=GE at*
  have hRGE:R≠GE:=by omega
  have Sd:=S3.below (af _ _).drew
  have Xd:fY W3.drew GE (.int .u32 ar) (.int .u32 nr) (.slice (some ⟨gb i,0,none⟩) rn cR):=X3.ey (af _ _).drew
  obtain⟨_,_,_,xd2,_,_,_⟩:=Xd
  have kd:W3.drew.cell? ⟨g,i*3+2,none⟩=some (.slice (some ⟨gb i,0,none⟩) rn cR):=k2
  have hgR:some g≠some R:=by simp;have:=hge.1 hPn;omega
  have Xd:fY W3.drew GE (.int .u32 ar) (.int .u32 nr) (.slice (some ⟨gb i,0,none⟩) rn cR):=X3.ey (af _ _).drew
  have hrn0:¬rn=0:=by omega
  have hzt:z.tmod (rn:Int)=(s:Int):=by rw[cH hz.1];exact HsI.out.symm
  apply wp_cut (R:=fun W'=>SpS w W' R ad cap l (j+3) B (.slice (some ⟨g,0,none⟩) n cp) P g gb cb∧fY W' GE (.int .u32 ar) (.int .u32 nr) (.slice (some ⟨gb i,0,none⟩) rn cR)∧W'.cell? ⟨g,i*3+2,none⟩=some (.slice (some ⟨gb i,0,none⟩) rn cR))
  case h=>
   go_region_law(first
    |(go_simp;go_at_call 18;refine(HN2.out _ Sd.rd).mono ?_;rintro _ w4⟨rfl,hR4,hg4⟩;have S4:=Sd.draw hR4 hg4;have X4:=Xd.gX hg4 (fun e=>hRGE (by simpa using e.symm));obtain⟨_,_,_,x42,_,_,_⟩:=id X4;have k4:=(eB (g:=g) (o:=i*3+2) hg4 (Sd.pc.frg hPn).1 hgR).1.trans kd;go_wp2_with fail))
   all_goals exact xU.mk rfl ⟨S4,X4,k4⟩
  rintro W4⟨S4,X4,k4⟩
  clear S3 Sd X3 Xd xd2 HN2 hzt k2 kd
  go_wp2_with fail
  refine(HN3.out _ S4.rd).mono ?_
  rintro _ w5⟨rfl,hR5,hg5⟩
  have S5:=S4.draw hR5 hg5
  have X5:=X4.gX hg5 (fun e=>hRGE (by simpa using e.symm))
  have k5:=(eB (g:=g) (o:=i*3+2) hg5 (S4.pc.frg hPn).1 hgR).1.trans k4
  clear S4 X4 hR5 hg5 HN3 k4
  go_upto_region 9 with fail
  rw[<-HmI.out]
  clear HmI
  have hk9:x%9=0∨x%9=1∨(x%9=2∧1<n)∨x%9=3∨x%9=4∨x%9=5∨(x%9=2∧n=1)∨(5<x%9∧x%9<9):=by omega
  generalize x%9=kk at*
  clear hx hy hz hu hng hi1 hs1
  have c2:=S5.c2
  have f2:=S5.f2
  have c4:=S5.c4
  have f4:=S5.f4
  obtain⟨_,x0,x1,x2,_,_,_⟩:=id X5
  have hKX:=HKX.out
  obtain⟨e0,e1,_⟩:=S5.pc.ent i (by omega)
  have e2:=k5
  clear k5
  have hgB:=hge.1 hPn
  have hgw:=hold.1 hPn
  have hsz5:=S5.sz
  have hRb:∀b,B<=b->B<=b:=fun b hb=>hb
  rcases hk9 with rfl|rfl|⟨rfl,h1n⟩|rfl|rfl|rfl|⟨hke,hn1⟩|hk9
  ·exfalso;omega
  ·exfalso;omega
  ·exfalso;omega
  ·exfalso;omega
  ·exfalso;omega
  ·exfalso;omega
  all_goals
   have S6:=S5.below (af _ _).drew
   have hsr:s<(eu P i).length:=by omega
   have h6:(fh P i s).length=6:=(HOk.out.2.1 _ (gq (d:=[]) hsr)).2
   have hmr:m<(fh P i s).length:=by omega
   obtain⟨c6,xs,ec,slc⟩:=S6.ps.sc i s (by omega) hsr
   rw[h6]at ec
   have hCok:((fh P i s).getD m K.zero).ok:=(mo HOk.out).1.2.2 _ (gq (d:=[]) hsr) _ (gq hmr)
   obtain⟨p0,p1,p2⟩:=S6.pc.con i s m (by omega) hsr hmr
   have hcbR:cb i s≠R:=by have:=hge.2.2 i s (by omega) hsr;omega
   have hgbR:gb i≠R:=by have:=hge.2.1 i (by omega);omega
   have hgbw:=hold.2.1 i (by omega)
   have hcbw:=hold.2.2 i s (by omega) hsr
   have hlt5:=X5.lt
   rw[HC.out]at hCok p0 p1 p2
   have HSp:Hid (∀W,Rd W R ad cap l (j+4)->Calls Tryz.prog 77 #[.agg #[.int .i64 C.kind,.int .u64 (C.a:Int),.int .u64 (C.b:Int)],.pointer (some ⟨R,0,none⟩)] W fun e w'=>e=.returned (.agg #[.int .i64 C2.kind,.int .u64 (C2.a:Int),.int .u64 (C2.b:Int)])∧Rd w' R ad cap l (j+5)∧W.grownBy w' (some R)):=fun W h=>by
    rw[<-HC2.out];exact xR C hCok R cap ad l (j+4) W h
   have HF:Hid (∀w7,SpS w w7 R ad cap l (j+5) B (.slice (some ⟨g,0,none⟩) n cp) P g gb cb->fE B R ad cap l ((nG P i s m C2,j+5),false) w ((((w7.setCell ⟨cb i s,m*3,none⟩ (.int .i64 C2.kind)).setCell ⟨cb i s,m*3+1,none⟩ (.int .u64 (C2.a:Int))).setCell ⟨cb i s,m*3+2,none⟩ (.int .u64 (C2.b:Int))).setCell ⟨w.heap.size+1,0,none⟩ (.slice (some ⟨g,0,none⟩) n cp)) (.slice (some ⟨g,0,none⟩) n cp)):=fun w7 S7=>S7.good (by omega) hsr hmr C2
   have HK:Hid (∀w7,w5.drew.grownBy w7 (some R)->SpS w w7 R ad cap l (j+5) B (.slice (some ⟨g,0,none⟩) n cp) P g gb cb->w7.cell? ⟨GE,2,none⟩=some (.slice (some ⟨gb i,0,none⟩) rn cR)∧w7.cell? ⟨gb i,s,none⟩=some (.slice (some ⟨cb i s,0,none⟩) 6 c6)∧w7.cell? ⟨cb i s,m*3,none⟩=some (.int .i64 C.kind)∧w7.cell? ⟨cb i s,m*3+1,none⟩=some (.int .u64 (C.a:Int))∧w7.cell? ⟨cb i s,m*3+2,none⟩=some (.int .u64 (C.b:Int))∧w7.frozen? ⟨cb i s,m*3,none⟩=false∧w7.frozen? ⟨cb i s,m*3+1,none⟩=false∧w7.frozen? ⟨cb i s,m*3+2,none⟩=false):=fun w7 hg S7=>by
    have e5:w5.drew.heap.size=w5.heap.size:=rfl
    have k1:=(eB (g:=GE) (o:=2) hg (by omega) (by simp;omega)).1.trans x2
    have k2:=(eB (g:=gb i) (o:=s) hg (by omega) (by simp;exact hgbR)).1.trans ec
    have kc:=fun o=>(eB (g:=cb i s) (o:=o) hg (by omega) (by simp;exact hcbR)).1
    have fz:=(S7.pc.frc i s (by omega) hsr).2.2.2
    exact⟨k1,k2,(kc _).trans p0,(kc _).trans p1,(kc _).trans p2,fz _,fz _,fz _⟩
   have HE:Hid (∀w7,SpS w w7 R ad cap l (j+5) B (.slice (some ⟨g,0,none⟩) n cp) P g gb cb->((((w7.setCell ⟨cb i s,m*3,none⟩ (.int .i64 C2.kind)).setCell ⟨cb i s,m*3+1,none⟩ (.int .u64 (C2.a:Int))).setCell ⟨cb i s,m*3+2,none⟩ (.int .u64 (C2.b:Int)))).cell? ⟨w.heap.size,0,none⟩=some (.slice (some ⟨g,0,none⟩) n cp)∧((((w7.setCell ⟨cb i s,m*3,none⟩ (.int .i64 C2.kind)).setCell ⟨cb i s,m*3+1,none⟩ (.int .u64 (C2.a:Int))).setCell ⟨cb i s,m*3+2,none⟩ (.int .u64 (C2.b:Int)))).cell? ⟨w.heap.size+1,0,none⟩=some (.slice none 0 0)∧((((w7.setCell ⟨cb i s,m*3,none⟩ (.int .i64 C2.kind)).setCell ⟨cb i s,m*3+1,none⟩ (.int .u64 (C2.a:Int))).setCell ⟨cb i s,m*3+2,none⟩ (.int .u64 (C2.b:Int)))).frozen? ⟨w.heap.size+1,0,none⟩=false):=fun w7 S7=>by
    refine⟨by rw[eY (by omega),eY (by omega),eY (by omega)];exact S7.c2,by rw[eY (by omega),eY (by omega),eY (by omega)];exact S7.c4,?_⟩
    have:=S7.f4
    simpa using this
   try(have hk0:¬kk=0:=by omega)
   try(have hk1:¬kk=1:=by omega)
   try(have hk2:¬kk=2:=by omega)
   try(have hk3:¬kk=3:=by omega)
   try(have hk4:¬kk=4:=by omega)
   try(have hk5:¬kk=5:=by omega)
   try(have hn1':¬(1:Int)<(n:Int):=by omega)
   try(have hk2b:(kk==2)=true:=by rw[hke];rfl)
   try clear hke
   have x2d:w5.drew.cell? ⟨GE,2,none⟩=some (.slice (some ⟨gb i,0,none⟩) rn cR):=x2
   have hsI':(s:Int)<(rn:Int):=by omega
   have hmI':(m:Int)<6:=by omega
   have hGEc:GE≠cb i s:=by omega
   have hgbc:gb i≠cb i s:=fun e=>(S6.pc.frc i s (by omega) hsr).2.2.1 i (by omega) e.symm
   clear S5 X5 HP HOk Hasc HB slc hCok hold hge x0 x1 e0 e1 e2 HC HC2
   try clear hk9
   try clear hn1
   clear hKX HKX
   go_upto_region 22 with fail
   clear hGEc hgbc hcbR hgbR hgbw hcbw hlt5 hRb hsz5 c2 f2 c4 f4 x2
   try clear hn1'
   try clear hk2b
   try clear hk0 hk1 hk3 hk4 hk5
   try clear hk2
   apply wp_cut (R:=fun W'=>∃w7,SpS w w7 R ad cap l (j+5) B (.slice (some ⟨g,0,none⟩) n cp) P g gb cb∧W'=(((w7.setCell ⟨cb i s,m*3,none⟩ (.int .i64 C2.kind)).setCell ⟨cb i s,m*3+1,none⟩ (.int .u64 (C2.a:Int))).setCell ⟨cb i s,m*3+2,none⟩ (.int .u64 (C2.b:Int))))
   case h=>
    go_region_law(first
     |(go_simp;go_at_call 77;refine(HSp.out _ S6.rd).mono ?_;rintro _ w7⟨rfl,hR7,hg7⟩;have S7:=S6.draw hR7 hg7;obtain⟨y1,y2,y3,y4,y5,y6,y7,y8⟩:=HK.out _ hg7 S7;go_wp2_with fail))
    all_goals exact xU.mk rfl ⟨w7,S7,rfl⟩
   rintro W6⟨w7,S7,rfl⟩
   all_goals
    obtain⟨q2,q4,q5⟩:=HE.out _ S7
    have HF':Hid _:=HF.out _ S7
    clear S7 S6 HE HF HK HSp p0 p1 p2 x2d ec
    generalize((w7.setCell ⟨cb i s,m*3,none⟩ (.int .i64 C2.kind)).setCell ⟨cb i s,m*3+1,none⟩ (.int .u64 (C2.a:Int))).setCell ⟨cb i s,m*3+2,none⟩ (.int .u64 (C2.b:Int))=W9 at*
    go_wp2
    exact bodyPost_ret (v:=.agg #[.slice (some ⟨g,0,none⟩) n cp]) (by simp[results,Tryz.results37,go_sem,q4]) rfl ⟨_,rfl,HF'.out⟩
end Go.Proofs.YtdihdapmphkhpaaGreat
