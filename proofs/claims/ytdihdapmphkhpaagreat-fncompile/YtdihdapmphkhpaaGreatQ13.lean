import Derived.Test.YtdihdapmphkhpaaGreatQ12
set_option linter.all false
set_option maxRecDepth 200000
set_option maxHeartbeats 16000000
namespace Go.Proofs.YtdihdapmphkhpaaGreat
open Go.RowKit Go.Deep
theorem yD(P:List E)(hok:okP P)(hbd:BdP P)(a:Option Addr)(c B R cap:Nat)(ad:Option Addr)(l:List Int)(j:Nat)(w:World)(hR:Rd w R ad cap l j)(hRB:R<B)(hP:ga B 3 (PEB B) w a P):
 Calls Tryz.prog 17 #[.agg #[.slice a P.length c],.pointer (some ⟨R,0,none⟩)] w (ql w R ad cap l (oq l P j)):=by
 have HB:Hid (∀t,0<=l.getD t 0∧l.getD t 0<=255):=ez hR.bys;have HN:=nxH R cap ad l;have hRw:=hR.lt;have hcok:=FN l hR.bys (j+1);have HCa:Hid (∀W,Rd W R ad cap l (j+1)->Calls Tryz.prog 38 #[.pointer (some ⟨R,0,none⟩)] W fun e w'=>∃q cq,e=.returned (.agg #[.int .u32 (mN l (j+1)).et,.int .u32 (mN l (j+1)).nr,.slice (some ⟨q,0,none⟩) 6 cq])∧iq w' W.heap.size (.slice (some ⟨q,0,none⟩) 6 cq) (mN l (j+1)).args∧Rd w' R ad cap l (oH l (j+1))∧W.grownBy w' (some R)):=fun W h=>(yx R cap ad l (j+1) W h).mono fun e w'⟨v,h1,h2,h3,h4⟩=>by
  obtain⟨q,cq,ev,_⟩:=h2.form (by rw[hcok.2];decide);subst ev;rw[hcok.2]at h1 h2;exact⟨q,cq,h1,h2,h3,h4⟩
 have HD0:Hid (P.length=0∨l.getD j 0%10=0->oq l P j=(mN l (j+1),oH l (j+1))):=fun h=>by unfold oq;rw[if_pos h]
 have HD1:Hid (¬(P.length=0∨l.getD j 0%10=0)->oq l P j=forF l (l.getD j 0%10) (P.getD (tK l P.length (oH l (j+1))) E.zero) (mN l (j+1)).args (oH l (j+1)+1)):=fun h=>by unfold oq;rw[if_neg h]
 generalize oq l P j=RES at*;have hx:=HB.out j;have HN0:=nx1 R cap ad l j (j+1) rfl;generalize mN l (j+1)=C at*;generalize oH l (j+1)=J1 at*;generalize l.getD j 0=x at*;obtain⟨car,cnr,cargs⟩:=C;simp only at HCa hcok HD1;obtain⟨⟨ha1,ha2,hn1,hn2,hcu⟩,hc6⟩:=hcok;have hca:0<=car∧car<=4294967295:=⟨ha1,ha2⟩;have hcn:0<=cnr∧cnr<=4294967295:=⟨hn1,hn2⟩;clear ha1 ha2 hn1 hn2;obtain⟨n,hn⟩:∃n,P.length=n:=⟨_,rfl⟩;rw[hn];rw[hn]at HD0 HD1;have b0:Below w.heap.size w (w.alloc (.cells #[.slice a n c] 25)):=(af _ _).alloc (ae _) _;have x0:=nZ w 25 (.slice a n c);have e0:(w.alloc (.cells #[.slice a n c] 25)).heap.size=w.heap.size+1:=by simp
 have b1:Below (w.heap.size+1) (w.alloc (.cells #[.slice a n c] 25)) ((w.alloc (.cells #[.slice a n c] 25)).alloc (.cells #[.int .u32 0,.int .u32 0,.slice none 0 0] 29)):=(af _ _).alloc (by simp) _;have x1:=fY.new (w.alloc (.cells #[.slice a n c] 25)) 29 (.int .u32 0) (.int .u32 0) (.slice none 0 0);rw[e0]at x1;have y0:=(b1.cell (p:=⟨w.heap.size,0,none⟩) (by show w.heap.size<w.heap.size+1;omega)).trans x0;have B2:=b0.trans (b1.mono (by omega));have e2:w.heap.size+2<=((w.alloc (.cells #[.slice a n c] 25)).alloc (.cells #[.int .u32 0,.int .u32 0,.slice none 0 0] 29)).heap.size:=by simp
 clear b0 x0 e0 b1;have hR2:=hR.below B2;clear hR;go_enter Tryz.func17,Tryz.ntmps17;go_wp2_with fail;generalize((w.alloc (.cells #[.slice a n c] 25)).alloc (.cells #[.int .u32 0,.int .u32 0,.slice none 0 0] 29))=W2 at*;refine(HN0.out _ hR2).mono ?_;rintro _ w3⟨rfl,hR3,hg3⟩;have x3:=x1.gX hg3 (fun e=>by simp at e;omega);have y3:=(eB (g:=w.heap.size) (o:=0) hg3 (by omega) (by simp;omega)).1.trans y0;have g3:=eU (fJ B2) hg3;have e3:=aW e2 hg3.size;clear x1 y0 hR2 hg3 B2 e2 HN0;go_wp2_with fail;refine(HCa.out _ hR3).mono ?_;rintro _ w4⟨q,cq,rfl,ho4,hR4,hg4⟩;have D5:DfS w (w4.alloc (.cells #[.int .u32 car,.int .u32 cnr,.slice (some ⟨q,0,none⟩) 6 cq] 29)) R ad cap l J1 (.slice a n c) w4.heap.size car cnr q cq cargs:=by
  have b5:Below w4.heap.size w4 (w4.alloc (.cells #[.int .u32 car,.int .u32 cnr,.slice (some ⟨q,0,none⟩) 6 cq] 29)):=(af _ _).alloc (ae _) _;have h4:=hg4.size;have hq:=ho4.lt q rfl;have y4:=(eB (g:=w.heap.size) (o:=0) hg4 (by omega) (by simp;omega)).1.trans y3;exact⟨hR4.below b5,eU (eU g3 hg4) (fJ b5),hRw,(b5.cell (p:=⟨w.heap.size,0,none⟩) (by show w.heap.size<_;omega)).trans y4,fY.new w4 _ _ _ _,(x3.gX hg4 (fun e=>by simp at e;omega)).ey b5,pG (qT ho4 e3) b5,hc6,hcu,by omega,by omega,hca,hcn⟩
 clear x3 y3 ho4 hR4 hg4 g3 e3 HCa hR3;go_upto_region 3 with fail
 generalize(w4.alloc (.cells #[.int .u32 car,.int .u32 cnr,.slice (some ⟨q,0,none⟩) 6 cq] 29))=W5 at*;generalize w4.heap.size=G at*;have hk10:0<=x%10∧x%10<10:=by omega
 generalize x%10=kk at*;have HFin:Hid (∀W jj ar nr args,DfS w W R ad cap l jj (.slice a n c) G ar nr q cq args->ql w R ad cap l (⟨ar,nr,args⟩,jj) (.returned (.agg #[.int .u32 ar,.int .u32 nr,.slice (some ⟨q,0,none⟩) 6 cq])) (((W.setCell ⟨w.heap.size+1,0,none⟩ (.int .u32 ar)).setCell ⟨w.heap.size+1,1,none⟩ (.int .u32 nr)).setCell ⟨w.heap.size+1,2,none⟩ (.slice (some ⟨q,0,none⟩) 6 cq))):=fun W jj ar nr args D=>D.fin _ _ _
 have hcs:n=0∨(¬n=0∧kk=0)∨(¬n=0∧¬kk=0):=by omega
 rcases hcs with hn0|⟨hn0,hk0⟩|⟨hn0,hk0⟩
 ·have hn0':(n:Int)=0:=by omega
  have hRES:=HD0.out (.inl hn0);subst hRES;have Hn0:Hid _:=hn0;clear hn0;have HF':Hid _:=HFin.out _ _ _ _ _ D5;obtain⟨_,c0,c1,c2,_,_,_⟩:=D5.box;obtain⟨_,d0,d1,d2,f0,f1,f2⟩:=D5.ans;have p0:=D5.pc;clear D5 HFin HN HB HD0 HD1;go_wp2;exact bodyPost_ret (v:=.agg #[.int .u32 car,.int .u32 cnr,.slice (some ⟨q,0,none⟩) 6 cq]) (by simp[results,Tryz.results17,go_sem,d0,d1,d2]) rfl HF'.out
 ·subst hk0;have hRES:=HD0.out (.inr rfl);subst hRES;have HF':Hid _:=HFin.out _ _ _ _ _ D5;obtain⟨_,c0,c1,c2,_,_,_⟩:=D5.box;obtain⟨_,d0,d1,d2,f0,f1,f2⟩:=D5.ans;have p0:=D5.pc;clear D5 HFin HN HB HD0 HD1;go_wp2;exact bodyPost_ret (v:=.agg #[.int .u32 car,.int .u32 cnr,.slice (some ⟨q,0,none⟩) 6 cq]) (by simp[results,Tryz.results17,go_sem,d0,d1,d2]) rfl HF'.out
 have hRES:=HD1.out (by omega);clear HD0 HD1;have hne:P≠[]:=fun e=>hn0 (by rw[<-hn,e];rfl)
 rcases hP with hP|⟨b,o,ha,hbB,hbw,hcs⟩
 ·exact absurd hP hne
 subst ha;have hy:=HB.out J1;have HN5:=nx1 R cap ad l J1 (J1+1) rfl;have hfi:tK l n J1=(l.getD J1 0%(n:Int)).toNat:=rfl;generalize l.getD J1 0=y at*;obtain⟨i,hi⟩:∃i:Nat,(i:Int)=y%(n:Int):=⟨(y%(n:Int)).toNat,by have:=cf y (show(n:Int)≠0 by omega);omega⟩;have hfi':tK l n J1=i:=by rw[hfi];omega
 rw[hfi']at hRES;clear hfi hfi';have hin:i<n:=by have:=bQ y (show(0:Int)<n by omega);omega
 have hyt:y.tmod (n:Int)=(i:Int):=by rw[cH hy.1];exact hi.symm
 have hin':(i:Int)<(n:Int):=by omega
 obtain⟨hoa,hon,hor⟩:=mQ hok i;have hmem:P.getD i E.zero∈P:=gq (by omega);have hrl:(P.getD i E.zero).rules.length<=300:=(hbd.2 _ hmem).1;have hrc:=(hbd.2 _ hmem).2;obtain⟨k0,k1,a2,cap2,k2,hrs⟩:=hcs.get (i:=i) (by omega) E.zero;clear hcs hi hmem hbd hok;generalize P.getD i E.zero=en at*;obtain⟨ear,enr,rs⟩:=en;simp only at hoa hon hor hrl hrc k0 k1 k2 hrs;have HK:Hid (∀W,w.grownBy W (some R)->W.cell? ⟨b,o+i*3,none⟩=some (.int .u32 ear)∧W.cell? ⟨b,o+i*3+1,none⟩=some (.int .u32 enr)∧W.cell? ⟨b,o+i*3+2,none⟩=some (.slice a2 rs.length cap2)):=fun W hg=>⟨((oD hg hRB).cell hbB hbw).trans k0,((oD hg hRB).cell hbB hbw).trans k1,((oD hg hRB).cell hbB hbw).trans k2⟩
 have hnB:((n:Int)==0)=false:=by simp;omega
 have hkB:(kk==0)=false:=by simp;exact hk0
 have p5:=D5.pc;obtain⟨rl,hrl'⟩:∃rl,rs.length=rl:=⟨_,rfl⟩;rw[hrl']at HK hrl;have Hrl:Hid _:=hrl';have Hrc:Hid _:=hrc;have Hor:Hid _:=hor;have Hrs:Hid _:=hrs;clear hrl' hrc hor hrs k0 k1 k2;have Dd:=D5.below (af _ _).drew;have Da:=Dd.below ((af _ _).alloc (ae _) (.cells #[.int .u32 0,.int .u32 0,.slice none 0 0] 53));have Z0:fY (W5.drew.alloc (.cells #[.int .u32 0,.int .u32 0,.slice none 0 0] 53)) W5.heap.size (.int .u32 0) (.int .u32 0) (.slice none 0 0):=fY.new W5.drew 53 (.int .u32 0) (.int .u32 0) (.slice none 0 0);have hGz:G<W5.heap.size:=D5.box.lt;have hqz':q≠W5.heap.size:=dP (D5.own.lt q rfl).2;have hGz':G≠W5.heap.size:=dP hGz;have hDz:w.heap.size+1<W5.heap.size:=by have:=D5.hG;omega
 have hzR:some W5.heap.size≠some R:=by have:=Dd.lt;have:=Dd.hG;simp;omega
 have p0:=Dd.pc;have pa:(W5.alloc (.cells #[.int .u32 0,.int .u32 0,.slice none 0 0] 53)).cell? ⟨w.heap.size,0,none⟩=some (.slice (some ⟨b,o,none⟩) n c):=Da.pc;go_upto_region 5 with fail
 clear p5;apply zt (R:=fun GE W'=>DfS w W' R ad cap l (J1+1) (.slice (some ⟨b,o,none⟩) n c) G car cnr q cq cargs∧fY W' GE (.int .u32 ear) (.int .u32 enr) (.slice a2 rl cap2)∧G<GE)
 case h=>
  go_region_law(first
   |(go_simp;go_at_call 18;refine(HN5.out _ Dd.rd).mono ?_;rintro _ w7⟨rfl,hR7,hg7⟩;have D7:=Dd.draw hR7 hg7;have p7:=D7.pc;obtain⟨u0,u1,u2⟩:=HK.out _ D7.gr;have D8:=D7.below ((af _ _).alloc (ae _) (.cells #[.int .u32 0,.int .u32 0,.slice none 0 0] 53));obtain⟨z0,z1,z2⟩:=HK.out _ D8.gr;have p8:=D8.pc;go_wp2_with fail)
   |(go_simp;go_at_call 18;refine(HN5.out _ Da.rd).mono ?_;rintro _ w7⟨rfl,hR7,hg7⟩;have D7:=Da.draw hR7 hg7;have p7:=D7.pc;obtain⟨u0,u1,u2⟩:=HK.out _ D7.gr;have Z7:=Z0.gX hg7 hzR;obtain⟨_,z0,z1,z2,zf0,zf1,zf2⟩:=id Z7;go_wp2_with fail))
  all_goals first
   |(generalize hgz:w7.heap.size=gz;refine vE.mk gz rfl ?_;subst hgz;exact⟨D7.below ((af _ _).alloc (ae _) _),fY.new w7 _ _ _ _,D7.box.lt⟩)
   |(generalize hgz:W5.heap.size=gz;refine vE.mk gz rfl ?_;subst hgz;exact⟨((D7.other hDz hGz' hqz' 0 _).other hDz hGz' hqz' 1 _).other hDz hGz' hqz' 2 _,Z7.put3 _ _ _,hGz⟩)
 rintro GE W6⟨D6,X6,hGE⟩;clear Dd Da Z0 hGz hzR hqz' hGz' hDz p0 pa HN5 hyt HK hnB hkB D5;have hu1:IntKind.u32.wrap (enr+1)=tS enr:=by rw[IntKind.wrap_u32];rfl
 have hu2:IntKind.u32.wrap (ear+1)=tS ear:=by rw[IntKind.wrap_u32];rfl
 have hv1:0<=tS enr∧tS enr<=4294967295:=by unfold tS;omega
 have hv2:0<=tS ear∧tS ear<=4294967295:=by unfold tS;omega
 unfold forF at hRES;generalize tS enr=enr1 at*;generalize tS ear=ear1 at*;have D7:=(D6.et ear ⟨hoa.1,hoa.2⟩).nrS enr ⟨hon.1,hon.2⟩;have hGEG:GE≠G:=by omega
 have X7:fY ((W6.setCell ⟨G,0,none⟩ (.int .u32 ear)).setCell ⟨G,1,none⟩ (.int .u32 enr)) GE (.int .u32 ear) (.int .u32 enr) (.slice a2 rl cap2):=(X6.sW hGEG).sW hGEG;obtain⟨-,e0,e1,e2,-,-,-⟩:=id X6;obtain⟨-,g0,g1,g2,gf0,gf1,gf2⟩:=id D6.box;go_upto_region 8 with fail
 generalize(W6.setCell ⟨G,0,none⟩ (.int .u32 ear)).setCell ⟨G,1,none⟩ (.int .u32 enr)=W7 at*;clear D6 X6 e0 e1 e2 g0 g1 g2 gf0 gf1 gf2;obtain⟨-,e0,e1,e2,-,-,-⟩:=id X7;obtain⟨-,g0,g1,g2,gf0,gf1,gf2⟩:=id D7.box;rcases(show(¬kk=1∧¬kk=2)∨kk=1∨kk=2 by omega)with⟨hk,hk2⟩|hk|hk
 case' inl=>
  rw[if_neg hk2,if_neg hk]at hRES;go_upto_region 12 with fail
  have X8:=X7;have D8:=D7;clear D7 X7 hk2 e0 e1 e2 g0 g1 g2 gf0 gf1 gf2;generalize W7=W8 at*
 case' inr.inl=>
  have hb1:(kk==1)=true:=by rw[hk];rfl
  have hb2:(kk==2)=false:=by rw[hk];rfl
  rw[if_neg (by rw[hk];decide),if_pos hk]at hRES;have X8:fY (W7.setCell ⟨G,1,none⟩ (.int .u32 enr1)) GE (.int .u32 ear) (.int .u32 enr) (.slice a2 rl cap2):=X7.sW hGEG;have D8:=D7.nrS enr1 hv1;go_upto_region 12 with fail
  clear D7 X7 hb1 hb2 e0 e1 e2 g0 g1 g2 gf0 gf1 gf2;generalize W7.setCell ⟨G,1,none⟩ (.int .u32 enr1)=W8 at*
 case' inr.inr=>
  have hb1:(kk==1)=false:=by rw[hk];rfl
  have hb2:(kk==2)=true:=by rw[hk];rfl
  rw[if_pos hk,if_neg (by rw[hk];decide)]at hRES;have X8:fY (W7.setCell ⟨G,0,none⟩ (.int .u32 ear1)) GE (.int .u32 ear) (.int .u32 enr) (.slice a2 rl cap2):=X7.sW hGEG;have D8:=D7.et ear1 hv2;go_upto_region 12 with fail
  clear D7 X7 hb1 hb2 e0 e1 e2 g0 g1 g2 gf0 gf1 gf2;generalize W7.setCell ⟨G,0,none⟩ (.int .u32 ear1)=W8 at*
 all_goals
  have HE:∃ar nr,RES=BT l kk ar nr rs cargs (J1+1)∧DfS w W8 R ad cap l (J1+1) (.slice (some ⟨b,o,none⟩) n c) G ar nr q cq cargs:=⟨_,_,hRES,D8⟩;clear hRES D8;obtain⟨ar,nr,hRES,D8⟩:=HE;clear hk hu1 hu2 hv1 hv2 hGEG;have hrs:=Hrs.out;have hrl':=Hrl.out;obtain⟨_,_,_,e2,_⟩:=id X8;by_cases hr0:rl=0
  ·have hr0':(rl:Int)=0:=by omega
   have hrs0:rs=[]:=aM (by omega);have hE:RES=(⟨ar,nr,cargs⟩,J1+1):=by rw[hRES,BT,if_pos hrs0]
   subst hE;have HF':Hid _:=HFin.out _ _ _ _ _ D8;obtain⟨_,c0,c1,c2,_,_,_⟩:=D8.box;obtain⟨_,d0,d1,d2,f0,f1,f2⟩:=D8.ans;clear D8 X8 HFin HN HB hRES hrs hrl' Hrs Hrl Hrc Hor hr0 hrs0;go_wp2;exact bodyPost_ret (v:=.agg #[.int .u32 ar,.int .u32 nr,.slice (some ⟨q,0,none⟩) 6 cq]) (by simp[results,Tryz.results17,go_sem,d0,d1,d2]) rfl HF'.out
  have hr0':¬(rl:Int)=0:=by omega
  have hrs0:rs≠[]:=fun e=>hr0 (by rw[<-hrl',e];rfl)
  rw[BT,if_neg hrs0,hrl']at hRES;rcases hrs with hrs|⟨b2,o2,ha2,hb2B,hb2w,hcs2⟩
  ·exact absurd hrs hrs0
  subst ha2;have hz:=HB.out (J1+1);have HN6:=nx1 R cap ad l (J1+1) (J1+1+1) rfl;have hfi:tK l rl (J1+1)=(l.getD (J1+1) 0%(rl:Int)).toNat:=rfl;generalize l.getD (J1+1) 0=z at*;obtain⟨s,hs⟩:∃s:Nat,(s:Int)=z%(rl:Int):=⟨(z%(rl:Int)).toNat,by have:=cf z (show(rl:Int)≠0 by omega);omega⟩;have hfi':tK l rl (J1+1)=s:=by rw[hfi];omega
  rw[hfi']at hRES;clear hfi hfi';have hsn:s<rl:=by have:=bQ z (show(0:Int)<rl by omega);omega
  have hzt:z.tmod (rl:Int)=(s:Int):=by rw[cH hz.1];exact hs.symm
  have hsn':(s:Int)<(rl:Int):=by omega
  have hmem:rs.getD s []∈rs:=gq (by omega);have hokr:=Hor.out _ hmem;have hr7:=Hrc.out _ hmem;obtain⟨a3,cap3,v0,hks⟩:=hcs2.get (i:=s) (by omega) [];rw[bR]at v0;clear hcs2 hs hmem Hrs Hrc Hor Hrl hrl';generalize rs.getD s []=r at*;obtain⟨lr,hlr⟩:∃lr,r.length=lr:=⟨_,rfl⟩;rw[hlr]at v0 hr7 hRES;have HK2:Hid (∀W,w.grownBy W (some R)->W.cell? ⟨b2,o2+s,none⟩=some (.slice a3 lr cap3)):=fun W hg=>((oD hg hRB).cell hb2B hb2w).trans v0
  have HCn:Hid (∀W n,w.grownBy W (some R)->n<lr->∃b3 o3,a3=some ⟨b3,o3,none⟩∧PK W b3 (o3+n*3) (r.getD n K.zero)∧(r.getD n K.zero).ok):=fun W n hg hn=>by
   rcases hks with h|⟨b3,o3,h1,h2,h3,h4⟩
   ·rw[h]at hlr;simp at hlr;omega
   refine⟨b3,o3,h1,PK.oj (oD hg hRB) h2 h3 (h4.get (by omega) K.zero),hokr _ (gq (by omega))⟩
  clear hks hlr hokr v0;have Dd:=D8.below (af _ _).drew;have Da:=Dd.below ((af _ _).alloc (ae _) (.cells #[.slice none 0 0] 57));have e2d:W8.drew.cell? ⟨GE,2,none⟩=some (.slice (some ⟨b2,o2,none⟩) rl cap2):=e2;have e2a:(W8.alloc (.cells #[.slice none 0 0] 57)).cell? ⟨GE,2,none⟩=some (.slice (some ⟨b2,o2,none⟩) rl cap2):=(X8.alloc _).c2;have Hgr:Hid (∀W,W8.drew.grownBy W (some R)->W.cell? ⟨GE,2,none⟩=some (.slice (some ⟨b2,o2,none⟩) rl cap2)):=fun W hg=>((X8.ey (af _ _).drew).gX hg (by have:=D8.lt;have:=D8.hG;simp;omega)).c2
  have Z0:=gw W8.drew (.slice none 0 0) 57 _ rfl;have hGz:G<W8.heap.size:=D8.box.lt;have hqz':q≠W8.heap.size:=dP (D8.own.lt q rfl).2;have hGz':G≠W8.heap.size:=dP hGz;have hDz:w.heap.size+1<W8.heap.size:=by have:=D8.hG;omega
  have hzR:some W8.heap.size≠some R:=by have:=Dd.lt;have:=Dd.hG;simp;omega
  go_upto_region 14 with fail
  clear e2;apply zt (R:=fun GU W'=>DfS w W' R ad cap l (J1+1+1) (.slice (some ⟨b,o,none⟩) n c) G ar nr q cq cargs∧W'.cell? ⟨GU,0,none⟩=some (.slice a3 lr cap3)∧w.heap.size+1<GU∧GU≠q∧GU≠G)
  case h=>
   go_region_law(first
    |(go_simp;go_at_call 18;refine(HN6.out _ Dd.rd).mono ?_;rintro _ w7⟨rfl,hR7,hg7⟩;have D9:=Dd.draw hR7 hg7;have p7:=Hgr.out _ hg7;have u0:=HK2.out _ D9.gr;have D10:=D9.below ((af _ _).alloc (ae _) (.cells #[.slice none 0 0] 57));have p8:=Hgr.out _ (fu hg7 (.cells #[.slice none 0 0] 57));have z0:=HK2.out _ D10.gr;go_wp2_with fail)
    |(go_simp;go_at_call 18;refine(HN6.out _ Da.rd).mono ?_;rintro _ w7⟨rfl,hR7,hg7⟩;have D9:=Da.draw hR7 hg7;have p7:=Hgr.out _ (eU (fu (ah W8.drew (some R)) _) hg7);have u0:=HK2.out _ D9.gr;obtain⟨zc,zf⟩:=eB (g:=W8.heap.size) (o:=0) hg7 (by simp) hzR;have z0:=zc.trans Z0.1;have zf0:=zf.trans Z0.2;go_wp2_with fail))
   all_goals first
    |(generalize hgz:w7.heap.size=gz;refine vE.mk gz rfl ?_;subst hgz;exact⟨D9.below ((af _ _).alloc (ae _) _),(gw w7 _ _ _ rfl).1,by have:=D9.hG;have:=D9.box.lt;omega,Ne.symm (dP (D9.own.lt q rfl).2),Ne.symm (dP D9.box.lt)⟩)
    |(generalize hgz:W8.heap.size=gz;refine vE.mk gz rfl ?_;subst hgz;exact⟨D9.other hDz hGz' hqz' 0 _,aG _ _ _ z0,hDz,Ne.symm hqz',Ne.symm hGz'⟩)
  rintro GU W9⟨D9,u9,hGU,hGUq,hGUG⟩;clear Dd Da e2d e2a Hgr Z0 hGz hqz' hGz' hDz hzR hzt hsn hsn' HK2 HN6 D8 X8 hr0 hr0' hrs0;obtain⟨A,hA⟩:∃A:Nat->List Int,∀i,(forA l r cargs (J1+1+1) i).1=A i:=⟨_,fun _=>rfl⟩;obtain⟨J,hJ⟩:∃J:Nat->Nat,∀i,(forA l r cargs (J1+1+1) i).2=J i:=⟨_,fun _=>rfl⟩;have HSt:Hid (∀i,A (i+1)=(A i).set i (sM (r.getD i K.zero) (j9 l (J i)))∧J (i+1)=k9 l (J i)):=fun i=>by rw[<-hA (i+1),<-hJ (i+1),<-hA i,<-hJ i];exact⟨rfl,rfl⟩
  obtain⟨m,hm⟩:∃m,min 6 lr=m:=⟨_,rfl⟩;have hm6:m<=6∧m<=lr∧(m=6∨m=lr):=by omega
  have HE:Hid (RES=forE l kk ar nr (A m,J m)):=by unfold Hid;rw[hRES,hm,<-hA m,<-hJ m]
  have D0:DfS w W9 R ad cap l (J 0) (.slice (some ⟨b,o,none⟩) n c) G ar nr q cq (A 0):=by rw[<-hA 0,<-hJ 0];exact D9
  have hby:=D9.rd.bys;have HAr:Hid (∀i W,Rd W R ad cap l (J i)->Calls Tryz.prog 39 #[.pointer (some ⟨R,0,none⟩)] W fun e w'=>e=.returned (.int .u64 (j9 l (J i)))∧Rd w' R ad cap l (k9 l (J i))∧W.grownBy w' (some R)):=fun i W h=>ue R cap ad l (J i) W h
  have HVa:Hid (∀i,gA (j9 l (J i))):=fun i=>rO l hby (J i)
  have HNj:Hid (∀i v W,gA v->Rd W R ad cap l i->Calls Tryz.prog 40 #[.int .u64 v,.pointer (some ⟨R,0,none⟩)] W fun e w'=>e=.returned (.int .u64 (l8 v l i))∧gA (l8 v l i)∧Rd w' R ad cap l (qD l i)∧W.grownBy w' (some R)):=fun i v W hv h=>(zC v R cap ad l i W hv h).mono fun e w'⟨h1,h2,h3⟩=>⟨h1,xn hv l hby i,h2,h3⟩
  have hRG:R<w.heap.size:=hRw;clear hA hJ hRES hm D9 hby;go_wp2_with fail;go_loopw [9](fun i W=>∃t:Nat,i=.int .i64 (t:Int)∧t<=m∧DfS w W R ad cap l (J t) (.slice (some ⟨b,o,none⟩) n c) G ar nr q cq (A t)∧W.cell? ⟨GU,0,none⟩=some (.slice a3 lr cap3))(fun i _=>m-(intOf i).toNat)
  case atStart=>exact⟨0,rfl,by omega,D0,u9⟩
  case round=>
   obtain⟨t,rfl,htm,Dt,ut⟩:=hrel;clear D0 u9;by_cases hlt:t<m
   ·have ht6:(t:Int)<6:=by omega
    have htl:(t:Int)<(lr:Int):=by omega
    obtain⟨b3,o3,ea3,⟨k0,k1,k2⟩,hkok⟩:=HCn.out wr t Dt.gr (by omega);subst ea3;obtain⟨eA,eJ⟩:=HSt.out t;have hvU:=HVa.out t;have HAr':Hid (∀W,Rd W R ad cap l (J t)->Calls Tryz.prog 39 #[.pointer (some ⟨R,0,none⟩)] W fun e w'=>e=.returned (.int .u64 (j9 l (J t)))∧Rd w' R ad cap l (k9 l (J t))∧W.grownBy w' (some R)):=HAr.out t;generalize r.getD t K.zero=kx at*;generalize j9 l (J t)=v at*;generalize k9 l (J t)=Jn at*;have hfU:=Cd hkok hvU;obtain⟨V,hV⟩:∃V,sM kx v=V:=⟨_,rfl⟩;rw[hV]at eA hfU;obtain⟨kd,ka,kb⟩:=kx;simp only at k0 k1 k2 hkok;unfold sM at hV;simp only at hV;obtain⟨_,hka,hkb⟩:=hkok;simp only at hka hkb;have HeA:Hid _:=eA;have HeJ:Hid _:=eJ;have HV:Hid _:=hV;clear eA eJ hV HAr HSt HCn HVa HNj HE HFin HN HB;have bX:Below wr.heap.size wr (wr.alloc (.cells #[.int .i64 kd,.int .u64 (ka:Int),.int .u64 (kb:Int)] 84)):=(af _ _).alloc (ae _) _;have Db:=Dt.below bX;have Xb:=fY.new wr 84 (.int .i64 kd) (.int .u64 (ka:Int)) (.int .u64 (kb:Int));have hGUl:GU<wr.heap.size:=fA ut;have ub:=(bX.cell (p:=⟨GU,0,none⟩) hGUl).trans ut;have hZR:some wr.heap.size≠some R:=by have:=Dt.hG;have:=Dt.box.lt;simp;omega
    have hGUR:some GU≠some R:=by simp;omega
    go_upto_region 19 with fail
    clear k0 k1 k2 ut;have hGUb:GU<(wr.alloc (.cells #[.int .i64 kd,.int .u64 (ka:Int),.int .u64 (kb:Int)] 84)).heap.size:=an hGUl bX.size;clear bX hGUl Dt;generalize(wr.alloc (.cells #[.int .i64 kd,.int .u64 (ka:Int),.int .u64 (kb:Int)] 84))=Wb at*;generalize wr.heap.size=Z at*;go_wp2_with fail;refine(HAr'.out _ Db.rd).mono ?_;rintro _ wv⟨rfl,hRv,hgv⟩;have Dv:=Db.draw hRv hgv;obtain⟨_,y0,y1,y2,_,_,_⟩:=Xb.gX hgv hZR;have uv:=(eB (g:=GU) (o:=0) hgv hGUb hGUR).1.trans ub;obtain⟨_,g0,g1,g2,_,_,_⟩:=Dv.box;obtain⟨s0,s1,_⟩:=Dv.cell (i:=t) (by omega);have HP:Hid (DfS w (wv.setCell ⟨q,t,none⟩ (.int .u64 V)) R ad cap l (J (t+1)) (.slice (some ⟨b,o,none⟩) n c) G ar nr q cq (A (t+1))):=by unfold Hid;rw[HeA.out,HeJ.out];exact Dv.put (by omega) V hfU
    have HU:Hid ((wv.setCell ⟨q,t,none⟩ (.int .u64 V)).cell? ⟨GU,0,none⟩=some (.slice (some ⟨b3,o3,none⟩) lr cap3)):=by unfold Hid;rw[eY hGUq];exact uv
    have hv0:0<=v:=hvU.1;generalize(A t).getD t 0=sv at*;clear Dv Db Xb ub uv hRv hgv HAr' HeA HeJ hZR hGUR hGUb hfU hvU;by_cases c1:kd=1
    ·have hV:=HV.out;rw[if_pos c1]at hV;subst hV c1;clear HV;go_wp2;go_roundw
     case rel=>exact⟨t+1,by go_num,by omega,HP.out,HU.out⟩
     case measure=>simp[intOf];omega
    by_cases c2:kd=2
    ·have hV:=HV.out;rw[if_neg c1,if_pos c2]at hV;subst c2;clear HV c1;rcases(by omega:v%4=0∨v%4=1∨v%4=2∨v%4=3)with hw|hw|hw|hw
     ·rw[if_neg (by omega),if_neg (by omega),if_neg (by omega)]at hV;subst hV;go_wp2;go_roundw
      case rel=>exact⟨t+1,by go_num,by omega,HP.out,HU.out⟩
      case measure=>simp[intOf];omega
     ·rw[if_pos hw]at hV;subst hV;go_wp2;go_roundw
      case rel=>exact⟨t+1,by go_num,by omega,HP.out,HU.out⟩
      case measure=>simp[intOf];omega
     ·by_cases hab:ka<kb
      ·rw[if_neg (by omega),if_pos ⟨hw,hab⟩]at hV;subst hV;have hab':(ka:Int)<(kb:Int):=by omega
       have hw1:IntKind.u64.wrap ((ka:Int)+1)=(ka:Int)+1:=by rw[aS];omega
       clear hab;go_wp2;go_roundw
       case rel=>exact⟨t+1,by go_num,by omega,HP.out,HU.out⟩
       case measure=>simp[intOf];omega
      rw[if_neg (by omega),if_neg (by omega),if_neg (by omega)]at hV;subst hV;have hab':¬(ka:Int)<(kb:Int):=by omega
      clear hab;go_wp2;go_roundw
      case rel=>exact⟨t+1,by go_num,by omega,HP.out,HU.out⟩
      case measure=>simp[intOf];omega
     rw[if_neg (by omega),if_neg (by omega),if_pos hw]at hV;obtain⟨d,hd⟩:∃d,((kb:Int)-(ka:Int))%18446744073709551616=d:=⟨_,rfl⟩;rw[hd]at hV;have hd0:0<=d∧d<18446744073709551616:=by omega
     have hw1:IntKind.u64.wrap ((kb:Int)-(ka:Int))=d:=by rw[aS];exact hd
     have hw2:IntKind.u64.wrap ((ka:Int)+d/2)=V:=by rw[aS];exact hV
     clear hd hV;go_wp2;go_roundw
     case rel=>exact⟨t+1,by go_num,by omega,HP.out,HU.out⟩
     case measure=>simp[intOf];omega
    have hV:=HV.out;rw[if_neg c1,if_neg c2]at hV;subst hV;clear HV;go_wp2;go_roundw
    case rel=>exact⟨t+1,by go_num,by omega,HP.out,HU.out⟩
    case measure=>simp[intOf];omega
   obtain rfl:t=m:=by omega
   clear HAr HSt HCn HVa;have hlr:¬(t:Int)<6∨((t:Int)<6∧¬(t:Int)<(lr:Int)):=by omega
   have hre:=HE.out;unfold forE at hre;simp only at hre;have h6:=HB.out (J t);have HN7:=nx1 R cap ad l (J t) (J t+1) rfl;have hfi:tK l 6 (J t)=(l.getD (J t) 0%6).toNat:=rfl;generalize l.getD (J t) 0=y6 at*;obtain⟨i6,hi6⟩:∃i6:Nat,(i6:Int)=y6%6:=⟨(y6%6).toNat,by omega⟩;have hfi':tK l 6 (J t)=i6:=by rw[hfi];omega
   rw[hfi']at hre;have hi66:i6<6:=by omega
   have HDt:Hid _:=Dt;have HNr:Hid (∀W,Rd W R ad cap l (J t+1)->Calls Tryz.prog 40 #[.int .u64 ((A t).getD i6 0),.pointer (some ⟨R,0,none⟩)] W fun e w'=>e=.returned (.int .u64 (l8 ((A t).getD i6 0) l (J t+1)))∧gA (l8 ((A t).getD i6 0) l (J t+1))∧Rd w' R ad cap l (qD l (J t+1))∧W.grownBy w' (some R)):=fun W h=>HNj.out _ _ W (Dt.cell hi66).2.2 h
   generalize l8 ((A t).getD i6 0) l (J t+1)=nv at*;generalize qD l (J t+1)=nj at*;have Hre:Hid _:=hre;have Hi6:Hid _:=hi6;clear HDt hfi hfi' HNj HE HN HB hre hi6;by_cases hk6:kk<6
   ·have hre:=Hre.out;rw[if_pos hk6]at hre;subst hre;clear Hre;rcases hlr with hlr|⟨hlr,hlr2⟩
    all_goals
     go_wp2_with fail;refine(HN7.out _ Dt.rd).mono ?_;rintro _ wn⟨rfl,hRn,hgn⟩;have Dn:=Dt.draw hRn hgn;clear Dt hRn hgn ut;go_upto_region 34 with fail
     rw[<-Hi6.out];have hi6':(i6:Int)<6:=by omega
     have Dd:=Dn.below (af _ _).drew;have gd:=Dd.box.c2;obtain⟨sd,_,_⟩:=Dd.cell hi66;apply wp_cut (R:=fun W'=>DfS w W' R ad cap l nj (.slice (some ⟨b,o,none⟩) n c) G ar nr q cq ((A t).set i6 nv))
     case h=>
      go_region_law(first
       |(go_simp;go_at_call 40;refine(HNr.out _ Dd.rd).mono ?_;rintro _ w8⟨rfl,hnU,hR8,hg8⟩;have D8:=Dd.draw hR8 hg8;have g8:=D8.box.c2;obtain⟨s8,f8,_⟩:=D8.cell hi66;go_wp2_with fail))
      all_goals exact xU.mk rfl (D8.put hi66 _ hnU)
     intro W10 D10;have HF':Hid _:=HFin.out _ _ _ _ _ D10;obtain⟨_,c0,c1,c2,_,_,_⟩:=D10.box;obtain⟨_,d0,d1,d2,f0,f1,f2⟩:=D10.ans;clear Dd gd sd Dn D10 HFin HNr HN7;go_wp2;exact bodyPost_ret (v:=.agg #[.int .u32 ar,.int .u32 nr,.slice (some ⟨q,0,none⟩) 6 cq]) (by simp[results,Tryz.results17,go_sem,d0,d1,d2]) rfl HF'.out
   have hre:=Hre.out;rw[if_neg hk6]at hre;subst hre;clear Hre HN7 HNr Hi6;have HF':Hid _:=HFin.out _ _ _ _ _ Dt;obtain⟨_,c0,c1,c2,_,_,_⟩:=Dt.box;obtain⟨_,d0,d1,d2,f0,f1,f2⟩:=Dt.ans;clear Dt HFin;rcases hlr with hlr|⟨hlr,hlr2⟩
   all_goals
    go_wp2;exact bodyPost_ret (v:=.agg #[.int .u32 ar,.int .u32 nr,.slice (some ⟨q,0,none⟩) 6 cq]) (by simp[results,Tryz.results17,go_sem,d0,d1,d2]) rfl HF'.out
end Go.Proofs.YtdihdapmphkhpaaGreat
