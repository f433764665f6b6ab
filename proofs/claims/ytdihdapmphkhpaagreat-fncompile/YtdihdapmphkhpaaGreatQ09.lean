import Derived.Test.YtdihdapmphkhpaaGreatQ08
set_option linter.all false
set_option maxRecDepth 200000
set_option maxHeartbeats 16000000
namespace Go.Proofs.YtdihdapmphkhpaaGreat
open Go.RowKit Go.Deep
structure DpS(w W:World)(R:Nat)(ad:Option Addr)(cap:Nat)(l:List Int)(j G:Nat)(v:Value)(P:List E):Prop where
 rd:Rd W R ad cap l j
 gr:w.grownBy W (some R)
 lt:R<w.heap.size
 hb:w.heap.size<G
 hG:G<W.heap.size
 c:W.cell? ⟨G,0,none⟩=some v
 f:W.frozen? ⟨G,0,none⟩=false
 c0:W.cell? ⟨w.heap.size,0,none⟩=some (.slice none 0 0)
 f0:W.frozen? ⟨w.heap.size,0,none⟩=false
 own:∃rv lo hi,PsD W (G+1) v P rv lo hi
section
variable{w W W1:World}{R cap j j1 G:Nat}{ad:Option Addr}{l:List Int}{v v1:Value}{P P1:List E}
theorem DpS.grow{row:Option Nat}(h:DpS w W R ad cap l j G v P)(hr:Rd W1 R ad cap l j1)(hg:W.grownBy W1 row)(hgr:w.grownBy W1 (some R))(h1:some G≠row)(h2:some w.heap.size≠row)(ho:∃rv lo hi,PsD W1 (G+1) v P1 rv lo hi):DpS w W1 R ad cap l j1 G v P1:=by
 have hw:w.heap.size<W.heap.size:=dO h.hb h.hG;obtain⟨e1,e2⟩:=eB (o:=0) hg h.hG h1;obtain⟨e3,e4⟩:=eB (o:=0) hg hw h2;exact⟨hr,hgr,h.lt,h.hb,an h.hG hg.size,e1.trans h.c,e2.trans h.f,e3.trans h.c0,e4.trans h.f0,ho⟩
theorem DpS.draw(h:DpS w W R ad cap l j G v P)(hr:Rd W1 R ad cap l j1)(hg:W.grownBy W1 (some R)):DpS w W1 R ad cap l j1 G v P:=by
 have h1:=h.lt;have h2:=h.hb;obtain⟨rv,lo,hi,ho⟩:=h.own;exact h.grow hr hg (eU h.gr hg) (by simp;omega) (by simp;omega) ⟨rv,lo,hi,ho.kept hg (by omega)⟩
theorem DpS.alloc(h:DpS w W R ad cap l j G v P)(o:Obj):DpS w (W.alloc o) R ad cap l j G v P:=h.draw (h.rd.alloc o) (fu (ah _ _) _)
theorem DpS.below(h:DpS w W R ad cap l j G v P)(hb:Below W.heap.size W W1):DpS w W1 R ad cap l j G v P:=h.draw (h.rd.below hb) (fJ hb)
theorem DpS.push{W9:World}{v':Value}{e:E}{gg cp:Nat}{o:Obj}(h:DpS w W R ad cap l j G v P)(hr:Rd W9 R ad cap l j1)(h9:W.grownBy W9 (some R))(hv:RsJ W9 W.heap.size W9.heap.size v' e.rules){rv:Nat->Value}{lo hi:Nat->Nat}(ho:PsD W (G+1) v P rv lo hi)
 (hown:W1.ownsRow (G+1) 53 3 (.slice (some ⟨gg,0,none⟩) (P.length+1) cp) (P.length+1) (jB P rv++mI e v'))(hg:(W9.alloc o).grownBy W1 v.ownBlock):
 DpS w (W1.setCell ⟨G,0,none⟩ (.slice (some ⟨gg,0,none⟩) (P.length+1) cp)) R ad cap l j1 G (.slice (some ⟨gg,0,none⟩) (P.length+1) cp) (P++[e]):=by
 have hge:∀k,v.ownBlock=some k->G+1<=k:=fun k hk=>(ho.row.lt k hk).1
 have D9:=(h.draw hr h9).alloc o
 have h1:=h.lt
 have h2:=h.hb
 have hw:w.heap.size<(W9.alloc o).heap.size:=dO D9.hb D9.hG
 obtain⟨e1,e2⟩:=eB (o:=0) hg D9.hG (fun e=>by have:=hge G e.symm;omega)
 obtain⟨e3,e4⟩:=eB (o:=0) hg hw (fun e=>by have:=hge _ e.symm;omega)
 have hs:w.grownBy W1 (some R):=jx D9.gr hg (fun k hk=>by have:=hge k hk;omega)
 have hset:=fG (ah W1 (some G)) 0 (.slice (some ⟨gg,0,none⟩) (P.length+1) cp)
 have hG1:G<W1.heap.size:=an D9.hG hg.size
 obtain⟨e5,e6⟩:=eB (o:=0) hset (an hw hg.size) (by simp;omega:some w.heap.size≠some G)
 have hn:=ho.next (by have:=h.hG;omega) h9 (by omega) hv hown hg
 refine⟨(D9.rd.grown hg (by omega:R<G+1) hge).ey (fun k hk=>aE W1 ⟨G,0,none⟩ _ k (fun e=>by simp at e;omega)),jx hs hset (fun k hk=>by simp at hk;omega),h1,h2,by simpa[World.setCell]using hG1,aG _ _ _ (e1.trans D9.c),?_,e5.trans (e3.trans D9.c0),e6.trans (e4.trans D9.f0),_,_,_,hn.far (by simp) (fun k hk hs=>aE W1 ⟨G,0,none⟩ _ k (fun e=>by simp at e;omega))⟩
 have hf:=e2.trans D9.f
 simpa using hf
theorem PsD.low{w:World}{B B':Nat}{v:Value}{l:List E}{rv:Nat->Value}{lo hi:Nat->Nat}(h:PsD w B v l rv lo hi)(hB:B'<=B):PsD w B' v l rv lo hi:=
 ⟨hU h.row hB,h.own,fun i hi'=>⟨aW hB (h.lt i hi').1,(h.lt i hi').2⟩,h.inc⟩
theorem DpS.fin(h:DpS w W R ad cap l j G v P)(u:Value):∃rv lo hi,PsD (W.setCell ⟨w.heap.size,0,none⟩ u) w.heap.size v P rv lo hi∧Rd (W.setCell ⟨w.heap.size,0,none⟩ u) R ad cap l j∧w.grownBy (W.setCell ⟨w.heap.size,0,none⟩ u) (some R):=by
 obtain⟨rv,lo,hi,ho⟩:=h.own;have h1:=h.lt;have h2:=h.hb;exact⟨rv,lo,hi,(ho.far (w1:=W.setCell ⟨w.heap.size,0,none⟩ u) (by simp) (fun k hk hs=>aE W ⟨w.heap.size,0,none⟩ _ k (fun e=>by simp at e;omega))).low (by omega),h.rd.ey (fun k hk=>aE W ⟨w.heap.size,0,none⟩ _ k (fun e=>by simp at e;omega)),jx h.gr (fG (ah _ (some w.heap.size)) 0 _) (fun k hk=>by simp at hk;omega)⟩
end
theorem vP(l:List Int)(F:Nat->K×Nat)(hF:KdF l F)(R cap:Nat)(ad:Option Addr)(j:Nat)(w:World)(hR:Rd w R ad cap l j):
 Calls Tryz.prog 36 #[.pointer (some ⟨R,0,none⟩)] w fun e w'=>∃v rv lo hi,e=.returned (.agg #[v])∧PsD w' w.heap.size v (iV l F j).1 rv lo hi∧Rd w' R ad cap l (iV l F j).2∧w.grownBy w' (some R):=by
 obtain⟨i1,hi1,hy0,hy1,hy2⟩:=info_parts pt
 have HN:=nxH R cap ad l
 have HB:Hid (∀t,0<=l.getD t 0∧l.getD t 0<=255):=ez hR.bys
 have HDr:Hid (∀t W,Rd W R ad cap l t->Calls Tryz.prog 76 #[.pointer (some ⟨R,0,none⟩),.int .i64 9] W fun e w'=>∃g c,e=.returned (.slice (some ⟨g,0,none⟩) (gH l F t).1.length c)∧RsJ w' W.heap.size w'.heap.size (.slice (some ⟨g,0,none⟩) (gH l F t).1.length c) (gH l F t).1∧Rd w' R ad cap l (gH l F t).2∧W.grownBy w' (some R)):=fun t W h=>(wK l F hF R cap ad t W h).mono fun e w'⟨v,h1,h2⟩=>by
  obtain⟨vs,cb,gb,ho⟩:=h2.own
  obtain⟨c,ev,_⟩:=ho.form
  subst ev
  exact⟨gb,c,h1,⟨vs,cb,gb,ho,ho.lts.1,ho.lts.2⟩,h2.rd,h2.gr⟩
 have hRw:=hR.lt
 have hx0:=HB.out j
 obtain⟨N,hN⟩:∃N:Nat,(N:Int)=l.getD j 0%5:=⟨(l.getD j 0%5).toNat,by omega⟩
 have hN8:N<=4:=by omega
 obtain⟨RES,hRES⟩:∃RES,iV l F j=RES:=⟨_,rfl⟩
 have HG0:Hid (goP l F (N-0) 0 0 0 [] (j+1)=RES):=by unfold Hid;rw[<-hRES];unfold iV;rw[show(l.getD j 0%5).toNat=N by omega];rfl
 rw[hRES]
 clear hRES
 have HN0:=nx1 R cap ad l j (j+1) rfl
 generalize l.getD j 0=x0 at*
 have HNe0:Hid ((N:Int)=x0%5):=hN
 clear hN hF
 have q1:=gw w (.slice none 0 0) 25 _ rfl
 have hR0:=hR.alloc (.cells #[.slice none 0 0] 25)
 have e1:(w.alloc (.cells #[.slice none 0 0] 25)).heap.size=w.heap.size+1:=by simp
 have g0:w.grownBy (w.alloc (.cells #[.slice none 0 0] 25)) (some R):=fu (ah _ _) _
 go_enter Tryz.func36,Tryz.ntmps36
 go_wp2_with fail
 refine(HN0.out _ hR0).mono ?_
 generalize w.alloc (.cells #[.slice none 0 0] 25)=W0 at*
 rintro _ w1⟨rfl,hR1,hg1⟩
 have D0:DpS w (w1.alloc (.cells #[.slice none 0 0] 25)) R ad cap l (j+1) w1.heap.size (.slice none 0 0) []:=by
  have hs1:=hg1.size
  rw[e1]at hs1
  have a1:=fu (ah w1 (some R)) (.cells #[.slice none 0 0] 25)
  obtain⟨c1,c2⟩:=eB (g:=w.heap.size) (o:=0) hg1 (by omega) (by simp;omega)
  obtain⟨c3,c4⟩:=eB (g:=w.heap.size) (o:=0) a1 (by omega) (by simp;omega)
  exact⟨hR1.alloc _,eU (eU g0 hg1) a1,hRw,by omega,by simp,by simp,by simp,c3.trans (c1.trans q1.1),c4.trans (c2.trans q1.2),_,_,_,PsD.nil _ _⟩
 clear hR0 hR1 hg1 q1 g0 e1 HN0
 go_upto_region 5 with fail
 rw[<-HNe0.out]
 clear HNe0 hx0
 generalize w1.alloc (.cells #[.slice none 0 0] 25)=W1 at*
 generalize w1.heap.size=G at*
 go_wp2_with fail
 go_loopw [5,6,7](fun a n u wr=>∃(ar nr:Int)(i jj:Nat)(v:Value)(P:List E),a=.int .u32 ar∧n=.int .u32 nr∧u=.int .i64 (i:Int)∧i<=N∧(0<=ar∧ar<=3*(i:Int))∧(0<=nr∧nr<=2+4*(i:Int))∧DpS w wr R ad cap l jj G v P∧Hid (P.length<=i)∧Hid (goP l F (N-i) i ar nr P jj=RES))(fun _ _ u _=>N-(intOf u).toNat)
 case atStart=>exact⟨0,0,0,j+1,_,[],rfl,rfl,rfl,by omega,by omega,by omega,D0,by unfold Hid;simp,HG0⟩
 case round=>
  obtain⟨ar,nr,i,jj,v,P,rfl,rfl,rfl,hiN,har,hnr,D,hpl,HG⟩:=hrel
  clear D0 HG0
  by_cases hlt:i<N
  ·have hlt':(i:Int)<(N:Int):=by omega
   obtain⟨f,hf⟩:∃f,N-i=f+1:=⟨N-i-1,by omega⟩
   have hf2:N-(i+1)=f:=by omega
   rw[hf]at HG
   have HG1:Hid ((if l.getD jj 0>250 then(P++[(⟨iR i ar (l.getD jj 0),nrP i nr (l.getD jj 0),(gH l F (jj+1)).1⟩:E)],(gH l F (jj+1)).2)
    else goP l F f (i+1) (iR i ar (l.getD jj 0)) (nrP i nr (l.getD jj 0)) (P++[⟨iR i ar (l.getD jj 0),nrP i nr (l.getD jj 0),(gH l F (jj+1)).1⟩]) (gH l F (jj+1)).2)=RES):=HG
   clear HG
   have hx:=HB.out jj
   have HN2:=nx1 R cap ad l jj (jj+1) rfl
   have HD2:Hid (∀W,Rd W R ad cap l (jj+1)->Calls Tryz.prog 76 #[.pointer (some ⟨R,0,none⟩),.int .i64 9] W fun e w'=>∃g c,e=.returned (.slice (some ⟨g,0,none⟩) (gH l F (jj+1)).1.length c)∧RsJ w' W.heap.size w'.heap.size (.slice (some ⟨g,0,none⟩) (gH l F (jj+1)).1.length c) (gH l F (jj+1)).1∧Rd w' R ad cap l (gH l F (jj+1)).2∧W.grownBy w' (some R)):=HDr.out (jj+1)
   clear HN HDr
   generalize gH l F (jj+1)=RJ at*
   obtain⟨rs1,j1⟩:=RJ
   simp only at HG1 HD2
   generalize l.getD jj 0=x at*
   go_wp2_with fail
   refine(HN2.out _ D.rd).mono ?_
   rintro _ w2⟨rfl,hR2,hg2⟩
   have D2:=D.draw hR2 hg2
   clear hR2 hg2 D HN2
   obtain⟨rv,lo,hi,ho2⟩:=D2.own
   obtain⟨av,cv,ev,hcv,_⟩:=ho2.form
   subst ev
   have hcs:x%5=0∨(¬x%5=0∧i=0)∨(¬x%5=0∧¬(i:Int)=0):=by omega
   have hA3:=AE (i:=i) hx har
   have hN3:¬x>250->0<=nrP i nr x∧nrP i nr x<=2+4*(i+1:Nat):=fun h=>Ci (i:=i) ⟨hx.1,by omega⟩ hnr
   rcases hcs with hc|⟨hc,hc2⟩|⟨hc,hc2⟩
   case' inl=>
    have ea:iR i ar x=ar+(x%3+1):=by unfold iR;rw[if_pos (.inl hc)]
    have en:¬x>250->nrP i nr x=x/3%3:=fun h=>by unfold nrP;rw[if_neg h,if_pos (.inl hc)]
    have hA3':Hid _:=hA3
    have hN3':Hid _:=hN3
    have ea':Hid _:=ea
    have en':Hid _:=en
    clear hA3 hN3 ea en
    go_upto_region 13 with fail
    have hA3:=hA3'.out
    have hN3:=hN3'.out
    have en:=en'.out
    have ea:=ea'.out
    clear ea' en' hA3' hN3'
    rw[<-ea]
    generalize x/3%3=n2 at en⊢
    generalize iR i ar x=A at hA3 HG1⊢
    clear ea
   case' inr.inl=>
    have Hc2:Hid _:=hc2
    have hcd:((x%5==0)||((i:Int)==0))=true:=by simp;omega
    have ea:iR i ar x=ar+(x%3+1):=by unfold iR;rw[if_pos (.inr hc2)]
    have en:¬x>250->nrP i nr x=x/3%3:=fun h=>by unfold nrP;rw[if_neg h,if_pos (.inr hc2)]
    have hA3':Hid _:=hA3
    have hN3':Hid _:=hN3
    have ea':Hid _:=ea
    have en':Hid _:=en
    clear hA3 hN3 ea en
    clear hc2
    go_upto_region 13 with fail
    have hA3:=hA3'.out
    have hN3:=hN3'.out
    have en:=en'.out
    have ea:=ea'.out
    clear ea' en' hA3' hN3'
    rw[<-ea]
    generalize x/3%3=n2 at en⊢
    generalize iR i ar x=A at hA3 HG1⊢
    clear ea
   case' inr.inr=>
    have ea:iR i ar x=ar:=by unfold iR;rw[if_neg (by omega)]
    have en:¬x>250->nrP i nr x=nr+(1+x/5%4):=fun h=>by unfold nrP;rw[if_neg h,if_neg (by omega)]
    have hA3':Hid _:=hA3
    have hN3':Hid _:=hN3
    have ea':Hid _:=ea
    have en':Hid _:=en
    clear hA3 hN3 ea en
    have hcd:((x%5==0)||((i:Int)==0))=false:=by simp;omega
    go_upto_region 13 with fail
    have hA3:=hA3'.out
    have hN3:=hN3'.out
    have en:=en'.out
    have ea:=ea'.out
    clear ea' en' hA3' hN3'
    rw[<-ea]
    generalize nr+(1+x/5%4)=n2 at en⊢
    generalize iR i ar x=A at hA3 HG1⊢
    clear ea
   all_goals
    clear hc
    try clear hc2
    try clear hcd
    try clear Hc2
    have hen:x>250->nrP i nr x=4294967295:=fun h=>by unfold nrP;rw[if_pos h]
    generalize nrP i nr x=NR at*
    clear har hnr
    rcases Classical.em (x>250)with h250|h250
    case' inl=>
     have eN:=hen h250
     clear en hen hN3
     subst eN
     have HG2:Hid ((P++[(⟨A,4294967295,rs1⟩:E)],j1)=RES):=by have:=HG1.out;rw[if_pos h250]at this;exact this
     have h250':(250:Int)<x:=h250
     clear HG1 h250
     go_upto_region 15 with fail
     generalize hNN:(4294967295:Int)=NN at HG2⊢
     clear hNN
    case' inr=>
     have eN:=en (by omega)
     have hN4:=hN3 (by omega)
     clear en hen hN3
     subst eN
     have HG2:Hid (goP l F f (i+1) A NR (P++[(⟨A,NR,rs1⟩:E)]) j1=RES):=by have:=HG1.out;rw[if_neg h250]at this;exact this
     have h250':¬(250:Int)<x:=h250
     clear HG1 h250
     go_upto_region 15 with fail
     have Hn4:Hid _:=hN4
     clear hN4
     generalize hNN:NR=NN at HG2 Hn4⊢
     clear hNN
    all_goals
     have hpl':P.length<=4:=by have:=hpl.out;omega
     have Dd:=D2.below (af _ _).drew
     have hod:PsD w2.drew (G+1) (.slice av P.length cv) P rv lo hi:=ho2.far (by simp) (fun k _ _=>rfl)
     have c0:=Dd.c
     have f0:=Dd.f
     have hbm:P.length+1<=maxLen:=by unfold maxLen;omega
     have hbd:(P.length+1)*32<=140737488355328:=by omega
     have hGd:=Dd.hG
     go_region_law(first
      |(refine step_append_lies _ (by rfl) _ _ _ (by rfl) (G+1) 53 i1 _ 3 32 Tryz.underlying23 hi1 hy0 hy1 hy2 rfl (by decide) _ P.length (jB P rv) (by rfl) ho8.row ⟨w7.heap.size,0,none⟩ 1 1 [.int .u32 A,.int .u32 NN,.slice (some ⟨gv,0,none⟩) rs1.length c7] (by rfl) (by rfl) (World.news_of_block (t:=53) (fr:=(0,0)) (heap_alloc_new w7 _)) (by simp[Value.oneCell']) (by omega) hbm hbd (by have:=D8.hG;omega) (w7.heap.size+1) (by simp) ?_;intro g' cp' w9 ow gr _ _;obtain⟨b1,b2⟩:=eB (o:=0) gr D8.hG (fun e=>by have:=(ho8.row.lt G e.symm).1;omega);have b3:=b1.trans D8.c;have b4:=b2.trans D8.f;clear b1 b2)
      |(go_simp;go_at_call 76;refine(HD2.out _ Dd.rd).mono ?_;rintro _ w7⟨gv,c7,rfl,hI7,hR7,hg7⟩;have D7:=Dd.draw hR7 hg7;have D8:=D7.below ((af w7.heap.size w7).alloc (ae _) (.cells #[.int .u32 A,.int .u32 NN,.slice (some ⟨gv,0,none⟩) rs1.length c7] 53));have ho8:PsD (w7.alloc (.cells #[.int .u32 A,.int .u32 NN,.slice (some ⟨gv,0,none⟩) rs1.length c7] 53)) (G+1) (.slice av P.length cv) P rv lo hi:=(hod.kept hg7 (by have:=D2.lt;have:=D2.hb;omega)).far (by simp) (fun k _ hk=>(fu (ah w7 none) _).block k hk (by simp));have c8:=D8.c;have c9:=D7.c;go_wp2_with fail))
     all_goals
      have D9:=DpS.push (e:=⟨A,NN,rs1⟩) Dd hR7 hg7 hI7 hod ow gr
      clear ow gr D8 D7 D2 Dd hod ho8 ho2 c0 f0 b3 b4 c8 c9 hR7 hg7 hI7 HD2 hbm hbd hGd
      first
       |(have HGf:=HG2.out
         have hend:(250:Int)<x:=h250'
         clear HG2
         have c0:=D9.c
         have z0:=D9.c0
         have zf:=D9.f0
         have hlt2:=D9.lt
         have hb2:=D9.hb
         have HF:=D9.fin (.slice (some ⟨g',0,none⟩) (P.length+1) cp')
         have HRs:Hid (RES.1=P++[(⟨A,NN,rs1⟩:E)]∧RES.2=j1):=by unfold Hid;constructor<;>(rw[<-HGf])
         clear HGf
         have HF':Hid _:=HF
         clear D9 HF
         go_wp2
         refine bodyPost_ret (v:=.agg #[.slice (some ⟨g',0,none⟩) (P.length+1) cp']) (by simp[results,Tryz.results36,go_sem,z0]) rfl ?_
         obtain⟨rv',lo',hi',f1,f2,f3⟩:=HF'.out
         rw[HRs.out.1,HRs.out.2]
         exact⟨_,_,_,_,rfl,f1,f2,f3⟩)
       |(have hend:¬(250:Int)<x:=by omega
         have Hl:Hid ((P++[(⟨A,NN,rs1⟩:E)]).length<=i+1):=by have:=hpl.out;unfold Hid;simp;omega
         have HA3:Hid (0<=A∧A<=3*((i+1:Nat):Int)):=hA3
         clear hA3 hpl'
         go_wp2
         go_roundw
         case rel=>exact⟨A,NN,i+1,j1,_,_,rfl,rfl,by go_num,by omega,HA3.out,Hn4.out,D9,Hl,by unfold Hid;rw[hf2];exact HG2.out⟩
         case measure=>simp[intOf];omega)
  ·have hin:i=N:=by omega
   have HG2:Hid ((P,jj)=RES):=by have:=HG.out;rw[show N-i=0 by omega]at this;exact this
   have hlt':¬(i:Int)<(N:Int):=by omega
   obtain⟨rv,lo,hi,ho2⟩:=D.own
   obtain⟨av,cv,ev,hcv,_⟩:=ho2.form
   subst ev
   clear HG HN HDr ho2
   have HRs:Hid (RES.1=P∧RES.2=jj):=by unfold Hid;rw[<-HG2.out];exact⟨rfl,rfl⟩
   have c0:=D.c
   have z0:=D.c0
   have zf:=D.f0
   have hlt2:=D.lt
   have hb2:=D.hb
   have HF':Hid _:=D.fin (.slice av P.length cv)
   clear D HG2 har hnr
   go_wp2
   refine bodyPost_ret (v:=.agg #[.slice av P.length cv]) (by simp[results,Tryz.results36,go_sem,z0]) rfl ?_
   obtain⟨rv',lo',hi',f1,f2,f3⟩:=HF'.out
   rw[HRs.out.1,HRs.out.2]
   first
    |exact⟨_,_,_,_,rfl,f1,f2,f3⟩
    |exact⟨_,rfl,⟨_,_,_,f1⟩,f2,f3⟩
end Go.Proofs.YtdihdapmphkhpaaGreat
namespace Go.Proofs.YtdihdapmphkhpaaGreat
open Go.RowKit Go.Deep
variable{e:E}
theorem Iz:IntKind.u64.wrap 18446744073709551616=0:=by first|rfl|decide|(rw[aS];rfl)|(rw[aS];decide)|(rw[aS])
def spK(c:K)(x:Int):K:=
 if x%6=0 then⟨3,c.a,c.b⟩else if x%6=1 then⟨-1,c.a,c.b⟩else if x%6=2 then⟨1,c.b,(c.b+1)%18446744073709551616⟩
 else if x%6=3 then⟨2,(c.b+1)%18446744073709551616,c.b⟩else if x%6=4 then⟨0,c.a,1⟩else⟨0,1,0⟩
theorem spK_ok{c:K}(h:c.ok)(x:Int):(spK c x).ok:=by
 obtain⟨h1,h2,h3⟩:=h
 unfold spK
 repeat' split
 all_goals(refine⟨⟨by simp,by simp⟩,?_,?_⟩<;>simp<;>omega)
theorem xR(c:K)(hc:c.ok)(R cap:Nat)(ad:Option Addr)(l:List Int)(j:Nat)(w:World)(hR:Rd w R ad cap l j):
 Calls Tryz.prog 77 #[fC c,.pointer (some ⟨R,0,none⟩)] w fun e w'=>e=.returned (fC (spK c (l.getD j 0)))∧Rd w' R ad cap l (j+1)∧w.grownBy w' (some R):=by
 obtain⟨hc1,hc2,hc3⟩:=hc;have hb:=ez hR.bys j;have hRw:=hR.lt;have HN:=nx1 R cap ad l j (j+1) rfl;obtain⟨RES,hRES⟩:∃RES,spK c (l.getD j 0)=RES:=⟨_,rfl⟩;rw[hRES];obtain⟨ck,ca,cb⟩:=c;simp only at hc1 hc2 hc3;generalize l.getD j 0=x at*;have hmx:cb=18446744073709551615∨cb<18446744073709551615:=by omega
 have hcs:x%6=0∨x%6=1∨x%6=2∨x%6=3∨x%6=4∨x%6=5:=by omega
 have HRES:Hid _:=hRES;clear hRES;have X0:=gu.new w 84 (.int .i64 ck) (.int .u64 (ca:Int)) (.int .u64 (cb:Int));have b0:Below w.heap.size w (w.alloc (.cells #[.int .i64 ck,.int .u64 (ca:Int),.int .u64 (cb:Int)] 84)):=(af _ _).alloc (ae _) _;have e0:(w.alloc (.cells #[.int .i64 ck,.int .u64 (ca:Int),.int .u64 (cb:Int)] 84)).heap.size=w.heap.size+1:=by simp
 have X1:=X0.ey ((af _ _).alloc (ae _) (.cells #[.int .i64 0,.int .u64 0,.int .u64 0] 84));have Y1:=gu.new (w.alloc (.cells #[.int .i64 ck,.int .u64 (ca:Int),.int .u64 (cb:Int)] 84)) 84 (.int .i64 0) (.int .u64 0) (.int .u64 0);rw[e0]at Y1;have b1:=b0.alloc b0.size (.cells #[.int .i64 0,.int .u64 0,.int .u64 0] 84);clear X0 b0 e0;go_enter Tryz.func77,Tryz.ntmps77;go_wp2_with fail;refine(HN.out _ (hR.below b1)).mono ?_;generalize((w.alloc (.cells #[.int .i64 ck,.int .u64 (ca:Int),.int .u64 (cb:Int)] 84)).alloc (.cells #[.int .i64 0,.int .u64 0,.int .u64 0] 84))=W1 at*;rintro _ w2⟨rfl,hR2,hg2⟩;have X2:=X1.grown hg2 (fun e=>by simp at e;omega);have Y2:=Y1.grown hg2 (fun e=>by simp at e;omega);have g2:w.grownBy w2 (some R):=eU (fJ b1) hg2;clear X1 Y1 hg2 b1 HN;have Hs:Hid (∀(W:World)(b o:Nat)(u:Value),w.heap.size<=b->Rd W R ad cap l (j+1)->w.grownBy W (some R)->Rd (W.setCell ⟨b,o,none⟩ u) R ad cap l (j+1)∧w.grownBy (W.setCell ⟨b,o,none⟩ u) (some R)):=fun W b o u hb h1 h2=>⟨h1.ey (fun k hk=>aE W ⟨b,o,none⟩ _ k (fun e=>by simp at e;omega)),jx h2 (fG (ah _ (some b)) o _) (fun k hk=>by simp at hk;omega)⟩
 obtain⟨_,p0,p1,p2,p3,p4,p5⟩:=X2;obtain⟨_,y0,y1,y2,y3,y4,y5⟩:=Y2;have HR2:Hid _:=hR2;have Hg2:Hid _:=g2;clear hR2 g2 hR;go_upto_region 2 with fail
 clear hb;rcases hcs with hk|hk|hk|hk|hk|hk
 all_goals
  rw[hk]
 case' inr.inr.inl=>rcases hmx with rfl|hmx
 case' inr.inr.inr.inl=>rcases hmx with rfl|hmx
 all_goals
  have eR:=HRES.out;simp only[spK,hk]at eR;simp at eR;have HeR:Hid _:=eR;clear eR HRES hk;go_wp2;refine bodyPost_ret (v:=fC RES) (by rw[<-HeR.out];simp[results,Tryz.results77,go_sem,y0,y1,y2,Iz];try omega) rfl ⟨rfl,?_⟩;repeat first
   |exact⟨HR2.out,Hg2.out⟩
   |(refine(fun(h:_∧_)=>Hs.out _ _ _ _ (by omega) h.1 h.2) ?_)
theorem iP{α:Type}(l:List α)(i t:Nat)(x d:α)(hi:i<l.length):(l.set i x).getD t d=if t=i then x else l.getD t d:=by
 rw[aa,aa,dL];by_cases h:t=i
 ·subst h;simp[hi]
 rw[if_neg (fun e=>h e.symm),if_neg h]
theorem nL{p:List E}{i:Nat}(hi:i<p.length)(h:gP (p.getD i E.zero)=false):eW p=false:=sQ hi (by rw[fS,h,cd])
theorem yX(h:e.rules.length=0):gP e=false:=by unfold gP;rw[h];rfl
theorem zx(h:200<e.rules.length):gP e=false:=by unfold gP;simp;omega
theorem zP{s:Nat}(hs:s<e.rules.length)(h:(e.rules.getD s []).length≠6):gP e=false:=by
 unfold gP;rw[vC (d:=[]) hs (by unfold eG;simp;intro e;exact absurd e h),cd]
theorem AJ(e:E):jG e e=false:=by unfold jG;simp
theorem xV{p:List E}{i j:Nat}(hij:i<j)(hj:j<p.length)(h:jG (p.getD i E.zero) (p.getD j E.zero)=false):eW p=false:=by
 cases hc:eW p with
 |false=>rfl
 |true=>rw[mW hc hij hj]at h;exact absurd h (by decide)
end Go.Proofs.YtdihdapmphkhpaaGreat
namespace Go.Proofs.YtdihdapmphkhpaaGreat
open Go.RowKit
variable{D L N i k o sz:Nat}{a:Option Addr}{v:Value}{w:World}{α:Type}
def ga{α:Type}(L k:Nat)(P:World->Nat->Nat->α->Prop)(w:World)(a:Option Addr)(l:List α):Prop:=l=[]∨∃b o,a=some ⟨b,o,none⟩∧L<=b∧b<w.heap.size∧LAt k P w b o l
def PKF(w:World)(b o:Nat)(c:K):Prop:=PK w b o c∧w.frozen? ⟨b,o,none⟩=false∧w.frozen? ⟨b,o+1,none⟩=false∧w.frozen? ⟨b,o+2,none⟩=false
theorem PKF.stays:mK PKF:=fun w w' b o x hlt hb⟨h0,h1,h2,h3⟩=>⟨PK.stays _ _ _ _ _ hlt hb h0,(hb.frozen (p:=⟨b,_,none⟩) hlt).trans h1,(hb.frozen (p:=⟨b,_,none⟩) hlt).trans h2,(hb.frozen (p:=⟨b,_,none⟩) hlt).trans h3⟩
def PRG(L:Nat)(w:World)(b o:Nat)(r:List K):Prop:=∃a cap,w.cell? ⟨b,o,none⟩=some (.slice a r.length cap)∧ga L 3 PKF w a r
def PEG(L:Nat)(w:World)(b o:Nat)(e:E):Prop:=w.cell? ⟨b,o,none⟩=some (.int .u32 e.et)∧w.cell? ⟨b,o+1,none⟩=some (.int .u32 e.nr)∧(w.frozen? ⟨b,o,none⟩=false∧w.frozen? ⟨b,o+1,none⟩=false)∧∃a cap,w.cell? ⟨b,o+2,none⟩=some (.slice a e.rules.length cap)∧ga L 1 (PRG L) w a e.rules∧e.rules.length<=cap
theorem ga.plain{P Q:World->Nat->Nat->α->Prop}{l:List α}(h:ga L k P w a l)(hPQ:∀b o x,P w b o x->Q w b o x):eS k Q w a l:=by
 rcases h with h|⟨b,o,h1,_,h2,h3⟩
 ·exact .inl h
 exact .inr ⟨b,o,h1,h2,fun i hi=>hPQ _ _ _ (h3 i hi)⟩
theorem ga.below{P:World->Nat->Nat->α->Prop}(hP:mK P){w':World}{l:List α}(h:ga L k P w a l)(hb:Below w.heap.size w w'):ga L k P w' a l:=by
 rcases h with h|⟨b,o,ha,hL,hlt,hc⟩
 ·exact .inl h
 exact .inr ⟨b,o,ha,hL,an hlt hb.size,fun i hi=>hP _ _ _ _ _ hlt hb (hc i hi)⟩
theorem PRG.stays(L:Nat):mK (PRG L):=fun w w' b o x hlt hb⟨a,cap,h0,h1⟩=>⟨a,cap,(hb.cell (p:=⟨b,_,none⟩) hlt).trans h0,h1.below PKF.stays hb⟩
theorem PEG.stays(L:Nat):mK (PEG L):=fun w w' b o x hlt hb⟨h0,h1,f,a,cap,h2,h3,h4⟩=>⟨(hb.cell (p:=⟨b,_,none⟩) hlt).trans h0,(hb.cell (p:=⟨b,_,none⟩) hlt).trans h1,⟨(hb.frozen (p:=⟨b,_,none⟩) hlt).trans f.1,(hb.frozen (p:=⟨b,_,none⟩) hlt).trans f.2⟩,a,cap,(hb.cell (p:=⟨b,_,none⟩) hlt).trans h2,h3.below (PRG.stays L) hb,h4⟩
theorem ga.mono{L':Nat}{P Q:World->Nat->Nat->α->Prop}{l:List α}(h:ga L k P w a l)(hL:L'<=L)(hPQ:∀b o x,P w b o x->Q w b o x):ga L' k Q w a l:=by
 rcases h with h|⟨b,o,h1,h4,h2,h3⟩
 ·exact .inl h
 exact .inr ⟨b,o,h1,aW hL h4,h2,fun i hi=>hPQ _ _ _ (h3 i hi)⟩
theorem PRG.mono{L L':Nat}{w:World}{b o:Nat}{r:List K}(h:PRG L w b o r)(hL:L'<=L):PRG L' w b o r:=by
 obtain⟨a,cap,h0,h1⟩:=h;exact⟨a,cap,h0,h1.mono hL fun _ _ _ h=>h⟩
theorem PEG.mono{L L':Nat}{w:World}{b o:Nat}{e:E}(h:PEG L w b o e)(hL:L'<=L):PEG L' w b o e:=by
 obtain⟨h0,h1,f,a,cap,h2,h3,h4⟩:=h;exact⟨h0,h1,f,a,cap,h2,h3.mono hL fun _ _ _ h=>h.mono hL,h4⟩
theorem cell_far{b:Nat}{x:Value}(hne:D≠b)(h:w.cell? ⟨b,o,none⟩=some x):(w.setCell ⟨D,i,none⟩ v).cell? ⟨b,o,none⟩=some x:=by
 have e:(w.setCell ⟨D,i,none⟩ v).cell? ⟨b,o,none⟩=w.cell? ⟨b,o,none⟩:=by
  apply aJ;intro e;apply hne;injection e
 rw[e];exact h
theorem kI{x:Value}(hne:i≠o)(h:w.cell? ⟨D,o,none⟩=some x):(w.setCell ⟨D,i,none⟩ v).cell? ⟨D,o,none⟩=some x:=by
 have e:(w.setCell ⟨D,i,none⟩ v).cell? ⟨D,o,none⟩=w.cell? ⟨D,o,none⟩:=by
  apply aJ;intro e;apply hne;injection e
 rw[e];exact h
theorem PK.far{b:Nat}{c:K}(hne:D≠b)(h:PK w b o c):PK (w.setCell ⟨D,i,none⟩ v) b o c:=⟨cell_far hne h.1,cell_far hne h.2.1,cell_far hne h.2.2⟩
theorem yq{p:Addr}(h:w.frozen? p=false):(w.setCell ⟨D,i,none⟩ v).frozen? p=false:=by simp[h]
theorem PKF.far{w:World}{D i b o:Nat}{v:Value}{c:K}(hne:D≠b)(h:PKF w b o c):PKF (w.setCell ⟨D,i,none⟩ v) b o c:=⟨h.1.far hne,yq h.2.1,yq h.2.2.1,yq h.2.2.2⟩
theorem ga.far{P:World->Nat->Nat->α->Prop}{l:List α}(h:ga L k P w a l)(hP:∀b o x,L<=b->P w b o x->P (w.setCell ⟨D,i,none⟩ v) b o x):ga L k P (w.setCell ⟨D,i,none⟩ v) a l:=by
 rcases h with h|⟨b,o,h1,h4,h2,h3⟩
 ·exact .inl h
 exact .inr ⟨b,o,h1,h4,by simp;exact h2,fun j hj=>hP _ _ _ h4 (h3 j hj)⟩
theorem PRG.far{L D i b o:Nat}{v:Value}{w:World}{r:List K}(hD:D<L)(hne:D≠b)(h:PRG L w b o r):PRG L (w.setCell ⟨D,i,none⟩ v) b o r:=by
 obtain⟨a,cap,h0,h1⟩:=h;exact⟨a,cap,cell_far hne h0,h1.far fun b o x hL hx=>hx.far (by omega)⟩
def Apart{α:Type}(sz D:Nat)(P:World->Nat->Nat->α->Prop):Prop:=∀w o x c v,P w D o x->(c<o∨o+sz<=c)->P (w.setCell ⟨D,c,none⟩ v) D o x
structure Upt{α:Type}(sz:Nat)(P:World->Nat->Nat->α->Prop)(w:World)(D N:Nat)(l:List α)(d:α)(k:Nat):Prop where
 lt:D<w.heap.size
 own:∀c,c<N*sz->(∃v,w.cell? ⟨D,c,none⟩=some v)∧w.frozen? ⟨D,c,none⟩=false
 el:∀j,j<k->P w D (j*sz) (l.getD j d)
theorem Upt.ey{P:World->Nat->Nat->α->Prop}(hP:mK P){w':World}{l:List α}{d:α}(h:Upt sz P w D N l d k)(hb:Below w.heap.size w w'):Upt sz P w' D N l d k:=
 ⟨an h.lt hb.size,fun c hc=>⟨by obtain⟨v,hv⟩:=(h.own c hc).1;exact⟨v,(hb.cell (p:=⟨D,c,none⟩) h.lt).trans hv⟩,(hb.frozen (p:=⟨D,c,none⟩) h.lt).trans (h.own c hc).2⟩,fun j hj=>hP _ _ _ _ _ h.lt hb (h.el j hj)⟩
theorem Upt.set{P:World->Nat->Nat->α->Prop}(hA:Apart sz D P){l:List α}{d:α}{c:Nat}(h:Upt sz P w D N l d k)(hc:k*sz<=c)(v:Value):Upt sz P (w.setCell ⟨D,c,none⟩ v) D N l d k:=by
 refine⟨by simp;exact h.lt,fun i hi=> ?_,fun j hj=>hA _ _ _ _ _ (h.el j hj) (.inr ?_)⟩
 ·obtain⟨⟨u,hu⟩,hf⟩:=h.own i hi;refine⟨?_,by simp[hf]⟩;by_cases e:c=i
  ·subst e;exact⟨v,World.cell?_setCell_same' w _ v (by rw[hu];rfl)⟩
  exact⟨u,kI e hu⟩
 have:(j+1)*sz<=k*sz:=cE _ hj;rw[cT]at this;omega
theorem Upt.next{P:World->Nat->Nat->α->Prop}{l:List α}{d:α}(h:Upt sz P w D N l d k)(hk:P w D (k*sz) (l.getD k d)):Upt sz P w D N l d (k+1):=
 ⟨h.lt,h.own,fun j hj=>by
  by_cases e:j=k
  ·subst e;exact hk
  exact h.el j (by omega)⟩
theorem Upt.new{P:World->Nat->Nat->α->Prop}(w:World)(cs:Array Value)(t:TypeId)(N:Nat)(l:List α)(d:α)(hs:cs.size=N*sz):Upt sz P (w.alloc (.cells cs t)) w.heap.size N l d 0:=by
 have hr:=dn w cs t (fun i=>cs.getD i undef) (fun i h=>by simp[h]);rw[hs]at hr;exact⟨hr.lt,fun c hc=>⟨⟨_,hr.cell hc⟩,hr.frozen c⟩,fun j hj=>by omega⟩
end Go.Proofs.YtdihdapmphkhpaaGreat
namespace Go.Proofs.YtdihdapmphkhpaaGreat
open Go.RowKit Go.Deep
structure FrB(B R:Nat)(w w':World):Prop where
 os:w'.os=w.os
 tape:w'.tape=w.tape
 output:w'.output=w.output
 size:w.heap.size<=w'.heap.size
 block:∀k,k<B->k≠R->w'.heap[k]? =w.heap[k]?
theorem FrB.refl(B R:Nat)(w:World):FrB B R w w:=⟨rfl,rfl,rfl,ae _,fun _ _ _=>rfl⟩
theorem FrB.trans{B R:Nat}{a b c:World}(h:FrB B R a b)(k:FrB B R b c):FrB B R a c:=
 ⟨k.os.trans h.os,k.tape.trans h.tape,k.output.trans h.output,aW h.size k.size,fun x h1 h2=>(k.block x h1 h2).trans (h.block x h1 h2)⟩
theorem FrB.of{B R:Nat}{w w':World}{row:Option Nat}(h:w.grownBy w' row)(hB:B<=w.heap.size)(hr:∀k,row=some k->B<=k∨k=R):FrB B R w w':=
 ⟨h.os,h.tape,h.output,h.size,fun k h1 h2=>h.block k (by omega) (fun e=>by have:=hr k e.symm;omega)⟩
theorem FrB.grown{B R:Nat}{w0 w w':World}(h:FrB B R w w')(hg:w0.grownBy w (some R))(hB:w0.heap.size<=B):w0.grownBy w' (some R):=
 ⟨h.os.trans hg.os,h.tape.trans hg.tape,h.output.trans hg.output,aW hg.size h.size,fun k h1 h2=>(h.block k (by omega) (fun e=>h2 (by rw[e]))).trans (hg.block k h1 h2)⟩
def PRB(B:Nat)(w:World)(b o:Nat)(r:List K):Prop:=∃a cap,w.cell? ⟨b,o,none⟩=some (.slice a r.length cap)∧ga B 3 PK w a r
def PEB(B:Nat)(w:World)(b o:Nat)(e:E):Prop:=w.cell? ⟨b,o,none⟩=some (.int .u32 e.et)∧w.cell? ⟨b,o+1,none⟩=some (.int .u32 e.nr)∧∃a cap,w.cell? ⟨b,o+2,none⟩=some (.slice a e.rules.length cap)∧ga B 1 (PRB B) w a e.rules
def iT(B:Nat)(w w1:World):Prop:=w.heap.size<=w1.heap.size∧∀k,B<=k->k<w.heap.size->w1.heap[k]? =w.heap[k]?
theorem iT.cell{B:Nat}{w w1:World}(h:iT B w w1){b o:Nat}(hb:B<=b)(hlt:b<w.heap.size):w1.cell? ⟨b,o,none⟩=w.cell? ⟨b,o,none⟩:=aN (a:=⟨b,o,none⟩) (h.2 b hb hlt)
theorem ga.oj{α:Type}{B k:Nat}{Q:World->Nat->Nat->α->Prop}{w w1:World}{a:Option Addr}{l:List α}(h:ga B k Q w a l)(hk:iT B w w1)(hQ:∀b o x,B<=b->b<w.heap.size->Q w b o x->Q w1 b o x):ga B k Q w1 a l:=by
 rcases h with h|⟨b,o,ha,hB,hlt,hc⟩
 ·exact .inl h
 exact .inr ⟨b,o,ha,hB,an hlt hk.1,fun i hi=>hQ _ _ _ hB hlt (hc i hi)⟩
theorem PK.oj{B:Nat}{w w1:World}(hk:iT B w w1){b o:Nat}{c:K}(hB:B<=b)(hlt:b<w.heap.size)(h:PK w b o c):PK w1 b o c:=⟨(hk.cell hB hlt).trans h.1,(hk.cell hB hlt).trans h.2.1,(hk.cell hB hlt).trans h.2.2⟩
theorem PRB.oj{B:Nat}{w w1:World}(hk:iT B w w1){b o:Nat}{r:List K}(hB:B<=b)(hlt:b<w.heap.size)(h:PRB B w b o r):PRB B w1 b o r:=by
 obtain⟨a,cap,h1,h2⟩:=h;exact⟨a,cap,(hk.cell hB hlt).trans h1,h2.oj hk (fun b o x h1 h2 h3=>PK.oj hk h1 h2 h3)⟩
theorem PEB.oj{B:Nat}{w w1:World}(hk:iT B w w1){b o:Nat}{e:E}(hB:B<=b)(hlt:b<w.heap.size)(h:PEB B w b o e):PEB B w1 b o e:=by
 obtain⟨h0,h1,a,cap,h2,h3⟩:=h;exact⟨(hk.cell hB hlt).trans h0,(hk.cell hB hlt).trans h1,a,cap,(hk.cell hB hlt).trans h2,h3.oj hk (fun b o x h1 h2 h3=>PRB.oj hk h1 h2 h3)⟩
theorem sI{B:Nat}{w w1:World}{a:Option Addr}{P:List E}(h:ga B 3 (PEB B) w a P)(hk:iT B w w1):ga B 3 (PEB B) w1 a P:=h.oj hk (fun b o x h1 h2 h3=>PEB.oj hk h1 h2 h3)
theorem xt{B B':Nat}{w:World}{a:Option Addr}{P:List E}(h:ga B 3 (PEB B) w a P)(hB:B'<=B):ga B' 3 (PEB B') w a P:=
 h.mono hB (fun b o x⟨h0,h1,a,cap,h2,h3⟩=>⟨h0,h1,a,cap,h2,h3.mono hB (fun b o x⟨a,cap,h1,h2⟩=>⟨a,cap,h1,h2.mono hB (fun _ _ _ h=>h)⟩)⟩)
theorem yR{B:Nat}{w:World}{a:Option Addr}{P:List E}(h:ga B 3 (PEB B) w a P):eS 3 PE w a P:=
 h.plain (fun b o x⟨h0,h1,a,cap,h2,h3⟩=>⟨h0,h1,a,cap,h2,h3.plain (fun b o x⟨a,cap,h1,h2⟩=>⟨a,cap,h1,h2.plain (fun _ _ _ h=>h)⟩)⟩)
def GeB(B:Nat)(P:List E)(g:Nat)(gb:Nat->Nat)(cb:Nat->Nat->Nat):Prop:=(P≠[]->B<=g)∧(∀t,t<P.length->B<=gb t)∧∀t s,t<P.length->s<(eu P t).length->B<=cb t s
def BdP(P:List E):Prop:=P.length<=300∧∀e∈P,e.rules.length<=300∧∀r∈e.rules,r.length<=7
def BadP(B:Nat)(w:World)(v:Value):Prop:=∃P a c,v=.slice a P.length c∧P.length<=c∧okP P∧eW P=false∧BdP P∧ga B 3 (PEB B) w a P
structure fE(B R:Nat)(ad:Option Addr)(cap:Nat)(l:List Int)(D:(List E×Nat)×Bool)(w w':World)(v:Value):Prop where
 rd:∃j,Rd w' R ad cap l j
 fr:FrB B R w w'
 or:(D.2=true∧BadP B w' v)∨(D.2=false∧Rd w' R ad cap l D.1.2∧∃g gb cb,PsC w' v D.1.1 g gb cb∧GeB B D.1.1 g gb cb)
theorem gq{α:Type}{l:List α}{i:Nat}{d:α}(h:i<l.length):l.getD i d∈l:=by
 rw[aa,ag h];exact aI h
section
variable{w w1:World}{v:Value}{P:List E}{g:Nat}{gb:Nat->Nat}{cb:Nat->Nat->Nat}
theorem PsC.ksB{B:Nat}(h:PsC w v P g gb cb)(ge:GeB B P g gb cb)(hs:w.heap.size<=w1.heap.size){t s:Nat}(ht:t<P.length)(hst:s<(eu P t).length)(hc:∀o,w1.cell? ⟨cb t s,o,none⟩=w.cell? ⟨cb t s,o,none⟩):ga B 3 PK w1 (some ⟨cb t s,0,none⟩) (fh P t s):=
 .inr ⟨_,0,rfl,ge.2.2 t s ht hst,by have:=(h.frc t s ht hst).1;omega,LAt.of K.zero fun m hm=>by
  obtain⟨c0,c1,c2⟩:=h.con t s m ht hst hm
  rw[aC]
  exact⟨(hc _).trans c0,(hc _).trans c1,(hc _).trans c2⟩⟩
theorem PsC.rsB{B:Nat}(h:PsC w v P g gb cb)(ge:GeB B P g gb cb)(hs:w.heap.size<=w1.heap.size){t:Nat}(ht:t<P.length)(hr:∀s,s<(eu P t).length->w1.cell? ⟨gb t,s,none⟩=w.cell? ⟨gb t,s,none⟩)(hc:∀s,s<(eu P t).length->∀o,w1.cell? ⟨cb t s,o,none⟩=w.cell? ⟨cb t s,o,none⟩):ga B 1 (PRB B) w1 (some ⟨gb t,0,none⟩) (eu P t):=
 .inr ⟨_,0,rfl,ge.2.1 t ht,by have:=(h.frr t ht).1;omega,LAt.of [] fun s hst=>by
  obtain⟨c,_,hv⟩:=h.rul t s ht hst
  rw[aC,bR]
  exact⟨_,c,(hr s hst).trans hv,h.ksB ge hs ht hst (hc s hst)⟩⟩
theorem PsC.peB{B:Nat}(h:PsC w v P g gb cb)(ge:GeB B P g gb cb)(hs:w.heap.size<=w1.heap.size){t:Nat}(ht:t<P.length){g' o':Nat}(h0:w1.cell? ⟨g',o',none⟩=w.cell? ⟨g,t*3,none⟩)(h1:w1.cell? ⟨g',o'+1,none⟩=w.cell? ⟨g,t*3+1,none⟩)(h2:w1.cell? ⟨g',o'+2,none⟩=w.cell? ⟨g,t*3+2,none⟩)
 (hr:∀s,s<(eu P t).length->w1.cell? ⟨gb t,s,none⟩=w.cell? ⟨gb t,s,none⟩)(hc:∀s,s<(eu P t).length->∀o,w1.cell? ⟨cb t s,o,none⟩=w.cell? ⟨cb t s,o,none⟩):PEB B w1 g' o' (P.getD t E.zero):=by
 obtain⟨e0,e1,c,_,e2⟩:=h.ent t ht;exact⟨h0.trans e0,h1.trans e1,_,c,h2.trans e2,h.rsB ge hs ht hr hc⟩
theorem PsC.srcB{B:Nat}(h:PsC w v P g gb cb)(ge:GeB B P g gb cb):∃a cap,v=.slice a P.length cap∧P.length<=cap∧ga B 3 (PEB B) w a P:=by
 obtain⟨a,cap,e,hc,hn⟩:=h.val;refine⟨a,cap,e,hc,?_⟩;by_cases hP:P=[]
 ·exact .inl hP
 refine .inr ⟨g,0,hn hP,ge.1 hP,(h.frg hP).1,LAt.of E.zero fun t ht=> ?_⟩;rw[aC];exact h.peB ge (ae _) ht rfl rfl rfl (fun _ _=>rfl) (fun _ _ _=>rfl)
theorem PsC.idx{B:Nat}(h:PsC w v P g gb cb)(ge:GeB B P g gb cb)(hs:w.heap.size<=w1.heap.size)(is:List Nat)(hi:∀t,t<is.length->is.getD t 0<P.length){g' o':Nat}(hgB:B<=g')(hg:g'<w1.heap.size)
 (hrow:∀t,t<is.length->∀r,r<3->w1.cell? ⟨g',o'+t*3+r,none⟩=w.cell? ⟨g,is.getD t 0*3+r,none⟩)
 (hr:∀t,t<P.length->∀s,s<(eu P t).length->w1.cell? ⟨gb t,s,none⟩=w.cell? ⟨gb t,s,none⟩)(hc:∀t,t<P.length->∀s,s<(eu P t).length->∀o,w1.cell? ⟨cb t s,o,none⟩=w.cell? ⟨cb t s,o,none⟩):
 ga B 3 (PEB B) w1 (some ⟨g',o',none⟩) (is.map fun t=>P.getD t E.zero):=by
 refine .inr ⟨g',o',rfl,hgB,hg,LAt.of E.zero fun t ht=> ?_⟩
 rw[aX]at ht
 have e:(is.map fun t=>P.getD t E.zero).getD t E.zero=P.getD (is.getD t 0) E.zero:=by
  simp[aa,cJ,ag ht]
 rw[e]
 exact h.peB ge hs (hi t ht) (hrow t ht 0 (by omega)) (hrow t ht 1 (by omega)) (hrow t ht 2 (by omega)) (hr _ (hi t ht)) (hc _ (hi t ht))
theorem PsC.putE{B:Nat}(h:PsC w v P g gb cb)(ge:GeB B P g gb cb)(hs:w.heap.size<=w1.heap.size){i:Nat}(hi:i<P.length){rs:List (List K)}{a:Option Addr}{c:Nat}
 (hg:∀o,o≠i*3+2->w1.cell? ⟨g,o,none⟩=w.cell? ⟨g,o,none⟩)(h2:w1.cell? ⟨g,i*3+2,none⟩=some (.slice a rs.length c))(hrs:ga B 1 (PRB B) w1 a rs)
 (hr:∀t,t<P.length->t≠i->∀s,s<(eu P t).length->w1.cell? ⟨gb t,s,none⟩=w.cell? ⟨gb t,s,none⟩)(hc:∀t,t<P.length->t≠i->∀s,s<(eu P t).length->∀o,w1.cell? ⟨cb t s,o,none⟩=w.cell? ⟨cb t s,o,none⟩):
 ga B 3 (PEB B) w1 (some ⟨g,0,none⟩) (P.set i ⟨(P.getD i E.zero).et,(P.getD i E.zero).nr,rs⟩):=by
 have hn:P≠[]:=fun e=>by rw[e]at hi;simp at hi
 refine .inr ⟨g,0,rfl,ge.1 hn,by have:=(h.frg hn).1;omega,LAt.of E.zero fun t ht=> ?_⟩
 rw[aK]at ht
 rw[aC,iP P i t _ _ hi]
 by_cases e:t=i
 ·subst e
  rw[if_pos rfl]
  obtain⟨e0,e1,_⟩:=h.ent t ht
  exact⟨(hg _ (by omega)).trans e0,(hg _ (by omega)).trans e1,a,c,h2,hrs⟩
 ·rw[if_neg e]
  exact h.peB ge hs ht (hg _ (by omega)) (hg _ (by omega)) (hg _ (by omega)) (hr t ht e) (hc t ht e)
theorem PsC.putR{B:Nat}(h:PsC w v P g gb cb)(ge:GeB B P g gb cb)(hs:w.heap.size<=w1.heap.size){i j:Nat}(hi:i<P.length)(hj:j<(eu P i).length){r:List K}{a:Option Addr}{c:Nat}
 (h2:w1.cell? ⟨gb i,j,none⟩=some (.slice a r.length c))(hrs:ga B 3 PK w1 a r)
 (hr:∀s,s<(eu P i).length->s≠j->w1.cell? ⟨gb i,s,none⟩=w.cell? ⟨gb i,s,none⟩)(hc:∀s,s<(eu P i).length->s≠j->∀o,w1.cell? ⟨cb i s,o,none⟩=w.cell? ⟨cb i s,o,none⟩):
 ga B 1 (PRB B) w1 (some ⟨gb i,0,none⟩) ((eu P i).set j r):=by
 refine .inr ⟨gb i,0,rfl,ge.2.1 i hi,by have:=(h.frr i hi).1;omega,LAt.of [] fun s ht=> ?_⟩
 rw[aK]at ht
 rw[aC,bR,iP _ j s _ _ hj]
 by_cases e:s=j
 ·subst e
  rw[if_pos rfl]
  exact⟨a,c,h2,hrs⟩
 ·rw[if_neg e]
  obtain⟨c',_,hv⟩:=h.rul i s hi ht
  exact⟨_,c',(hr s ht e).trans hv,h.ksB ge hs hi ht (hc s ht e)⟩
theorem PsC.putK(h:PsC w v P g gb cb){i j m:Nat}(hi:i<P.length)(hj:j<(eu P i).length)(hm:m<(fh P i j).length)(c:K):
 PsC (((w.setCell ⟨cb i j,m*3,none⟩ (.int .i64 c.kind)).setCell ⟨cb i j,m*3+1,none⟩ (.int .u64 (c.a:Int))).setCell ⟨cb i j,m*3+2,none⟩ (.int .u64 (c.b:Int))) v
  (P.set i ⟨(P.getD i E.zero).et,(P.getD i E.zero).nr,(eu P i).set j ((fh P i j).set m c)⟩) g gb cb:=by
 obtain⟨W,hW⟩:∃W,(((w.setCell ⟨cb i j,m*3,none⟩ (.int .i64 c.kind)).setCell ⟨cb i j,m*3+1,none⟩ (.int .u64 (c.a:Int))).setCell ⟨cb i j,m*3+2,none⟩ (.int .u64 (c.b:Int)))=W:=⟨_,rfl⟩;have hsz:W.heap.size=w.heap.size:=by rw[<-hW];simp
 have hfz:∀b o,W.frozen? ⟨b,o,none⟩=w.frozen? ⟨b,o,none⟩:=fun b o=>by rw[<-hW];simp
 have hcl:∀b o,¬(b=cb i j∧m*3<=o∧o<m*3+3)->W.cell? ⟨b,o,none⟩=w.cell? ⟨b,o,none⟩:=fun b o hn=>by
  rw[<-hW];rw[aJ _ _ _ _ (fun e=>by simp at e;omega),aJ _ _ _ _ (fun e=>by simp at e;omega),aJ _ _ _ _ (fun e=>by simp at e;omega)]
 have hk:PK W (cb i j) (m*3) c:=by
  obtain⟨e0,e1,e2⟩:=h.con i j m hi hj hm;rw[<-hW];refine⟨?_,?_,?_⟩
  ·rw[aJ _ _ _ _ (fun e=>by simp at e),aJ _ _ _ _ (fun e=>by simp at e)];exact aG _ _ _ e0
  ·rw[aJ _ _ _ _ (fun e=>by simp at e)];exact aG _ _ _ ((aJ _ _ _ _ (fun e=>by simp at e)).trans e1)
  exact aG _ _ _ ((aJ _ _ _ _ (fun e=>by simp at e)).trans ((aJ _ _ _ _ (fun e=>by simp at e)).trans e2))
 rw[hW];clear hW;have eE:∀t,(P.set i ⟨(P.getD i E.zero).et,(P.getD i E.zero).nr,(eu P i).set j ((fh P i j).set m c)⟩).getD t E.zero=if t=i then⟨(P.getD i E.zero).et,(P.getD i E.zero).nr,(eu P i).set j ((fh P i j).set m c)⟩else P.getD t E.zero:=fun t=>iP P i t _ _ hi
 generalize hP':P.set i ⟨(P.getD i E.zero).et,(P.getD i E.zero).nr,(eu P i).set j ((fh P i j).set m c)⟩=P' at eE;have hl:P'.length=P.length:=by rw[<-hP'];simp
 have hn:P'≠[]->P≠[]:=fun h1 h2=>h1 (by rw[<-dG,hl,h2];rfl)
 have eR:∀t,(eu P' t).length=(eu P t).length:=fun t=>by
  show(P'.getD t E.zero).rules.length=_;rw[eE];by_cases e:t=i
  ·subst e;simp
  rw[if_neg e]
 have eK:∀t s,fh P' t s=if t=i∧s=j then(fh P i j).set m c else fh P t s:=fun t s=>by
  show(P'.getD t E.zero).rules.getD s []=_;rw[eE];by_cases e:t=i
  ·subst e;rw[if_pos rfl];show((eu P t).set j _).getD s []=_;rw[iP _ _ _ _ _ hj];by_cases e2:s=j
   ·rw[if_pos e2,if_pos ⟨rfl,e2⟩]
   rw[if_neg e2,if_neg (fun h=>e2 h.2)]
  rw[if_neg e,if_neg (fun h=>e h.1)]
 have eL:∀t s,(fh P' t s).length=(fh P t s).length:=fun t s=>by
  rw[eK];by_cases e:t=i∧s=j
  ·obtain⟨rfl,rfl⟩:=e;simp
  rw[if_neg e]
 have eA:∀t,(P'.getD t E.zero).et=(P.getD t E.zero).et∧(P'.getD t E.zero).nr=(P.getD t E.zero).nr:=fun t=>by
  rw[eE];by_cases e:t=i
  ·subst e;rw[if_pos rfl];exact⟨rfl,rfl⟩
  rw[if_neg e];exact⟨rfl,rfl⟩
 have cg:=fun(t:Nat)(ht:t<P.length)=>(h.frc i j hi hj).2.1
 have cr:=(h.frc i j hi hj).2.2.1;refine⟨?_,fun t ht=> ?_,fun t s ht hst=> ?_,fun t s m' ht hst hm'=> ?_,fun h1=> ?_,fun t ht=> ?_,fun t s ht hst=> ?_,fun t t' ht ht'=> ?_,fun t s t' s' ht hs ht' hs'=> ?_⟩
 ·obtain⟨a,cap,e,hc,ha⟩:=h.val;exact⟨a,cap,by rw[hl];exact e,by omega,fun h1=>ha (hn h1)⟩
 ·rw[hl]at ht;obtain⟨e0,e1,c',hc',e2⟩:=h.ent t ht;have hcg:=cg t ht;rw[(eA t).1,(eA t).2,eR t,hcl _ _ (fun e=>hcg e.1.symm),hcl _ _ (fun e=>hcg e.1.symm),hcl _ _ (fun e=>hcg e.1.symm)];exact⟨e0,e1,c',hc',e2⟩
 ·rw[hl]at ht;rw[eR]at hst;obtain⟨c',hc',e⟩:=h.rul t s ht hst;rw[eL,hcl _ _ (fun e=>cr t ht e.1.symm)];exact⟨c',hc',e⟩
 ·rw[hl]at ht;rw[eR]at hst;rw[eL]at hm';rw[eK];by_cases e:t=i∧s=j
  ·obtain⟨rfl,rfl⟩:=e;rw[if_pos ⟨rfl,rfl⟩,iP _ _ _ _ _ hm];by_cases e2:m'=m
   ·subst e2;rw[if_pos rfl];exact hk
   rw[if_neg e2];obtain⟨e0,e1,e3⟩:=h.con t s m' ht hst hm';exact⟨(hcl _ _ (by omega)).trans e0,(hcl _ _ (by omega)).trans e1,(hcl _ _ (by omega)).trans e3⟩
  rw[if_neg e];have hd:=h.dcc t s i j ht hst hi hj e;obtain⟨e0,e1,e3⟩:=h.con t s m' ht hst hm';exact⟨(hcl _ _ (fun e=>hd e.1)).trans e0,(hcl _ _ (fun e=>hd e.1)).trans e1,(hcl _ _ (fun e=>hd e.1)).trans e3⟩
 ·rw[hsz];exact⟨(h.frg (hn h1)).1,fun o=>(hfz _ _).trans ((h.frg (hn h1)).2 o)⟩
 ·rw[hl]at ht;rw[hsz];exact⟨(h.frr t ht).1,(h.frr t ht).2.1,fun o=>(hfz _ _).trans ((h.frr t ht).2.2 o)⟩
 ·rw[hl]at ht⊢;rw[eR]at hst;rw[hsz];exact⟨(h.frc t s ht hst).1,(h.frc t s ht hst).2.1,(h.frc t s ht hst).2.2.1,fun o=>(hfz _ _).trans ((h.frc t s ht hst).2.2.2 o)⟩
 ·rw[hl]at ht ht';exact h.drr t t' ht ht'
 rw[hl]at ht ht';rw[eR]at hs hs';exact h.dcc t s t' s' ht hs ht' hs'
end
end Go.Proofs.YtdihdapmphkhpaaGreat
