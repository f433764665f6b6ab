import Derived.Test.YtdihdapmphkhpaaGreatQ04
set_option linter.all false
set_option maxRecDepth 200000
set_option maxHeartbeats 16000000
namespace Go.Proofs.YtdihdapmphkhpaaGreat
open Go.RowKit Go.Deep
theorem set2D{w:World}{g:Nat}{x y z:Value}(h:gu w g x y z)(z':Value):gu (w.setCell ⟨g,2,none⟩ z') g x y z':=by
 obtain⟨l,c0,c1,c2,f0,f1,f2⟩:=h;refine⟨by simp[l],?_,?_,?_,by simp[f0],by simp[f1],by simp[f2]⟩
 ·simp[go_sem,c0]
 ·simp[go_sem,c1]
 simp[go_sem,c2]
structure NcS(w W:World)(R:Nat)(ad:Option Addr)(cap:Nat)(l:List Int)(j G g cp:Nat)(ks:List K):Prop where
 rd:Rd W R ad cap l j
 gr:w.grownBy W (some R)
 lt:R<w.heap.size
 hG:w.heap.size+1<G
 hg:w.heap.size+1<g
 n1:g≠G
 lG:G<W.heap.size
 cG:W.cell? ⟨G,0,none⟩=some (.slice (some ⟨g,0,none⟩) 6 cp)
 c0:W.cell? ⟨w.heap.size+1,0,none⟩=some (.slice none 0 0)
 f0:W.frozen? ⟨w.heap.size+1,0,none⟩=false
 own:fO W (w.heap.size+2) (.slice (some ⟨g,0,none⟩) 6 cp) ks
 len:ks.length=6
section
variable{w W W1:World}{R cap j j1 G g cp:Nat}{ad:Option Addr}{l:List Int}{ks:List K}
theorem NcS.draw(h:NcS w W R ad cap l j G g cp ks)(hr:Rd W1 R ad cap l j1)(hg:W.grownBy W1 (some R)):NcS w W1 R ad cap l j1 G g cp ks:=by
 have h1:=h.lt;have h2:=h.hG;have h4:=h.hg;have hw:w.heap.size+1<W.heap.size:=dO h.hG h.lG;obtain⟨e1,_⟩:=eB (o:=0) hg h.lG (by simp;omega);obtain⟨e3,e4⟩:=eB (o:=0) hg hw (by simp;omega);exact⟨hr,eU h.gr hg,h1,h2,h4,h.n1,an h.lG hg.size,e1.trans h.cG,e3.trans h.c0,e4.trans h.f0,aA h.own hg (.inr (by simp[Value.ownBlock];omega)),h.len⟩
theorem NcS.box(h:NcS w W R ad cap l j G g cp ks)(c:K):NrS w (W.alloc (.cells #[.int .i64 c.kind,.int .u64 (c.a:Int),.int .u64 (c.b:Int)] 84)) R ad cap l j G g cp W.heap.size c ks:=by
 have h1:=h.lt;have h2:=h.hG;have h4:=h.hg;have h5:=h.lG;have hgl:=(h.own.lt g rfl).2;have a1:=fu (ah W (some R)) (.cells #[.int .i64 c.kind,.int .u64 (c.a:Int),.int .u64 (c.b:Int)] 84);have d:=h.draw (h.rd.alloc _) a1;exact⟨d.rd,d.gr,d.lt,d.hG,d.hg,by omega,d.n1,by omega,by omega,d.lG,d.cG,d.c0,d.f0,gu.new _ _ _ _ _,d.own,d.len⟩
theorem NcS.cells(h:NcS w W R ad cap l j G g cp ks){i:Nat}(hi:i<6):W.cell? ⟨g,i*3,none⟩=some (.int .i64 (ks.getD i fQ).kind)∧W.cell? ⟨g,i*3+1,none⟩=some (.int .u64 ((ks.getD i fQ).a:Int))∧W.cell? ⟨g,i*3+2,none⟩=some (.int .u64 ((ks.getD i fQ).b:Int))∧g<W.heap.size:=by
 have hb:=(h.box fQ).cells hi;have hgl:=(h.own.lt g rfl).2;obtain⟨h1,h2,h3,_⟩:=hb;rw[dm _ _ _ (dP hgl)]at h1 h2 h3;exact⟨h1,h2,h3,hgl⟩
end
theorem xM(l:List Int)(F:Nat->K×Nat)(hF:KdF l F)(b ca:Nat)(ks:List K)(h6:ks.length=6)(hk:∀c∈ks,OkK c)(R cap:Nat)(ad:Option Addr)(j:Nat)(w:World)(hR:Rd w R ad cap l j)(hs:KsD w b ks)(hb:b<w.heap.size):
 Calls Tryz.prog 117 #[.agg #[.slice (some ⟨b,0,none⟩) 6 ca],.pointer (some ⟨R,0,none⟩)] w fun e w'=>∃v,e=.returned (.agg #[v])∧fO w' w.heap.size v (oE l F ks j)∧Rd w' R ad cap l (po l F ks j)∧w.grownBy w' (some R):=by
 have HN:=nxH R cap ad l
 have HB:Hid (∀t,0<=l.getD t 0∧l.getD t 0<=255):=ez hR.bys
 have HC:Hid (∀t W,Rd W R ad cap l t->Calls Tryz.prog 137 #[.pointer (some ⟨R,0,none⟩)] W fun e w'=>e=.returned (.agg #[.int .i64 (F t).1.kind,.int .u64 ((F t).1.a:Int),.int .u64 ((F t).1.b:Int)])∧Rd w' R ad cap l (F t).2∧W.grownBy w' (some R)):=fun t W h=>(hF t).2 R cap ad W h
 have hRw:=hR.lt
 have e1:(w.alloc (.cells #[.slice (some ⟨b,0,none⟩) 6 ca] 57)).heap.size=w.heap.size+1:=by simp
 have HCp:Hid (Calls Tryz.prog 138 #[.agg #[.slice (some ⟨b,0,none⟩) 6 ca]] ((w.alloc (.cells #[.slice (some ⟨b,0,none⟩) 6 ca] 57)).alloc (.cells #[.slice none 0 0] 57)) fun e w'=>∃g cp,e=.returned (.agg #[.slice (some ⟨g,0,none⟩) 6 cp])∧NcS w (w'.alloc (.cells #[.slice (some ⟨g,0,none⟩) 6 cp] 57)) R ad cap l j w'.heap.size g cp ks):=by
  have B2:Below w.heap.size w ((w.alloc (.cells #[.slice (some ⟨b,0,none⟩) 6 ca] 57)).alloc (.cells #[.slice none 0 0] 57)):=((af _ _).alloc (ae _) _).alloc (by simp) _
  have q1:=gw (w.alloc (.cells #[.slice (some ⟨b,0,none⟩) 6 ca] 57)) (.slice none 0 0) 57 _ e1.symm
  have e2:((w.alloc (.cells #[.slice (some ⟨b,0,none⟩) 6 ca] 57)).alloc (.cells #[.slice none 0 0] 57)).heap.size=w.heap.size+2:=by simp
  refine(ym b ca ks h6 _ (hs.below hb B2) (by omega)).mono ?_
  rintro e w1⟨v,rfl,ow,b1⟩
  rw[e2]at ow
  have hR2:=((hR.alloc (.cells #[.slice (some ⟨b,0,none⟩) 6 ca] 57)).alloc (.cells #[.slice none 0 0] 57)).below b1
  have g2:w.grownBy w1 (some R):=eU (fu (fu (ah w (some R)) _) _) (fJ b1)
  have hs1:=b1.size
  rw[e2]at hs1
  obtain⟨g,cp,ev⟩:∃g cp,v=.slice (some ⟨g,0,none⟩) 6 cp:=by
   rcases ow.2 with⟨h1,h2⟩|⟨g,cap',cur,h1,_⟩
   ·omega
   ·rw[h6]at h1;exact⟨g,cap',h1⟩
  subst ev
  have hg:=ow.lt g rfl
  refine⟨g,cp,rfl,?_⟩
  have a1:=fu (ah w1 (some R)) (.cells #[.slice (some ⟨g,0,none⟩) 6 cp] 57)
  have c1:w1.cell? ⟨w.heap.size+1,0,none⟩=some (.slice none 0 0):=(b1.cell (p:=⟨w.heap.size+1,0,none⟩) (by simp)).trans q1.1
  have c2:w1.frozen? ⟨w.heap.size+1,0,none⟩=false:=(b1.frozen (p:=⟨w.heap.size+1,0,none⟩) (by simp)).trans q1.2
  obtain⟨d1,d2⟩:=eB (g:=w.heap.size+1) (o:=0) a1 (by omega) (by simp;omega)
  exact⟨hR2.alloc _,eU g2 a1,hRw,by omega,by omega,by omega,by simp,by simp,d1.trans c1,d2.trans c2,aA (row:=some R) ow a1 (.inr (by simp[Value.ownBlock];omega)),h6⟩
 clear hs hb e1 hF
 have hnr:oE l F ks j=if l.getD (j+1) 0%8=7 then(ks.set (l.getD j 0%3).toNat (qC l F (ks.getD (l.getD j 0%3).toNat fQ) (l.getD (j+1) 0%8) (j+2)).1).set (((l.getD j 0%3).toNat+1)%3) fQ
 else ks.set (l.getD j 0%3).toNat (qC l F (ks.getD (l.getD j 0%3).toNat fQ) (l.getD (j+1) 0%8) (j+2)).1:=rfl
 have hnj:po l F ks j=(qC l F (ks.getD (l.getD j 0%3).toNat fQ) (l.getD (j+1) 0%8) (j+2)).2:=rfl
 generalize oE l F ks j=RD at*
 generalize po l F ks j=RJ at*
 have Hnr0:Hid _:=hnr
 have Hnj0:Hid _:=hnj
 clear hnr hnj
 go_enter Tryz.func117,Tryz.ntmps117
 go_wp2_with fail
 refine HCp.out.mono ?_
 clear HCp
 rintro _ w1⟨g,cp,rfl,N1⟩
 have hy1:=HB.out j
 have hy2:=HB.out (j+1)
 have HN1:=HN.out j
 have HN2:=HN.out (j+1)
 have HN1':Hid _:=HN1
 have HN2':Hid _:=HN2
 have hnr:=Hnr0.out
 have hnj:=Hnj0.out
 clear Hnr0 Hnj0
 clear HN1 HN2
 generalize hY1:l.getD j 0=y1 at*
 generalize hY2:l.getD (j+1) 0=y2 at*
 clear hY1 hY2
 obtain⟨i,hi⟩:∃i:Nat,(i:Int)=y1%3:=⟨(y1%3).toNat,by omega⟩
 have hi3:i<3:=by omega
 have ei:(y1%3).toNat=i:=by omega
 rw[ei]at hnr hnj
 obtain⟨k,hkk⟩:∃k:Int,k=y2%8:=⟨_,rfl⟩
 have hk8:0<=k∧k<8:=by omega
 rw[<-hkk]at hnr hnj
 have Hkk:Hid (k=y2%8):=hkk
 have Hi:Hid ((i:Int)=y1%3):=hi
 have hkc:OkK (ks.getD i fQ):=by
  have:i<ks.length:=by omega
  rw[aa,ag this]
  exact hk _ (aI this)
 generalize hC:ks.getD i fQ=c at*
 have HCc:Hid _:=hC
 have Hnr:Hid _:=hnr
 have Hnj:Hid _:=hnj
 clear hnr hnj hi ei hkk hC hk
 go_wp2_with fail
 refine(HN1'.out _ N1.rd).mono ?_
 generalize hW1:w1.alloc (.cells #[.slice (some ⟨g,0,none⟩) 6 cp] 57)=W1 at*
 generalize hGG:w1.heap.size=G at*
 clear hW1 hGG
 rintro _ w2⟨rfl,r2,g2⟩
 have N2:=N1.draw r2 g2
 clear r2 g2 N1 HN1'
 go_wp2_with fail
 rw[<-Hi.out]
 refine(HN2'.out _ N2.rd).mono ?_
 rintro _ w3⟨rfl,r3,g3⟩
 have N3:=N2.draw r3 g3
 clear r3 g3 N2 HN2' Hi
 have cG:=N3.cG
 obtain⟨d0,d1,d2,dl⟩:=N3.cells (show i<6 by omega)
 rw[HCc.out]at d0 d1 d2
 have N4:=N3.box c
 have cp6:6<=cp:=by
  rcases N3.own.2 with⟨h1,h2⟩|⟨g',cap',cur,h1,_,_,hn',_⟩
  ·cases h1
  ·simp only[bs]at h1;rw[h6]at hn';omega
 obtain⟨ck,ca,cb⟩:=c
 simp only at d0 d1 d2 N4
 have hii:(0:Int)<=(i:Int)∧(i:Int)<6:=by omega
 go_upto_region 5 with fail
 rw[<-Hkk.out]
 clear Hkk
 clear d0 d1 d2 dl cG N3 HB
 generalize hW4:w3.alloc (.cells #[.int .i64 ck,.int .u64 (ca:Int),.int .u64 (cb:Int)] 84)=W4 at*
 generalize hHH:w3.heap.size=H at*
 clear hW4 hHH
 obtain⟨_,x0,x1,x2,u0,u1,u2⟩:=N4.bx
 have hy3:=ez N4.rd.bys (j+2)
 have hy4:=ez N4.rd.bys (j+3)
 have HN3:Hid (∀W,Rd W R ad cap l (j+2)->Calls Tryz.prog 18 #[.pointer (some ⟨R,0,none⟩)] W fun e w'=>e=.returned (.int .i64 (l.getD (j+2) 0))∧Rd w' R ad cap l (j+3)∧W.grownBy w' (some R)):=fun W h=>HN.out (j+2) W h
 have HN4:Hid (∀W,Rd W R ad cap l (j+3)->Calls Tryz.prog 18 #[.pointer (some ⟨R,0,none⟩)] W fun e w'=>e=.returned (.int .i64 (l.getD (j+3) 0))∧Rd w' R ad cap l (j+4)∧W.grownBy w' (some R)):=fun W h=>HN.out (j+3) W h
 have HC3:Hid (∀W,Rd W R ad cap l (j+2)->Calls Tryz.prog 137 #[.pointer (some ⟨R,0,none⟩)] W fun e w'=>e=.returned (.agg #[.int .i64 (F (j+2)).1.kind,.int .u64 ((F (j+2)).1.a:Int),.int .u64 ((F (j+2)).1.b:Int)])∧Rd w' R ad cap l (F (j+2)).2∧W.grownBy w' (some R)):=fun W h=>HC.out (j+2) W h
 clear HN HC
 have hnc:qC l F ⟨ck,ca,cb⟩ k (j+2)=if k<4∧ck=1∧ca≠0 then(if bits .and .u64 (ca:Int) (2^(l.getD (j+2) 0%4).toNat)≠0 then⟨ck,ca,(bits .xor .u64 (cb:Int) (2^(l.getD (j+2) 0%4).toNat)).toNat⟩else⟨ck,ca,cb⟩,j+3)
  else if k<6∧ck=2∧cb<18446744073709551595 then(⟨2,cb+(l.getD (j+2) 0%4).toNat,cb+(l.getD (j+2) 0%4).toNat+(l.getD (j+3) 0%5).toNat⟩,j+4)
  else F (j+2):=rfl
 generalize F (j+2)=fc at*
 obtain⟨⟨fk,fa,fb⟩,fj⟩:=fc
 simp only at HC3
 generalize l.getD (j+2) 0=y3 at*
 generalize l.getD (j+3) 0=y4 at*
 generalize qC l F ⟨ck,ca,cb⟩ k (j+2)=NC at*
 have Hnc:Hid _:=hnc
 clear hnc
 by_cases hA:k<4∧ck=1∧ca≠0
 case' pos=>
  have eN:=Hnc.out
  rw[if_pos hA]at eN
  have HeN:Hid _:=eN
  clear eN Hnc HC3 HN4
  obtain⟨hA1,rfl,hA3⟩:=hA
  have hA4:¬(ca:Int)=0:=by omega
  go_wp2_with fail
  refine(HN3.out _ N4.rd).mono ?_
  rintro _ w5⟨rfl,r5,g5⟩
  have N5:=N4.draw r5 g5
  obtain⟨_,x0,x1,x2,u0,u1,u2⟩:=N5.bx
  clear r5 g5 N4
  go_upto_region 7 with fail
  have hpw:IntKind.u64.wrap (2^(y3%4).toNat)=(2^(y3%4).toNat:Int):=by
   have:(y3%4).toNat=0∨(y3%4).toNat=1∨(y3%4).toNat=2∨(y3%4).toNat=3:=by omega
   rcases this with e|e|e|e<;>rw[e]<;>rfl
  rw[hpw]
  clear hpw
  generalize((2:Int)^(y3%4).toNat)=P2 at*
  rcases Classical.em (bits .and .u64 (ca:Int) P2≠0)with hbt|hbt
  case' inl=>
   have eN:=HeN.out
   rw[if_pos hbt]at eN
   have hx:=bits_hi_u64 .xor (cb:Int) P2
   have hx0:0<=bits .xor .u64 (cb:Int) P2:=bits_lo_u64 .xor (cb:Int) P2
   have hx2:((bits .xor .u64 (cb:Int) P2).toNat:Int)=bits .xor .u64 (cb:Int) P2:=by omega
   have N9:NrS w (w5.setCell ⟨H,2,none⟩ (.int .u64 (bits .xor .u64 (cb:Int) P2))) R ad cap l (j+3) G g cp H ⟨1,ca,(bits .xor .u64 (cb:Int) P2).toNat⟩ ks:=N5.box (fG (ah _ (some H)) 2 _) (by
    have:=set2D N5.bx (.int .u64 (bits .xor .u64 (cb:Int) P2))
    rw[<-hx2]at this⊢
    exact this)
   have HNC:Hid _:=eN
   clear eN HeN hx hx0 hx2 HN3
   go_upto_region 14 with fail
   clear x0 x1 x2 u0 u1 u2 N5
   generalize w5.setCell ⟨H,2,none⟩ (.int .u64 (bits .xor .u64 (cb:Int) P2))=W9 at N9⊢
   have FIN:∃cn jn,NC=(cn,jn)∧NrS w W9 R ad cap l jn G g cp H cn ks:=⟨_,_,HNC.out,N9⟩
   clear N9 HNC
  case' inr=>
   have eN:=HeN.out
   rw[if_neg hbt]at eN
   have hbt2:bits .and .u64 (ca:Int) P2=0:=by simpa using hbt
   have N9:=N5
   have HNC:Hid _:=eN
   clear eN HeN hbt HN3
   go_upto_region 14 with fail
   clear x0 x1 x2 u0 u1 u2 N5
   generalize w5=W9 at*
   have FIN:∃cn jn,NC=(cn,jn)∧NrS w W9 R ad cap l jn G g cp H cn ks:=⟨_,_,HNC.out,N9⟩
   clear N9 HNC
 case' neg=>
  have eN:=Hnc.out
  rw[if_neg hA]at eN
  have Hnc2:Hid _:=eN
  clear eN Hnc
  have hA':(k<4∧ck=1∧ca=0)∨(k<4∧¬ck=1)∨¬k<4:=by
   by_cases h1:k<4
   ·by_cases h2:ck=1
    ·exact .inl ⟨h1,h2,by by_cases h3:ca=0;exact h3;exact absurd ⟨h1,h2,h3⟩ hA⟩
    ·exact .inr (.inl ⟨h1,h2⟩)
   ·exact .inr (.inr h1)
  rcases Classical.em (k<6∧ck=2∧cb<18446744073709551595)with hB|hB
  case' inl=>
   have eN:=Hnc2.out
   rw[if_pos hB]at eN
   have HNC:Hid _:=eN
   clear eN Hnc2 HC3 hA
   obtain⟨hB1,rfl,hB3⟩:=hB
   have hB4:(cb:Int)<18446744073709551595:=by omega
   have hk4:k<4∨¬k<4:=by omega
   have hne:¬(2:Int)=1:=by omega
   clear hA'
   rcases hk4 with hk4|hk4
   all_goals
    go_wp2_with fail
    refine(HN3.out _ N4.rd).mono ?_
    rintro _ w5⟨rfl,r5,g5⟩
    have N5:=N4.draw r5 g5
    clear r5 g5 N4 x0 x1 x2 u0 u1 u2 HN3
    go_wp2_with fail
    refine(HN4.out _ N5.rd).mono ?_
    rintro _ w6⟨rfl,r6,g6⟩
    have N6:=N5.draw r6 g6
    obtain⟨_,x0,x1,x2,u0,u1,u2⟩:=N6.bx
    clear r6 g6 N5 HN4
    go_upto_region 12 with fail
    obtain⟨d,hd⟩:∃d:Nat,(d:Int)=y3%4:=⟨(y3%4).toNat,by omega⟩
    obtain⟨e5,he5⟩:∃d:Nat,(d:Int)=y4%5:=⟨(y4%5).toNat,by omega⟩
    have ed1:(y3%4).toNat=d:=by omega
    have ed2:(y4%5).toNat=e5:=by omega
    have hd4:d<4:=by omega
    have he6:e5<5:=by omega
    have HNC':Hid _:=HNC.out
    have eNN:=HNC.out
    rw[ed1,ed2]at eNN
    clear HNC HNC'
    have HNC:Hid _:=eNN
    clear eNN
    have Hd:Hid _:=hd
    have He:Hid _:=he5
    rw[<-Hd.out,<-He.out]
    clear hd he5 ed1 ed2 Hd He hy3 hy4
    have N9:NrS w (((w6.setCell ⟨H,0,none⟩ (.int .i64 2)).setCell ⟨H,1,none⟩ (.int .u64 ((cb:Int)+(d:Int)))).setCell ⟨H,2,none⟩ (.int .u64 ((cb:Int)+(d:Int)+(e5:Int)))) R ad cap l (j+4) G g cp H ⟨2,cb+d,cb+d+e5⟩ ks:=N6.box (fG (fG (fG (ah _ (some H)) _ _) _ _) _ _) (by
     have:=gu.sO N6.bx (.int .i64 2) (.int .u64 ((cb:Int)+(d:Int))) (.int .u64 ((cb:Int)+(d:Int)+(e5:Int)))
     simpa only[Int.natCast_add]using this)
    go_upto_region 14 with fail
    clear x0 x1 x2 u0 u1 u2 N6
    generalize((w6.setCell ⟨H,0,none⟩ (.int .i64 2)).setCell ⟨H,1,none⟩ (.int .u64 ((cb:Int)+(d:Int)))).setCell ⟨H,2,none⟩ (.int .u64 ((cb:Int)+(d:Int)+(e5:Int)))=W9 at N9⊢
    have FIN:∃cn jn,NC=(cn,jn)∧NrS w W9 R ad cap l jn G g cp H cn ks:=⟨_,_,HNC.out,N9⟩
    clear N9 HNC
  case' inr=>
   have eN:=Hnc2.out
   rw[if_neg hB]at eN
   have HNC:Hid _:=eN
   clear eN Hnc2 HN3 HN4 hA
   have hB':¬k<6∨(k<6∧¬ck=2)∨(k<6∧ck=2∧¬(cb:Int)<18446744073709551595):=by
    by_cases h1:k<6
    ·by_cases h2:ck=2
     ·exact .inr (.inr ⟨h1,h2,fun h3=>hB ⟨h1,h2,by omega⟩⟩)
     ·exact .inr (.inl ⟨h1,h2⟩)
    ·exact .inl h1
   clear hB
   have hcases:(¬k<4∧¬k<6)∨(¬k<4∧k<6∧¬ck=2)∨(¬k<4∧k<6∧ck=2∧¬(cb:Int)<18446744073709551595)∨(k<4∧k<6∧ck=1∧(ca:Int)=0∧¬ck=2)∨(k<4∧k<6∧¬ck=1∧¬ck=2)∨(k<4∧k<6∧¬ck=1∧ck=2∧¬(cb:Int)<18446744073709551595):=by omega
   clear hA' hB'
   rcases hcases with⟨q1,q2⟩|⟨q1,q2,q3⟩|⟨q1,q2,rfl,q4⟩|⟨q1,q2,rfl,q4,q5⟩|⟨q1,q2,q3,q4⟩|⟨q1,q2,q3,rfl,q5⟩
   all_goals
    have N4':=N4
    clear N4
    go_wp2_with fail
    refine(HC3.out _ N4'.rd).mono ?_
    rintro _ w5⟨rfl,r5,g5⟩
    have N5:=N4'.draw r5 g5
    clear r5 g5 N4' x0 x1 x2 u0 u1 u2 HC3
    obtain⟨_,x0,x1,x2,u0,u1,u2⟩:=N5.bx
    have N9:NrS w (((w5.setCell ⟨H,0,none⟩ (.int .i64 fk)).setCell ⟨H,1,none⟩ (.int .u64 (fa:Int))).setCell ⟨H,2,none⟩ (.int .u64 (fb:Int))) R ad cap l fj G g cp H ⟨fk,fa,fb⟩ ks:=N5.box (fG (fG (fG (ah _ (some H)) _ _) _ _) _ _) (gu.sO N5.bx _ _ _)
    go_upto_region 14 with fail
    clear x0 x1 x2 u0 u1 u2 N5
    generalize((w5.setCell ⟨H,0,none⟩ (.int .i64 fk)).setCell ⟨H,1,none⟩ (.int .u64 (fa:Int))).setCell ⟨H,2,none⟩ (.int .u64 (fb:Int))=W9 at N9⊢
    have FIN:∃cn jn,NC=(cn,jn)∧NrS w W9 R ad cap l jn G g cp H cn ks:=⟨_,_,HNC.out,N9⟩
    clear N9 HNC
  all_goals
  obtain⟨cn,jn,hNC,N9⟩:=FIN
  subst hNC
  have hr:=Hnr.out
  have hj:=Hnj.out
  simp only at hr hj
  subst hj
  have Hr:Hid _:=hr
  clear hr Hnr Hnj HCc
  obtain⟨ck9,ca9,cb9⟩:=cn
  obtain⟨d0,d1,d2,df⟩:=N9.cells (show i<6 by omega)
  have df0:=df (i*3)
  have df1:=df (i*3+1)
  have df2:=df (i*3+2)
  have cG:=N9.cG
  have N10:=N9.put (i:=i) ⟨ck9,ca9,cb9⟩
  obtain⟨_,x0,x1,x2,u0,u1,u2⟩:=N9.bx
  simp only at x0 x1 x2 N10
  clear df N9
  go_upto_region 15 with fail
  clear x0 x1 x2 u0 u1 u2 d0 d1 d2 df0 df1 df2 cG
  generalize((W9.setCell ⟨g,i*3,none⟩ (.int .i64 ck9)).setCell ⟨g,i*3+1,none⟩ (.int .u64 (ca9:Int))).setCell ⟨g,i*3+2,none⟩ (.int .u64 (cb9:Int))=W10 at N10⊢
  have cG:=N10.cG
  rcases Classical.em (k=7)with hk7|hk7
  case' inl=>
   have hr:=Hr.out
   rw[if_pos hk7]at hr
   have HRD:Hid _:=hr
   clear hr Hr
   subst hk7
   obtain⟨i2,hi2⟩:∃n:Nat,((i:Int)+1)%3=(n:Int):=⟨(i+1)%3,by omega⟩
   have ei2:(i+1)%3=i2:=by omega
   have hr2:=HRD.out
   rw[ei2]at hr2
   have HRE:Hid _:=hr2
   clear HRD hr2 ei2
   have hi23:i2<3:=by omega
   obtain⟨d0,d1,d2,df⟩:=N10.cells (show i2<6 by omega)
   have df0:=df (i2*3)
   have df1:=df (i2*3+1)
   have df2:=df (i2*3+2)
   have N11:=N10.put (i:=i2) fQ
   simp only[fQ]at N11
   clear df
   go_upto_region 17 with fail
   clear d0 d1 d2 df0 df1 df2
   generalize((W10.setCell ⟨g,i2*3,none⟩ (.int .i64 0)).setCell ⟨g,i2*3+1,none⟩ (.int .u64 0)).setCell ⟨g,i2*3+2,none⟩ (.int .u64 0)=W11 at N11⊢
   have FIN:NrS w W11 R ad cap l RJ G g cp H ⟨ck9,ca9,cb9⟩ RD:=by rw[HRE.out];exact N11
   clear HRE N11 N10 cG
  case' inr=>
   have hr:=Hr.out
   rw[if_neg hk7]at hr
   have HRE:Hid _:=hr
   clear hr Hr hk8
   try clear q1
   try clear q2
   try clear q3
   try clear q4
   try clear q5
   try clear hA1
   try clear hA3
   try clear hA4
   try clear hbt
   try clear hbt2
   try clear hB1
   try clear hB3
   try clear hB4
   try clear hk4
   try clear hy3
   try clear hy4
   try clear he6
   try clear hd4
   clear hy1 hy2 hkc hii
   go_upto_region 17 with fail
   generalize W10=W11 at*
   have FIN:NrS w W11 R ad cap l RJ G g cp H ⟨ck9,ca9,cb9⟩ RD:=by rw[HRE.out];exact N10
   clear HRE N10 cG
  all_goals try(exfalso;omega)
  all_goals
   have cG:=FIN.cG
   have z0:=FIN.c0
   have zf:=FIN.f0
   have hlt2:=FIN.lt
   have hg2:=FIN.hg
   have oF:fO (W11.setCell ⟨w.heap.size+1,0,none⟩ (.slice (some ⟨g,0,none⟩) 6 cp)) w.heap.size (.slice (some ⟨g,0,none⟩) 6 cp) RD:=hU (ownsRow_setCell_below FIN.own (by show w.heap.size+1<w.heap.size+2;omega) _) (by omega)
   have rF:Rd (W11.setCell ⟨w.heap.size+1,0,none⟩ (.slice (some ⟨g,0,none⟩) 6 cp)) R ad cap l RJ:=FIN.rd.ey (fun k hk=>aE W11 ⟨w.heap.size+1,0,none⟩ _ k (fun e=>by simp at e;omega))
   have gF:w.grownBy (W11.setCell ⟨w.heap.size+1,0,none⟩ (.slice (some ⟨g,0,none⟩) 6 cp)) (some R):=jx FIN.gr (fG (ah _ (some (w.heap.size+1))) 0 _) (fun k hk=>by simp at hk;omega)
   clear FIN
   go_wp2
   refine bodyPost_ret (v:=.agg #[.slice (some ⟨g,0,none⟩) 6 cp]) (by simp[results,Tryz.results117,go_sem,z0]) rfl ?_
   exact⟨_,rfl,oF,rF,gF⟩
 all_goals
  obtain⟨cn,jn,hNC,N9⟩:=FIN
  subst hNC
  have hr:=Hnr.out
  have hj:=Hnj.out
  simp only at hr hj
  subst hj
  have Hr:Hid _:=hr
  clear hr Hnr Hnj HCc
  obtain⟨ck9,ca9,cb9⟩:=cn
  obtain⟨d0,d1,d2,df⟩:=N9.cells (show i<6 by omega)
  have df0:=df (i*3)
  have df1:=df (i*3+1)
  have df2:=df (i*3+2)
  have cG:=N9.cG
  have N10:=N9.put (i:=i) ⟨ck9,ca9,cb9⟩
  obtain⟨_,x0,x1,x2,u0,u1,u2⟩:=N9.bx
  simp only at x0 x1 x2 N10
  clear df N9
  go_upto_region 15 with fail
  clear x0 x1 x2 u0 u1 u2 d0 d1 d2 df0 df1 df2 cG
  generalize((W9.setCell ⟨g,i*3,none⟩ (.int .i64 ck9)).setCell ⟨g,i*3+1,none⟩ (.int .u64 (ca9:Int))).setCell ⟨g,i*3+2,none⟩ (.int .u64 (cb9:Int))=W10 at N10⊢
  have cG:=N10.cG
  rcases Classical.em (k=7)with hk7|hk7
  case' inl=>
   have hr:=Hr.out
   rw[if_pos hk7]at hr
   have HRD:Hid _:=hr
   clear hr Hr
   subst hk7
   obtain⟨i2,hi2⟩:∃n:Nat,((i:Int)+1)%3=(n:Int):=⟨(i+1)%3,by omega⟩
   have ei2:(i+1)%3=i2:=by omega
   have hr2:=HRD.out
   rw[ei2]at hr2
   have HRE:Hid _:=hr2
   clear HRD hr2 ei2
   have hi23:i2<3:=by omega
   obtain⟨d0,d1,d2,df⟩:=N10.cells (show i2<6 by omega)
   have df0:=df (i2*3)
   have df1:=df (i2*3+1)
   have df2:=df (i2*3+2)
   have N11:=N10.put (i:=i2) fQ
   simp only[fQ]at N11
   clear df
   go_upto_region 17 with fail
   clear d0 d1 d2 df0 df1 df2
   generalize((W10.setCell ⟨g,i2*3,none⟩ (.int .i64 0)).setCell ⟨g,i2*3+1,none⟩ (.int .u64 0)).setCell ⟨g,i2*3+2,none⟩ (.int .u64 0)=W11 at N11⊢
   have FIN:NrS w W11 R ad cap l RJ G g cp H ⟨ck9,ca9,cb9⟩ RD:=by rw[HRE.out];exact N11
   clear HRE N11 N10 cG
  case' inr=>
   have hr:=Hr.out
   rw[if_neg hk7]at hr
   have HRE:Hid _:=hr
   clear hr Hr hk8
   try clear q1
   try clear q2
   try clear q3
   try clear q4
   try clear q5
   try clear hA1
   try clear hA3
   try clear hA4
   try clear hbt
   try clear hbt2
   try clear hB1
   try clear hB3
   try clear hB4
   try clear hk4
   try clear hy3
   try clear hy4
   try clear he6
   try clear hd4
   clear hy1 hy2 hkc hii
   go_upto_region 17 with fail
   generalize W10=W11 at*
   have FIN:NrS w W11 R ad cap l RJ G g cp H ⟨ck9,ca9,cb9⟩ RD:=by rw[HRE.out];exact N10
   clear HRE N10 cG
  all_goals try(exfalso;omega)
  all_goals
   have cG:=FIN.cG
   have z0:=FIN.c0
   have zf:=FIN.f0
   have hlt2:=FIN.lt
   have hg2:=FIN.hg
   have oF:fO (W11.setCell ⟨w.heap.size+1,0,none⟩ (.slice (some ⟨g,0,none⟩) 6 cp)) w.heap.size (.slice (some ⟨g,0,none⟩) 6 cp) RD:=hU (ownsRow_setCell_below FIN.own (by show w.heap.size+1<w.heap.size+2;omega) _) (by omega)
   have rF:Rd (W11.setCell ⟨w.heap.size+1,0,none⟩ (.slice (some ⟨g,0,none⟩) 6 cp)) R ad cap l RJ:=FIN.rd.ey (fun k hk=>aE W11 ⟨w.heap.size+1,0,none⟩ _ k (fun e=>by simp at e;omega))
   have gF:w.grownBy (W11.setCell ⟨w.heap.size+1,0,none⟩ (.slice (some ⟨g,0,none⟩) 6 cp)) (some R):=jx FIN.gr (fG (ah _ (some (w.heap.size+1))) 0 _) (fun k hk=>by simp at hk;omega)
   clear FIN
   go_wp2
   refine bodyPost_ret (v:=.agg #[.slice (some ⟨g,0,none⟩) 6 cp]) (by simp[results,Tryz.results117,go_sem,z0]) rfl ?_
   exact⟨_,rfl,oF,rF,gF⟩
end Go.Proofs.YtdihdapmphkhpaaGreat
namespace Go.Proofs.YtdihdapmphkhpaaGreat
open Go.RowKit Go.Deep
theorem nD:(Tryz.prog.info? 57).map (fun i=>(i.zero,i.size,i.bytes))=some (some (.agg #[.slice none 0 0]),1,24):=by kernel_rfl
structure RsD(w:World)(B:Nat)(v:Value)(l:List (List K))(vs:Nat->Value)(cb:Nat->Nat)(gb:Nat):Prop where
 row:w.ownsRow B 57 1 v l.length ((List.range l.length).map vs)
 ob:v.ownBlock=some gb
 own:∀i,i<l.length->fO w B (vs i) (l.getD i [])∧(vs i).ownBlock=some (cb i)
 ne:∀i,i<l.length->cb i≠gb
 inc:∀i j,i<j->j<l.length->cb i<cb j
theorem lX{w w1:World}{B t s n:Nat}{v:Value}{xs:List Value}(h:w.ownsRow B t s v n xs)(hb:∀q,v.ownBlock=some q->w1.heap[q]? =w.heap[q]?):w1.ownsRow B t s v n xs:=by
 obtain⟨h0,h|⟨g,cap,cur,e,hB,hg,r⟩⟩:=h
 ·exact⟨h0,.inl h⟩
 exact⟨h0,.inr ⟨g,cap,cur,e,hB,(hb g (by rw[e];rfl)).trans hg,r⟩⟩
theorem RsD.far{w w1:World}{B hi:Nat}{v:Value}{l:List (List K)}{vs:Nat->Value}{cb:Nat->Nat}{gb:Nat}(h:RsD w B v l vs cb gb)(h2:gb<hi)(h3:∀i,i<l.length->cb i<hi)(hb:∀k,B<=k->k<hi->w1.heap[k]? =w.heap[k]?):RsD w1 B v l vs cb gb:=by
 refine⟨lX h.row (fun q hq=> ?_),h.ob,fun i hi=>⟨lX (h.own i hi).1 (fun q hq=> ?_),(h.own i hi).2⟩,h.ne,h.inc⟩
 ·rw[h.ob]at hq;cases hq;exact hb _ (h.row.lt _ h.ob).1 h2
 rw[(h.own i hi).2]at hq;cases hq;exact hb _ ((h.own i hi).1.lt _ (h.own i hi).2).1 (h3 i hi)
theorem RsD.lts{w:World}{B:Nat}{v:Value}{l:List (List K)}{vs:Nat->Value}{cb:Nat->Nat}{gb:Nat}(h:RsD w B v l vs cb gb):gb<w.heap.size∧∀i,i<l.length->cb i<w.heap.size:=⟨(h.row.lt _ h.ob).2,fun i hi=>((h.own i hi).1.lt _ (h.own i hi).2).2⟩
theorem RsD.kept{w w1:World}{B R:Nat}{v:Value}{l:List (List K)}{vs:Nat->Value}{cb:Nat->Nat}{gb:Nat}(h:RsD w B v l vs cb gb)(hg:w.grownBy w1 (some R))(hR:R<B):RsD w1 B v l vs cb gb:=
 h.far h.lts.1 h.lts.2 fun k hk hs=>hg.block k hs (by simp;omega)
theorem RsD.next{w w9 w1:World}{B R:Nat}{v v':Value}{l:List (List K)}{r:List K}{vs:Nat->Value}{cb:Nat->Nat}{gb gg cap q:Nat}{o:Obj}(h:RsD w B v l vs cb gb)(hBw:B<=w.heap.size)(h9:w.grownBy w9 (some R))(hR:R<B)(hv:fO w9 w.heap.size v' r)(hq:v'.ownBlock=some q)
 (hown:w1.ownsRow B 57 1 (.slice (some ⟨gg,0,none⟩) (l.length+1) cap) (l.length+1) ((List.range l.length).map vs++[v']))(hg:(w9.alloc o).grownBy w1 v.ownBlock)(hat:v.ownBlock=some gg∨gg=(w9.alloc o).heap.size):
 RsD w1 B (.slice (some ⟨gg,0,none⟩) (l.length+1) cap) (l++[r]) (fun i=>if i=l.length then v' else vs i) (fun i=>if i=l.length then q else cb i) gg:=by
 have hgb:=(h.row.lt gb h.ob).2
 have hq1:=hv.lt q hq
 have hsz:(w9.alloc o).heap.size=w9.heap.size+1:=by simp
 have hws:=h9.size
 have hb2:w9.grownBy (w9.alloc o) none:=fu (ah _ _) _
 have cl:∀i,i<l.length->cb i<w.heap.size:=fun i hi=>((h.own i hi).1.lt _ (h.own i hi).2).2
 have cl2:∀i,i<l.length->B<=cb i:=fun i hi=>((h.own i hi).1.lt _ (h.own i hi).2).1
 have len1:(l++[r]).length=l.length+1:=by simp
 have gne:∀i,i<l.length->cb i≠gg:=fun i hi=>by
  rcases hat with e|e
  ·rw[h.ob]at e;cases e;exact h.ne i hi
  ·have:=cl i hi;omega
 have qne:q≠gg:=by
  rcases hat with e|e
  ·rw[h.ob]at e;cases e;omega
  ·omega
 have e0:(List.range (l.length+1)).map (fun i=>if i=l.length then v' else vs i)=(List.range l.length).map vs++[v']:=by
  rw[cC,bL]
  congr 1
  ·apply dD
   intro i hi
   rw[if_neg (by have:=bD.1 hi;omega)]
  ·simp
 refine⟨by rw[len1,e0];exact hown,rfl,fun i hi=> ?_,fun i hi=> ?_,fun i j hij hj=> ?_⟩
 ·rw[len1]at hi
  by_cases e:i=l.length
  ·subst e
   simp only[if_true]
   have e2:(l++[r]).getD l.length []=r:=by simp[aa]
   rw[e2]
   exact⟨hU (aA (aA hv hb2 (.inr (by rw[hq];simp))) hg (.inr (by rw[hq,h.ob];intro e;cases e;omega))) hBw,hq⟩
  ·have hi':i<l.length:=by omega
   simp only[if_neg e]
   have e2:(l++[r]).getD i []=l.getD i []:=by simp[aa,aD hi']
   rw[e2]
   refine⟨aA (aA (aA (h.own i hi').1 h9 (.inr ?_)) hb2 (.inr ?_)) hg (.inr ?_),(h.own i hi').2⟩
   ·rw[(h.own i hi').2];have:=cl2 i hi';simp;omega
   ·rw[(h.own i hi').2];simp
   ·rw[(h.own i hi').2,h.ob];intro e;cases e;exact h.ne i hi' rfl
 ·rw[len1]at hi
  by_cases e:i=l.length
  ·simp only[if_pos e];exact qne
  ·simp only[if_neg e];exact gne i (by omega)
 ·rw[len1]at hj
  by_cases e:j=l.length
  ·simp only[if_pos e]
   rw[if_neg (by omega)]
   have:=cl i (by omega);omega
  ·simp only[if_neg e]
   rw[if_neg (by omega)]
   exact h.inc i j hij (by omega)
theorem RsD.at{w:World}{B:Nat}{v:Value}{l:List (List K)}{vs:Nat->Value}{cb:Nat->Nat}{gb:Nat}(h:RsD w B v l vs cb gb){i:Nat}(hi:i<l.length)(h6:(l.getD i []).length=6):∃cp,vs i=.slice (some ⟨cb i,0,none⟩) 6 cp∧6<=cp∧w.cell? ⟨gb,i,none⟩=some (.slice (some ⟨cb i,0,none⟩) 6 cp)∧KsD w (cb i) (l.getD i [])∧cb i<w.heap.size∧w.frozen? ⟨gb,i,none⟩=false:=by
 obtain⟨h1,h2⟩:=h.own i hi;obtain⟨cp,e,hcp⟩:∃cp,vs i=.slice (some ⟨cb i,0,none⟩) 6 cp∧6<=cp:=by
  rcases h1.2 with⟨k1,k2⟩|⟨g,cap',cur,k1,_,_,k3,_⟩
  ·rw[h6]at k2;omega
  rw[k1]at h2;simp[Value.ownBlock]at h2;rw[h6]at k1 k3;exact⟨cap',by rw[k1,h2],k3⟩
 obtain⟨cpv,ev⟩:∃cpv,v=.slice (some ⟨gb,0,none⟩) l.length cpv:=by
  have ho:=h.ob;rcases h.row.2 with⟨k1,k2⟩|⟨g,cap',cur,k1,_⟩
  ·omega
  rw[k1]at ho;simp[Value.ownBlock]at ho;exact⟨cap',by rw[k1,ho]⟩
 have hr:=h.row;rw[ev]at hr;have hc:=hr.cells rfl i (vs i) (by simp[hi]);rw[kn,aC,e]at hc;rw[e]at h1;refine⟨cp,e,hcp,hc,uZ h1,(h1.lt _ rfl).2,?_⟩;obtain⟨_,k|⟨g',cap',cur,e',_,hg',_⟩⟩:=hr
 ·cases k.1
 simp only[bs,bz,Addr.mk.injEq]at e';rw[<-e'.1.1]at hg';simp[World.frozen?,hg']
theorem RsD.form{w:World}{B:Nat}{v:Value}{l:List (List K)}{vs:Nat->Value}{cb:Nat->Nat}{gb:Nat}(h:RsD w B v l vs cb gb):∃cap,v=.slice (some ⟨gb,0,none⟩) l.length cap∧l.length<=cap:=by
 have ho:=h.ob;rcases h.row.2 with⟨k1,k2⟩|⟨g,cap',cur,k1,_,_,k3,_⟩
 ·rw[k1]at ho;cases ho
 rw[k1]at ho;simp[Value.ownBlock]at ho;exact⟨cap',by rw[k1,ho],k3⟩
def qQ(r:List K):Prop:=(∀c∈r,OkK c)∧r.length=6
def mq(l:List Int)(F:Nat->K×Nat)(rs:List (List K))(j:Nat):List K×Nat:=
 if l.getD j 0%8=0 then(kz l F (j+1),mG l F (j+1))
 else(oE l F (rs.getD (l.getD (j+1) 0%(rs.length:Int)).toNat []) (j+2),po l F (rs.getD (l.getD (j+1) 0%(rs.length:Int)).toNat []) (j+2))
def goR(l:List Int)(F:Nat->K×Nat):Nat->List (List K)->Nat->List (List K)×Nat
 |0,rs,j=>(rs,j)
 |f+1,rs,j=>if j<l.length then goR l F f (rs++[(mq l F rs j).1]) (mq l F rs j).2 else(rs,j)
def gH(l:List Int)(F:Nat->K×Nat)(j:Nat):List (List K)×Nat:=goR l F (l.getD j 0%9).toNat [kz l F (j+1)] (mG l F (j+1))
theorem yY {l : List Int} (hl : eV l) {F : Nat -> K × Nat} (hF : KdF l F) {rs : List (List K)} (h : ∀ r ∈ rs, qQ r) (h0 : 0 < rs.length) (j : Nat) : qQ (mq l F rs j).1 := by
  unfold mq
  split
  · exact oZ hF _
  · have hlt : (l.getD (j + 1) 0 % (rs.length : Int)).toNat < rs.length := by
      have := cf (l.getD (j + 1) 0) (show (rs.length : Int) ≠ 0 by omega)
      have := bQ (l.getD (j + 1) 0) (show (0 : Int) < rs.length by omega)
      omega
    have hr : qQ (rs.getD (l.getD (j + 1) 0 % (rs.length : Int)).toNat []) := by
      rw [aa, ag hlt]
      exact h _ (aI hlt)
    exact zF hl hF hr.1 hr.2 (j + 2)
theorem goR_ok{l:List Int}(hl:eV l){F:Nat->K×Nat}(hF:KdF l F)(f:Nat)(rs:List (List K))(j:Nat)(h:∀r∈rs,qQ r)(h0:0<rs.length):(∀r∈(goR l F f rs j).1,qQ r)∧0<(goR l F f rs j).1.length∧(goR l F f rs j).1.length<=rs.length+f:=by
 induction f generalizing rs j with
 |zero=>exact⟨h,h0,by simp[goR]⟩
 |succ f ih=>
  unfold goR;split
  ·have:=ih (rs++[(mq l F rs j).1]) (mq l F rs j).2 (fun r hr=>by
   simp only[bj,aV]at hr
   rcases hr with hr|rfl
   ·exact h r hr
   ·exact yY hl hF h h0 j) (by simp)
   refine⟨this.1,this.2.1,?_⟩;have:=this.2.2;simp only[aj,bG]at this;omega
  exact⟨h,h0,by show rs.length<=_;omega⟩
theorem Ev{l:List Int}(hl:eV l){F:Nat->K×Nat}(hF:KdF l F)(j:Nat):(∀r∈(gH l F j).1,qQ r)∧0<(gH l F j).1.length∧(gH l F j).1.length<=9:=by
 have hb:=ez hl j;have:=goR_ok hl hF (l.getD j 0%9).toNat [kz l F (j+1)] (mG l F (j+1)) (fun r hr=>by
  simp only[aV]at hr;subst hr;exact oZ hF _) (by simp)
 refine⟨this.1,this.2.1,?_⟩;have:=this.2.2;simp only[bG]at this;unfold gH;omega
structure LrS(w W:World)(R:Nat)(ad:Option Addr)(cap:Nat)(l:List Int)(j:Nat)(v:Value)(rs:List (List K)):Prop where
 rd:Rd W R ad cap l j
 gr:w.grownBy W (some R)
 lt:R<w.heap.size
 own:∃vs cb gb,RsD W w.heap.size v rs vs cb gb
section
variable{w W W1:World}{R cap j j1:Nat}{ad:Option Addr}{l:List Int}{v:Value}{rs:List (List K)}
theorem LrS.draw(h:LrS w W R ad cap l j v rs)(hr:Rd W1 R ad cap l j1)(hg:W.grownBy W1 (some R)):LrS w W1 R ad cap l j1 v rs:=by
 obtain⟨vs,cb,gb,ho⟩:=h.own;exact⟨hr,eU h.gr hg,h.lt,vs,cb,gb,ho.kept hg h.lt⟩
theorem LrS.alloc(h:LrS w W R ad cap l j v rs)(o:Obj):LrS w (W.alloc o) R ad cap l j v rs:=h.draw (h.rd.alloc o) (fu (ah _ _) _)
theorem LrS.push{W9:World}{v':Value}{r:List K}{gg cp:Nat}{o:Obj}(h:LrS w W R ad cap l j v rs)(hr:Rd W9 R ad cap l j1)(hg:W.grownBy W9 (some R))(hv:fO W9 W.heap.size v' r)(h6:r.length=6)
 (hown:∀vs cb gb,RsD W w.heap.size v rs vs cb gb->W1.ownsRow w.heap.size 57 1 (.slice (some ⟨gg,0,none⟩) (rs.length+1) cp) (rs.length+1) ((List.range rs.length).map vs++[v']))(hgr:(W9.alloc o).grownBy W1 v.ownBlock)(hat:v.ownBlock=some gg∨gg=(W9.alloc o).heap.size):
 LrS w W1 R ad cap l j1 (.slice (some ⟨gg,0,none⟩) (rs.length+1) cp) (rs++[r]):=by
 obtain⟨vs,cb,gb,ho⟩:=h.own
 obtain⟨q,hq⟩:∃q,v'.ownBlock=some q:=by
  rcases hv.2 with⟨k1,k2⟩|⟨g,cap',cur,k1,_⟩
  ·omega
  ·exact⟨g,by rw[k1];rfl⟩
 have hge:∀k,v.ownBlock=some k->w.heap.size<=k:=fun k hk=>(ho.row.lt k hk).1
 have hb2:W9.grownBy (W9.alloc o) (some R):=fu (ah _ _) _
 exact⟨(hr.alloc o).grown hgr h.lt hge,jx (eU (eU h.gr hg) hb2) hgr hge,h.lt,_,_,_,ho.next h.gr.size hg h.lt hv hq (hown _ _ _ ho) hgr hat⟩
end
end Go.Proofs.YtdihdapmphkhpaaGreat
