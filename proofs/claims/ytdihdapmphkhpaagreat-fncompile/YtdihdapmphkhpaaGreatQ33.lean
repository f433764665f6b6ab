import Derived.Test.YtdihdapmphkhpaaGreatQ11
import Derived.Test.YtdihdapmphkhpaaGreatQ32
set_option linter.all false
set_option maxRecDepth 200000
set_option maxHeartbeats 16000000
namespace Go.Proofs.YtdihdapmphkhpaaGreat
open Go.RowKit
variable{v:Value}{w:World}
def xY(rules:List Ru)(w:World)(e:Ending)(w':World):Prop:=∃v os,e=.returned v∧iI rules (os.map Prod.fst)∧jg w.heap.size w' w.heap.size v os∧Below w.heap.size w w'
theorem Du{r:Ru}{k:Nat}(h:k<6):(gm r).take (k+1)=(gm r).take k++[eQ (r.getD k K.zero)]:=by
 have hl:k<(gm r).length:=by rw[lN];exact h
 rw[cK,ag hl];have:=iD r h;rw[aa,ag hl]at this;rw[<-this];rfl
structure qE(l0 cur:List Ru)(m:Bool):Prop where
 nr:NRs cur
 len:cur.length<=1000
 steps:∀x,Steps cur x->Steps l0 x
 stuck:m=false->rq cur
theorem qE.step{l0 cur nx:List Ru}{m:Bool}(h:qE l0 cur m)(hs:Step cur nx):qE l0 nx true∧nx.length<cur.length:=by
 obtain⟨h1,h2,_,_⟩:=hs.keeps h.nr;have:=h.len;exact⟨⟨h1,by omega,fun x hx=>h.steps x (.more hs hx),fun e=>by cases e⟩,by omega⟩
theorem qE.stop{l0 cur:List Ru}{m:Bool}(h:qE l0 cur m)(hs:rq cur):qE l0 cur false:=⟨h.nr,h.len,h.steps,fun _=>hs⟩
def Gh:Value->Nat
 |.bool true=>1
 |_=>0
theorem yV(rules:List Ru)(a:Option Addr)(cap:Nat)(w:World)(hs:eS 1 PR w a rules)(hv:∀r∈rules,VR r)(hn:rules.length<=1000):
 Calls Tryz.prog 24 #[.slice a rules.length cap] w fun e w'=>xY rules w e w':=by
 obtain⟨i0,hi,hz0,hz1,hz2⟩:=info_parts Aa;obtain⟨i1,hi1,hy0,hy1,hy2⟩:=info_parts th;have HR:Hid (∀wr,Below w.heap.size w wr->∀i,i<rules.length->∃b o b2 o2 cap',a=some ⟨b,o,none⟩∧wr.cell? ⟨b,o+i,none⟩=some (.slice (some ⟨b2,o2,none⟩) 6 cap')∧b2<wr.heap.size∧LAt 3 PK wr b2 o2 (at' rules i)):=fun wr hB i hi=>by
  obtain⟨b,o,a',cap',h1,h2,h3,h4⟩:=nT (FY hs fun _ _ _ h=>h.toL) (fun r hr=>(hv r hr).1) (v:=.slice none 0 0) hB hi (fun q hq=>by cases hq);obtain⟨b2,o2,c2,e,g1,g2,g3,g4,_⟩:=h4;simp only at e
  cases e;exact⟨b,o,b2,o2,_,h1,h2,g3,g4⟩
 have HV:Hid (∀i,i<rules.length->VR (at' rules i)):=fun i hi=>hv _ (at_mem hi)
 have HM:Hid (∀i,i<rules.length->(rules.map gm).take (i+1)=(rules.map gm).take i++[gm (at' rules i)]):=fun i hi=>by
  have hl:i<(rules.map gm).length:=by simpa using hi
  rw[cK,ag hl,at',aa,ag hi];simp
 have HMl:Hid (∀i,i<=rules.length->((rules.map gm).take i).length=i):=fun i hi=>by rw[bN,aX];omega
 have HMa:Hid ((rules.map gm).take rules.length=rules.map gm):=by show _=_;exact List.take_of_length_le (by simp)
 have HNR:Hid (NRs (rules.map gm)):=fun r hr=>by
  obtain⟨x,hx,rfl⟩:=bT.1 hr;exact vz (hv x hx)
 have HSo:Hid (∀l a cap w1,eS 1 (PRL w.heap.size) w1 a l->NRs l->l.length<=1000->Calls Tryz.prog 51 #[.slice a l.length cap] w1 fun e w'=>pO w.heap.size l w1 e w'):=fun l a cap w1 h1 h2 h3=>Cu _ l a cap w1 h1 h2 h3
 have HSt:Hid (∀l a cap w1,eS 1 (PRL w.heap.size) w1 a l->NRs l->l.length<=1000->w.heap.size<=w1.heap.size->Calls Tryz.prog 52 #[.slice a l.length cap] w1 fun e w'=>kp w.heap.size l a cap w1 e w'):=fun l a cap w1 h1 h2 h3 h4=>Cg _ l a cap w1 h1 h2 h3 h4
 have HIs:Hid (∀l0 m out,jh ie (rules.map gm) l0->Steps l0 m->jh ie m out->iI rules out):=fun l0 m out h1 h2 h3=>⟨l0,m,h1,h2,h3⟩
 have HDl:Hid (∀l0,jh ie (rules.map gm) l0->NRs l0∧l0.length<=rules.length):=fun l0 h=>by
  refine⟨fun r hr=>HNR.out r ((h.2 r).1 hr),?_⟩;have:=pW (lV ou h.1) fun c hc=>(h.2 c).1 hc
  simpa using this
 clear hs hv;generalize rules.length=n at*;generalize rules.map gm=nl at*;go_enter Tryz.func24,Tryz.ntmps24;go_wp2_with fail;go_loopw [3,4](fun s' i wr=>∃(j:Nat)(s:Value)(os:List (Ru×Value)),j<=n∧i=.int .i64 j∧s=s'∧jg w.heap.size wr w.heap.size s os∧Hid (os.map Prod.fst=nl.take j)∧Below w.heap.size w wr)(fun _ i _=>n-(intOf i).toNat)
 case atStart=>exact⟨0,_,[],by omega,rfl,rfl,jg.nil _ _,by show _=_;simp,af _ _⟩
 case round=>
  obtain⟨j,s,os,hj,rfl,hss,hO,HMj,B⟩:=hrel;subst hss;rename World=>W0
  by_cases hjn:j<n
  ·have hjn':(j:Int)<(n:Int):=by omega
   obtain⟨b,o,b2,o2,cap',rfl,cr,hb2,hL2⟩:=HR.out W0 B j hjn;have T0:=BR.new 84 3 W0 57;have HVj:=(HV.out j hjn).2;have HNC:Hid (∀k w1,Calls Tryz.prog 50 #[fC ((at' rules j).getD k K.zero)] w1 fun e w'=>e=.returned (fC (eQ ((at' rules j).getD k K.zero)))∧Below w1.heap.size w1 w'):=fun k w1=>qY _ w1 (HVj k).1 (HVj k).2
   have HL3:Hid (∀wr,Below W0.heap.size W0 wr->∀k,k<6->PK wr b2 (o2+k*3) ((at' rules j).getD k K.zero)):=fun wr hb k hk=>PK.stays _ _ _ _ _ hb2 hb (hL2.get (by rw[(HV.out j hjn).1];exact hk) K.zero)
   have hol:os.length=j:=by
    have:=congrArg List.length HMj.out;rw[aX,HMl.out j hj]at this;exact this
   have HMj2:Hid (∀x,(os++[(gm (at' rules j),x)]).map Prod.fst=nl.take (j+1)):=fun x=>by
    rw[bL,HMj.out,HM.out j hjn];rfl
   have HNT:Hid (∀k,k<6->kcs ((gm (at' rules j)).take (k+1))=kcs ((gm (at' rules j)).take k)++[.int .i64 (eQ ((at' rules j).getD k K.zero)).kind,.int .u64 ((eQ ((at' rules j).getD k K.zero)).a:Int),.int .u64 ((eQ ((at' rules j).getD k K.zero)).b:Int)]):=fun k hk=>by rw[Du hk,px]
   have HN6:Hid ((gm (at' rules j)).take 6=gm (at' rules j)):=by show _=_;exact List.take_of_length_le (by rw[lN];exact ae 6)
   clear HR HV HM HMl HMa HNR HSo HSt HIs HDl HVj hL2 HMj;generalize at' rules j=r at*;go_wp2_with fail;generalize W0.alloc (.cells #[.slice none 0 0] 57)=WB at*;go_loopw [6](fun i wr=>∃(k:Nat)(v:Value),k<=6∧i=.int .i64 k∧BR 84 3 W0 wr v k (kcs ((gm r).take k)))(fun i _=>6-(intOf i).toNat)
   case atStart=>exact⟨0,_,by omega,rfl,T0⟩
   case round=>
    clear T0;obtain⟨k,v,hk,rfl,hT⟩:=hrel;rename World=>W1
    by_cases hk6:k<6
    ·have hk6':(k:Int)<6:=by omega
     obtain⟨av,cv,rfl⟩:=rK hT.own;obtain⟨c0,c1,c2⟩:=HL3.out W1 hT.b k hk6;have crr:=eh hT.b cr;have HNk:=HNC.out k;have HNTk:=HNT.out k hk6;have hbm:k+1<=maxLen:=by unfold maxLen;omega
     have hbd:(k+1)*24<=140737488355328:=by omega
     have hvl:W0.heap.size<W1.heap.size:=ib hT.c;generalize hcx:eQ (r.getD k K.zero)=nx at*;generalize r.getD k K.zero=cx at*;obtain⟨ck,ca,cb⟩:=cx;obtain⟨nk,na,nb⟩:=nx;simp only at c0 c1 c2 HNTk;simp only[fC]at HNk;have HN2:Hid (∀w1,Calls Tryz.prog 50 #[.agg #[.int .i64 ck,.int .u64 (ca:Int),.int .u64 (cb:Int)]] w1 fun e w'=>e=.returned (.agg #[.int .i64 nk,.int .u64 (na:Int),.int .u64 (nb:Int)])∧Below w1.heap.size w1 w'):=HNk;have HK:Hid (kcs ((gm r).take (k+1))=kcs ((gm r).take k)++[.int .i64 nk,.int .u64 (na:Int),.int .u64 (nb:Int)]):=HNTk;have hT1:=hT.ey (af _ _).drew;have SKc:Hid (∀w9,Below W1.drew.heap.size W1.drew w9->BR 84 3 W0 w9 (.slice av k cv) k (kcs ((gm r).take k))∧w9.cell? ⟨W0.heap.size,0,none⟩=some (.slice av k cv)∧W0.heap.size<w9.heap.size∧(∀ob,(w9.alloc ob).cell? ⟨W0.heap.size,0,none⟩=some (.slice av k cv))):=fun w9 hb=>by
      have:=hT1.ey hb;exact⟨this,this.c,ib this.c,fun ob=>eh ((af _ _).alloc (ae _) ob) this.c⟩
     have c0d:W1.drew.cell? ⟨b2,o2+k*3,none⟩=some (.int .i64 ck):=c0;have c1d:W1.drew.cell? ⟨b2,o2+k*3+1,none⟩=some (.int .u64 (ca:Int)):=c1;have c2d:W1.drew.cell? ⟨b2,o2+k*3+2,none⟩=some (.int .u64 (cb:Int)):=c2;have crd:W1.drew.cell? ⟨b,o+j,none⟩=some (.slice (some ⟨b2,o2,none⟩) 6 cap'):=crr;have hcd:W1.drew.cell? ⟨W0.heap.size,0,none⟩=some (.slice av k cv):=hT.c;clear hT hT1 c0 c1 c2 crr HNk HNTk hcx HNC HL3 HNT HN6 HMj2 hO;go_wp2_with fail;go_region_law(first
      |(go_simp;refine(HN2.out _).mono ?_;rintro _ w9⟨rfl,hb9⟩;obtain⟨hS9,hc9,hl9,ha9⟩:=SKc.out w9 hb9;dsimp only)
      |(refine step_append_lies _ (by rfl) _ _ _ (by rfl) (W0.heap.size+1) 84 i0 _ 3 24 Tryz.underlying55 hi hz0 hz1 hz2 rfl (by omega) (.slice av k cv) k (kcs ((gm r).take k)) (by rfl) (hS9.own.alloc _) ⟨w9.heap.size,0,none⟩ 1 1 [.int .i64 nk,.int .u64 (na:Int),.int .u64 (nb:Int)] (by rfl) (by rfl) (World.news_of_block (t:=84) (fr:=(0,0)) (heap_alloc_new w9 _)) (by simp[Value.oneCell']) (by omega) hbm hbd (by simp;omega) (w9.heap.size+1) (by simp) ?_;intro gg cap2 w1 hown1 hgrow hat hlt2;obtain⟨x1,x2,x3⟩:=(hS9.ey ((af _ _).alloc (ae _) _)).next hown1 hgrow))
     all_goals
      rw[<-HK.out]at x3;have HX3:Hid _:=x3;clear x1 x2 x3 hown1 hgrow hat hlt2 hS9 hc9 hl9 ha9 hb9 SKc HN2 c0d c1d c2d crd hcd HK;go_wp2;go_roundw
      case rel=>exact⟨k+1,_,by omega,by go_num,HX3.out⟩
      case measure=>simp[intOf];omega
    have hk':k=6:=by omega
    subst hk';obtain⟨g,cg,rfl⟩:=pS hT.own (by omega);have hge:=(hT.own.lt g rfl);have hc1:=hT.c;have hB1:=B.trans (hT.b.mono B.size);have O1:=hO.below hT.b;have hgood:lA w.heap.size W1 s (gm r,.slice (some ⟨g,0,none⟩) 6 cg):=by
     refine⟨g,0,cg,rfl,lN r,fun e=> ?_,hge.2,yo (by have h:=hT.own;rw[HN6.out]at h;exact h) (lN r),by have:=B.size;omega⟩;have:=(hO.row.lt g e).2;omega
    have hbm:os.length+1<=maxLen:=by unfold maxLen;omega
    have hbd:(os.length+1)*24<=140737488355328:=by omega
    have hsz:=hB1.size;have hbs:w.heap.size<=(W1.alloc (.cells #[.slice (some ⟨g,0,none⟩) 6 cg] 57)).heap.size:=by simp;omega
    clear hT hO HNC HL3 HNT HN6;go_wp2_with(at_builtin;refine wpList_append_lies _ rfl (.tmp 32) (.tmp 34) 51 rfl (w.heap.size) 57 i1 _ 1 24 Tryz.underlying51 hi1 hy0 hy1 hy2 rfl (by decide) s os.length (os.map Prod.snd) rfl (O1.row.alloc _) ⟨W1.heap.size,0,none⟩ 1 1 [.slice (some ⟨g,0,none⟩) 6 cg] rfl rfl (cell_one_new _ _ _) (by intro u hu;simp at hu;subst hu;rfl) (by omega) hbm hbd hbs _ rfl ?_);intro gg cp w9 ow gr hat _;have O9:=O1.next hgood (by omega) ow gr hat;have B9:Below w.heap.size w w9:=(hB1.alloc hsz _).grown gr hbs (fun t ht=>(O1.row.lt t ht).1);have HM9:=HMj2.out (.slice (some ⟨g,0,none⟩) 6 cg);have HM9':Hid _:=HM9;clear ow gr hat O1 hgood hB1 hc1 hbm hbd hbs HM9 HMj2;go_wp2;go_roundw
    case rel=>exact⟨j+1,_,_,by omega,by go_num,rfl,O9,HM9'.out,B9⟩
    case measure=>simp[intOf];omega
  have hjn':j=n:=by omega
  subst hjn';have hnn:¬(j:Int)<(j:Int):=by omega
  have hml:os.map Prod.fst=nl:=HMj.out.trans HMa.out;obtain⟨al,cl,rfl,_,hsl⟩:=hO.src;rw[hml]at hsl;have hol:os.length=nl.length:=by rw[<-hml,aX]
  have hnl:nl.length<=1000:=by
   have:=HMl.out j (ae _);rw[HMa.out]at this;omega
  rw[hol];have HSo1:Hid (Calls Tryz.prog 51 #[.slice al nl.length cl] W0 fun e w'=>pO w.heap.size nl W0 e w'):=HSo.out nl al cl W0 hsl HNR.out hnl;clear HR HV HM HMl HMa HMj hsl hO hml hol;go_wp2_with fail;refine(HSo1.out).mono ?_;rintro _ w1⟨v1,os1,rfl,O1,hD1,hb1⟩;have B1:=B.trans (hb1.mono B.size);obtain⟨hnr1,hlen1⟩:=HDl.out _ hD1;obtain⟨a1,c1,rfl,_,hs1⟩:=O1.src;have HD1:Hid (jh ie nl (os1.map Prod.fst)):=hD1;have HW0:Hid (qE (os1.map Prod.fst) (os1.map Prod.fst) true):=⟨hnr1,by omega,fun x h=>h,fun e=>by cases e⟩;have hl1:os1.length=(os1.map Prod.fst).length:=by rw[aX]
  rw[hl1];clear HSo1 O1 hD1 hnr1 hlen1 hl1 HNR HDl hb1 B;generalize os1.map Prod.fst=l0 at*;go_wp2_with fail;go_loopw [3,7](fun s m' wr=>∃(a2:Option Addr)(c2:Nat)(cur:List Ru)(m:Bool),s=.slice a2 cur.length c2∧m'=.bool m∧eS 1 (PRL w.heap.size) wr a2 cur∧Hid (qE l0 cur m)∧Below w.heap.size w wr)(fun s m' _=>As s+Gh m')
  case atStart=>exact⟨a1,c1,l0,true,rfl,rfl,hs1,HW0,B1⟩
  case round=>
   clear hs1 HW0 B1;obtain⟨a2,c2,cur,m,rfl,rfl,hs2,HO,B2⟩:=hrel;rename World=>W2
   cases m with
   |true=>
    have HSt1:Hid (Calls Tryz.prog 52 #[.slice a2 cur.length c2] W2 fun e w'=>kp w.heap.size cur a2 c2 W2 e w'):=HSt.out cur a2 c2 W2 hs2 HO.out.nr HO.out.len B2.size;clear HSt HSo HIs HD1;go_wp2_with fail;refine(HSt1.out).mono ?_;rintro _ w3⟨⟨v3,os3,hst,rfl,O3⟩|⟨hst,rfl⟩,hb3⟩
    ·obtain⟨a3,c3,rfl,_,hs3⟩:=O3.src;have B3:=B2.trans (hb3.mono B2.size);obtain⟨hw3,hlt3⟩:=HO.out.step hst;have HW3:Hid (qE l0 (os3.map Prod.fst) true):=hw3;have hl3:os3.length=(os3.map Prod.fst).length:=by rw[aX]
     rw[hl3];clear O3 hst hw3 hb3 B2 HO HSt1 hl3 hs2;generalize os3.map Prod.fst=cur3 at*;go_wp2;go_roundw
     case rel=>exact⟨a3,c3,cur3,true,rfl,rfl,hs3,HW3,B3⟩
     case measure=>simp only[As,Gh];omega
    have B3:=B2.trans (hb3.mono B2.size);have hs3:=hs2.below (PRL.stays _) hb3;have HW3:Hid (qE l0 cur false):=HO.out.stop hst;clear hst hb3 B2 HO HSt1 hs2;generalize hcl:cur.length=cn at*;go_wp2;go_roundw
    case rel=>exact⟨a2,c2,cur,false,by rw[hcl],rfl,hs3,HW3,B3⟩
    case measure=>simp only[As,Gh];omega
   |false=>
    have HSo1:Hid (Calls Tryz.prog 51 #[.slice a2 cur.length c2] W2 fun e w'=>pO w.heap.size cur W2 e w'):=HSo.out cur a2 c2 W2 hs2 HO.out.nr HO.out.len;have HSteps:Hid (Steps l0 cur):=HO.out.steps cur (.done (HO.out.stuck rfl));clear HSt HSo HO hs2;go_wp2_with fail;refine(HSo1.out).mono ?_;rintro _ w3⟨v3,os3,rfl,O3,hD3,hb3⟩;have HP:Hid (xY rules w (.returned v3) w3):=⟨v3,os3,rfl,HIs.out l0 cur _ HD1.out HSteps.out hD3,O3.mono B2.size,B2.trans (hb3.mono B2.size)⟩;clear O3 hD3 hb3 HSo1 HIs HD1 HSteps;go_wp2;go_ret;exact HP.out
def PRI(lo hi:Nat)(w:World)(b o:Nat)(r:List K):Prop:=∃a cap,w.cell? ⟨b,o,none⟩=some (.slice a r.length cap)∧(r=[]∨∃b2 o2,a=some ⟨b2,o2,none⟩∧lo<=b2∧b2<hi∧LAt 3 PK w b2 o2 r)
def RsI(lo hi:Nat)(w:World)(a:Option Addr)(l:List Ru):Prop:=l=[]∨∃b o,a=some ⟨b,o,none⟩∧lo<=b∧b<hi∧LAt 1 (PRI lo hi) w b o l
theorem RsI.far{lo hi:Nat}{w':World}{a:Option Addr}{l:List Ru}(h:RsI lo hi w a l)(hb:∀q,lo<=q->q<hi->w'.heap[q]? =w.heap[q]?):RsI lo hi w' a l:=by
 rcases h with h|⟨b,o,h1,h2,h3,h4⟩
 ·exact .inl h
 refine .inr ⟨b,o,h1,h2,h3,fun i hi=> ?_⟩;obtain⟨a2,cap2,g1,g2⟩:=h4 i hi;refine⟨a2,cap2,by simp only[World.cell?,hb b h2 h3]at g1⊢;exact g1,?_⟩;rcases g2 with g2|⟨b2,o2,e1,e2,e3,e4⟩
 ·exact .inl g2
 exact .inr ⟨b2,o2,e1,e2,e3,e4.blk (hb b2 e2 e3)⟩
theorem RsI.plain{lo hi:Nat}{a:Option Addr}{l:List Ru}(h:RsI lo hi w a l)(hs:hi<=w.heap.size):eS 1 PR w a l:=by
 rcases h with h|⟨b,o,h1,h2,h3,h4⟩
 ·exact .inl h
 refine .inr ⟨b,o,h1,by omega,fun i hi=> ?_⟩;obtain⟨a2,cap2,g1,g2⟩:=h4 i hi;refine⟨a2,cap2,g1,?_⟩;rcases g2 with g2|⟨b2,o2,e1,e2,e3,e4⟩
 ·exact .inl g2
 exact .inr ⟨b2,o2,e1,by omega,e4⟩
theorem jg.rsI{L:Nat}{os:List (Ru×Value)}(h:jg L w L v os):∃a cap,v=.slice a os.length cap∧RsI L w.heap.size w a (os.map Prod.fst)∧os.length<=cap:=by
 obtain⟨a,cap,rfl,hcap,hs⟩:=h.src;refine⟨a,cap,rfl,?_,hcap⟩;rcases hs with hs|⟨b,o,rfl,h2,h3⟩
 ·exact .inl hs
 by_cases e:os=[]
 ·subst e;exact .inl rfl
 have hpos:0<os.length:=cZ.2 e;obtain⟨g,c,e2⟩:=pS h.row hpos;have hlt:=h.row.lt g (by rw[e2];rfl);injection e2 with e3 e4 e5
 injection e3 with e3
 injection e3 with e6 e7 e8
 subst e6;exact .inr ⟨b,o,rfl,hlt.1,h2,h3⟩
def nm(G:Nat)(w:World)(v:Value)(p:E×Value):Prop:=∃lo hi a cap,p.2=.slice a p.1.rules.length cap∧RsI lo hi w a p.1.rules∧G<lo∧hi<=w.heap.size∧(∀q,v.ownBlock=some q->q<lo∨hi<=q)∧p.1.rules.length<=cap
theorem nm.far{G:Nat}{w w':World}{v v':Value}{p:E×Value}(h:nm G w v p)(hs:w.heap.size<=w'.heap.size)(hb:∀q,G<q->q<w.heap.size->v.ownBlock≠some q->w'.heap[q]? =w.heap[q]?)(hv:∀q,v'.ownBlock=some q->v.ownBlock=some q∨w.heap.size<=q):nm G w' v' p:=by
 obtain⟨lo,hi,a,cap,h1,h2,h3,h4,h5,h6⟩:=h;refine⟨lo,hi,a,cap,h1,h2.far fun q hq hq2=>hb q (by omega) (by omega) fun e=> ?_,h3,by omega,fun q hq=> ?_,h6⟩
 ·rcases h5 q e with g|g<;>omega
 rcases hv q hq with g|g
 ·exact h5 q g
 right;omega
def rk(p:E×Value):List Value:=[.int .u32 p.1.et,.int .u32 p.1.nr,p.2]
theorem Ia {G gg n cap : Nat} {w9 w1:World}  {os : List (E × Value)} {p : E × Value} {o : Obj} {x : Value} (h : ∀ q ∈ os, nm G w v q) (hb : Below w.heap.size w w9) (hp : nm G w9 v p) (hg : (w9.alloc o).grownBy w1 v.ownBlock) (hat : v.ownBlock = some gg ∨ gg = w9.heap.size + 1) :
    ∀ q ∈ os ++ [p], nm G (w1.setCell ⟨G, 0, none⟩ x) (.slice (some ⟨gg, 0, none⟩) n cap) q := by
  have key : ∀ q, nm G w9 v q -> nm G (w1.setCell ⟨G, 0, none⟩ x) (.slice (some ⟨gg, 0, none⟩) n cap) q := by
    intro q hq
    have hsz : (w9.alloc o).heap.size = w9.heap.size + 1 := by simp
    refine hq.far ?_ (fun q hG hq2 hne => ?_) (fun q hq2 => ?_)
    · have := hg.size
      simp only [World.setCell, Array.size_modify]; omega
    · have e1 : (w1.setCell ⟨G, 0, none⟩ x).heap[q]? = w1.heap[q]? := by
        simp only [World.setCell, aH]; rw [if_neg (by omega)]
      have e2 := hg.block q (by omega) (fun e => hne e.symm)
      have e3 : (w9.alloc o).heap[q]? = w9.heap[q]? := ((af w9.heap.size w9).alloc (ae _) o).block q hq2
      rw [e1, e2, e3]
    · have e : gg = q := by simpa [Value.ownBlock] using hq2
      subst e
      rcases hat with g | g
      · exact .inl g
      · right; omega
  intro q hq
  rw [bj, aV] at hq
  rcases hq with hq | rfl
  · exact key q ((h q hq).far hb.size (fun q _ hq2 _ => hb.block q hq2) (fun q hq => .inl hq))
  · exact key _ hp
theorem Fb(os:List (E×Value))(i:Nat)(h:i<os.length):(os.flatMap rk)[i*3]? =some (.int .u32 os[i].1.et)∧(os.flatMap rk)[i*3+1]? =some (.int .u32 os[i].1.nr)∧(os.flatMap rk)[i*3+2]? =some os[i].2:=by
 induction os generalizing i with
 |nil=>simp at h
 |cons x p ih=>
  have e:(x::p).flatMap rk=[.int .u32 x.1.et,.int .u32 x.1.nr,x.2]++p.flatMap rk:=by simp[rk]
  rw[e];match i with
  |0=>simp
  |i+1=>
   have hi:i<p.length:=by simpa using h
   have:=ih i hi;rw[aw (by simp;omega),aw (by simp;omega),aw (by simp;omega)];simp only[aq,aU];rw[show(i+1)*3-(0+1+1+1)=i*3 by omega,show(i+1)*3+1-(0+1+1+1)=i*3+1 by omega,show(i+1)*3+2-(0+1+1+1)=i*3+2 by omega];simpa using this
theorem zT{G B n:Nat}{os:List (E×Value)}(h:w.ownsRow B 53 3 v n (os.flatMap rk))(hn:n=os.length)(hg:∀p∈os,nm G w v p):∃a cap,v=.slice a n cap∧eS 3 PEC w a (os.map Prod.fst)∧n<=cap:=by
 have h0:=h;obtain⟨_,⟨rfl,rfl⟩|⟨g,cap,cur,rfl,hb,hgc,hncap,hm⟩⟩:=h
 ·have:os=[]:=aM hn.symm;subst this;exact⟨none,0,rfl,.inl rfl,ae _⟩
 refine⟨_,_,rfl,.inr ⟨g,0,rfl,(bf.1 hgc).1,fun i hi=> ?_⟩,hncap⟩;have hi':i<os.length:=by simpa using hi
 obtain⟨c0,c1,c2⟩:=Fb os i hi';have key:=fun j(hj:j<n*3)=>bE h0 j hj
 obtain⟨lo,hi2,a,cap2,e1,e2,e3,e4,e5,e6⟩:=hg _ (aI hi');have e:(os.map Prod.fst)[i]=os[i].1:=by simp
 rw[e,aC];refine⟨(key _ (by omega)).trans c0,(key _ (by omega)).trans c1,a,cap2,?_,e6,e2.plain e4⟩;rw[key _ (by omega),c2];exact congrArg some e1
def yT(p out:List E)(k:Nat):Prop:=out.length=k∧∀i,i<k->(out.getD i E.zero).et=(p.getD i E.zero).et∧(out.getD i E.zero).nr=(p.getD i E.zero).nr∧iI (p.getD i E.zero).rules (out.getD i E.zero).rules
theorem yT.next {p out : List E} {k : Nat} {e : E} (h : yT p out k) (h1 : e.et = (p.getD k E.zero).et) (h2 : e.nr = (p.getD k E.zero).nr) (hs : iI (p.getD k E.zero).rules e.rules) : yT p (out ++ [e]) (k + 1) := by
  refine ⟨by simp [h.1], fun i hi => ?_⟩
  by_cases g : i = k
  · subst g
    have e2 : (out ++ [e]).getD i E.zero = e := by
      rw [aa, aw (by rw [h.1]; exact ae _), h.1]; simp
    rw [e2]; exact ⟨h1, h2, hs⟩
  · have e2 : (out ++ [e]).getD i E.zero = out.getD i E.zero := by
      rw [aa, aD (by rw [h.1]; omega), aa]
    rw [e2]; exact h.2 i (by omega)
theorem F8:(Tryz.prog.info? 53).map (fun i=>(i.zero,i.size,i.bytes))=some (some (.agg #[.int .u32 0,.int .u32 0,.slice none 0 0]),3,32):=by kernel_rfl
def tz(p:List E)(w:World)(e:Ending)(w':World):Prop:=∃a cap out,rS p out∧e=.returned (.agg #[.slice a out.length cap])∧eS 3 PE w' a out∧Below w.heap.size w w'∧eS 3 PEC w' a out∧out.length<=cap
end Go.Proofs.YtdihdapmphkhpaaGreat
