import Derived.Test.YtdihdapmphkhpaaGreatQ31
set_option linter.all false
set_option maxRecDepth 200000
set_option maxHeartbeats 16000000
namespace Go.Proofs.YtdihdapmphkhpaaGreat
open Go.RowKit
variable{L:Nat}
def pO(L:Nat)(l:List Ru)(w:World)(e:Ending)(w':World):Prop:=∃v os,e=.returned v∧jg L w' w.heap.size v os∧jh ie l (os.map Prod.fst)∧Below w.heap.size w w'
def As:Value->Nat
 |.slice _ n _=>n
 |_=>0
theorem jg.As{w:World}{B:Nat}{v:Value}{os:List (Ru×Value)}(h:jg L w B v os):As v=os.length:=by
 obtain⟨a,cap,e,_⟩:=h.src;rw[e];rfl
theorem jg.last{w:World}{B:Nat}{v:Value}{ot:List (Ru×Value)}{p:Ru×Value}(h:jg L w B v (ot++[p])):∃g cap a c,v=.slice (some ⟨g,0,none⟩) (ot.length+1) cap∧w.cell? ⟨g,ot.length,none⟩=some (.slice a 6 c)∧eS 3 PK w a p.1:=by
 obtain⟨a,cap,rfl,_,hs⟩:=h.src;have hl:(ot++[p]).length=ot.length+1:=by simp
 obtain⟨g,cap',e⟩:∃g cap',Value.slice a (ot++[p]).length cap=.slice (some ⟨g,0,none⟩) (ot.length+1) cap':=by
  obtain⟨_,h|⟨g,cap',cur,e,_⟩⟩:=h.row
  ·simp at h
  exact⟨g,cap',by rw[e,hl]⟩
 rw[e]at h;rw[e];obtain⟨b,o,c,h1,h2,h3,h4,h5⟩:=h.el p (by simp);have hr:=h.row;rw[hl]at hr;have c0:=bE hr ot.length (by omega);refine⟨g,cap',some ⟨b,o,none⟩,c,rfl,?_,.inr ⟨b,o,rfl,h4,h5.1⟩⟩;rw[c0,cJ];simp[h1]
theorem Cu(L:Nat)(l:List Ru)(a:Option Addr)(cap:Nat)(w:World)(hs:eS 1 (PRL L) w a l)(hl:NRs l)(hn:l.length<=1000):
 Calls Tryz.prog 51 #[.slice a l.length cap] w fun e w'=>pO L l w e w':=by
 obtain⟨i0,hi,hz0,hz1,hz2⟩:=info_parts th
 have HR:Hid (∀wr v,Below w.heap.size w wr->(∀q,v.ownBlock=some q->w.heap.size<=q)->∀i,i<l.length->∃b o a' cap',a=some ⟨b,o,none⟩∧wr.cell? ⟨b,o+i,none⟩=some (.slice a' 6 cap')∧eS 3 PK wr a' (at' l i)∧lA L wr v (at' l i,.slice a' 6 cap')):=fun wr v hB hv i hi=>nT hs (fun r hr=>(hl r hr).1) hB hi hv
 have HO:Hid (∀x y ax ay cx cy w1,eS 3 PK w1 ax x->eS 3 PK w1 ay y->NR x->NR y->Calls Tryz.prog 85 #[.agg #[.slice ax 6 cx],.agg #[.slice ay 6 cy]] w1 fun e w'=>e=.returned (.int .i64 (jL x y))∧Below w1.heap.size w1 w'):=fun x y ax ay cx cy w1 h1 h2 h3 h4=>tH x y ax ay cx cy w1 h1 h2 h3 h4
 have HNR:Hid (∀i,i<l.length->NR (at' l i)):=fun i hi=>hl _ (at_mem hi)
 have HNO:Hid (∀out,mP ie l out->(∀r∈out,NR r)∧out.length<=l.length):=fun out h=>⟨fun r hr=>hl r (h.sub r hr),h.len ou⟩
 have HDone:Hid (∀out,mP ie l out->gE l out l.length (-1)->jh ie l out):=fun out h1 h2=>h2.done h1
 have HNext:Hid (∀out(b:Nat),mP ie l out->gE l out l.length b->mP ie l (out++[at' l b])):=fun out b h1 h2=>h2.next h1
 have HS0:Hid (mP ie l []):=mP.nil l
 clear hs hl
 generalize l.length=n at*
 go_enter Tryz.func51,Tryz.ntmps51
 go_wp2_with fail
 go_loopw [3](fun s' wr=>∃(s:Value)(os:List (Ru×Value)),s=s'∧jg L wr w.heap.size s os∧Hid (mP ie l (os.map Prod.fst))∧Below w.heap.size w wr)(fun s _=>n+1-As s)
 case atStart=>exact⟨_,[],rfl,jg.nil _ _,HS0,af _ _⟩
 case round=>
  obtain⟨s,os,hss,hO,HSel,B⟩:=hrel
  subst hss
  rename World=>WA
  have hol:os.length<=n:=by
   have:=(HNO.out _ HSel.out).2
   rw[aX]at this;exact this
  have hlv:=hO.As
  go_wp2_with fail
  go_loopw [4,5](fun bt i wr=>∃(j:Nat)(best:Int),j<=n∧i=.int .i64 j∧bt=.int .i64 best∧Hid (gE l (os.map Prod.fst) j best)∧jg L wr w.heap.size s os∧Below w.heap.size w wr)(fun _ i _=>n-(intOf i).toNat)
  case atStart=>exact⟨0,-1,by omega,rfl,rfl,gE.zero _ _,hO,B⟩
  case round=>
   clear hO B
   obtain⟨j,best,hj,rfl,rfl,HB,O0,B0⟩:=hrel
   rename World=>W0
   by_cases hjn:j<n
   ·obtain⟨b,o,a1,c1,rfl,cr0,hs1,_⟩:=HR.out W0 s B0 (fun q hq=>(O0.row.lt q hq).1) j hjn
    have hjn':(j:Int)<(n:Int):=by omega
    clear HDone HNext HS0
    rcases List.eq_nil_or_concat os with hos|⟨ot,lp,hos⟩
    ·subst hos
     have Hnil:∃au cu,s=.slice au 0 cu:=by
      obtain⟨au,cu,e,_⟩:=O0.src
      exact⟨au,cu,e⟩
     obtain⟨au,cu,rfl⟩:=Hnil
     have HCa:Hid (vW (([]:List (Ru×Value)).map Prod.fst) (at' l j)):=EY _
     clear HNO
     go_wp2_with fail
     go_quiet(fail)
     have O1:=O0.below (below_drewN (af _ _) nq)
     have B1:=below_drewN B0 nq
     have KB0:Below W0.heap.size W0 (W0.drewN nq):=below_drewN (af _ _) nq
     have cr:(W0.drewN nq).cell? ⟨b,o+j,none⟩=some (.slice a1 6 c1):=cr0
     clear cr0 O0 B0
     generalize W0.drewN nq=W1 at*
     rcases HB.out.cases with hbest|⟨bi,hbest,hbi⟩
     ·subst hbest
      have HB2:Hid (gE l (([]:List (Ru×Value)).map Prod.fst) (j+1) j):=HB.out.first HCa.out
      clear HB HR HO HNR HSel
      go_wp2_with fail
      go_quiet(fail)
      have O2:=O1.below (below_drewN (af _ _) nq)
      have B2:=below_drewN B1 nq
      generalize W1.drewN nq=wq at*
      go_wp2
      go_roundw
      case rel=>exact⟨j+1,j,by omega,by go_num,by go_num,HB2,O2,B2⟩
      case measure=>simp[intOf];omega
     ·subst hbest
      obtain⟨_,_,a2,c2,he,cb,hs2,_⟩:=HR.out W1 (.slice au 0 cu) B1 (fun q hq=>(O1.row.lt q hq).1) bi (by omega)
      cases he
      have HL2:Hid (∀w1,Below W1.heap.size W1 w1->Calls Tryz.prog 85 #[.agg #[.slice a1 6 c1],.agg #[.slice a2 6 c2]] w1 fun e w'=>e=.returned (.int .i64 (jL (at' l j) (at' l bi)))∧Below w1.heap.size w1 w'):=fun w1 hb=>HO.out _ _ _ _ _ _ _ (hs1.below PK.stays (KB0.trans (hb.mono KB0.size))) (hs2.below PK.stays hb) (HNR.out j hjn) (HNR.out bi (by omega))
      have HQ2:Hid (jL (at' l j) (at' l bi)<0↔ie (at' l j) (at' l bi)<0):=(oe _ _).2
      have HBy:Hid (ie (at' l j) (at' l bi)<0->gE l (([]:List (Ru×Value)).map Prod.fst) (j+1) j):=fun h=>HB.out.less HCa.out h
      have HBn:Hid (¬ie (at' l j) (at' l bi)<0->gE l (([]:List (Ru×Value)).map Prod.fst) (j+1) bi):=fun h=>HB.out.same h
      generalize jL (at' l j) (at' l bi)=Q2 at*
      generalize ie (at' l j) (at' l bi)=Q2' at*
      have SK2:Hid (∀wa wb,Below wa.heap.size wa wb->(Below W1.heap.size W1 wa∧wa.cell? ⟨b,o+j,none⟩=some (.slice a1 6 c1)∧wa.cell? ⟨b,o+bi,none⟩=some (.slice a2 6 c2))->(Below W1.heap.size W1 wb∧wb.cell? ⟨b,o+j,none⟩=some (.slice a1 6 c1)∧wb.cell? ⟨b,o+bi,none⟩=some (.slice a2 6 c2))):=fun wa wb hb⟨s0,e1,e2⟩=>⟨eo hb s0,eh hb e1,eh hb e2⟩
      have hS0:=SK2.out W1 W1.drew ((af _ _).drew) ⟨af _ _,cr,cb⟩
      have g1:decide ((bi:Int)<0)=false:=by simp
      have g3:¬(bi:Int)<0:=by omega
      have hbi1:(bi:Int)<(n:Int):=by omega
      clear HB HR HO HNR hs2 cb HSel HCa
      go_wp2_with fail
      go_region_held3(fun w'=>Below W1.heap.size W1 w'∧w'.cell? ⟨b,o+j,none⟩=some (.slice a1 6 c1)∧w'.cell? ⟨b,o+bi,none⟩=some (.slice a2 6 c2))
       (assumption)
       (first|(go_at_call 85;refine(HL2.out _ (by with_reducible first|exact hS0.1|assumption)).mono ?_;rintro _ w9⟨rfl,hb9⟩;have hS9:=SK2.out _ _ hb9 (by assumption)))
      all_goals
       obtain⟨KB,_,_⟩:=hS9
       have O2:=O1.below KB
       have B2:=B1.trans (KB.mono B1.size)
       clear KB hb9 hS0 SK2 HL2 cr O1 B1
       by_cases hq:Q2<0
       ·have HB2:Hid (gE l (([]:List (Ru×Value)).map Prod.fst) (j+1) j):=HBy.out (HQ2.out.1 hq)
        clear HBy HBn HQ2
        go_wp2
        go_roundw
        case rel=>exact⟨j+1,j,by omega,by go_num,by go_num,HB2,O2,B2⟩
        case measure=>simp[intOf];omega
       ·have HB2:Hid (gE l (([]:List (Ru×Value)).map Prod.fst) (j+1) bi):=HBn.out (by have h2:=HQ2.out;omega)
        clear HBy HBn HQ2
        go_wp2
        go_roundw
        case rel=>exact⟨j+1,bi,by omega,by go_num,by go_num,HB2,O2,B2⟩
        case measure=>simp[intOf];omega
    ·have hos':os=ot++[lp]:=by rw[hos];simp
     subst hos'
     clear hos
     obtain⟨g,cg,az,cz,rfl,cl0,hsz⟩:=O0.last
     have HNz:Hid (NR lp.1):=(HNO.out _ HSel.out).1 _ (by simp)
     have HL1:Hid (∀w1,Below W0.heap.size W0 w1->Calls Tryz.prog 85 #[.agg #[.slice a1 6 c1],.agg #[.slice az 6 cz]] w1 fun e w'=>e=.returned (.int .i64 (jL (at' l j) lp.1))∧Below w1.heap.size w1 w'):=fun w1 hb=>HO.out _ _ _ _ _ _ _ (hs1.below PK.stays hb) (hsz.below PK.stays hb) (HNR.out j hjn) HNz.out
     have HQ1:Hid (jL (at' l j) lp.1<=0↔¬vW ((ot++[lp]).map Prod.fst) (at' l j)):=by
      have e:(ot++[lp]).map Prod.fst=ot.map Prod.fst++[lp.1]:=by simp
      have ha:=HSel.out.asc
      rw[e]at ha
      show _↔_
      rw[e,EP ha]
      have h1:=oe (at' l j) lp.1
      have h2:=ou.tE lp.1 (at' l j)
      constructor
      ·intro h3 h4
       by_cases h5:jL (at' l j) lp.1=0
       ·have:=h1.1.1 h5;omega
       ·have:=h1.2.1 (by omega);omega
      ·intro h3
       by_cases h5:ie (at' l j) lp.1=0
       ·have:=h1.1.2 h5;omega
       ·have:=h1.2.2 (by omega);omega
     clear hsz HNz HNO
     generalize jL (at' l j) lp.1=Q at*
     obtain⟨N,hN⟩:∃N,ot.length+1=N:=⟨_,rfl⟩
     have hN1:ot.length=N-1:=by omega
     rw[hN1]at cl0
     rw[hN]at O0 hlv⊢
     have hNp:1<=N:=by omega
     have hNp':(0:Int)<(N:Int):=by omega
     have hNw:IntKind.i64.wrap ((N:Int)-1)=(N:Int)-1:=by rw[aT];simp at hol;omega
     have hNt:((N:Int)-1).toNat=N-1:=by omega
     have hNq:(1:Int)<=(N:Int):=by omega
     have hNa:(0:Int)<=(N:Int)-1:=by omega
     have hNb:(N:Int)-1<(N:Int):=by omega
     have SK1:Hid (∀wa wb,Below wa.heap.size wa wb->(Below W0.heap.size W0 wa∧wa.cell? ⟨b,o+j,none⟩=some (.slice a1 6 c1)∧wa.cell? ⟨g,N-1,none⟩=some (.slice az 6 cz))->(Below W0.heap.size W0 wb∧wb.cell? ⟨b,o+j,none⟩=some (.slice a1 6 c1)∧wb.cell? ⟨g,N-1,none⟩=some (.slice az 6 cz))):=fun wa wb hb⟨s0,e1,e2⟩=>⟨eo hb s0,eh hb e1,eh hb e2⟩
     have hS0:=SK1.out W0 W0.drew ((af _ _).drew) ⟨af _ _,cr0,cl0⟩
     have g1:decide ((0:Int)<(N:Int))=true:=by simpa using hNp'
     have g2:decide (0<N)=true:=by simp;omega
     go_wp2_with fail
     go_region_held3(fun w'=>Below W0.heap.size W0 w'∧w'.cell? ⟨b,o+j,none⟩=some (.slice a1 6 c1)∧w'.cell? ⟨g,N-1,none⟩=some (.slice az 6 cz))
      (assumption)
      (first|(go_at_call 85;refine(HL1.out _ (by with_reducible first|exact hS0.1|assumption)).mono ?_;rintro _ w9⟨rfl,hb9⟩;have hS9:=SK1.out _ _ hb9 (by assumption)))
     all_goals
      obtain⟨KB0,cr,_⟩:=hS9
      have O1:=O0.below KB0
      have B1:=B0.trans (KB0.mono B0.size)
      clear hb9 hS0 SK1 HL1 cr0 O0 B0 cl0 hNw hNt hNa hNb
      by_cases hq:Q<=0
      ·have HB2:Hid (gE l ((ot++[lp]).map Prod.fst) (j+1) best):=HB.out.skip (HQ1.out.1 hq)
       clear HB HQ1 HR HO HNR HSel
       go_wp2
       go_roundw
       case rel=>exact⟨j+1,best,by omega,by go_num,rfl,HB2,O1,B1⟩
       case measure=>simp[intOf];omega
      ·have HCa:Hid (vW ((ot++[lp]).map Prod.fst) (at' l j)):=Classical.byContradiction fun h=>hq (HQ1.out.2 h)
       clear HQ1
       rcases HB.out.cases with hbest|⟨bi,hbest,hbi⟩
       ·subst hbest
        have HB2:Hid (gE l ((ot++[lp]).map Prod.fst) (j+1) j):=HB.out.first HCa.out
        clear HB HR HO HNR HSel
        go_wp2_with fail
        go_quiet(fail)
        have O2:=O1.below (below_drewN (af _ _) nq)
        have B2:=below_drewN B1 nq
        generalize w9.drewN nq=wq at*
        go_wp2
        go_roundw
        case rel=>exact⟨j+1,j,by omega,by go_num,by go_num,HB2,O2,B2⟩
        case measure=>simp[intOf];omega
       ·subst hbest
        obtain⟨_,_,a2,c2,he,cb,hs2,_⟩:=HR.out w9 (.slice (some ⟨g,0,none⟩) N cg) B1 (fun q hq=>(O1.row.lt q hq).1) bi (by omega)
        cases he
        have HL2:Hid (∀w1,Below w9.heap.size w9 w1->Calls Tryz.prog 85 #[.agg #[.slice a1 6 c1],.agg #[.slice a2 6 c2]] w1 fun e w'=>e=.returned (.int .i64 (jL (at' l j) (at' l bi)))∧Below w1.heap.size w1 w'):=fun w1 hb=>HO.out _ _ _ _ _ _ _ (hs1.below PK.stays (KB0.trans (hb.mono KB0.size))) (hs2.below PK.stays hb) (HNR.out j hjn) (HNR.out bi (by omega))
        have HQ2:Hid (jL (at' l j) (at' l bi)<0↔ie (at' l j) (at' l bi)<0):=(oe _ _).2
        have HBy:Hid (ie (at' l j) (at' l bi)<0->gE l ((ot++[lp]).map Prod.fst) (j+1) j):=fun h=>HB.out.less HCa.out h
        have HBn:Hid (¬ie (at' l j) (at' l bi)<0->gE l ((ot++[lp]).map Prod.fst) (j+1) bi):=fun h=>HB.out.same h
        generalize jL (at' l j) (at' l bi)=Q2 at*
        generalize ie (at' l j) (at' l bi)=Q2' at*
        have SK2:Hid (∀wa wb,Below wa.heap.size wa wb->(Below w9.heap.size w9 wa∧wa.cell? ⟨b,o+j,none⟩=some (.slice a1 6 c1)∧wa.cell? ⟨b,o+bi,none⟩=some (.slice a2 6 c2))->(Below w9.heap.size w9 wb∧wb.cell? ⟨b,o+j,none⟩=some (.slice a1 6 c1)∧wb.cell? ⟨b,o+bi,none⟩=some (.slice a2 6 c2))):=fun wa wb hb⟨s0,e1,e2⟩=>⟨eo hb s0,eh hb e1,eh hb e2⟩
        have hS0:=SK2.out w9 w9.drew ((af _ _).drew) ⟨af _ _,cr,cb⟩
        have g1:decide ((bi:Int)<0)=false:=by simp
        have g3:¬(bi:Int)<0:=by omega
        have hbi1:(bi:Int)<(n:Int):=by omega
        clear HB HR HO HNR hs2 cb HSel HCa
        go_wp2_with fail
        go_region_held3(fun w'=>Below w9.heap.size w9 w'∧w'.cell? ⟨b,o+j,none⟩=some (.slice a1 6 c1)∧w'.cell? ⟨b,o+bi,none⟩=some (.slice a2 6 c2))
         (assumption)
         (first|(go_at_call 85;refine(HL2.out _ (by with_reducible first|exact hS0.1|assumption)).mono ?_;rintro _ w8⟨rfl,hb9⟩;have hS9:=SK2.out _ _ hb9 (by assumption)))
        all_goals
         obtain⟨KB,_,_⟩:=hS9
         have O2:=O1.below KB
         have B2:=B1.trans (KB.mono B1.size)
         clear KB hb9 hS0 SK2 HL2 cr O1 B1
         by_cases hq:Q2<0
         ·have HB2:Hid (gE l ((ot++[lp]).map Prod.fst) (j+1) j):=HBy.out (HQ2.out.1 hq)
          clear HBy HBn HQ2
          go_wp2
          go_roundw
          case rel=>exact⟨j+1,j,by omega,by go_num,by go_num,HB2,O2,B2⟩
          case measure=>simp[intOf];omega
         ·have HB2:Hid (gE l ((ot++[lp]).map Prod.fst) (j+1) bi):=HBn.out (by have h2:=HQ2.out;omega)
          clear HBy HBn HQ2
          go_wp2
          go_roundw
          case rel=>exact⟨j+1,bi,by omega,by go_num,by go_num,HB2,O2,B2⟩
          case measure=>simp[intOf];omega
   ·have hjn':j=n:=by omega
    subst hjn'
    have hnn:¬(j:Int)<(j:Int):=by omega
    rcases HB.out.cases with hbest|⟨bi,hbest,hbi⟩
    ·subst hbest
     have HP:Hid (pO L l w (.returned s) W0):=⟨s,os,rfl,O0,HDone.out _ HSel.out HB.out,B0⟩
     clear HR HO HNR HNO HDone HNext HS0 HB O0 HSel
     go_wp2
     go_ret
     exact HP.out
    ·subst hbest
     obtain⟨b,o,a1,c1,rfl,cr,hs1,hg⟩:=HR.out W0 s B0 (fun q hq=>(O0.row.lt q hq).1) bi hbi
     have HSel2:Hid (mP ie l ((os++[(at' l bi,Value.slice a1 6 c1)]).map Prod.fst)):=by
      have:=HNext.out _ bi HSel.out HB.out
      show mP _ _ _
      rw[bL];exact this
     have hol2:os.length+1<=j:=by
      have:=(HNO.out _ HSel2.out).2
      rw[aX,aj]at this;exact this
     have hsz:=B0.size
     have hbi':(bi:Int)<(j:Int):=by omega
     have g3:¬(bi:Int)<0:=by omega
     clear HR HO HNR HNO HDone HNext HS0 HB HSel hs1
     have hbm:os.length+1<=maxLen:=by unfold maxLen;omega
     have hbd:(os.length+1)*24<=140737488355328:=by omega
     have hbs:w.heap.size<=(W0.alloc (.cells #[.slice a1 6 c1] 57)).heap.size:=by simp;omega
     go_wp2_with(at_builtin;refine wpList_append_lies _ rfl (.tmp 47) (.tmp 52) 51 rfl (w.heap.size) 57 i0 _ 1 24 Tryz.underlying51 hi hz0 hz1 hz2 rfl (by decide) s os.length (os.map Prod.snd) rfl (O0.row.alloc _) ⟨W0.heap.size,0,none⟩ 1 1 [.slice a1 6 c1] rfl rfl (cell_one_new _ _ _) (by intro u hu;simp at hu;subst hu;rfl) (by omega) hbm hbd hbs _ rfl ?_)
     intro g cp w9 ow gr hat _
     have O9:=O0.next hg rfl ow gr hat
     have B9:Below w.heap.size w w9:=(B0.alloc hsz _).grown gr hbs (fun t ht=>(O0.row.lt t ht).1)
     clear ow gr hat O0 hg B0 cr hbm hbd hbs
     go_wp2
     go_roundw
     case rel=>exact⟨_,_,rfl,O9,HSel2,B9⟩
     case measure=>rw[hlv];simp only[As];omega
variable{L:Nat}
theorem DX{α:Type}{l:List α}{i j:Nat}{x:α}(h:i<j):(l.eraseIdx j).set i x=(l.set i x).eraseIdx j:=by
 apply List.ext_getElem?;intro q;simp only[dL,List.getElem?_eraseIdx,dq];by_cases h1:q<j
 ·simp only[h1,if_true];by_cases h2:i=q
  ·subst h2;simp only[if_true];by_cases h3:j<l.length
   ·simp only[h3,if_true];rw[if_pos (by omega),if_pos (by omega)]
   simp only[h3,if_false]
  simp only[h2,if_false]
 simp only[h1,if_false];rw[if_neg (by omega),if_neg (by omega)]
theorem jg.mono{w:World}{B B':Nat}{v:Value}{os:List (Ru×Value)}(h:jg L w B v os)(hB:B'<=B):jg L w B' v os:=⟨World.ownsRow.mono h.row hB,h.el⟩
def kp(L:Nat)(l:List Ru)(a:Option Addr)(cap:Nat)(w:World)(e:Ending)(w':World):Prop:=((∃v os,Step l (os.map Prod.fst)∧e=.returned (.tuple #[v,.bool true])∧jg L w' w.heap.size v os)∨(rq l∧e=.returned (.tuple #[.slice a l.length cap,.bool false])))∧Below w.heap.size w w'
theorem zD{l:List Ru}{i j:Nat}{x:Ru}{w w10:World}{B g n c b9 c9:Nat}{os:List (Ru×Value)}(hO:jg L w10 B (.slice (some ⟨g,0,none⟩) n c) os)(hn:n=os.length)(hm:os.map Prod.fst=l.eraseIdx j)(hij:i<j)(hx:x.length=6)(hb:b9<B)(hL9:L<=b9)(hl:LAt 3 PK w10 b9 0 x)(hw:w.heap.size<=B)(hBw:Below w.heap.size w w10):
 ∃os',jg L (w10.setCell ⟨g,i,none⟩ (.slice (some ⟨b9,0,none⟩) 6 c9)) w.heap.size (.slice (some ⟨g,0,none⟩) n c) os'∧os'.map Prod.fst=(l.set i x).eraseIdx j∧Below w.heap.size w (w10.setCell ⟨g,i,none⟩ (.slice (some ⟨b9,0,none⟩) 6 c9)):=by
 have hg:=hO.row.lt g rfl;refine⟨os.set i (x,.slice (some ⟨b9,0,none⟩) 6 c9),(jg.put (i:=i) (p:=(x,.slice (some ⟨b9,0,none⟩) 6 c9)) hO hn ⟨b9,0,c9,rfl,hx,?_,by omega,hl,hL9⟩).mono hw,?_,hBw.setCell (p:=⟨g,i,none⟩) (aW hw hg.1) _⟩
 ·intro e;have:g=b9:=by simpa[Value.ownBlock]using e
  omega
 rw[List.map_set,hm];exact DX hij
theorem Cg(L:Nat)(l:List Ru)(a:Option Addr)(cap:Nat)(w:World)(hs:eS 1 (PRL L) w a l)(hl:NRs l)(hn:l.length<=1000)(hLw:L<=w.heap.size):
 Calls Tryz.prog 52 #[.slice a l.length cap] w fun e w'=>kp L l a cap w e w':=by
 have HR:Hid (∀wr,Below w.heap.size w wr->∀i,i<l.length->∃b o a' cap',a=some ⟨b,o,none⟩∧wr.cell? ⟨b,o+i,none⟩=some (.slice a' 6 cap')∧eS 3 PK wr a' (at' l i)):=fun wr hB i hi=>by
  obtain⟨b,o,a',cap',h1,h2,h3,_⟩:=nT hs (fun r hr=>(hl r hr).1) (v:=.slice none 0 0) hB hi (fun q hq=>by cases hq)
  exact⟨b,o,a',cap',h1,h2,h3⟩
 have HI:Hid (∀i j ax ay cx cy w1,i<l.length->j<l.length->eS 3 PK w1 ax (at' l i)->eS 3 PK w1 ay (at' l j)->Calls Tryz.prog 86 #[.agg #[.slice ax 6 cx],.agg #[.slice ay 6 cy]] w1 fun e w'=>e=.returned (.bool (fw (at' l i) (at' l j)))∧Below w1.heap.size w1 w'):=fun i j ax ay cx cy w1 hi hj h1 h2=>sN _ _ ax ay cx cy w1 h1 h2 (hl _ (at_mem hi)) (hl _ (at_mem hj))
 have HJ:Hid (∀i j ax ay cx cy w1,i<l.length->j<l.length->eS 3 PK w1 ax (at' l i)->eS 3 PK w1 ay (at' l j)->Calls Tryz.prog 88 #[.agg #[.slice ax 6 cx],.agg #[.slice ay 6 cy]] w1 fun e w'=>JrP (at' l i) (at' l j) w1 e w'):=fun i j ax ay cx cy w1 hi hj h1 h2=>vQ _ _ ax ay cx cy w1 h1 h2 (hl _ (at_mem hi)) (hl _ (at_mem hj))
 have HWo:Hid (∀w1(k:Nat),Below w.heap.size w w1->k<l.length->Calls Tryz.prog 87 #[.slice a l.length cap,.int .i64 (k:Int)] w1 fun e w'=>uX L l k w1 e w'):=fun w1 k hB hk=>wc L l k a cap w1 (hs.below (PRL.stays L) hB) (fun r hr=>(hl r hr).1) hn (by omega)
 have HX6:Hid (∀i j x,i<l.length->j<l.length->jD (at' l i) (at' l j) x->x.length=6):=fun i j x hi hj h=>(h.normal (hl _ (at_mem hi)) (hl _ (at_mem hj))).1
 have HEl:Hid (∀j,j<l.length->(l.eraseIdx j).length=l.length-1):=fun j hj=>by rw[dq,if_pos hj]
 have HNoW:Hid (ji l l.length->NoW l):=fun h=>h
 have HNoJ:Hid (jk l l.length->NoJ l):=fun h=>h
 have HFW:Hid (∀i j,i<l.length->ji l i->j<l.length->i≠j->fw (at' l i) (at' l j)=true->Step l (l.eraseIdx i)):=fun i j h1 h2 h3 h4 h5=>Step.drop ⟨h1,h2,j,h3,h4,h5⟩
 have HWs:Hid (∀i,i<l.length->ji l i->(∀q,q<l.length->i≠q->fw (at' l i) (at' l q)=false)->ji l (i+1)):=fun i hi h1 h2 p hp q hq hne=>by
  by_cases e:p=i
  ·subst e;exact h2 q hq hne
  ·exact h1 p (by omega) q hq hne
 have HFJ:Hid (∀i j x,NoW l->i<j->j<l.length->jk l i->(∀q,i<q->q<j->gj (at' l i) (at' l q))->jD (at' l i) (at' l j) x->Step l ((l.set i x).eraseIdx j)):=fun i j x h0 h1 h2 h3 h4 h5=>Step.join h0 ⟨h1,h2,h3,h4,h5⟩
 have HJs:Hid (∀i,i<l.length->jk l i->(∀q,i<q->q<l.length->gj (at' l i) (at' l q))->jk l (i+1)):=fun i hi h1 h2 p hp q hpq hq=>by
  by_cases e:p=i
  ·subst e;exact h2 q hpq hq
  ·exact h1 p (by omega) q hpq hq
 have HSt:Hid (kp L l a cap w=fun e w'=>((∃v os,Step l (os.map Prod.fst)∧e=.returned (.tuple #[v,.bool true])∧jg L w' w.heap.size v os)∨(rq l∧e=.returned (.tuple #[.slice a l.length cap,.bool false])))∧Below w.heap.size w w'):=rfl
 clear hs hl
 generalize l.length=n at*
 go_enter Tryz.func52,Tryz.ntmps52
 go_wp2_with fail
 go_loopw [4](fun i wr=>∃(p:Nat),p<=n∧i=.int .i64 p∧Hid (ji l p)∧Below w.heap.size w wr)(fun i _=>n-(intOf i).toNat)
 case atStart=>exact⟨0,by omega,rfl,fun p hp=>by omega,af _ _⟩
 case round=>
  obtain⟨p,hp,rfl,HN,B⟩:=hrel
  rename World=>WA
  by_cases hpn:p<n
  ·have hpn':(p:Int)<(n:Int):=by omega
   clear HJ HNoW HNoJ HFJ HJs HX6 HEl
   go_wp2_with fail
   go_loopw [5](fun i wr=>∃(j:Nat),j<=n∧i=.int .i64 j∧Hid (∀q,q<j->p≠q->fw (at' l p) (at' l q)=false)∧Below w.heap.size w wr)(fun i _=>n-(intOf i).toNat)
   case atStart=>exact⟨0,by omega,rfl,fun q hq=>by omega,B⟩
   case round=>
    clear B
    obtain⟨j,hj,rfl,HQ,B⟩:=hrel
    rename World=>W0
    by_cases hjn:j<n
    ·have hjn':(j:Int)<(n:Int):=by omega
     by_cases hjp:p=j
     ·subst hjp
      have HQ2:Hid (∀q,q<p+1->p≠q->fw (at' l p) (at' l q)=false):=fun q hq hne=>HQ.out q (by omega) hne
      have g1:((p:Int)!=(p:Int))=false:=by simp
      clear HR HI HWo HFW HWs HQ HN HSt
      go_wp2_with fail
      go_quiet(fail)
      have B2:=below_drewN B nq
      generalize W0.drewN nq=wq at*
      go_wp2
      go_roundw
      case rel=>exact⟨p+1,by omega,by go_num,HQ2,B2⟩
      case measure=>simp[intOf];omega
     ·obtain⟨b,o,a1,c1,rfl,cr1,hs1⟩:=HR.out W0 B p hpn
      obtain⟨_,_,a2,c2,he,cr2,hs2⟩:=HR.out W0 B j hjn
      cases he
      have HL:Hid (∀w1,Below W0.heap.size W0 w1->Calls Tryz.prog 86 #[.agg #[.slice a1 6 c1],.agg #[.slice a2 6 c2]] w1 fun e w'=>e=.returned (.bool (fw (at' l p) (at' l j)))∧Below w1.heap.size w1 w'):=fun w1 hb=>HI.out p j _ _ _ _ _ hpn hjn (hs1.below PK.stays hb) (hs2.below PK.stays hb)
      have HQy:Hid (fw (at' l p) (at' l j)=true->Step l (l.eraseIdx p)):=fun h=>HFW.out p j hpn HN.out hjn hjp h
      have HQn:Hid (fw (at' l p) (at' l j)=false->∀q,q<j+1->p≠q->fw (at' l p) (at' l q)=false):=fun h q hq hne=>by
       by_cases e:q=j
       ·rw[e];exact h
       ·exact HQ.out q (by omega) hne
      generalize fw (at' l p) (at' l j)=Q at*
      have SK:Hid (∀wa wb,Below wa.heap.size wa wb->(Below W0.heap.size W0 wa∧wa.cell? ⟨b,o+p,none⟩=some (.slice a1 6 c1)∧wa.cell? ⟨b,o+j,none⟩=some (.slice a2 6 c2))->(Below W0.heap.size W0 wb∧wb.cell? ⟨b,o+p,none⟩=some (.slice a1 6 c1)∧wb.cell? ⟨b,o+j,none⟩=some (.slice a2 6 c2))):=fun wa wb hb⟨s0,e1,e2⟩=>⟨eo hb s0,eh hb e1,eh hb e2⟩
      have hS0:=SK.out W0 W0.drew ((af _ _).drew) ⟨af _ _,cr1,cr2⟩
      have g1:((p:Int)!=(j:Int))=true:=by rw[bne_iff_ne];omega
      have HWp:=HWo.out
      have HWo2:Hid (∀w1,Below w.heap.size w w1->Calls Tryz.prog 87 #[.slice (some ⟨b,o,none⟩) n cap,.int .i64 (p:Int)] w1 fun e w'=>uX L l p w1 e w'):=fun w1 h=>HWp w1 p h hpn
      clear HR HI HWo HFW HWs HQ HN HWp hs1 hs2 cr1 cr2 hjp
      go_wp2_with fail
      go_region_held3(fun w'=>Below W0.heap.size W0 w'∧w'.cell? ⟨b,o+p,none⟩=some (.slice a1 6 c1)∧w'.cell? ⟨b,o+j,none⟩=some (.slice a2 6 c2))
       (assumption)
       (first|(go_at_call 86;refine(HL.out _ (by with_reducible first|exact hS0.1|assumption)).mono ?_;rintro _ w9⟨rfl,hb9⟩;have hS9:=SK.out _ _ hb9 (by assumption)))
      all_goals
       obtain⟨KB,_,_⟩:=hS9
       have B2:=B.trans (KB.mono B.size)
       clear KB hb9 hS0 SK HL B
       cases Q with
       |true=>
        have HStep:Hid (Step l (l.eraseIdx p)):=HQy.out (by first|rfl|trivial)
        clear HQy HQn
        go_wp2_with fail
        refine(HWo2.out _ B2).mono ?_
        rintro _ w10⟨v,os,rfl,hO,hm,hb10⟩
        have HP:Hid (kp L l (some ⟨b,o,none⟩) cap w (.returned (.tuple #[v,.bool true])) w10):=by
         refine⟨.inl ⟨v,os,by rw[hm];exact HStep.out,rfl,hO.mono B2.size⟩,B2.trans (hb10.mono B2.size)⟩
        clear hO hm hb10 HWo2 HSt HStep
        go_wp2
        exact bodyPost_ret (v:=.tuple #[v,.bool true]) (by simp[results,Tryz.results52,go_sem]) rfl HP.out
       |false=>
        have HQ2:Hid (∀q,q<j+1->p≠q->fw (at' l p) (at' l q)=false):=HQn.out (by first|rfl|trivial)
        clear HQy HQn HWo2 HSt
        go_wp2
        go_roundw
        case rel=>exact⟨j+1,by omega,by go_num,HQ2,B2⟩
        case measure=>simp[intOf];omega
    ·have hjn':j=n:=by omega
     subst hjn'
     have HN2:Hid (ji l (p+1)):=HWs.out p hpn HN.out (fun q hq hne=>HQ.out q hq hne)
     have hnn:¬(j:Int)<(j:Int):=by omega
     clear HR HI HWo HFW HWs HQ HN HSt
     go_wp2
     go_roundw
     case rel=>exact⟨p+1,by omega,by go_num,HN2,B⟩
     case measure=>simp[intOf];omega
  ·have hpn':p=n:=by omega
   subst hpn'
   have HNW:Hid (NoW l):=HNoW.out HN.out
   have hnn:¬(p:Int)<(p:Int):=by omega
   clear HN HNoW HWs HFW HI
   go_wp2_with fail
   go_loopw [6](fun i wr=>∃(q:Nat),q<=p∧i=.int .i64 q∧Hid (jk l q)∧Below w.heap.size w wr)(fun i _=>p-(intOf i).toNat)
   case atStart=>exact⟨0,by omega,rfl,fun q hq=>by omega,B⟩
   case round=>
    clear B
    obtain⟨i,hi,rfl,HN,B⟩:=hrel
    rename World=>WB
    by_cases hin:i<p
    ·have hin':(i:Int)<(p:Int):=by omega
     clear HNoJ
     go_wp2_with fail
     go_loopw [7](fun q wr=>∃(j:Nat),i<j∧j<=p∧q=.int .i64 j∧Hid (∀q,i<q->q<j->gj (at' l i) (at' l q))∧Below w.heap.size w wr)(fun q _=>p-(intOf q).toNat)
     case atStart=>exact⟨i+1,by omega,by omega,by go_num,fun q h1 h2=>by omega,B⟩
     case round=>
      clear B
      obtain⟨j,hij,hj,rfl,HQ,B⟩:=hrel
      rename World=>W0
      by_cases hjn:j<p
      ·have hjn':(j:Int)<(p:Int):=by omega
       obtain⟨b,o,a1,c1,rfl,cr1,hs1⟩:=HR.out W0 B i hin
       obtain⟨_,_,a2,c2,he,cr2,hs2⟩:=HR.out W0 B j hjn
       cases he
       have HL:Hid (∀w1,Below W0.heap.size W0 w1->Calls Tryz.prog 88 #[.agg #[.slice a1 6 c1],.agg #[.slice a2 6 c2]] w1 fun e w'=>JrP (at' l i) (at' l j) w1 e w'):=fun w1 hb=>HJ.out i j _ _ _ _ _ hin hjn (hs1.below PK.stays hb) (hs2.below PK.stays hb)
       have HWp:=HWo.out
       have HWo2:Hid (∀w1,Below w.heap.size w w1->Calls Tryz.prog 87 #[.slice (some ⟨b,o,none⟩) p cap,.int .i64 (j:Int)] w1 fun e w'=>uX L l j w1 e w'):=fun w1 h=>HWp w1 j h hjn
       have SB:Hid (∀w',Below W0.heap.size W0 w'->(Below W0.heap.size W0 w'∧w'.cell? ⟨b,o+i,none⟩=some (.slice a1 6 c1)∧w'.cell? ⟨b,o+j,none⟩=some (.slice a2 6 c2))):=fun w' hb=>⟨hb,eh hb cr1,eh hb cr2⟩
       have SBs:Hid (∀w' v,Below W0.heap.size W0 w'->(Below W0.heap.size W0 (w'.setCell ⟨W0.heap.size,0,none⟩ v)∧(w'.setCell ⟨W0.heap.size,0,none⟩ v).cell? ⟨b,o+i,none⟩=some (.slice a1 6 c1)∧(w'.setCell ⟨W0.heap.size,0,none⟩ v).cell? ⟨b,o+j,none⟩=some (.slice a2 6 c2))):=fun w' v hb=>SB.out _ (hb.setCell (p:=⟨W0.heap.size,0,none⟩) (ae _) v)
       have SKa:Hid (∀wb,Below W0.drew.heap.size W0.drew wb->Below W0.heap.size W0 wb):=fun wb hb=>eo (wa:=W0.drew) hb ((af _ _).drew)
       have SKb:Hid (∀wb,Below (W0.alloc (.cells #[.slice none 0 0] 57)).drew.heap.size (W0.alloc (.cells #[.slice none 0 0] 57)).drew wb->Below W0.heap.size W0 wb∧W0.heap.size<wb.heap.size∧wb.cell? ⟨W0.heap.size,0,none⟩=some (.slice none 0 0)∧wb.frozen? ⟨W0.heap.size,0,none⟩=false):=by
        intro wb hb
        have hz:W0.heap.size<(W0.alloc (.cells #[.slice none 0 0] 57)).drew.heap.size:=by simp
        exact⟨eo hb ((af _ _).alloc (ae _) _).drew,an hz hb.size,(hb.cell (p:=⟨W0.heap.size,0,none⟩) hz).trans (by simp),(hb.frozen (p:=⟨W0.heap.size,0,none⟩) hz).trans (by simp)⟩
       have hS0:=SB.out W0.drew (af _ _).drew
       have hS1:=SB.out (W0.alloc (.cells #[.slice none 0 0] 57)).drew ((af _ _).alloc (ae _) _).drew
       have hS2:=SB.out (W0.drew.alloc (.cells #[.slice none 0 0] 57)) ((af _ _).drew.alloc (ae _) _)
       have hsd:W0.drew.heap.size=W0.heap.size:=rfl
       have hse:(W0.alloc (.cells #[.slice none 0 0] 57)).drew.heap.size=W0.heap.size+1:=by simp
       clear cr1 cr2 HR HJ HWo HWp hs1 hs2
       by_cases hJ:∃x,jD (at' l i) (at' l j) x
       ·obtain⟨x,hx⟩:=hJ
        have HStep:Hid (Step l ((l.set i x).eraseIdx j)):=HFJ.out i j x HNW.out hij hjn HN.out HQ.out hx
        have hx6:=HX6.out i j x hin hjn hx
        have hel:=HEl.out j hjn
        have HLy:Hid (∀w1,Below W0.heap.size W0 w1->Calls Tryz.prog 88 #[.agg #[.slice a1 6 c1],.agg #[.slice a2 6 c2]] w1 fun e w'=>∃b9 c9,e=.returned (.tuple #[.agg #[.slice (some ⟨b9,0,none⟩) 6 c9],.bool true])∧(w1.heap.size<=b9∧b9<w'.heap.size∧LAt 3 PK w' b9 0 x)∧Below w1.heap.size w1 w'):=fun w1 h=>(HL.out w1 h).mono (by
         rintro e w'⟨⟨y,b9,c9,h1,rfl,h2,h3,h4⟩|⟨hno,_⟩,hb⟩
         ·rw[h1.uniq hx]at h4
          exact⟨b9,c9,rfl,⟨h2,h3,h4⟩,hb⟩
         ·exact absurd hx (hno x))
        clear HL HQ HN HFJ HJs HX6 HEl hx
        go_wp2_with fail
        go_region_held3(fun w'=>Below W0.heap.size W0 w'∧w'.cell? ⟨b,o+i,none⟩=some (.slice a1 6 c1)∧w'.cell? ⟨b,o+j,none⟩=some (.slice a2 6 c2))
         (first|(with_reducible assumption)|(with_reducible exact SBs.out _ _ hB9)|(with_reducible exact SB.out _ (Below.alloc (by assumption) (Below.size (by assumption)) _)))
         (first|(go_at_call 88;refine(HLy.out _ (by with_reducible first|exact hS0.1|exact hS1.1|assumption)).mono ?_;rintro _ w9⟨b9,c9,rfl,hx9,hb9⟩;first|(have hB9:Below W0.heap.size W0 w9:=(by with_reducible exact SKa.out _ hb9);have hS9:=SB.out w9 hB9)|(obtain⟨hB9,hz9,q0,f0⟩:=(by with_reducible exact SKb.out _ hb9:_∧_);have hS9:=SB.out w9 hB9)))
        ·obtain⟨hx1,hx2,hx3⟩:=hx9
         rw[hsd]at hx1
         have BV:Below W0.heap.size W0 (w9.alloc (.cells #[.slice (some ⟨b9,0,none⟩) 6 c9] 57)):=hB9.alloc hB9.size _
         have ee:(w9.alloc (.cells #[.slice (some ⟨b9,0,none⟩) 6 c9] 57)).cell? ⟨w9.heap.size,0,none⟩=some (.slice (some ⟨b9,0,none⟩) 6 c9):=by simp
         have hL9:LAt 3 PK (w9.alloc (.cells #[.slice (some ⟨b9,0,none⟩) 6 c9] 57)) b9 0 x:=hx3.below PK.stays hx2 ((af _ _).alloc (ae _) _)
         have hlt9:b9<(w9.alloc (.cells #[.slice (some ⟨b9,0,none⟩) 6 c9] 57)).heap.size:=by simp;omega
         have hLb:L<=b9:=by have:=B.size;have:=hB9.size;omega
         clear hb9 hS9 hB9 hx1 hx2 hx3
         clear SB SBs SKa SKb hS0 hS1 hS2 HLy
         obtain⟨V9,hV9⟩:∃V9,V9=(w9.alloc (.cells #[.slice (some ⟨b9,0,none⟩) 6 c9] 57)):=⟨_,rfl⟩
         rw[<-hV9]at BV ee hL9 hlt9⊢
         clear hV9
         obtain⟨C9,hC9⟩:∃C9,C9=w9.heap.size:=⟨_,rfl⟩
         rw[<-hC9]at ee⊢
         clear hC9
         have BW:=B.trans (BV.mono B.size)
         clear B BV
         go_wp2_with fail
         refine(HWo2.out _ BW).mono ?_
         rintro _ w10⟨v,os,rfl,hO,hm,hb10⟩
         have hol:os.length=p-1:=by
          have:=congrArg List.length hm
          rw[aX,hel]at this;exact this
         obtain⟨g,cg,hvf⟩:=pS hO.row (by omega)
         subst hvf
         have e10:=eh hb10 ee
         obtain⟨os',hO',hm',hB'⟩:=zD (c9:=c9) hO rfl hm hij hx6 hlt9 hLb (hL9.below PK.stays hlt9 hb10) BW.size (BW.trans (hb10.mono BW.size))
         have hgc:=bE hO.row i (by omega)
         have hgf:=dK hO.row i
         have hgs:∃xv,w10.cell? ⟨g,i,none⟩=some xv:=by
          rw[hgc]
          exact⟨_,ag (by rw[aX];omega)⟩
         obtain⟨xv,hgx⟩:=hgs
         have HP:Hid (kp L l (some ⟨b,o,none⟩) cap w (.returned (.tuple #[.slice (some ⟨g,0,none⟩) os.length cg,.bool true])) (w10.setCell ⟨g,i,none⟩ (.slice (some ⟨b9,0,none⟩) 6 c9))):=⟨.inl ⟨_,os',by rw[hm'];exact HStep.out,rfl,hO'⟩,hB'⟩
         have hiL:(i:Int)<(os.length:Int):=by omega
         clear hO hO' hm hm' hB' hb10 HWo2 HSt HStep hgc hL9 BW ee hol hel
         go_wp2
         exact bodyPost_ret (v:=.tuple #[.slice (some ⟨g,0,none⟩) os.length cg,.bool true]) (by simp[results,Tryz.results52,go_sem]) rfl HP.out
        ·obtain⟨hx1,hx2,hx3⟩:=hx9
         rw[hse]at hx1
         have BV:Below W0.heap.size W0 (w9.setCell ⟨W0.heap.size,0,none⟩ (.slice (some ⟨b9,0,none⟩) 6 c9)):=hB9.setCell (p:=⟨W0.heap.size,0,none⟩) (ae _) _
         have ee:(w9.setCell ⟨W0.heap.size,0,none⟩ (.slice (some ⟨b9,0,none⟩) 6 c9)).cell? ⟨W0.heap.size,0,none⟩=some (.slice (some ⟨b9,0,none⟩) 6 c9):=aG _ _ _ q0
         have hL9:LAt 3 PK (w9.setCell ⟨W0.heap.size,0,none⟩ (.slice (some ⟨b9,0,none⟩) 6 c9)) b9 0 x:=hx3.blk (by simp only[World.setCell,aH];rw[if_neg (by omega)])
         have hlt9:b9<(w9.setCell ⟨W0.heap.size,0,none⟩ (.slice (some ⟨b9,0,none⟩) 6 c9)).heap.size:=by simp;omega
         have hLb:L<=b9:=by have:=B.size;omega
         clear hb9 hS9 hB9 hx1 hx2 hx3 q0 f0
         clear SB SBs SKa SKb hS0 hS1 hS2 HLy
         obtain⟨V9,hV9⟩:∃V9,V9=(w9.setCell ⟨W0.heap.size,0,none⟩ (.slice (some ⟨b9,0,none⟩) 6 c9)):=⟨_,rfl⟩
         rw[<-hV9]at BV ee hL9 hlt9⊢
         clear hV9
         obtain⟨C9,hC9⟩:∃C9,C9=W0.heap.size:=⟨_,rfl⟩
         rw[<-hC9]at ee⊢
         clear hC9
         have BW:=B.trans (BV.mono B.size)
         clear B BV
         go_wp2_with fail
         refine(HWo2.out _ BW).mono ?_
         rintro _ w10⟨v,os,rfl,hO,hm,hb10⟩
         have hol:os.length=p-1:=by
          have:=congrArg List.length hm
          rw[aX,hel]at this;exact this
         obtain⟨g,cg,hvf⟩:=pS hO.row (by omega)
         subst hvf
         have e10:=eh hb10 ee
         obtain⟨os',hO',hm',hB'⟩:=zD (c9:=c9) hO rfl hm hij hx6 hlt9 hLb (hL9.below PK.stays hlt9 hb10) BW.size (BW.trans (hb10.mono BW.size))
         have hgc:=bE hO.row i (by omega)
         have hgf:=dK hO.row i
         have hgs:∃xv,w10.cell? ⟨g,i,none⟩=some xv:=by
          rw[hgc]
          exact⟨_,ag (by rw[aX];omega)⟩
         obtain⟨xv,hgx⟩:=hgs
         have HP:Hid (kp L l (some ⟨b,o,none⟩) cap w (.returned (.tuple #[.slice (some ⟨g,0,none⟩) os.length cg,.bool true])) (w10.setCell ⟨g,i,none⟩ (.slice (some ⟨b9,0,none⟩) 6 c9))):=⟨.inl ⟨_,os',by rw[hm'];exact HStep.out,rfl,hO'⟩,hB'⟩
         have hiL:(i:Int)<(os.length:Int):=by omega
         clear hO hO' hm hm' hB' hb10 HWo2 HSt HStep hgc hL9 BW ee hol hel
         go_wp2
         exact bodyPost_ret (v:=.tuple #[.slice (some ⟨g,0,none⟩) os.length cg,.bool true]) (by simp[results,Tryz.results52,go_sem]) rfl HP.out
       ·have HNJ:Hid (gj (at' l i) (at' l j)):=fun x hx=>hJ ⟨x,hx⟩
        have HQ2:Hid (∀q,i<q->q<j+1->gj (at' l i) (at' l q)):=fun q h1 h2=>by
         by_cases e:q=j
         ·rw[e];exact HNJ.out
         ·exact HQ.out q h1 (by omega)
        have HLn:Hid (∀w1,Below W0.heap.size W0 w1->Calls Tryz.prog 88 #[.agg #[.slice a1 6 c1],.agg #[.slice a2 6 c2]] w1 fun e w'=>e=.returned (.tuple #[.agg #[.slice none 0 0],.bool false])∧Below w1.heap.size w1 w'):=fun w1 h=>(HL.out w1 h).mono (by
         rintro e w'⟨⟨y,b9,c9,h1,_⟩|⟨_,rfl⟩,hb⟩
         ·exact absurd h1 (HNJ.out y)
         ·exact⟨rfl,hb⟩)
        clear HL HQ HN HFJ HJs HX6 HEl HNJ hJ HWo2 HSt
        go_wp2_with fail
        go_region_held3(fun w'=>Below W0.heap.size W0 w'∧w'.cell? ⟨b,o+i,none⟩=some (.slice a1 6 c1)∧w'.cell? ⟨b,o+j,none⟩=some (.slice a2 6 c2))
         (first|(with_reducible assumption)|(with_reducible exact SBs.out _ _ hB9)|(with_reducible exact SB.out _ (Below.alloc (by assumption) (Below.size (by assumption)) _)))
         (first|(go_at_call 88;refine(HLn.out _ (by with_reducible first|exact hS0.1|exact hS1.1|assumption)).mono ?_;rintro _ w9⟨rfl,hb9⟩;first|(have hB9:Below W0.heap.size W0 w9:=(by with_reducible exact SKa.out _ hb9);have hS9:=SB.out w9 hB9)|(obtain⟨hB9,hz9,q0,f0⟩:=(by with_reducible exact SKb.out _ hb9:_∧_);have hS9:=SB.out w9 hB9)))
        ·have BV:Below W0.heap.size W0 (w9.alloc (.cells #[.slice none 0 0] 57)):=hB9.alloc hB9.size _
         clear hb9 hS9 hB9
         clear SB SBs SKa SKb hS0 hS1 hS2 HLn
         obtain⟨V9,hV9⟩:∃V9,V9=(w9.alloc (.cells #[.slice none 0 0] 57)):=⟨_,rfl⟩
         rw[<-hV9]at BV⊢
         clear hV9
         have BW:=B.trans (BV.mono B.size)
         clear B BV
         go_wp2
         go_roundw
         case rel=>exact⟨j+1,by omega,by omega,by go_num,HQ2,BW⟩
         case measure=>simp[intOf];omega
        ·have BV:Below W0.heap.size W0 (w9.setCell ⟨W0.heap.size,0,none⟩ (.slice none 0 0)):=hB9.setCell (p:=⟨W0.heap.size,0,none⟩) (ae _) _
         clear hb9 hS9 hB9 q0 f0
         clear SB SBs SKa SKb hS0 hS1 hS2 HLn
         obtain⟨V9,hV9⟩:∃V9,V9=(w9.setCell ⟨W0.heap.size,0,none⟩ (.slice none 0 0)):=⟨_,rfl⟩
         rw[<-hV9]at BV⊢
         clear hV9
         have BW:=B.trans (BV.mono B.size)
         clear B BV
         go_wp2
         go_roundw
         case rel=>exact⟨j+1,by omega,by omega,by go_num,HQ2,BW⟩
         case measure=>simp[intOf];omega
      ·have hjn':j=p:=by omega
       subst hjn'
       have HN2:Hid (jk l (i+1)):=HJs.out i hin HN.out (fun q h1 h2=>HQ.out q h1 h2)
       have hnn2:¬(j:Int)<(j:Int):=by omega
       clear HR HJ HWo HFJ HJs HQ HN HSt HX6 HEl
       go_wp2
       go_roundw
       case rel=>exact⟨i+1,by omega,by go_num,HN2,B⟩
       case measure=>simp[intOf];omega
    ·have hin':i=p:=by omega
     subst hin'
     have HP:Hid (kp L l a cap w (.returned (.tuple #[.slice a i cap,.bool false])) WB):=by
      show kp L l a cap w _ _
      rw[HSt.out]
      exact⟨.inr ⟨⟨HNW.out,HNoJ.out HN.out⟩,rfl⟩,B⟩
     have hnn2:¬(i:Int)<(i:Int):=by omega
     clear HR HJ HWo HFJ HJs HN HSt HX6 HEl HNoJ HNW
     go_wp2
     exact bodyPost_ret (v:=.tuple #[.slice a i cap,.bool false]) (by simp[results,Tryz.results52,go_sem]) rfl HP.out
end Go.Proofs.YtdihdapmphkhpaaGreat
