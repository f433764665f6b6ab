import Derived.Test.YtdihdapmphkhpaaGreatQ08
set_option linter.all false
set_option maxRecDepth 200000
set_option maxHeartbeats 16000000
namespace Go.Proofs.YtdihdapmphkhpaaGreat
open Go.RowKit
theorem pY{p:List E}(hm:∀e∈p,e.rules.length<=16777216):fp p<=16777216*p.length:=by
 induction p with
 |nil=>simp[fp]
 |cons e p ih=>
  have h1:=hm e (aY ..);have h2:=ih (fun x hx=>hm x (bo _ hx));simp only[fp,aq];omega
theorem At{l:List (List K)}{t:Nat}(h:t<l.length):l.getD t []∈l:=by
 rw[aa,ag h];exact aI h
theorem tj{p:List E}{i:Nat}(hi:i<p.length):p.getD i E.zero∈p:=by
 rw[aa,ag hi];exact aI hi
theorem Dx(p:List E)(a:Option Addr)(cap:Nat)(w:World)(hs:eS 3 PE w a p)(hn:p.length<=16777216)(hm:∀e∈p,e.rules.length<=16777216):
 Calls Tryz.prog 20 #[.agg #[.slice a p.length cap]] w fun e w'=>e=.returned (.int .i64 (fp p:Nat))∧Below w.heap.size w w':=by
 have B:Below w.heap.size w (w.alloc (.cells #[.slice a p.length cap] 25)):=(af _ _).alloc (ae _) _;have HP:Hid (∀i,i<p.length->∃b o,a=some ⟨b,o,none⟩∧b<w.heap.size∧PE w b (o+i*3) (p.getD i E.zero)):=fun i hi=>hs.at hi E.zero
 have HT:Hid (∀i,i<p.length->fp (p.take (i+1))=fp (p.take i)+(p.getD i E.zero).rules.length):=fun i hi=>mH hi
 have HA:Hid (fp (p.take p.length)=fp p):=by show _=_;rw[ct]
 have HL:Hid (∀i,i<p.length->fp (p.take i)+(p.getD i E.zero).rules.length<=281474976710656):=fun i hi=>by
  rw[<-mH hi];have:=pY (p:=p.take (i+1)) (fun e he=>hm e (aB he));have h2:(p.take (i+1)).length<=p.length:=by simp;omega
  omega
 have x0:=nZ w 25 (.slice a p.length cap);clear hs hm;generalize fp p=tt at*;generalize p.length=n at*;go_enter Tryz.func20,Tryz.ntmps20;go_wp2_with fail;go_loop [3,4](fun q i=>∃k:Nat,k<=n∧i=.int .i64 k∧q=.int .i64 (fp (p.take k):Nat))(fun _ i=>n-(intOf i).toNat)
 case atStart=>exact⟨0,by omega,rfl,by simp[fp]⟩
 case round=>
  obtain⟨k,hk,rfl,rfl⟩:=hrel;by_cases hkn:k<n
  ·obtain⟨b,o,rfl,hlt,_,_,a',cap',c2,_⟩:=HP.out k hkn;have hl:=HL.out k hkn;have HT1:Hid (fp (p.take (k+1))=fp (p.take k)+(p.getD k E.zero).rules.length):=HT.out k hkn;have hne:=dA w _ c2;generalize fp (p.take k)=T0 at*;generalize(p.getD k E.zero).rules.length=m at*;have hkn':(k:Int)<(n:Int):=by omega
   clear HP HT HL HA;go_wp2;go_round
   case rel=>
    refine⟨k+1,by omega,by go_num,?_⟩;rw[HT1.out];simp
   case measure=>simp[intOf];omega
  have hk':k=n:=by omega
  subst hk';have HA':=HA.out;rw[HA'];go_wp2;go_ret;exact⟨rfl,B⟩
theorem km(p:List E)(a:Option Addr)(cap:Nat)(w:World)(hs:eS 3 PE w a p)(ho:okP p)(hn:p.length<=16777216)(hm:∀e∈p,e.rules.length<=16777216)(hm2:∀e∈p,∀r∈e.rules,r.length<=16777216):
 Calls Tryz.prog 5 #[.agg #[.slice a p.length cap]] w fun e w'=>e=.returned (.bool (eW p))∧Below w.heap.size w w':=by
 have B:Below w.heap.size w (w.alloc (.cells #[.slice a p.length cap] 25)):=(af _ _).alloc (ae _) _;have HP:Hid (∀wr,Below w.heap.size w wr->∀i,i<p.length->∃b o,a=some ⟨b,o,none⟩∧b<wr.heap.size∧PE wr b (o+i*3) (p.getD i E.zero)):=fun wr hB i hi=>(hs.below PE.stays hB).at hi E.zero
 have HNo:Hid (∀i,i<p.length->fS p i=false->eW p=false):=fun i hi h=>sQ hi h
 have HYes:Hid ((∀i,i<p.length->fS p i=true)->eW p=decide (fp p<=1000)):=fun h=>rm h
 have HRs:Hid (∀w1,Below w.heap.size w w1->Calls Tryz.prog 20 #[.agg #[.slice a p.length cap]] w1 fun e w'=>e=.returned (.int .i64 (fp p:Nat))∧Below w1.heap.size w1 w'):=fun w1 hb=>Dx p a cap w1 (hs.below PE.stays hb) hn hm
 have HOk0:Hid (∀i t,okR ((p.getD i E.zero).rules.getD t [])):=fun i t=>yd (mQ ho i).2.2 t
 have HSm0:Hid (∀i,i<p.length->∀t,((p.getD i E.zero).rules.getD t []).length<=16777216):=fun i hi t=>by
  by_cases ht:t<(p.getD i E.zero).rules.length
  ·exact hm2 _ (tj hi) _ (At ht)
  rw[aa,bw (by omega)];simp
 have HSt:Hid (∀i,fS p i=((i==0||jG (p.getD (i-1) E.zero) (p.getD i E.zero))&&gP (p.getD i E.zero))):=fun i=>rfl
 have HBd:Hid (∀i,(0<=(p.getD i E.zero).et∧(p.getD i E.zero).et<=4294967295)∧(0<=(p.getD i E.zero).nr∧(p.getD i E.zero).nr<=4294967295)):=fun i=>⟨(mQ ho i).1,(mQ ho i).2.1⟩
 have HTl:Hid (fp p<=281474976710656):=by have:=pY hm;unfold Hid;omega
 have x0:=nZ w 25 (.slice a p.length cap);obtain⟨V,hV⟩:∃V,eW p=V:=⟨_,rfl⟩;rw[hV]at HNo HYes⊢;clear hV hs hm hm2 ho;generalize fp p=tt at*;generalize p.length=n at*;go_enter Tryz.func5,Tryz.ntmps5;go_wp2_with fail;go_loopw [3](fun i wr=>∃k:Nat,k<=n∧i=.int .i64 k∧Hid (∀j,j<k->fS p j=true)∧wr.cell? ⟨w.heap.size,0,none⟩=some (.slice a n cap)∧Below w.heap.size w wr)(fun i _=>n-(intOf i).toNat)
 case atStart=>exact⟨0,by omega,rfl,fun j hj=>by omega,x0,B⟩
 case round=>
  clear B x0;obtain⟨k,hk,rfl,HJ0,x0,B⟩:=hrel;rename World=>W0
  by_cases hkn:k<n
  ·have hkn':(k:Int)<(n:Int):=by omega
   have HStep1:Hid (fS p k=true->∀j,j<k+1->fS p j=true):=fun h j hj=>by
    by_cases hjk:j=k
    ·subst hjk;exact h
    exact HJ0.out j (by omega)
   have HNo1:Hid (fS p k=false->V=false):=HNo.out k hkn;have HOk:Hid (∀t,okR ((p.getD k E.zero).rules.getD t [])):=HOk0.out k;have HSm:Hid (∀t,((p.getD k E.zero).rules.getD t []).length<=16777216):=HSm0.out k hkn;obtain⟨b,o,rfl,hlt,c0,c1,ar,capr,c2,hsr⟩:=HP.out W0 B k hkn;obtain⟨⟨ar0,ar1⟩,⟨nr0,nr1⟩⟩:=HBd.out k;have HRl0:Hid (∀wr,Below W0.heap.size W0 wr->∀t,t<(p.getD k E.zero).rules.length->∃ab ao,ar=some ⟨ab,ao,none⟩∧ab<wr.heap.size∧PR wr ab (ao+t*1) ((p.getD k E.zero).rules.getD t [])):=fun wr hb t ht=>(hsr.below PR.stays hb).at ht []
   have HVE:Hid (gP (p.getD k E.zero)=(decide (1<=(p.getD k E.zero).rules.length)&&decide ((p.getD k E.zero).rules.length<=200)&&(p.getD k E.zero).rules.all eG)):=rfl;have HStk:=HSt.out k;have HAll:Hid ((∀s,s<(p.getD k E.zero).rules.length->eG ((p.getD k E.zero).rules.getD s [])=true)->(p.getD k E.zero).rules.all eG=true):=fun h=>(kS [] eG _).2 h
   have HAno:Hid (∀s,s<(p.getD k E.zero).rules.length->eG ((p.getD k E.zero).rules.getD s [])=false->(p.getD k E.zero).rules.all eG=false):=fun s hs h=>vC hs h
   generalize p.getD k E.zero=e at*;obtain⟨et,nr,rules⟩:=e;simp only at c0 c1 c2 hsr ar0 ar1 nr0 nr1 HOk HSm HRl0 HVE HAll HAno;generalize hmr:rules.length=m at*;have HRl:=HRl0;clear HRl0 hsr;by_cases hok:1<=m∧m<=200
   ·have HE:Hid (gP ⟨et,nr,rules⟩=rules.all eG):=by unfold Hid;rw[HVE.out];simp[hok.1,hok.2]
    obtain⟨hok1,hok2⟩:=hok;have hm1:(1:Int)<=(m:Int):=by omega
    have hm2:(m:Int)<=200:=by omega
    by_cases hk0:k=0
    ·have hz:¬(0:Int)<(k:Int):=by omega
     have HGood:Hid ((∀s,s<m->eG (rules.getD s [])=true)->∀j,j<k+1->fS p j=true):=fun h=>HStep1.out (by rw[HStk,HE.out,HAll.out h];simp[hk0])
     have HBad:Hid (∀s,s<m->eG (rules.getD s [])=false->V=false):=fun s hs h=>HNo1.out (by rw[HStk,HE.out,HAno.out s hs h];simp)
     have Xe:=gu.new W0 53 (.int .u32 et) (.int .u32 nr) (.slice ar m capr);have Bx:Below W0.heap.size W0 (W0.alloc (.cells #[.int .u32 et,.int .u32 nr,.slice ar m capr] 53)):=(af _ _).alloc (ae _) _;have x1:=eh Bx x0;clear hk0 HStep1 HNo1 HStk HE HAll HAno HVE HP HNo HYes HRs HOk0 HSm0 HSt HBd HTl HJ0 hmr;go_wp2_with fail;go_loopw [6](fun j wr=>∃t:Nat,t<=m∧j=.int .i64 t∧Hid (∀s,s<t->eG (rules.getD s [])=true)∧gu wr W0.heap.size (.int .u32 et) (.int .u32 nr) (.slice ar m capr)∧wr.cell? ⟨w.heap.size,0,none⟩=some (.slice (some ⟨b,o,none⟩) n cap)∧Below W0.heap.size W0 wr)(fun j _=>m-(intOf j).toNat)
     case atStart=>exact⟨0,by omega,rfl,fun s hs=>by omega,Xe,x1,Bx⟩
     case round=>
      clear Xe x1 Bx;obtain⟨t,ht,rfl,HJ,Xe,x1,Bx⟩:=hrel;have Xe1:=Xe;obtain⟨_,e0,e1,e2,_,_,_⟩:=Xe1;by_cases htm:t<m
      ·obtain⟨ab,ao,har,hablt,a2,cap2,r0,hsr2⟩:=HRl.out wr Bx t htm;have HRo:Hid (∀w1,Below wr.heap.size wr w1->Calls Tryz.prog 19 #[.agg #[.slice a2 (rules.getD t []).length cap2]] w1 fun e w'=>e=.returned (.bool (eG (rules.getD t [])))∧Below w1.heap.size w1 w'):=fun w1 hb=>qN _ a2 cap2 w1 (hsr2.below PK.stays hb) (HOk.out t) (HSm.out t)
       have HJ1:Hid (eG (rules.getD t [])=true->∀s,s<t+1->eG (rules.getD s [])=true):=fun h s hs=>by
        by_cases hst:s=t
        ·subst hst;exact h
        exact HJ.out s (by omega)
       have HF1:Hid (eG (rules.getD t [])=false->V=false):=fun h=>HBad.out t htm h
       rw[bR]at r0;generalize eG (rules.getD t [])=Q at*;generalize(rules.getD t []).length=len2 at*;subst har;have htm':(t:Int)<(m:Int):=by omega
       clear HJ hsr2;go_wp2_with fail;refine(HRo.out _ (af _ _)).mono ?_;rintro _ w5⟨rfl,hb5⟩;have B5:=eo hb5 Bx;have x5:=eh hb5 x1;have X5:=Xe.ey hb5;clear hb5 e0 e1 e2 x1 r0 HRo Xe
       cases Q with
       |false=>
        have hVf:V=false:=HF1.out (by first|rfl|trivial);subst hVf;go_wp2;go_ret;exact⟨rfl,eo B5 B⟩
       |true=>
        have HJ2:Hid (∀s,s<t+1->eG (rules.getD s [])=true):=HJ1.out (by first|rfl|trivial);go_wp2;go_roundw
        case rel=>exact⟨t+1,by omega,by go_num,HJ2,X5,x5,B5⟩
        case measure=>simp[intOf];omega
      have htm':t=m:=by omega
      subst htm';have HG:Hid (∀j,j<k+1->fS p j=true):=HGood.out HJ.out;have B6:=eo Bx B;go_wp2;go_roundw
      case rel=>exact⟨k+1,by omega,by go_num,HG,x1,B6⟩
      case measure=>simp[intOf];omega
    have hz:(0:Int)<(k:Int):=by omega
    have hk1:((k:Int)-1).toNat=k-1:=by omega
    have hkb:(k==0)=false:=by rw[beq_eq_false_iff_ne];exact hk0
    rw[hkb,Bool.false_or]at HStk;obtain⟨b',o',hbo,_,d0,d1,ar',capr',d2,_⟩:=HP.out W0 B (k-1) (by omega)
    cases hbo;obtain⟨⟨br0,br1⟩,⟨bn0,bn1⟩⟩:=HBd.out (k-1);generalize p.getD (k-1) E.zero=d at*;obtain⟨arch',nr',rules'⟩:=d;simp only at d0 d1 d2 br0 br1 bn0 bn1;generalize rules'.length=m' at*;have Xe:=(gu.new W0 53 (.int .u32 et) (.int .u32 nr) (.slice ar m capr)).alloc (.cells #[.int .u32 arch',.int .u32 nr',.slice ar' m' capr'] 53);have Bx:Below W0.heap.size W0 ((W0.alloc (.cells #[.int .u32 et,.int .u32 nr,.slice ar m capr] 53)).alloc (.cells #[.int .u32 arch',.int .u32 nr',.slice ar' m' capr'] 53)):=((af _ _).alloc (ae _) _).alloc (by simp) _;have x1:=eh Bx x0;have HBf:Hid (jG ⟨arch',nr',rules'⟩ ⟨et,nr,rules⟩=(decide (arch'<et)||(arch'==et&&decide (nr'<nr)))):=rfl;have hne0:=dA W0 _ d0;have hnx:=dA W0 _ x0;have BE:Below W0.heap.size W0 (W0.alloc (.cells #[.int .u32 et,.int .u32 nr,.slice ar m capr] 53)):=(af _ _).alloc (ae _) _;have y0:=eh BE x0;have dd0:=eh BE d0;have dd1:=eh BE d1;have dd2:=eh BE d2;by_cases hlt1:arch'<et
    ·have HGood:Hid ((∀s,s<m->eG (rules.getD s [])=true)->∀j,j<k+1->fS p j=true):=fun h=>HStep1.out (by rw[HStk,HE.out,HAll.out h,HBf.out];simp[hlt1])
     have HBad:Hid (∀s,s<m->eG (rules.getD s [])=false->V=false):=fun s hs h=>HNo1.out (by rw[HStk,HE.out,HAno.out s hs h];simp)
     have g1:¬et<arch':=by omega
     have g2:(arch'==et)=false:=by rw[beq_eq_false_iff_ne];omega
     clear hk0 hkb HStep1 HNo1 HStk HE HAll HAno HVE HP HNo HYes HRs HOk0 HSm0 HSt HBd HTl HJ0 hmr HBf;go_wp2_with fail;go_loopw [6](fun j wr=>∃t:Nat,t<=m∧j=.int .i64 t∧Hid (∀s,s<t->eG (rules.getD s [])=true)∧gu wr W0.heap.size (.int .u32 et) (.int .u32 nr) (.slice ar m capr)∧wr.cell? ⟨w.heap.size,0,none⟩=some (.slice (some ⟨b,o,none⟩) n cap)∧Below W0.heap.size W0 wr)(fun j _=>m-(intOf j).toNat)
     case atStart=>exact⟨0,by omega,rfl,fun s hs=>by omega,Xe,x1,Bx⟩
     case round=>
      clear Xe x1 Bx;obtain⟨t,ht,rfl,HJ,Xe,x1,Bx⟩:=hrel;have Xe1:=Xe;obtain⟨_,e0,e1,e2,_,_,_⟩:=Xe1;by_cases htm:t<m
      ·obtain⟨ab,ao,har,hablt,a2,cap2,r0,hsr2⟩:=HRl.out wr Bx t htm;have HRo:Hid (∀w1,Below wr.heap.size wr w1->Calls Tryz.prog 19 #[.agg #[.slice a2 (rules.getD t []).length cap2]] w1 fun e w'=>e=.returned (.bool (eG (rules.getD t [])))∧Below w1.heap.size w1 w'):=fun w1 hb=>qN _ a2 cap2 w1 (hsr2.below PK.stays hb) (HOk.out t) (HSm.out t)
       have HJ1:Hid (eG (rules.getD t [])=true->∀s,s<t+1->eG (rules.getD s [])=true):=fun h s hs=>by
        by_cases hst:s=t
        ·subst hst;exact h
        exact HJ.out s (by omega)
       have HF1:Hid (eG (rules.getD t [])=false->V=false):=fun h=>HBad.out t htm h
       rw[bR]at r0;generalize eG (rules.getD t [])=Q at*;generalize(rules.getD t []).length=len2 at*;subst har;have htm':(t:Int)<(m:Int):=by omega
       clear HJ hsr2;go_wp2_with fail;refine(HRo.out _ (af _ _)).mono ?_;rintro _ w5⟨rfl,hb5⟩;have B5:=eo hb5 Bx;have x5:=eh hb5 x1;have X5:=Xe.ey hb5;clear hb5 e0 e1 e2 x1 r0 HRo Xe
       cases Q with
       |false=>
        have hVf:V=false:=HF1.out (by first|rfl|trivial);subst hVf;go_wp2;go_ret;exact⟨rfl,eo B5 B⟩
       |true=>
        have HJ2:Hid (∀s,s<t+1->eG (rules.getD s [])=true):=HJ1.out (by first|rfl|trivial);go_wp2;go_roundw
        case rel=>exact⟨t+1,by omega,by go_num,HJ2,X5,x5,B5⟩
        case measure=>simp[intOf];omega
      have htm':t=m:=by omega
      subst htm';have HG:Hid (∀j,j<k+1->fS p j=true):=HGood.out HJ.out;have B6:=eo Bx B;go_wp2;go_roundw
      case rel=>exact⟨k+1,by omega,by go_num,HG,x1,B6⟩
      case measure=>simp[intOf];omega
    by_cases heq:arch'=et
    ·subst heq;by_cases hlt2:nr'<nr
     ·have HGood:Hid ((∀s,s<m->eG (rules.getD s [])=true)->∀j,j<k+1->fS p j=true):=fun h=>HStep1.out (by rw[HStk,HE.out,HAll.out h,HBf.out];simp[hlt2])
      have HBad:Hid (∀s,s<m->eG (rules.getD s [])=false->V=false):=fun s hs h=>HNo1.out (by rw[HStk,HE.out,HAno.out s hs h];simp)
      have g3:¬nr<=nr':=by omega
      clear hk0 hkb HStep1 HNo1 HStk HE HAll HAno HVE HP HNo HYes HRs HOk0 HSm0 HSt HBd HTl HJ0 hmr HBf;go_wp2_with fail;go_loopw [6](fun j wr=>∃t:Nat,t<=m∧j=.int .i64 t∧Hid (∀s,s<t->eG (rules.getD s [])=true)∧gu wr W0.heap.size (.int .u32 arch') (.int .u32 nr) (.slice ar m capr)∧wr.cell? ⟨w.heap.size,0,none⟩=some (.slice (some ⟨b,o,none⟩) n cap)∧Below W0.heap.size W0 wr)(fun j _=>m-(intOf j).toNat)
      case atStart=>exact⟨0,by omega,rfl,fun s hs=>by omega,Xe,x1,Bx⟩
      case round=>
       clear Xe x1 Bx;obtain⟨t,ht,rfl,HJ,Xe,x1,Bx⟩:=hrel;have Xe1:=Xe;obtain⟨_,e0,e1,e2,_,_,_⟩:=Xe1;by_cases htm:t<m
       ·obtain⟨ab,ao,har,hablt,a2,cap2,r0,hsr2⟩:=HRl.out wr Bx t htm;have HRo:Hid (∀w1,Below wr.heap.size wr w1->Calls Tryz.prog 19 #[.agg #[.slice a2 (rules.getD t []).length cap2]] w1 fun e w'=>e=.returned (.bool (eG (rules.getD t [])))∧Below w1.heap.size w1 w'):=fun w1 hb=>qN _ a2 cap2 w1 (hsr2.below PK.stays hb) (HOk.out t) (HSm.out t)
        have HJ1:Hid (eG (rules.getD t [])=true->∀s,s<t+1->eG (rules.getD s [])=true):=fun h s hs=>by
         by_cases hst:s=t
         ·subst hst;exact h
         exact HJ.out s (by omega)
        have HF1:Hid (eG (rules.getD t [])=false->V=false):=fun h=>HBad.out t htm h
        rw[bR]at r0;generalize eG (rules.getD t [])=Q at*;generalize(rules.getD t []).length=len2 at*;subst har;have htm':(t:Int)<(m:Int):=by omega
        clear HJ hsr2;go_wp2_with fail;refine(HRo.out _ (af _ _)).mono ?_;rintro _ w5⟨rfl,hb5⟩;have B5:=eo hb5 Bx;have x5:=eh hb5 x1;have X5:=Xe.ey hb5;clear hb5 e0 e1 e2 x1 r0 HRo Xe
        cases Q with
        |false=>
         have hVf:V=false:=HF1.out (by first|rfl|trivial);subst hVf;go_wp2;go_ret;exact⟨rfl,eo B5 B⟩
        |true=>
         have HJ2:Hid (∀s,s<t+1->eG (rules.getD s [])=true):=HJ1.out (by first|rfl|trivial);go_wp2;go_roundw
         case rel=>exact⟨t+1,by omega,by go_num,HJ2,X5,x5,B5⟩
         case measure=>simp[intOf];omega
       have htm':t=m:=by omega
       subst htm';have HG:Hid (∀j,j<k+1->fS p j=true):=HGood.out HJ.out;have B6:=eo Bx B;go_wp2;go_roundw
       case rel=>exact⟨k+1,by omega,by go_num,HG,x1,B6⟩
       case measure=>simp[intOf];omega
     have hVf:V=false:=HNo1.out (by rw[HStk,HBf.out];simp[hlt2]);subst hVf;have g3:nr<=nr':=by omega
     have B6:=eo Bx B;clear hk0 hkb HStep1 HNo1 HStk HE HAll HAno HVE HP HNo HYes HRs HOk0 HSm0 HSt HBd HTl HJ0 hmr HBf HRl;go_wp2;go_ret;exact⟨rfl,B6⟩
    have hVf:V=false:=HNo1.out (by rw[HStk,HBf.out];simp[hlt1,heq]);subst hVf;have g1:et<arch':=by omega
    have B6:=eo Bx B;clear hk0 hkb HStep1 HNo1 HStk HE HAll HAno HVE HP HNo HYes HRs HOk0 HSm0 HSt HBd HTl HJ0 hmr HBf HRl;go_wp2;go_ret;exact⟨rfl,B6⟩
   have hVf:V=false:=HNo1.out (by rw[HStk,HVE.out];rcases(by omega:m<1∨200<m)with h|h<;>simp<;>omega);subst hVf;have Bx:Below W0.heap.size W0 (W0.alloc (.cells #[.int .u32 et,.int .u32 nr,.slice ar m capr] 53)):=(af _ _).alloc (ae _) _;have B6:=eo Bx B;clear HStep1 HNo1 HStk HAll HAno HVE HP HNo HYes HRs HOk0 HSm0 HSt HBd HTl HJ0 hmr HRl;by_cases hlo:m<1
   ·have g1:(m:Int)<1:=by omega
    go_wp2;go_ret;exact⟨rfl,B6⟩
   have g1:¬(m:Int)<1:=by omega
   have g2:(200:Int)<(m:Int):=by omega
   go_wp2;go_ret;exact⟨rfl,B6⟩
  have hk':k=n:=by omega
  subst hk';have hV:=HYes.out HJ0.out;subst hV;have htl:=HTl.out;clear HYes HNo HP;go_wp2_with fail;refine(HRs.out _ B).mono ?_;rintro _ w1⟨rfl,hb1⟩;have B1:=eo hb1 B;go_wp2;go_ret;refine⟨?_,B1⟩;simp;omega
end Go.Proofs.YtdihdapmphkhpaaGreat
