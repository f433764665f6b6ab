import Derived.Laws.Closers25b
import Derived.Test.YtdihdapmphkhpaaGreatQ05
set_option linter.all false
set_option maxRecDepth 200000
set_option maxHeartbeats 16000000
namespace Go.Proofs.YtdihdapmphkhpaaGreat
open Go.RowKit Go.Deep
theorem DW(R cap:Nat)(a:Option Addr)(l:List Int)(j:Nat)(w:World)(hR:Rd w R a cap l j):
 Calls Tryz.prog 116 #[.pointer (some ⟨R,0,none⟩)] w fun e w'=>e=.returned (.int .i64 ((l.length:Int)-((min j l.length:Nat):Int)))∧Rd w' R a cap l j∧w.grownBy w' (some R):=by
 have c0:w.cell? ⟨R,0,none⟩=some (.slice a l.length cap):=dv hR.row (by omega);have c1:w.cell? ⟨R,1,none⟩=some (.int .i64 ((min j l.length:Nat):Int)):=dv hR.row (by omega);have hlen:=hR.len;have hq:min j l.length<=l.length:=Nat.min_le_right _ _;have HR:Hid (∀n,Rd (w.drewN n) R a cap l j):=fun n=>hR.drewN n
 clear hR;generalize min j l.length=q at*;generalize l.length=n at*;go_enter Tryz.func116,Tryz.ntmps116;go_wp2_with fail;go_quiet(fail);go_wp2;go_ret;refine⟨fL ?_,HR.out _,vf (ah _ _) _⟩;first|rfl|(rw[aT];omega)
theorem RsD.same{w:World}{B B':Nat}{v:Value}{l:List (List K)}{vs vs':Nat->Value}{cb cb':Nat->Nat}{gb gb':Nat}(h:RsD w B v l vs cb gb)(h':RsD w B' v l vs' cb' gb'):(List.range l.length).map vs=(List.range l.length).map vs':=by
 have ho:=h.ob;obtain⟨_,q1|⟨g1,c1,cur1,e1,_,hh1,_,_,_,hx1⟩⟩:=h.row
 ·rw[q1.1]at ho;cases ho
 obtain⟨_,q2|⟨g2,c2,cur2,e2,_,hh2,_,_,_,hx2⟩⟩:=h'.row
 ·rw[q2.1]at ho;cases ho
 rw[e1]at e2;simp only[bs,bz,Addr.mk.injEq]at e2;have:g1=g2:=e2.1.1;subst this;rw[hh1]at hh2;simp only[bz,Obj.cells.injEq]at hh2;rw[<-hx1,<-hx2,hh2.1]
theorem wK(l:List Int)(F:Nat->K×Nat)(hF:KdF l F)(R cap:Nat)(ad:Option Addr)(j:Nat)(w:World)(hR:Rd w R ad cap l j):
 Calls Tryz.prog 76 #[.pointer (some ⟨R,0,none⟩),.int .i64 9] w fun e w'=>∃v,e=.returned v∧LrS w w' R ad cap l (gH l F j).2 v (gH l F j).1:=by
 obtain⟨i1,hi1,hy0,hy1,hy2⟩:=info_parts nD;have HBy:Hid (eV l):=hR.bys;have HN:=nxH R cap ad l;have HLf:Hid (∀t W,Rd W R ad cap l t->Calls Tryz.prog 116 #[.pointer (some ⟨R,0,none⟩)] W fun e w'=>e=.returned (.int .i64 ((l.length:Int)-((min t l.length:Nat):Int)))∧Rd w' R ad cap l t∧W.grownBy w' (some R)):=fun t W h=>DW R cap ad l t W h
 have HB:Hid (∀t,0<=l.getD t 0∧l.getD t 0<=255):=ez hR.bys;have HDr:Hid (∀t W,Rd W R ad cap l t->Calls Tryz.prog 115 #[.pointer (some ⟨R,0,none⟩)] W fun e w'=>∃g cp,e=.returned (.agg #[.slice (some ⟨g,0,none⟩) 6 cp])∧fO w' W.heap.size (.slice (some ⟨g,0,none⟩) 6 cp) (kz l F t)∧Rd w' R ad cap l (mG l F t)∧W.grownBy w' (some R)):=fun t W h=>(ye l F hF R cap ad t W h).mono fun e w'⟨v,h1,h2,h3,h4⟩=>by
  rcases h2.2 with⟨k1,k2⟩|⟨g,cap',cur,k1,_⟩
  ·rw[(oZ hF t).2]at k2;omega
  rw[(oZ hF t).2]at k1;subst k1;exact⟨g,cap',h1,h2,h3,h4⟩
 have HNr:Hid (∀b ca(ks:List K)t W,qQ ks->Rd W R ad cap l t->KsD W b ks->b<W.heap.size->Calls Tryz.prog 117 #[.agg #[.slice (some ⟨b,0,none⟩) 6 ca],.pointer (some ⟨R,0,none⟩)] W fun e w'=>∃g cp,e=.returned (.agg #[.slice (some ⟨g,0,none⟩) 6 cp])∧fO w' W.heap.size (.slice (some ⟨g,0,none⟩) 6 cp) (oE l F ks t)∧Rd w' R ad cap l (po l F ks t)∧W.grownBy w' (some R)):=fun b ca ks t W ho h1 h2 h3=>(xM l F hF b ca ks ho.2 ho.1 R cap ad t W h1 h2 h3).mono fun e w'⟨v,q1,q2,q3,q4⟩=>by
  have h6:=(zF h1.bys hF ho.1 ho.2 t).2;rcases q2.2 with⟨k1,k2⟩|⟨g,cap',cur,k1,_⟩
  ·rw[h6]at k2;omega
  rw[h6]at k1;subst k1;exact⟨g,cap',q1,q2,q3,q4⟩
 have HO1:Hid (∀t,qQ (kz l F t)):=fun t=>oZ hF t
 have HO2:Hid (∀rs t,(∀r∈rs,qQ r)->0<rs.length->qQ (mq l F rs t).1):=fun rs t h h0=>yY HBy.out hF h h0 t
 have hRw:=hR.lt;have hx0:=HB.out j;obtain⟨N,hN⟩:∃N:Nat,(N:Int)=l.getD j 0%9:=⟨(l.getD j 0%9).toNat,by omega⟩;have hN8:N<=8:=by omega
 obtain⟨RES,hRES⟩:∃RES,gH l F j=RES:=⟨_,rfl⟩;have HG0:Hid (goR l F (N+1-1) [kz l F (j+1)] (mG l F (j+1))=RES):=by unfold Hid;rw[<-hRES];unfold gH;rw[show(l.getD j 0%9).toNat=N by omega];rfl
 rw[hRES];clear hRES;have HN0:=nx1 R cap ad l j (j+1) rfl;have HD0:Hid (∀W,Rd W R ad cap l (j+1)->Calls Tryz.prog 115 #[.pointer (some ⟨R,0,none⟩)] W fun e w'=>∃g cp,e=.returned (.agg #[.slice (some ⟨g,0,none⟩) 6 cp])∧fO w' W.heap.size (.slice (some ⟨g,0,none⟩) 6 cp) (kz l F (j+1))∧Rd w' R ad cap l (mG l F (j+1))∧W.grownBy w' (some R)):=fun W h=>HDr.out (j+1) W h
 have HO0:=HO1.out (j+1);have HO0':Hid _:=HO0;generalize l.getD j 0=x0 at*;generalize kz l F (j+1)=r0 at*;generalize mG l F (j+1)=j0 at*;have HNe0:Hid ((N:Int)=x0%9):=hN;clear hN hF HO0;go_enter Tryz.func76,Tryz.ntmps76;go_wp2_with fail;refine(HN0.out _ hR).mono ?_;rintro _ w1⟨rfl,hR1,hg1⟩;go_wp2_with fail;rw[<-HNe0.out];refine(HD0.out _ hR1).mono ?_;rintro _ w2⟨g0,cp0,rfl,o0,hR2,hg2⟩;clear HN0 HD0 HNe0 hx0;have S0:LrS w (w2.alloc (.cells #[.slice (some ⟨g0,0,none⟩) 6 cp0] 57)) R ad cap l j0 (.slice (some ⟨w2.heap.size,0,none⟩) 1 1) [r0]:=by
  have hg0:=o0.lt g0 rfl;have hs1:=hg1.size;have a1:=fu (ah w2 (some R)) (.cells #[.slice (some ⟨g0,0,none⟩) 6 cp0] 57);have hs2:(w2.alloc (.cells #[.slice (some ⟨g0,0,none⟩) 6 cp0] 57)).heap.size=w2.heap.size+1:=by simp
  refine⟨hR2.alloc _,eU (eU hg1 hg2) a1,hRw,fun _=>.slice (some ⟨g0,0,none⟩) 6 cp0,fun _=>g0,w2.heap.size,⟨⟨by simp,.inr ⟨w2.heap.size,1,#[.slice (some ⟨g0,0,none⟩) 6 cp0],rfl,by have:=hg2.size;omega,heap_alloc_new _ _,by first|(simp;done)|(unfold maxLen;omega),by first|(simp;done)|(unfold maxLen;omega),by first|(simp;done)|(unfold maxLen;omega),by first|(simp;done)|(unfold maxLen;omega)⟩⟩,rfl,fun i hi=> ?_,fun i hi=>by omega,fun i j h1 h2=>by simp at h2;omega⟩⟩;have:i=0:=by simpa using hi
  subst this;exact⟨hU (aA o0 a1 (.inr (by simp[Value.ownBlock];omega))) (by omega),rfl⟩
 clear o0 hR2 hg2 hR1 hg1;go_wp2_with fail;generalize w2.alloc (.cells #[.slice (some ⟨g0,0,none⟩) 6 cp0] 57)=W0 at*;generalize w2.heap.size=D0 at*;go_loopw [6,7](fun s u wr=>∃(v:Value)(i jj:Nat)(rs:List (List K)),v=s∧u=.int .i64 (i:Int)∧(1<=i∧i<=N+1)∧LrS w wr R ad cap l jj v rs∧Hid (∀r∈rs,qQ r)∧Hid (0<rs.length∧rs.length<=i)∧Hid (goR l F (N+1-i) rs jj=RES))(fun _ u _=>N+1-(intOf u).toNat)
 case atStart=>exact⟨_,1,j0,[r0],rfl,rfl,by omega,S0,fun r hr=>by simp only[aV]at hr;subst hr;exact HO0'.out,⟨by simp,by simp⟩,HG0⟩
 case round=>
  obtain⟨v,i,jj,rs,rfl,rfl,⟨hi1',hiN⟩,S,hok,hol,HG⟩:=hrel;clear S0 HG0 HO0';by_cases hlt:i<N+1
  ·have hlt':(i:Int)<1+(N:Int):=by omega
   obtain⟨f,hf⟩:∃f,N+1-i=f+1:=⟨N-i,by omega⟩;have hf2:N+1-(i+1)=f:=by omega
   rw[hf]at HG;have HG1:Hid ((if jj<l.length then goR l F f (rs++[(mq l F rs jj).1]) (mq l F rs jj).2 else(rs,jj))=RES):=HG;clear HG;have hmin:(jj<l.length->(0:Int)<(l.length:Int)-((min jj l.length:Nat):Int))∧(¬jj<l.length->(l.length:Int)-((min jj l.length:Nat):Int)=0):=by omega
   have HLf2:Hid (∀W,Rd W R ad cap l jj->Calls Tryz.prog 116 #[.pointer (some ⟨R,0,none⟩)] W fun e w'=>e=.returned (.int .i64 ((l.length:Int)-((min jj l.length:Nat):Int)))∧Rd w' R ad cap l jj∧W.grownBy w' (some R)):=HLf.out jj;generalize((l.length:Int)-((min jj l.length:Nat):Int))=lf at*;by_cases hin:jj<l.length
   ·have HG2:Hid (goR l F f (rs++[(mq l F rs jj).1]) (mq l F rs jj).2=RES):=by have:=HG1.out;rw[if_pos hin]at this;exact this
    have hle:=hmin.1 hin;clear HG1 hmin hin;have HO3:=HO2.out rs jj hok.out hol.out.1;have HO3':Hid _:=HO3;have hx:=HB.out jj;have HN2:=nx1 R cap ad l jj (jj+1) rfl;clear HO3;generalize hX:l.getD jj 0=x at*;have HX:Hid (l.getD jj 0=x):=hX;clear hX;go_wp2_with fail;refine(HLf2.out _ S.rd).mono ?_;rintro _ w3⟨rfl,hR3,hg3⟩;have S3:=S.draw hR3 hg3;clear hR3 hg3 S HLf2;go_wp2_with fail;refine(HN2.out _ S3.rd).mono ?_;rintro _ w4⟨rfl,hR4,hg4⟩;have S4:=S3.draw hR4 hg4;clear hR4 hg4 S3 HN2 hle;by_cases hA:x%8=0
    ·have eN:mq l F rs jj=(kz l F (jj+1),mG l F (jj+1)):=by unfold mq;rw[HX.out,if_pos hA]
     have HG3:=HG2.out;have HO4:=HO3'.out;rw[eN]at HG3 HO4;simp only at HG3 HO4;have HD0:Hid (∀W,Rd W R ad cap l (jj+1)->Calls Tryz.prog 115 #[.pointer (some ⟨R,0,none⟩)] W fun e w'=>∃g cp,e=.returned (.agg #[.slice (some ⟨g,0,none⟩) 6 cp])∧fO w' W.heap.size (.slice (some ⟨g,0,none⟩) 6 cp) (kz l F (jj+1))∧Rd w' R ad cap l (mG l F (jj+1))∧W.grownBy w' (some R)):=fun W h=>HDr.out (jj+1) W h
     generalize kz l F (jj+1)=r1 at*;generalize mG l F (jj+1)=j1 at*;have HG4:Hid _:=HG3;have HO5:Hid _:=HO4;clear HG3 HO4 eN HG2 HO3' HX HN HLf HDr HNr HO1 HO2;go_wp2_with fail;refine(HD0.out _ S4.rd).mono ?_;rintro _ w5⟨g5,cp5,rfl,o5,hR5,hg5⟩;have S5:=S4.draw hR5 hg5;obtain⟨vs,cb,gb,ho4⟩:=S4.own;have ho5:=(ho4.kept hg5 S4.lt).row;obtain⟨cpv,ev,hcv⟩:=ho4.form;subst ev;have hb5:w.heap.size<=w5.heap.size:=S5.gr.size;have hol':rs.length<=9:=by have:=hol.out;omega
     have hoA:World.ownsRow (w5.alloc (.cells #[.slice (some ⟨g5,0,none⟩) 6 cp5] 57)) w.heap.size 57 1 (.slice (some ⟨gb,0,none⟩) rs.length cpv) rs.length ((List.range rs.length).map vs):=ho5.alloc _;clear HD0;go_wp2_with(at_builtin;refine wpList_append_lies _ rfl (.tmp 33) (.tmp 36) 51 rfl w.heap.size 57 i1 _ 1 24 Tryz.underlying51 hi1 hy0 hy1 hy2 rfl (by decide) _ rs.length _ rfl hoA ⟨w5.heap.size,0,none⟩ 1 1 [.slice (some ⟨g5,0,none⟩) 6 cp5] rfl rfl (World.news_of_block (t:=57) (fr:=(0,0)) (heap_alloc_new w5 _)) (by simp[Value.oneCell']) (by omega) (by unfold maxLen;omega) (by omega) (by simp;omega) (w5.heap.size+1) (by simp) ?_);intro g' cp' w9 ow gr hat _;have S9:LrS w w9 R ad cap l j1 (.slice (some ⟨g',0,none⟩) (rs.length+1) cp') (rs++[r1]):=S4.push hR5 hg5 o5 HO5.out.2 (fun vs' cb' gb' h'=>by rw[RsD.same h' ho4];exact ow) gr (by simpa using hat);have HO6:Hid (∀r∈rs++[r1],qQ r):=fun r hr=>by
      simp only[bj,aV]at hr;rcases hr with hr|rfl
      ·exact hok.out r hr
      exact HO5.out
     have HL6:Hid (0<(rs++[r1]).length∧(rs++[r1]).length<=i+1):=by have:=hol.out;unfold Hid;simp;omega
     clear ow gr S4 S5 ho4 ho5 hoA o5 hR5 hg5 hat hok hol HO5;go_wp2;go_roundw
     case rel=>exact⟨_,i+1,j1,_,rfl,by go_num,by omega,S9,HO6,HL6,by unfold Hid;rw[hf2];exact HG4.out⟩
     case measure=>simp[intOf];omega
    have hyb:=HB.out (jj+1);have HN3:Hid (∀W,Rd W R ad cap l (jj+1)->Calls Tryz.prog 18 #[.pointer (some ⟨R,0,none⟩)] W fun e w'=>e=.returned (.int .i64 (l.getD (jj+1) 0))∧Rd w' R ad cap l (jj+2)∧W.grownBy w' (some R)):=fun W h=>HN.out (jj+1) W h
    have eN:mq l F rs jj=(oE l F (rs.getD (l.getD (jj+1) 0%(rs.length:Int)).toNat []) (jj+2),po l F (rs.getD (l.getD (jj+1) 0%(rs.length:Int)).toNat []) (jj+2)):=by unfold mq;rw[HX.out,if_neg hA]
    generalize l.getD (jj+1) 0=y at*;have hp0:=hol.out.1;have hp1:¬(rs.length:Int)=0:=by omega
    obtain⟨q,hq⟩:∃q:Nat,(q:Int)=y%(rs.length:Int):=⟨(y%(rs.length:Int)).toNat,by have:=cf y hp1;omega⟩;have hql:q<rs.length:=by have:=bQ y (show(0:Int)<rs.length by omega);omega
    have hqn:(y%(rs.length:Int)).toNat=q:=by rw[<-hq];simp
    have hqa:(0:Int)<=y%(rs.length:Int):=by rw[<-hq];omega
    have hqb:y%(rs.length:Int)<(rs.length:Int):=by rw[<-hq];omega
    rw[hqn]at eN;have hRq:qQ (rs.getD q []):=by
     rw[aa,ag hql];exact hok.out _ (aI hql)
    have HRq:Hid _:=hRq;have HG3:=HG2.out;have HO4:=HO3'.out;rw[eN]at HG3 HO4;simp only at HG3 HO4;obtain⟨vs,cb,gb,ho4⟩:=S4.own;obtain⟨cpv,ev,hcv⟩:=ho4.form;subst ev;have HD0:Hid (∀b ca W,Rd W R ad cap l (jj+2)->KsD W b (rs.getD q [])->b<W.heap.size->Calls Tryz.prog 117 #[.agg #[.slice (some ⟨b,0,none⟩) 6 ca],.pointer (some ⟨R,0,none⟩)] W fun e w'=>∃g cp,e=.returned (.agg #[.slice (some ⟨g,0,none⟩) 6 cp])∧fO w' W.heap.size (.slice (some ⟨g,0,none⟩) 6 cp) (oE l F (rs.getD q []) (jj+2))∧Rd w' R ad cap l (po l F (rs.getD q []) (jj+2))∧W.grownBy w' (some R)):=fun b ca W h1 h2 h3=>HNr.out b ca _ (jj+2) W HRq.out h1 h2 h3
    have HAt:Hid (∀W,RsD W w.heap.size (.slice (some ⟨gb,0,none⟩) rs.length cpv) rs vs cb gb->∃cp,vs q=.slice (some ⟨cb q,0,none⟩) 6 cp∧6<=cp∧W.cell? ⟨gb,q,none⟩=some (.slice (some ⟨cb q,0,none⟩) 6 cp)∧KsD W (cb q) (rs.getD q [])∧cb q<W.heap.size∧W.frozen? ⟨gb,q,none⟩=false):=fun W h=>h.at hql HRq.out.2
    generalize oE l F (rs.getD q []) (jj+2)=r1 at*;generalize po l F (rs.getD q []) (jj+2)=j1 at*;have HG4:Hid _:=HG3;have HO5:Hid _:=HO4;clear HG3 HO4 eN HG2 HO3' HX HN HLf HDr HNr HO1 HO2 hRq;go_wp2_with fail;refine(HN3.out _ S4.rd).mono ?_;rintro _ w5⟨rfl,hR5,hg5⟩;have S5:=S4.draw hR5 hg5;have ho5:=ho4.kept hg5 S4.lt;obtain⟨cpq,evq,hcpq,cq,kq,lq,_⟩:=HAt.out _ ho5;clear ho4 S4 hR5 hg5 HN3;have S6:=S5.alloc (.cells #[.slice (some ⟨cb q,0,none⟩) 6 cpq] 57);have a6:w5.grownBy (w5.alloc (.cells #[.slice (some ⟨cb q,0,none⟩) 6 cpq] 57)) (some R):=fu (ah _ _) _;have ho6:=ho5.kept a6 S5.lt;obtain⟨_,_,_,_,kq6,lq6,_⟩:=HAt.out _ ho6;clear a6 kq lq;go_wp2_with fail;refine(HD0.out _ _ _ S6.rd kq6 lq6).mono ?_;clear cq ho5 S5 HAt kq6 lq6 HD0;generalize w5.alloc (.cells #[.slice (some ⟨cb q,0,none⟩) 6 cpq] 57)=W6 at*;rintro _ w7⟨g5,cp5,rfl,o5,hR7,hg7⟩;have S7:=S6.draw hR7 hg7;have ho7:=(ho6.kept hg7 S6.lt).row;have hb5:w.heap.size<=w7.heap.size:=S7.gr.size;have hol':rs.length<=9:=by have:=hol.out;omega
    have hoA:World.ownsRow (w7.alloc (.cells #[.slice (some ⟨g5,0,none⟩) 6 cp5] 57)) w.heap.size 57 1 (.slice (some ⟨gb,0,none⟩) rs.length cpv) rs.length ((List.range rs.length).map vs):=ho7.alloc _;go_wp2_with(at_builtin;refine wpList_append_lies _ rfl (.tmp 46) (.tmp 50) 51 rfl w.heap.size 57 i1 _ 1 24 Tryz.underlying51 hi1 hy0 hy1 hy2 rfl (by decide) _ rs.length _ rfl hoA ⟨w7.heap.size,0,none⟩ 1 1 [.slice (some ⟨g5,0,none⟩) 6 cp5] rfl rfl (World.news_of_block (t:=57) (fr:=(0,0)) (heap_alloc_new w7 _)) (by simp[Value.oneCell']) (by omega) (by unfold maxLen;omega) (by omega) (by simp;omega) (w7.heap.size+1) (by simp) ?_);intro g' cp' w9 ow gr hat _;have S9:LrS w w9 R ad cap l j1 (.slice (some ⟨g',0,none⟩) (rs.length+1) cp') (rs++[r1]):=S6.push hR7 hg7 o5 HO5.out.2 (fun vs' cb' gb' h'=>by rw[RsD.same h' ho6];exact ow) gr (by simpa using hat);have HO6:Hid (∀r∈rs++[r1],qQ r):=fun r hr=>by
     simp only[bj,aV]at hr;rcases hr with hr|rfl
     ·exact hok.out r hr
     exact HO5.out
    have HL6:Hid (0<(rs++[r1]).length∧(rs++[r1]).length<=i+1):=by have:=hol.out;unfold Hid;simp;omega
    clear ow gr S6 S7 ho6 ho7 hoA o5 hR7 hg7 hat hok hol HO5 hqn hqa hqb;go_wp2;go_roundw
    case rel=>exact⟨_,i+1,j1,_,rfl,by go_num,by omega,S9,HO6,HL6,by unfold Hid;rw[hf2];exact HG4.out⟩
    case measure=>simp[intOf];omega
   have HG2:Hid ((rs,jj)=RES):=by have:=HG1.out;rw[if_neg hin]at this;exact this
   have hle:=hmin.2 hin;clear HG1 hmin hin HN HDr HNr HO1 HO2 HLf;subst hle;go_wp2_with fail;refine(HLf2.out _ S.rd).mono ?_;rintro _ w3⟨rfl,hR3,hg3⟩;have S3:=S.draw hR3 hg3;clear hR3 hg3 S HLf2;go_wp2;go_ret;rw[<-HG2.out];exact⟨_,rfl,S3⟩
  have hin:i=N+1:=by omega
  have HG2:Hid ((rs,jj)=RES):=by have:=HG.out;rw[show N+1-i=0 by omega]at this;exact this
  have hlt':¬(i:Int)<1+(N:Int):=by omega
  clear HG HN HDr HNr HO1 HO2 HLf;go_wp2;go_ret;rw[<-HG2.out];exact⟨_,rfl,S⟩
end Go.Proofs.YtdihdapmphkhpaaGreat
namespace Go.Proofs.YtdihdapmphkhpaaGreat
variable{i:Nat}{r:List K}{α:Type}
structure C where
 et:Int
 nr:Int
 args:List Int
def gA(v:Int):Prop:=0<=v∧v<=18446744073709551615
def C.ok(x:C):Prop:=0<=x.et∧x.et<=4294967295∧0<=x.nr∧x.nr<=4294967295∧∀v∈x.args,gA v
def C.zero:C:=⟨0,0,[]⟩
theorem C.lB:C.zero.ok:=⟨by decide,by decide,by decide,by decide,fun v h=>by simp[C.zero]at h⟩
theorem lS{l m:List Int}(h:eV l)(h':eV m):eV (l++m):=by
 intro x hx;rcases bj.1 hx with hx|hx
 ·exact h x hx
 exact h' x hx
def gL(l:List Int):List Int:=l.flatMap fun v=>eD v 8
theorem Au{l:List Int}{k:Nat}(h:k<l.length):gL (l.take (k+1))=gL (l.take k)++eD (l.getD k 0) 8:=by
 unfold gL;rw[List.take_succ_eq_append_getElem h,bY];simp[ag h]
theorem qP(l:List Int):(gL l).length=8*l.length:=by
 induction l with
 |nil=>rfl
 |cons x l ih=>simp only[gL,List.flatMap_cons,aj,aq,iw]at*;omega
def mw(c:C)(ip:Int):List Int:=if c.args.length=6 then eD c.nr 4++eD c.et 4++eD ip 8++gL c.args else []
theorem vM{v:Int}(h:0<=v)(h1:v<=4294967295):eD v 4=[v%256,v/256%256,v/65536%256,v/16777216]:=by
 simp only[eD];rw[show v/256/256%256=v/65536%256 by omega,show v/256/256/256%256=v/16777216 by omega]
theorem uP{v:Int}(h:0<=v)(h1:v<=18446744073709551615):eD v 8=eD (v%4294967296) 4++eD (v/4294967296) 4:=by
 simp only[eD,aO,bp,List.cons.injEq,and_true];refine⟨by omega,by omega,by omega,by omega,by omega,by omega,by omega,by omega⟩
structure E where
 et:Int
 nr:Int
 rules:List (List K)
def E.zero:E:=⟨0,0,[]⟩
def okR(r:List K):Prop:=∀c∈r,c.ok
def uC(l:List (List K)):Prop:=∀r∈l,okR r
def E.ok(e:E):Prop:=(0<=e.et∧e.et<=4294967295)∧(0<=e.nr∧e.nr<=4294967295)∧uC e.rules
def okP(p:List E):Prop:=∀e∈p,e.ok
theorem E.lB:E.zero.ok:=⟨⟨by decide,by decide⟩,⟨by decide,by decide⟩,fun r h=>by simp[E.zero]at h⟩
theorem ti(h:okR r)(i:Nat):(r.getD i K.zero).ok:=by
 by_cases hi:i<r.length
 ·rw[aa,ag hi];exact h _ (aI hi)
 rw[aa,bw (by omega)];exact K.lB
theorem yd{l:List (List K)}(h:uC l)(i:Nat):okR (l.getD i []):=by
 by_cases hi:i<l.length
 ·rw[aa,ag hi];exact h _ (aI hi)
 rw[aa,bw (by omega)];intro c hc;simp at hc
theorem mQ{p:List E}(h:okP p)(i:Nat):(p.getD i E.zero).ok:=by
 by_cases hi:i<p.length
 ·rw[aa,ag hi];exact h _ (aI hi)
 rw[aa,bw (by omega)];exact E.lB
def eG(r:List K):Bool:=r.length==6&&r.all eI
def gP(e:E):Bool:=decide (1<=e.rules.length)&&decide (e.rules.length<=200)&&e.rules.all eG
def jG(a b:E):Bool:=decide (a.et<b.et)||(a.et==b.et&&decide (a.nr<b.nr))
def fS(p:List E)(i:Nat):Bool:=(i==0||jG (p.getD (i-1) E.zero) (p.getD i E.zero))&&gP (p.getD i E.zero)
def fp:List E->Nat
 |[]=>0
 |e::p=>e.rules.length+fp p
def eW(p:List E):Bool:=(List.range p.length).all (fS p)&&decide (fp p<=1000)
theorem kS(d:α)(f:α->Bool)(l:List α):l.all f=true↔∀i,i<l.length->f (l.getD i d)=true:=by
 rw[bC];constructor
 ·intro h i hi;rw[aa,ag hi];exact h _ (aI hi)
 intro h x hx;obtain⟨i,hi,rfl⟩:=bH hx;have:=h i hi;rw[aa,ag hi]at this;exact this
theorem vC{d:α}{f:α->Bool}{l:List α}(hi:i<l.length)(h:f (l.getD i d)=false):l.all f=false:=by
 cases hc:l.all f with
 |false=>rfl
 |true=>rw[(kS d f l).1 hc i hi]at h;exact absurd h (by decide)
theorem oC(d:α)(f:α->Bool)(l:List α):l.any f=true↔∃i,i<l.length∧f (l.getD i d)=true:=by
 rw[List.any_eq_true];constructor
 ·rintro⟨x,hx,h⟩;obtain⟨i,hi,rfl⟩:=bH hx;exact⟨i,hi,by rw[aa,ag hi];exact h⟩
 rintro⟨i,hi,h⟩;rw[aa,ag hi]at h;exact⟨_,aI hi,h⟩
theorem G4{d:α}{f:α->Bool}{l:List α}(h:∀i,i<l.length->f (l.getD i d)=false):l.any f=false:=by
 cases hc:l.any f with
 |false=>rfl
 |true=>
  obtain⟨i,hi,h1⟩:=(oC d f l).1 hc;rw[h i hi]at h1;exact absurd h1 (by decide)
theorem sQ{p:List E}(hi:i<p.length)(h:fS p i=false):eW p=false:=by
 have:(List.range p.length).all (fS p)=false:=by
  cases hc:(List.range p.length).all (fS p)with
  |false=>rfl
  |true=>
   rw[bC]at hc;rw[hc i (bD.2 hi)]at h;exact absurd h (by decide)
 rw[eW,this,Bool.false_and]
theorem rm{p:List E}(h:∀i,i<p.length->fS p i=true):eW p=decide (fp p<=1000):=by
 have:(List.range p.length).all (fS p)=true:=by
  rw[bC];intro i hi;exact h i (bD.1 hi)
 rw[eW,this,Bool.true_and]
theorem mA{p:List E}(h:eW p=true)(hi:i<p.length):fS p i=true:=by
 rw[eW,aL,bC]at h;exact h.1 i (bD.2 hi)
theorem wz(p q:List E):fp (p++q)=fp p+fp q:=by
 induction p with
 |nil=>simp[fp]
 |cons e p ih=>simp only[aO,fp,ih];omega
theorem mH{p:List E}{k:Nat}(h:k<p.length):fp (p.take (k+1))=fp (p.take k)+(p.getD k E.zero).rules.length:=by
 have e:p.take (k+1)=p.take k++[p.getD k E.zero]:=by
  rw[cK,ag h,aa,ag h];rfl
 rw[e,wz];simp[fp]
theorem uY{a b c:E}(h:jG a b=true)(h':jG b c=true):jG a c=true:=by
 simp only[jG,dX,aL,decide_eq_true_eq,beq_iff_eq]at*;omega
theorem mW{p:List E}(h:eW p=true):∀{i j:Nat},i<j->j<p.length->jG (p.getD i E.zero) (p.getD j E.zero)=true:=by
 intro i j hij hj;obtain⟨m,rfl⟩:∃m,j=i+1+m:=⟨j-(i+1),by omega⟩;clear hij;have step:∀k,k+1<p.length->jG (p.getD k E.zero) (p.getD (k+1) E.zero)=true:=fun k hk=>by
  have:=mA h hk;rw[fS,aL,dX]at this;rcases this.1 with h1|h1
  ·simp at h1
  exact h1
 induction m with
 |zero=>exact step i hj
 |succ m ih=>
  exact uY (ih (by omega)) (step (i+1+m) hj)
def eO(r:List K)(args:List Int):Bool:=(List.range 6).all fun i=>eX (r.getD i K.zero) (args.getD i 0).toNat
def meets(e:E)(c:C):Bool:=e.et==c.et&&e.nr==c.nr
def kP(p:List E)(c:C):Bool:=eW p&&(c.args.length==6)&&p.any fun e=>meets e c&&e.rules.any fun r=>eO r c.args
theorem yb{args:List Int}(hi:i<6)(h:eX (r.getD i K.zero) (args.getD i 0).toNat=false):eO r args=false:=by
 cases hc:eO r args with
 |false=>rfl
 |true=>
  rw[eO,bC]at hc;rw[hc i (bD.2 hi)]at h;exact absurd h (by decide)
theorem vX{args:List Int}(h:∀i,i<6->eX (r.getD i K.zero) (args.getD i 0).toNat=true):eO r args=true:=by
 rw[eO,bC];intro i hi;exact h i (bD.1 hi)
end Go.Proofs.YtdihdapmphkhpaaGreat
namespace Go.Proofs.YtdihdapmphkhpaaGreat
open Go.RowKit Go.Deep
variable{B:Nat}{hi lo:Nat->Nat}{l:List E}{rv:Nat->Value}{v:Value}{w w1:World}
theorem pt:(Tryz.prog.info? 53).map (fun i=>(i.zero,i.size,i.bytes))=some (some (.agg #[.int .u32 0,.int .u32 0,.slice none 0 0]),3,32):=by kernel_rfl
def mI(e:E)(v:Value):List Value:=[.int .u32 e.et,.int .u32 e.nr,v]
def jB(l:List E)(rv:Nat->Value):List Value:=(List.range l.length).flatMap fun i=>mI (l.getD i E.zero) (rv i)
theorem AL(l:List E)(e:E)(rv:Nat->Value)(v:Value):jB (l++[e]) (fun i=>if i=l.length then v else rv i)=jB l rv++mI e v:=by
 unfold jB;rw[aj,bG,cC,bY];congr 1
 ·rw[List.flatMap_def,List.flatMap_def];congr 1;apply dD;intro i hi;have hi':=bD.1 hi;show mI ((l++[e]).getD i E.zero) (if i=l.length then v else rv i)=mI (l.getD i E.zero) (rv i);rw[if_neg (by omega)];simp[aa,aD hi']
 simp[aa]
def NotE(w:World)(k:Nat):Prop:=∀cur,w.heap[k]? ≠some (.cells cur 53 (0,0))
def RsJ(w:World)(lo hi:Nat)(v:Value)(l:List (List K)):Prop:=∃vs cb gb,RsD w lo v l vs cb gb∧gb<hi∧∀i,i<l.length->cb i<hi
theorem rM{t s n q:Nat}{xs:List Value}(h:w.ownsRow B t s v n xs)(hq:v.ownBlock=some q)(ht:t≠53):NotE w q:=fun cur hc=>by
 obtain⟨_,h|⟨g,cap,cu,e,_,hg,_⟩⟩:=h
 ·rw[h.1]at hq;cases hq
 rw[e]at hq;simp[Value.ownBlock]at hq;subst hq;rw[hg]at hc;simp only[bz,Obj.cells.injEq]at hc;exact ht hc.2.1
theorem RsJ.far{lo hi:Nat}{l:List (List K)}(h:RsJ w lo hi v l)(hb:∀k,lo<=k->k<hi->NotE w k->w1.heap[k]? =w.heap[k]?):RsJ w1 lo hi v l:=by
 obtain⟨vs,cb,gb,h1,h2,h3⟩:=h;refine⟨vs,cb,gb,⟨lX h1.row (fun q hq=> ?_),h1.ob,fun i hi=>⟨lX (h1.own i hi).1 (fun q hq=> ?_),(h1.own i hi).2⟩,h1.ne,h1.inc⟩,h2,h3⟩
 ·have hn:=rM h1.row hq (by decide);rw[h1.ob]at hq;cases hq;exact hb _ (h1.row.lt _ h1.ob).1 h2 hn
 have hn:=rM (h1.own i hi).1 hq (by decide);rw[(h1.own i hi).2]at hq;cases hq;exact hb _ ((h1.own i hi).1.lt _ (h1.own i hi).2).1 (h3 i hi) hn
structure PsD(w:World)(B:Nat)(v:Value)(l:List E)(rv:Nat->Value)(lo hi:Nat->Nat):Prop where
 row:w.ownsRow B 53 3 v l.length (jB l rv)
 own:∀i,i<l.length->RsJ w (lo i) (hi i) (rv i) (l.getD i E.zero).rules
 lt:∀i,i<l.length->B<=lo i∧hi i<=w.heap.size
 inc:∀i j,i<j->j<l.length->hi i<=lo j
theorem PsD.far{w w1:World}{B:Nat}{v:Value}{l:List E}{rv:Nat->Value}{lo hi:Nat->Nat}(h:PsD w B v l rv lo hi)(hs:w.heap.size<=w1.heap.size)(hb:∀k,B<=k->k<w.heap.size->w1.heap[k]? =w.heap[k]?):PsD w1 B v l rv lo hi:=
 ⟨lX h.row (fun q hq=>hb q (h.row.lt q hq).1 (h.row.lt q hq).2),fun i hi'=>(h.own i hi').far (fun k h1 h2 _=>hb k (by have:=(h.lt i hi').1;omega) (by have:=(h.lt i hi').2;omega)),fun i hi'=>⟨(h.lt i hi').1,aW (h.lt i hi').2 hs⟩,h.inc⟩
theorem PsD.kept{R:Nat}(h:PsD w B v l rv lo hi)(hg:w.grownBy w1 (some R))(hR:R<B):PsD w1 B v l rv lo hi:=
 h.far hg.size fun k hk hs=>hg.block k hs (by simp;omega)
theorem PsD.nil(w:World)(B:Nat):PsD w B (.slice none 0 0) [] (fun _=>undef) (fun _=>0) (fun _=>0):=⟨aZ _ _ _ _,fun i hi=>by simp at hi,fun i hi=>by simp at hi,fun i j _ hj=>by simp at hj⟩
theorem PsD.next{w9:World}{R:Nat}{v':Value}{e:E}{gg cap:Nat}{o:Obj}(h:PsD w B v l rv lo hi)(hBw:B<=w.heap.size)(h9:w.grownBy w9 (some R))(hR:R<B)(hv:RsJ w9 w.heap.size w9.heap.size v' e.rules)
 (hown:w1.ownsRow B 53 3 (.slice (some ⟨gg,0,none⟩) (l.length+1) cap) (l.length+1) (jB l rv++mI e v'))(hg:(w9.alloc o).grownBy w1 v.ownBlock):
 PsD w1 B (.slice (some ⟨gg,0,none⟩) (l.length+1) cap) (l++[e]) (fun i=>if i=l.length then v' else rv i) (fun i=>if i=l.length then w.heap.size else lo i) (fun i=>if i=l.length then w9.heap.size else hi i):=by
 have hsz:(w9.alloc o).heap.size=w9.heap.size+1:=by simp
 have hb2:w9.grownBy (w9.alloc o) none:=fu (ah _ _) _
 have hws:=h9.size
 have hg1:=hg.size
 have len1:(l++[e]).length=l.length+1:=by simp
 have hv9:w9.ownsRow B 53 3 v l.length (jB l rv):=aA h.row h9 (by
  cases hv:v.ownBlock with
  |none=>exact .inl rfl
  |some q=>exact .inr (by have:=(h.row.lt q hv).1;simp;omega))
 have blk:∀k,k<w9.heap.size->NotE w9 k->w1.heap[k]? =w9.heap[k]? :=fun k hk hne=>(hg.block k (by omega) (fun e=>by
  obtain⟨_,q|⟨g,cap,cu,e',_,hg',_⟩⟩:=hv9
  ·rw[q.1]at e;cases e
  ·rw[e']at e;simp[Value.ownBlock]at e;subst e
   exact hne _ hg')).trans (hb2.block k hk (by simp))
 refine⟨by rw[len1,AL];exact hown,fun i hi'=> ?_,fun i hi'=> ?_,fun i j hij hj=> ?_⟩
 ·rw[len1]at hi'
  by_cases e':i=l.length
  ·subst e'
   simp only[if_true]
   have e2:(l++[e]).getD l.length E.zero=e:=by simp[aa]
   rw[e2]
   exact hv.far (fun k h1 h2 h3=>blk k h2 h3)
  ·have hi'':i<l.length:=by omega
   simp only[if_neg e']
   have e2:(l++[e]).getD i E.zero=l.getD i E.zero:=by simp[aa,aD hi'']
   rw[e2]
   have l1:=h.lt i hi''
   have f9:RsJ w9 (lo i) (hi i) (rv i) (l.getD i E.zero).rules:=(h.own i hi'').far (fun k h1 h2 _=>h9.block k (by omega) (by simp;omega))
   exact f9.far (fun k h1 h2 h3=>blk k (by omega) h3)
 ·rw[len1]at hi'
  by_cases e':i=l.length
  ·simp only[if_pos e'];omega
  ·simp only[if_neg e']
   have:=h.lt i (by omega);omega
 ·rw[len1]at hj
  by_cases e':j=l.length
  ·simp only[if_pos e']
   rw[if_neg (by omega)]
   exact(h.lt i (by omega)).2
  ·simp only[if_neg e']
   rw[if_neg (by omega)]
   exact h.inc i j hij (by omega)
theorem PsD.form(h:PsD w B v l rv lo hi):∃a cap,v=.slice a l.length cap∧l.length<=cap∧(l≠[]->∃g,a=some ⟨g,0,none⟩∧B<=g∧g<w.heap.size):=by
 have hr:=h.row;rcases h.row.2 with⟨k1,k2⟩|⟨g,cap',cur,k1,k5,_,k3,_⟩
 ·exact⟨none,0,by rw[k1,k2],by omega,fun hne=>absurd (aM k2) hne⟩
 exact⟨_,cap',k1,k3,fun _=>⟨g,rfl,k5,(hr.lt g (by rw[k1];rfl)).2⟩⟩
def iR(i:Nat)(et k:Int):Int:=if k%5=0∨i=0 then et+(k%3+1)else et
def nrP(i:Nat)(nr k:Int):Int:=if k>250 then 4294967295 else if k%5=0∨i=0 then k/3%3 else nr+(1+k/5%4)
def goP(l:List Int)(F:Nat->K×Nat):Nat->Nat->Int->Int->List E->Nat->List E×Nat
 |0,_,_,_,P,j=>(P,j)
 |f+1,i,et,nr,P,j=>
  if l.getD j 0>250 then(P++[⟨iR i et (l.getD j 0),nrP i nr (l.getD j 0),(gH l F (j+1)).1⟩],(gH l F (j+1)).2)
  else goP l F f (i+1) (iR i et (l.getD j 0)) (nrP i nr (l.getD j 0)) (P++[⟨iR i et (l.getD j 0),nrP i nr (l.getD j 0),(gH l F (j+1)).1⟩]) (gH l F (j+1)).2
def iV(l:List Int)(F:Nat->K×Nat)(j:Nat):List E×Nat:=goP l F (l.getD j 0%5).toNat 0 0 0 [] (j+1)
def OkE(e:E):Prop:=((0<=e.et∧e.et<=4294967295)∧(0<=e.nr∧e.nr<=4294967295))∧(∀r∈e.rules,qQ r)∧0<e.rules.length∧e.rules.length<=9
theorem AE{i:Nat}{et k:Int}(hk:0<=k∧k<=255)(h:0<=et∧et<=3*i):0<=iR i et k∧iR i et k<=3*(i+1:Nat):=by
 unfold iR;split<;>omega
theorem Ci{i:Nat}{nr k:Int}(hk:0<=k∧k<=250)(h:0<=nr∧nr<=2+4*i):0<=nrP i nr k∧nrP i nr k<=2+4*(i+1:Nat):=by
 unfold nrP;rw[if_neg (by omega)];split<;>omega
theorem goP_ok{l:List Int}(hl:eV l){F:Nat->K×Nat}(hF:KdF l F)(f i:Nat)(et nr:Int)(P:List E)(j:Nat)(hi:i+f<=4)(ha:0<=et∧et<=3*i)(hn:0<=nr∧nr<=2+4*i)(h:∀e∈P,OkE e)(hlen:P.length<=i):(∀e∈(goP l F f i et nr P j).1,OkE e)∧(goP l F f i et nr P j).1.length<=i+f:=by
 induction f generalizing i et nr P j with
 |zero=>exact⟨h,hlen⟩
 |succ f ih=>
  have hb:=ez hl j;have h1:=AE (i:=i) hb ha;have hr:=Ev hl hF (j+1);have hsn:∀n':Int,0<=n'∧n'<=4294967295->∀e∈P++[(⟨iR i et (l.getD j 0),n',(gH l F (j+1)).1⟩:E)],OkE e:=fun n' hn' e he=>by
   simp only[bj,aV]at he;rcases he with he|rfl
   ·exact h e he
   exact⟨⟨by show 0<=iR i et _∧iR i et _<=_;omega,hn'⟩,hr⟩
  unfold goP;split
  ·rename_i h250;have e:nrP i nr (l.getD j 0)=4294967295:=by unfold nrP;rw[if_pos h250]
   rw[e];refine⟨hsn _ (by omega),?_⟩;show(P++_).length<=_;rw[aj,bG];omega
  have h2:=Ci (i:=i) (k:=l.getD j 0) ⟨hb.1,by omega⟩ hn;have:=ih (i+1) _ _ _ (gH l F (j+1)).2 (by omega) h1 h2 (hsn _ ⟨h2.1,by omega⟩) (by rw[aj,bG];omega);exact⟨this.1,by have:=this.2;omega⟩
theorem CL{l:List Int}(hl:eV l){F:Nat->K×Nat}(hF:KdF l F)(j:Nat):(∀e∈(iV l F j).1,OkE e)∧(iV l F j).1.length<=4:=by
 have hb:=ez hl j;have:=goP_ok hl hF (l.getD j 0%5).toNat 0 0 0 [] (j+1) (by omega) (by omega) (by omega) (by simp) (by simp);exact⟨this.1,by have:=this.2;unfold iV;omega⟩
end Go.Proofs.YtdihdapmphkhpaaGreat
namespace Go.Proofs.YtdihdapmphkhpaaGreat
open Go.RowKit
variable{B D g j:Nat}{l:List Int}{v x y z:Value}{w:World}
theorem qt{wr:World}(h:w.grownBy wr (some D))(j:Nat)(v:Value):w.grownBy (wr.setCell ⟨D,j,none⟩ v) (some D):=
 ⟨h.os,h.tape,h.output,by have:=h.size;simpa[World.setCell]using this,fun k hk hne=>(aE wr ⟨D,j,none⟩ v k (fun e=>hne (by rw[e]))).trans (h.block k hk hne)⟩
def Marks(w:World)(D N:Nat)(k:Int)(j:Nat):Prop:=∃f,w.rowIs D 5 N f∧∀i,i<j->f i=.int .u8 (IntKind.u8.wrap (k+i))
theorem Marks.own{N:Nat}{k:Int}(h:Marks w D N k j)(i:Nat)(hi:i<N):∃v,w.cell? ⟨D,i,none⟩=some v∧w.frozen? ⟨D,i,none⟩=false:=by
 obtain⟨f,hr,_⟩:=h;exact⟨_,hr.cell hi,hr.frozen i⟩
theorem DU(b o cap:Nat)(x0 x1 x2 x3:Int)(w:World)(c0:w.cell? ⟨b,o,none⟩=some (.int .u8 x0))(c1:w.cell? ⟨b,o+1,none⟩=some (.int .u8 x1))(c2:w.cell? ⟨b,o+2,none⟩=some (.int .u8 x2))(c3:w.cell? ⟨b,o+3,none⟩=some (.int .u8 x3))
 (h0:0<=x0∧x0<=255)(h1:0<=x1∧x1<=255)(h2:0<=x2∧x2<=255)(h3:0<=x3∧x3<=255):
 Calls Tryz.prog 136 #[.slice (some ⟨b,o,none⟩) 4 cap] w fun e w'=>e=.returned (.int .u32 (x0+256*x1+65536*x2+16777216*x3))∧∃m,w'=w.drewN m:=by
 have HW:=EL x0 x1 x2 x3 h0 h1 h2 h3
 have HW':Hid _:=HW
 clear HW
 go_enter Tryz.func136,Tryz.ntmps136
 go_wp2_with fail
 go_quiet(fail)
 go_wp2
 go_ret
 exact⟨fL HW'.out,_,rfl⟩
def Ay(w:World)(D n:Nat)(l:List Int)(k:Nat):Prop:=∃f,w.rowIs D 5 n f∧∀j,j<k->f j=.int .u8 (l.getD j 0)
theorem Ay.own{n k:Nat}(h:Ay w D n l k)(j:Nat)(hj:j<n):∃v,w.cell? ⟨D,j,none⟩=some v∧w.frozen? ⟨D,j,none⟩=false:=by
 obtain⟨f,hr,_⟩:=h;exact⟨_,hr.cell hj,hr.frozen j⟩
def UAt(w:World)(b o:Nat)(l:List Int):Prop:=∀i,i<l.length->w.cell? ⟨b,o+i,none⟩=some (.int .u64 (l.getD i 0))
def kV(w:World)(a:Option Addr)(l:List Int):Prop:=l=[]∨∃b o,a=some ⟨b,o,none⟩∧b<w.heap.size∧UAt w b o l
theorem kV.below{w':World}{a:Option Addr}(h:kV w a l)(hb:Below w.heap.size w w'):kV w' a l:=by
 rcases h with h|⟨b,o,ha,hlt,hc⟩
 ·exact .inl h
 exact .inr ⟨b,o,ha,an hlt hb.size,fun i hi=>(hb.cell (p:=⟨b,_,none⟩) hlt).trans (hc i hi)⟩
theorem info61:(Tryz.prog.info? 43).map (fun i=>(i.zero,i.size,i.bytes))=some (some (.int .u64 0),1,8):=by kernel_rfl
abbrev iq(w:World)(base:Nat)(v:Value)(l:List Int):Prop:=w.ownsRow base 43 1 v l.length (l.map (Value.int .u64))
theorem wP{base:Nat}(h:iq w base v l):∃a cap,v=.slice a l.length cap∧kV w a l:=by
 obtain⟨_,h|⟨g,cap,cur,rfl,hb,hg,hn,hm,hs,hx⟩⟩:=h
 ·obtain⟨rfl,h0⟩:=h;have:l=[]:=aM h0;subst this;exact⟨none,0,rfl,.inl rfl⟩
 refine⟨_,_,rfl,.inr ⟨g,0,rfl,(bf.1 hg).1,fun i hi=> ?_⟩⟩;have e:(cur.toList.take (l.length*1))[i]? =some (Value.int .u64 (l.getD i 0)):=by
  rw[hx,cJ,ag hi,aa,ag hi];rfl
 rw[bP,if_pos (by omega)]at e;simp only[World.cell?,hg,aC];simpa using e
theorem vD{w':World}{row:Option Nat}(h:iq w B v l)(hg:w.grownBy w' row)(hne:∀q,v.ownBlock=some q->some q≠row):iq w' B v l:=by
 refine aA h hg ?_
 cases hv:v.ownBlock with
 |none=>exact .inl rfl
 |some q=>exact .inr (hne q hv)
def uf(w:World)(D N:Nat)(k:Int)(j:Nat):Prop:=∃f,w.rowIs D 43 N f∧∀i,i<j->f i=.int .u64 (k+i)
theorem uf.own{N:Nat}{k:Int}(h:uf w D N k j)(i:Nat)(hi:i<N):∃v,w.cell? ⟨D,i,none⟩=some v∧w.frozen? ⟨D,i,none⟩=false:=by
 obtain⟨f,hr,_⟩:=h;exact⟨_,hr.cell hi,hr.frozen i⟩
def zV(w:World)(D n:Nat)(l:List Int)(k:Nat):Prop:=∃f,w.rowIs D 43 n f∧∀j,j<k->f j=.int .u64 (l.getD j 0)
theorem zV.own{n k:Nat}(h:zV w D n l k)(j:Nat)(hj:j<n):∃v,w.cell? ⟨D,j,none⟩=some v∧w.frozen? ⟨D,j,none⟩=false:=by
 obtain⟨f,hr,_⟩:=h;exact⟨_,hr.cell hj,hr.frozen j⟩
theorem pG{w1:World}{base:Nat}(h:iq w base v l)(hb:Below w.heap.size w w1):iq w1 base v l:=
 aA (row:=none) h ⟨hb.os,hb.tape,hb.output,hb.size,fun k hk _=>hb.block k hk⟩ (by cases v.ownBlock<;>simp)
abbrev Fz(c:C)(v:Value):Value:=.agg #[.int .u32 c.et,.int .u32 c.nr,v]
theorem gJ(h:iq w B v l)(hne:∀q,v.ownBlock=some q->q≠D):iq (w.setCell ⟨D,j,none⟩ x) B v l:=
 vD h (qt (ah _ _) j x) (fun q hq e=>hne q hq (by simpa using e))
theorem qT{B':Nat}(h:iq w B v l)(hb:B'<=B):iq w B' v l:=by
 obtain⟨h0,h|⟨g,cap,cur,rfl,hb',hr⟩⟩:=h
 ·exact⟨h0,.inl h⟩
 exact⟨h0,.inr ⟨g,cap,cur,rfl,by omega,hr⟩⟩
structure fY(w:World)(g:Nat)(x y z:Value):Prop where
 lt:g<w.heap.size
 c0:w.cell? ⟨g,0,none⟩=some x
 c1:w.cell? ⟨g,1,none⟩=some y
 c2:w.cell? ⟨g,2,none⟩=some z
 f0:w.frozen? ⟨g,0,none⟩=false
 f1:w.frozen? ⟨g,1,none⟩=false
 f2:w.frozen? ⟨g,2,none⟩=false
theorem fY.ey{w1:World}(h:fY w g x y z)(hb:Below w.heap.size w w1):fY w1 g x y z:=
 ⟨an h.lt hb.size,(hb.cell (p:=⟨g,_,none⟩) h.lt).trans h.c0,(hb.cell (p:=⟨g,_,none⟩) h.lt).trans h.c1,(hb.cell (p:=⟨g,_,none⟩) h.lt).trans h.c2,
  (hb.frozen (p:=⟨g,_,none⟩) h.lt).trans h.f0,(hb.frozen (p:=⟨g,_,none⟩) h.lt).trans h.f1,(hb.frozen (p:=⟨g,_,none⟩) h.lt).trans h.f2⟩
theorem fY.new(w:World)(t:TypeId)(x y z:Value):fY (w.alloc (.cells #[x,y,z] t)) w.heap.size x y z:=
 ⟨by simp,by simp,by simp,by simp,by simp,by simp,by simp⟩
theorem fY.alloc{w:World}{g:Nat}{x y z:Value}(h:fY w g x y z)(o:Obj):fY (w.alloc o) g x y z:=h.ey ((af _ _).alloc (ae _) o)
def CAt(w:World)(b o:Nat)(cs:List C):Prop:=
 ∀i,i<cs.length->w.cell? ⟨b,o+i*3,none⟩=some (.int .u32 (cs.getD i C.zero).et)∧w.cell? ⟨b,o+i*3+1,none⟩=some (.int .u32 (cs.getD i C.zero).nr)∧
  ∃a cap,w.cell? ⟨b,o+i*3+2,none⟩=some (.slice a (cs.getD i C.zero).args.length cap)∧kV w a (cs.getD i C.zero).args
def CSrc(w:World)(a:Option Addr)(cs:List C):Prop:=cs=[]∨∃b o,a=some ⟨b,o,none⟩∧b<w.heap.size∧CAt w b o cs
theorem CAt.below{w w':World}{b o:Nat}{cs:List C}(h:CAt w b o cs)(hlt:b<w.heap.size)(hb:Below w.heap.size w w'):CAt w' b o cs:=by
 intro i hi;obtain⟨c0,c1,a,cap,c2,hs⟩:=h i hi;exact⟨(hb.cell (p:=⟨b,_,none⟩) hlt).trans c0,(hb.cell (p:=⟨b,_,none⟩) hlt).trans c1,a,cap,(hb.cell (p:=⟨b,_,none⟩) hlt).trans c2,hs.below hb⟩
theorem CSrc.below{w w':World}{a:Option Addr}{cs:List C}(h:CSrc w a cs)(hb:Below w.heap.size w w'):CSrc w' a cs:=by
 rcases h with h|⟨b,o,ha,hlt,hc⟩
 ·exact .inl h
 exact .inr ⟨b,o,ha,an hlt hb.size,hc.below hlt hb⟩
theorem fY.set0(h:fY w g x y z)(x':Value):fY (w.setCell ⟨g,0,none⟩ x') g x' y z:=by
 obtain⟨hl,c0,c1,c2,f0,f1,f2⟩:=h;refine⟨by simpa[World.setCell]using hl,?_,?_,?_,?_,?_,?_⟩;all_goals simp[go_sem,c0,c1,c2,f0,f1,f2]
theorem fY.set1(h:fY w g x y z)(x':Value):fY (w.setCell ⟨g,1,none⟩ x') g x x' z:=by
 obtain⟨hl,c0,c1,c2,f0,f1,f2⟩:=h;refine⟨by simpa[World.setCell]using hl,?_,?_,?_,?_,?_,?_⟩;all_goals simp[go_sem,c0,c1,c2,f0,f1,f2]
theorem fY.set2(h:fY w g x y z)(x':Value):fY (w.setCell ⟨g,2,none⟩ x') g x y x':=by
 obtain⟨hl,c0,c1,c2,f0,f1,f2⟩:=h;refine⟨by simpa[World.setCell]using hl,?_,?_,?_,?_,?_,?_⟩;all_goals simp[go_sem,c0,c1,c2,f0,f1,f2]
theorem uA(h:iq w (D+1) v l):iq (w.setCell ⟨D,j,none⟩ x) (D+1) v l:=
 gJ h (fun q hq=>by have:=(h.lt q hq).1;omega)
end Go.Proofs.YtdihdapmphkhpaaGreat
namespace Go.Proofs.YtdihdapmphkhpaaGreat
open Go.RowKit Go.Deep
variable{v:Value}{vs:Nat->Value}
def ptK(v:Nat):K:=⟨1,18446744073709551615,v⟩
def nH(i t:Nat):List K:=[ptK (t*3),ptK (t*3+4294967296),⟨2,t*3,t*3+2⟩,fQ,fQ,ptK i]
def vg(m i:Nat):E:=⟨5,(i:Int)*2,(List.range m).map (nH i)⟩
def j6(n m:Nat):List E:=(List.range n).map (vg m)
theorem Ib(i k:Nat):(List.range (k+1)).map (nH i)=(List.range k).map (nH i)++[nH i k]:=by rw[cC,bL];rfl
theorem Hu(m k:Nat):j6 (k+1) m=j6 k m++[vg m k]:=by unfold j6;rw[cC,bL];rfl
structure RsE(w:World)(B:Nat)(v:Value)(l:List (List K))(vs:Nat->Value):Prop where
 row:w.ownsRow B 57 1 v l.length ((List.range l.length).map vs)
 or:(l=[]∧v=.slice none 0 0)∨∃cb gb,RsD w B v l vs cb gb
theorem RsE.nil(w:World)(B:Nat):RsE w B (.slice none 0 0) [] (fun _=>undef):=⟨aZ _ _ _ _,.inl ⟨rfl,rfl⟩⟩
theorem RsE.next{w w9 w1:World}{B:Nat}{v v':Value}{l:List (List K)}{r:List K}{vs:Nat->Value}{gg cap q:Nat}{o:Obj}(h:RsE w B v l vs)(hB0:0<B)(hBw:B<=w.heap.size)(h9:Below w.heap.size w w9)(hv:fO w9 w.heap.size v' r)(hq:v'.ownBlock=some q)
 (hown:w1.ownsRow B 57 1 (.slice (some ⟨gg,0,none⟩) (l.length+1) cap) (l.length+1) ((List.range l.length).map vs++[v']))(hg:(w9.alloc o).grownBy w1 v.ownBlock)(hat:v.ownBlock=some gg∨gg=(w9.alloc o).heap.size):
 RsE w1 B (.slice (some ⟨gg,0,none⟩) (l.length+1) cap) (l++[r]) (fun i=>if i=l.length then v' else vs i):=by
 rcases h.or with⟨rfl,rfl⟩|⟨cb,gb,h1⟩
 ·have hq1:=hv.lt q hq
  have hb2:w9.grownBy (w9.alloc o) none:=fu (ah _ _) _
  have hsz:(w9.alloc o).heap.size=w9.heap.size+1:=by simp
  have egg:gg=w9.heap.size+1:=by
   rcases hat with e|e
   ·cases e
   ·rw[e,hsz]
  have hr:w1.ownsRow B 57 1 (.slice (some ⟨gg,0,none⟩) 1 cap) 1 [v']:=hown
  have ho:=hU (aA (aA hv hb2 (.inr (by rw[hq];simp))) hg (.inr (by rw[hq];simp[Value.ownBlock]))) hBw
  refine⟨by simpa using hr,.inr ⟨fun _=>q,gg,⟨by simpa using hr,rfl,fun i hi=> ?_,fun i hi=>by omega,fun i j hij hj=>by simp at hj;omega⟩⟩⟩
  simp at hi
  subst hi
  exact⟨by simpa using ho,by simpa using hq⟩
 ·have:=h1.next (R:=0) hBw (fJ h9) hB0 hv hq hown hg hat
  exact⟨this.row,.inr ⟨_,_,this⟩⟩
theorem RsE.form{w:World}{B:Nat}{v:Value}{l:List (List K)}{vs:Nat->Value}(h:RsE w B v l vs):∃a cap,v=.slice a l.length cap∧l.length<=cap:=by
 rcases h.or with⟨rfl,rfl⟩|⟨cb,gb,h1⟩
 ·exact⟨_,_,rfl,ae _⟩
 obtain⟨c,e,hc⟩:=h1.form;exact⟨_,_,e,hc⟩
theorem RsE.below{w w1:World}{B:Nat}{l:List (List K)}(h:RsE w B v l vs)(hB0:0<B)(hb:Below w.heap.size w w1):RsE w1 B v l vs:=by
 rcases h.or with⟨rfl,rfl⟩|⟨cb,gb,h1⟩
 ·exact⟨by simpa using aZ _ _ _ _,.inl ⟨rfl,rfl⟩⟩
 have:=h1.kept (fJ hb (r:=some 0)) hB0;exact⟨this.row,.inr ⟨_,_,this⟩⟩
theorem RsE.far{w w1:World}{B:Nat}{v:Value}{l:List (List K)}{vs:Nat->Value}(h:RsE w B v l vs)(hb:∀k,B<=k->k<w.heap.size->w1.heap[k]? =w.heap[k]?):RsE w1 B v l vs:=by
 rcases h.or with⟨rfl,rfl⟩|⟨cb,gb,h1⟩
 ·exact⟨by simpa using aZ _ _ _ _,.inl ⟨rfl,rfl⟩⟩
 have:=h1.far h1.lts.1 h1.lts.2 hb;exact⟨this.row,.inr ⟨_,_,this⟩⟩
theorem RsE.rsi{w:World}{B B':Nat}{l:List (List K)}(h:RsE w B v l vs)(hn:l≠[])(hB:B'<=B):RsJ w B' w.heap.size v l:=by
 rcases h.or with⟨rfl,rfl⟩|⟨cb,gb,h1⟩
 ·exact absurd rfl hn
 exact⟨vs,cb,gb,⟨hU h1.row hB,h1.ob,fun i hi=>⟨hU (h1.own i hi).1 hB,(h1.own i hi).2⟩,h1.ne,h1.inc⟩,h1.lts.1,h1.lts.2⟩
structure WiS(W0 W:World)(G:Nat)(x:Int)(v:Value)(rs:List (List K)):Prop where
 be:Below G W0 W
 hG:G=W0.heap.size
 box:fY W G (.int .u32 5) (.int .u32 x) v
 own:∃vs,RsE W (G+1) v rs vs
theorem WiS.below{W0 W W1:World}{G:Nat}{x:Int}{v:Value}{rs:List (List K)}(h:WiS W0 W G x v rs)(hb:Below W.heap.size W W1):WiS W0 W1 G x v rs:=by
 obtain⟨vs,ho⟩:=h.own;exact⟨h.be.trans (hb.mono (by have:=h.box.lt;omega)),h.hG,h.box.ey hb,vs,ho.below (by omega) hb⟩
theorem WiS.push{W0 W W9 W1:World}{G gg cap q:Nat}{x:Int}{v':Value}{rs:List (List K)}{r:List K}{o:Obj}(h:WiS W0 W G x v rs)(h9:Below W.heap.size W W9)(hv:fO W9 W.heap.size v' r)(hq:v'.ownBlock=some q)(ho:RsE W (G+1) v rs vs)
 (hown:W1.ownsRow (G+1) 57 1 (.slice (some ⟨gg,0,none⟩) (rs.length+1) cap) (rs.length+1) ((List.range rs.length).map vs++[v']))(hg:(W9.alloc o).grownBy W1 v.ownBlock)(hat:v.ownBlock=some gg∨gg=(W9.alloc o).heap.size):
 WiS W0 (W1.setCell ⟨G,2,none⟩ (.slice (some ⟨gg,0,none⟩) (rs.length+1) cap)) G x (.slice (some ⟨gg,0,none⟩) (rs.length+1) cap) (rs++[r]):=by
 have hlt:=h.box.lt
 have hge:∀k,v.ownBlock=some k->G+1<=k:=fun k hk=>(ho.row.lt k hk).1
 have hx:=ho.next (by omega) (by omega) h9 hv hq hown hg hat
 have b1:Below (G+1) W (W9.alloc o):=(h9.mono (by omega)).alloc (by have:=h9.size;omega) o
 have b2:Below (G+1) W W1:=b1.grown hg (by have:=h9.size;simp;omega) hge
 have bx:fY W1 G (.int .u32 5) (.int .u32 x) v:=by
  have e:∀j,W1.cell? ⟨G,j,none⟩=W.cell? ⟨G,j,none⟩:=fun j=>b2.cell (p:=⟨G,j,none⟩) (by show G<G+1;omega)
  have e':∀j,W1.frozen? ⟨G,j,none⟩=W.frozen? ⟨G,j,none⟩:=fun j=>b2.frozen (p:=⟨G,j,none⟩) (by show G<G+1;omega)
  obtain⟨_,c0,c1,c2,f0,f1,f2⟩:=h.box
  exact⟨an hlt b2.size,(e 0).trans c0,(e 1).trans c1,(e 2).trans c2,(e' 0).trans f0,(e' 1).trans f1,(e' 2).trans f2⟩
 refine⟨(h.be.trans (b2.mono (by omega))).setCell (p:=⟨G,2,none⟩) (ae _) _,h.hG,bx.set2 _,_,hx.far (fun k hk hs=>aE W1 ⟨G,2,none⟩ _ k (fun e=>by simp at e;omega))⟩
end Go.Proofs.YtdihdapmphkhpaaGreat
