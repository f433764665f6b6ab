import Derived.Test.YtddemlfepjkgoaaGreatQ51
set_option linter.all false
set_option maxRecDepth 200000
set_option maxHeartbeats 16000000
namespace Go.Proofs.YtddemlfepjkgoaaGreat
open Go.RowKit Go.Deep
set_option linter.unusedSimpArgs false
def DrlP(cs:List C)(ex sp f:Int)(w:World)(e:Ending)(w':World):Prop:=∃a' cap',e=.returned (.tuple #[.slice a' cs.length cap',.agg #[.int .i64 ex,.int .i64 sp,.int .i64 f]])∧CSrc w' a' cs∧cs.length<=cap'∧Below w.heap.size w w'
structure DlS(w W:World)(R Kb:Nat)(ex sp f:Int):Prop where
 b:Below w.heap.size w W
 x:Box3 W w.heap.size (.int .i64 0) (.int .i64 0) (.int .i64 0)
 k:Box3 W Kb (.int .i64 ex) (.int .i64 sp) (.int .i64 f)
 hR:w.heap.size<R
 hK:R<Kb
section
variable{w W W1:World}{R Kb:Nat}{ex sp f:Int}
theorem DlS.below(h:DlS w W R Kb ex sp f)(hb:Below W.heap.size W W1):DlS w W1 R Kb ex sp f:=⟨below_step hb h.b,h.x.keep hb,h.k.keep hb,h.hR,h.hK⟩
theorem DlS.draw(h:DlS w W R Kb ex sp f)(hg:W.grownBy W1 (some R)):DlS w W1 R Kb ex sp f:=
 have h1:=h.hR
 have h2:=h.hK
 ⟨h.b.grown hg h.b.size (fun q hq=>by simp at hq;omega),h.x.grownX hg (fun e=>by simp at e;omega),h.k.grownX hg (fun e=>by simp at e;omega),h.hR,h.hK⟩
theorem McS.setLow{B D i:Nat}{v x:Value}{os:List (C×Value)}(h:McS W B v os)(hD:D<B):McS (W.setCell ⟨D,i,none⟩ x) B v os:=
 ⟨ownsRow_setCell_other h.row (fun e=>by have:=(h.row.lt D e).1;omega) _,fun p hp=>ownsRow_setCell_other (h.own p hp) (fun e=>by have:=((h.own p hp).lt D e).1;omega) _⟩
theorem DlS.set(h:DlS w W R Kb ex sp f){B D i:Nat}{x:Value}(hD:Kb<D):DlS w (W.setCell ⟨D,i,none⟩ x) R Kb ex sp f:=
 have h1:=h.hR
 have h2:=h.hK
 ⟨h.b.setCell (p:=⟨D,i,none⟩) (by show w.heap.size<=D;omega) _,h.x.setO (by omega),h.k.setO (by omega),h.hR,h.hK⟩
theorem DlS.out(h:DlS w W R Kb ex sp f){B n:Nat}{a':Option Addr}{c':Nat}{os:List (C×Value)}{cs:List C}{ex' sp' f':Int}(hm:McS W B (.slice a' n c') os)(hB:w.heap.size<B)(e:os.map Prod.fst=cs):
 DrlP cs ex' sp' f' w (.returned (.tuple #[.slice a' n c',.agg #[.int .i64 ex',.int .i64 sp',.int .i64 f']])) (((W.setCell ⟨w.heap.size,0,none⟩ (.int .i64 ex')).setCell ⟨w.heap.size,1,none⟩ (.int .i64 sp')).setCell ⟨w.heap.size,2,none⟩ (.int .i64 f')):=by
 have h1:=((hm.setLow (i:=0) (x:=.int .i64 ex') hB).setLow (i:=1) (x:=.int .i64 sp') hB).setLow (i:=2) (x:=.int .i64 f') hB;obtain⟨a2,c2,e1,hl,hs⟩:=h1.src;simp only[Value.slice.injEq]at e1;obtain⟨rfl,rfl,rfl⟩:=e1;subst e;exact⟨a',c',by rw[List.length_map],hs,by rw[List.length_map];exact hl,((h.b.setCell (p:=⟨w.heap.size,0,none⟩) (Nat.le_refl _) _).setCell (p:=⟨w.heap.size,1,none⟩) (Nat.le_refl _) _).setCell (p:=⟨w.heap.size,2,none⟩) (Nat.le_refl _) _⟩
end
def cutH:List C->List C
 |[]=>[]
 |c::r=>cutC c::r
theorem cutH_len(cs:List C):(cutH cs).length=cs.length:=by cases cs<;>rfl
theorem cutH_ok{cs:List C}(h:∀c∈cs,Ok6 c):∀c∈cutH cs,c.ok∧c.args.length<=6:=by
 cases cs with
 |nil=>intro c hc;simp[cutH]at hc
 |cons d r=>
  intro c hc;rcases List.mem_cons.1 hc with rfl|hc
  ·have h1:=h d (by simp);exact⟨⟨h1.1.1,h1.1.2.1,h1.1.2.2.1,h1.1.2.2.2.1,fun y hy=>h1.1.2.2.2.2 y (List.mem_of_mem_take hy)⟩,by simp[cutC];omega⟩
  have h1:=h c (by simp[hc]);exact⟨h1.1,by rw[h1.2];exact Nat.le_refl _⟩
theorem drawLearn_det(l:List Int)(hl:isBytes l)(hn:l.length<=1048576):∃(cs:List C)(ex sp f:Int),(∀c∈cs,c.ok∧c.args.length<=6)∧cs.length<=1001∧∀(a:Option Addr)(cap:Nat)(w:World),BSrc w a l->l.length<=cap->Calls Tryz.prog 4 #[.slice a l.length cap] w (DrlP cs ex sp f w):=by
 have hbL:=isBytes_take hl 600;have HOp:Hid (∀a cap w,BSrc w a l->l.length<=cap->Calls Tryz.prog 12 #[.slice a l.length cap] w fun e w'=>∃R cap',e=.returned (.pointer (some ⟨R,0,none⟩))∧w.heap.size<=R∧Rd w' R a cap' (l.take 600) 0∧Below w.heap.size w w'):=fun a cap w hs hc=>open_any a cap l w hs hl hc hn
 generalize l.take 600=L at*;have HN:Hid (∀j R a cap W,Rd W R a cap L j->Calls Tryz.prog 13 #[.pointer (some ⟨R,0,none⟩)] W fun e w'=>e=.returned (.int .i64 (L.getD j 0))∧Rd w' R a cap L (j+1)∧W.grownBy w' (some R)):=fun j R a cap W h=>next_any R cap a L j W h
 have HN0:Hid _:=HN.out 0;have HN3:Hid _:=HN.out 3;have HD:Hid (∀R a cap W,Rd W R a cap L 3->Calls Tryz.prog 16 #[.pointer (some ⟨R,0,none⟩)] W fun e w'=>∃v os,e=.returned v∧os.map Prod.fst=(callsD L 3).1∧CsS W w' R a cap L (callsD L 3).2 v os):=fun R a cap W h=>drawCalls_any R cap a L 3 W h
 obtain⟨ex,sp,f,hkn⟩:=drawKnobs_det L hbL 1;have HK:Hid _:=hkn;obtain⟨hcok,hclen⟩:=callsD_ok hbL 3;have hb0:=isBytes_getD hbL 0;have hb3:=isBytes_getD hbL 3;generalize L.getD 0 0=x0 at*;generalize L.getD 3 0=x3 at*;generalize callsD L 3=CJ at*;obtain⟨CS,J⟩:=CJ;simp only at hcok hclen HD;obtain⟨N,hN⟩:∃N:Nat,(N:Int)=x3%3:=⟨(x3%3).toNat,by omega⟩;have HMy:Hid (∀W,Calls Tryz.prog 15 #[.int .i64 (999+x3%3),.int .i64 9] W fun e w'=>∃v os,e=.returned v∧os.map Prod.fst=manyM 9 (999+N)∧McS w' W.heap.size v os∧Below W.heap.size W w'):=fun W=>by
  have:=manyM_any 9 (999+N) W (by omega) (by omega) (by omega);rw[show((999+N:Nat):Int)=999+x3%3 by omega]at this;exact this
 have HM1:Hid (∀W,Calls Tryz.prog 15 #[.int .i64 (199+x3%3),.int .i64 1] W fun e w'=>∃v os,e=.returned v∧os.map Prod.fst=manyM 1 (199+N)∧McS w' W.heap.size v os∧Below W.heap.size W w'):=fun W=>by
  have:=manyM_any 1 (199+N) W (by omega) (by omega) (by omega);rw[show((199+N:Nat):Int)=199+x3%3 by omega]at this;exact this
 have hw9:IntKind.i64.wrap (999+x3%3)=999+x3%3:=by rw[IntKind.wrap_i64];omega
 have hw1:IntKind.i64.wrap (199+x3%3)=199+x3%3:=by rw[IntKind.wrap_i64];omega
 have q50:0<=x0%50:=by omega
 obtain⟨cs,ex',sp',f',hok,hcl,h0,h1,h2,h3,h4⟩:∃(cs:List C)(ex' sp' f':Int),(∀c∈cs,c.ok∧c.args.length<=6)∧cs.length<=1001∧(x0%50=0->cs=manyM 9 (999+N)∧ex'=ex∧sp'=sp∧f'=f)∧(x0%50=1->cs=manyM 1 (199+N)∧ex'=200∧sp'=200∧f'=0)∧(x0%50=2->cs=manyM 1 (199+N)∧ex'=3∧sp'=200∧f'=0)∧(x0%50=3->cs=cutH CS∧ex'=ex∧sp'=sp∧f'=f)∧(3<x0%50->cs=CS∧ex'=ex∧sp'=sp∧f'=f):=by
  have six:∀{cs:List C},(∀c∈cs,Ok6 c)->∀c∈cs,c.ok∧c.args.length<=6:=fun h c hc=>⟨(h c hc).1,by rw[(h c hc).2];exact Nat.le_refl _⟩
  rcases(show x0%50=0∨x0%50=1∨x0%50=2∨x0%50=3∨3<x0%50 by omega)with h|h|h|h|h
  ·exact⟨_,_,_,_,six (manyM_ok (s:=9) (n:=999+N) (by omega) (by omega)),by rw[manyM_len];omega,fun _=>⟨rfl,rfl,rfl,rfl⟩,by omega,by omega,by omega,by omega⟩
  ·exact⟨_,_,_,_,six (manyM_ok (s:=1) (n:=199+N) (by omega) (by omega)),by rw[manyM_len];omega,by omega,fun _=>⟨rfl,rfl,rfl,rfl⟩,by omega,by omega,by omega⟩
  ·exact⟨_,_,_,_,six (manyM_ok (s:=1) (n:=199+N) (by omega) (by omega)),by rw[manyM_len];omega,by omega,by omega,fun _=>⟨rfl,rfl,rfl,rfl⟩,by omega,by omega⟩
  ·exact⟨_,_,_,_,cutH_ok hcok,by rw[cutH_len];omega,by omega,by omega,by omega,fun _=>⟨rfl,rfl,rfl,rfl⟩,by omega⟩
  exact⟨_,_,_,_,six hcok,by omega,by omega,by omega,by omega,by omega,fun _=>⟨rfl,rfl,rfl,rfl⟩⟩
 refine⟨cs,ex',sp',f',hok,hcl,fun a cap w hs hc=> ?_⟩;have H0:Hid _:=h0;have H1:Hid _:=h1;have H2:Hid _:=h2;have H3:Hid _:=h3;have H4:Hid _:=h4;have Hok:Hid (∀c∈CS,Ok6 c):=hcok;have b0:Below w.heap.size w (w.alloc (.cells #[.int .i64 0,.int .i64 0,.int .i64 0] 25)):=(Below.refl _ _).alloc (Nat.le_refl _) _;have HO:Hid _:=HOp.out a cap _ (hs.below b0) hc;have X0:=Box3.new w 25 (.int .i64 0) (.int .i64 0) (.int .i64 0);have hs0:(w.alloc (.cells #[.int .i64 0,.int .i64 0,.int .i64 0] 25)).heap.size=w.heap.size+1:=by simp
 clear h0 h1 h2 h3 h4 hkn hcok hok hcl HOp hs hc hl hn hbL HN;generalize l.length=n at*;go_enter Tryz.func4,Tryz.ntmps4;go_wp2_with fail;refine Calls.mono HO.out ?_;rintro _ w1⟨R,cR,rfl,hR,r1,hb1⟩;rw[hs0]at hR;have B1:=below_step hb1 b0;have X1:=X0.keep hb1;clear HO b0 X0 hb1 hs0;go_wp2_with fail;refine(HN0.out _ _ _ _ r1).mono ?_;rintro _ w2⟨rfl,r2,g2⟩;have B2:=B1.grown g2 B1.size (fun q hq=>by simp at hq;omega);have X2:=X1.grownX g2 (fun e=>by simp at e;omega);clear HN0 r1 g2 B1 X1;go_wp2_with fail;refine(HK.out _ _ _ _ r2).mono ?_;rintro _ w3⟨rfl,r3,g3⟩;have B3:=B2.grown g3 B2.size (fun q hq=>by simp at hq;omega);have X3:=X2.grownX g3 (fun e=>by simp at e;omega);have hRl:=r3.lt;have r4:Rd (w3.alloc (.cells #[.int .i64 ex,.int .i64 sp,.int .i64 f] 25)) R a cR L 3:=r3.alloc _;have S4:DlS w (w3.alloc (.cells #[.int .i64 ex,.int .i64 sp,.int .i64 f] 25)) R w3.heap.size ex sp f:=⟨B3.alloc B3.size _,X3.alloc _,Box3.new w3 25 _ _ _,by omega,hRl⟩;have hw4:(w3.alloc (.cells #[.int .i64 ex,.int .i64 sp,.int .i64 f] 25)).heap.size=w3.heap.size+1:=by simp
 clear HK r2 r3 g3 B2 X2 B3 X3;generalize hW4:w3.alloc (.cells #[.int .i64 ex,.int .i64 sp,.int .i64 f] 25)=W4 at*;by_cases c0:x0%50=0
 ·obtain⟨rfl,rfl,rfl,rfl⟩:=H0.out c0;clear H0 H1 H2 H3 H4 HM1 HD Hok;go_wp2_with fail;refine(HN3.out _ _ _ _ r4).mono ?_;rintro _ w5⟨rfl,r5,g5⟩;have S5:=S4.draw g5;have hs5:=g5.size;obtain⟨_,k0,k1,k2,_,_,_⟩:=id S5.k;have S5d:DlS w w5.drew R w3.heap.size ex' sp' f':=S5.below ((Below.refl _ _).drew);have hB:w.heap.size<w5.drew.heap.size:=by have:=S5.k.lt;have:=S5.hR;have:=S5.hK;show w.heap.size<w5.heap.size;omega
  clear HN3 r4 S4;go_wp2_with fail;go_region_law(go_simp;go_at_call 15;refine(HMy.out _).mono ?_;rintro _ w6⟨v,os,rfl,ho,M,hb6⟩;have S6:=S5d.below hb6;obtain⟨a6,c6,rfl,_,_⟩:=id M.src;have HP:Hid _:=S6.out (ex':=ex') (sp':=sp') (f':=f') M hB ho;obtain⟨_,k0,k1,k2,_,_,_⟩:=id S6.k;obtain⟨_,a0,a1,a2,e0,e1,e2⟩:=id S6.x;dsimp only);all_goals
   clear HMy S5 S5d S6 M ho;go_wp2;exact bodyPost_ret (v:=.tuple #[.slice a6 _ c6,.agg #[.int .i64 ex',.int .i64 sp',.int .i64 f']]) (by simp[results,Tryz.results4,go_sem,a0,a1,a2]) rfl HP.out
 by_cases c1:x0%50=1
 ·obtain⟨rfl,rfl,rfl,rfl⟩:=H1.out c1;clear H0 H1 H2 H3 H4 HMy HD Hok;go_wp2_with fail;refine(HN3.out _ _ _ _ r4).mono ?_;rintro _ w5⟨rfl,r5,g5⟩;have S5:=S4.draw g5;have hB:w.heap.size<w5.heap.size:=by have:=S5.k.lt;have:=S5.hR;have:=S5.hK;omega
  clear HN3 r4 S4;go_wp2_with fail;refine(HM1.out _).mono ?_;rintro _ w6⟨v,os,rfl,ho,M,hb6⟩;have S6:=S5.below hb6;obtain⟨a6,c6,rfl,_,_⟩:=id M.src;have HP:Hid _:=S6.out (ex':=200) (sp':=200) (f':=0) M hB ho;obtain⟨_,a0,a1,a2,e0,e1,e2⟩:=id S6.x;clear HM1 S5 S6 M ho;go_wp2;exact bodyPost_ret (v:=.tuple #[.slice a6 _ c6,.agg #[.int .i64 200,.int .i64 200,.int .i64 0]]) (by simp[results,Tryz.results4,go_sem,a0,a1,a2]) rfl HP.out
 by_cases c2:x0%50=2
 ·obtain⟨rfl,rfl,rfl,rfl⟩:=H2.out c2;clear H0 H1 H2 H3 H4 HMy HD Hok;go_wp2_with fail;refine(HN3.out _ _ _ _ r4).mono ?_;rintro _ w5⟨rfl,r5,g5⟩;have S5:=S4.draw g5;have hB:w.heap.size<w5.heap.size:=by have:=S5.k.lt;have:=S5.hR;have:=S5.hK;omega
  clear HN3 r4 S4;go_wp2_with fail;refine(HM1.out _).mono ?_;rintro _ w6⟨v,os,rfl,ho,M,hb6⟩;have S6:=S5.below hb6;obtain⟨a6,c6,rfl,_,_⟩:=id M.src;have HP:Hid _:=S6.out (ex':=3) (sp':=200) (f':=0) M hB ho;obtain⟨_,a0,a1,a2,e0,e1,e2⟩:=id S6.x;clear HM1 S5 S6 M ho;go_wp2;exact bodyPost_ret (v:=.tuple #[.slice a6 _ c6,.agg #[.int .i64 3,.int .i64 200,.int .i64 0]]) (by simp[results,Tryz.results4,go_sem,a0,a1,a2]) rfl HP.out
 have HR5:Hid (ex'=ex∧sp'=sp∧f'=f):=by
  rcases(show x0%50=3∨3<x0%50 by omega)with h|h
  ·exact(H3.out h).2
  exact(H4.out h).2
 obtain⟨rfl,rfl,rfl⟩:=HR5.out;have HX:Hid (x0%50=3∧cs=cutH CS∨3<x0%50∧cs=CS):=by
  rcases(show x0%50=3∨3<x0%50 by omega)with h|h
  ·exact .inl ⟨h,(H3.out h).1⟩
  exact .inr ⟨h,(H4.out h).1⟩
 clear H0 H1 H2 H3 H4 HMy HM1 HR5 HN3;go_wp2_with fail;refine(HD.out _ _ _ _ r4).mono ?_;rintro _ w5⟨v,os,rfl,ho,S⟩;have S5:=S4.draw S.gr;have hB:w3.heap.size<W4.heap.size:=by rw[hw4];omega
 have hB0:w.heap.size<W4.heap.size:=by have:=S4.hR;have:=S4.hK;omega
 have M5:=S.mc;have hol:os.length=CS.length:=by rw[<-ho,List.length_map]
 clear S r4 HD;obtain⟨av,cv,rfl,hcv,_⟩:=id M5.src;rcases HX.out with⟨h3,rfl⟩|⟨h3,rfl⟩
 ·cases CS with
  |nil=>
   have hos:os=[]:=List.length_eq_zero_iff.1 hol;subst hos;obtain⟨_,k0,k1,k2,_,_,_⟩:=id S5.k;obtain⟨_,a0,a1,a2,e0,e1,e2⟩:=id S5.x;have HPd:Hid (∀nq,DrlP (cutH []) ex' sp' f' w (.returned (.tuple #[.slice av ([]:List (C×Value)).length cv,.agg #[.int .i64 ex',.int .i64 sp',.int .i64 f']])) ((((w5.drewN nq).setCell ⟨w.heap.size,0,none⟩ (.int .i64 ex')).setCell ⟨w.heap.size,1,none⟩ (.int .i64 sp')).setCell ⟨w.heap.size,2,none⟩ (.int .i64 f'))):=fun nq=>(S5.below (below_drewN (Below.refl _ _) nq)).out (M5.below (below_drewN (Below.refl _ _) nq)) hB0 ho
   clear S5 M5 ho HX Hok;go_wp2_with fail;go_region_law(fail);all_goals
    go_wp2;exact bodyPost_ret (v:=.tuple #[.slice av _ cv,.agg #[.int .i64 ex',.int .i64 sp',.int .i64 f']]) (by simp[results,Tryz.results4,go_sem,a0,a1,a2]) rfl (HPd.out _)
  |cons c r=>
   obtain⟨p0,os',rfl⟩:∃p0 os',os=p0::os':=by
    cases os with
    |nil=>simp at hol
    |cons p q=>exact⟨p,q,rfl⟩
   obtain⟨c0',v0⟩:=p0;simp only[List.map_cons,List.cons.injEq]at ho;obtain⟨rfl,ho'⟩:=ho;have h6:=(Hok.out c0' (by simp)).2;have hou:=M5.own (c0',v0) (by simp);obtain⟨g,ca,e6,_,_⟩:=ownsU_at hou (by show 0<c0'.args.length;omega);simp only[h6]at e6;subst e6;have hca:6<=ca:=by
    obtain⟨_,h|⟨g2,ca2,cur,e,_,_,hle,_⟩⟩:=hou
    ·simp[h6]at h
    simp[h6]at e hle;omega
   obtain⟨b,cp,ev,_,hbb,hbl,hfz,hcell⟩:∃b cp,Value.slice av ((c0',Value.slice (some ⟨g,0,none⟩) 6 ca)::os').length cv=.slice (some ⟨b,0,none⟩) (os'.length+1) cp∧True∧W4.heap.size<=b∧b<w5.heap.size∧(∀o,w5.frozen? ⟨b,o,none⟩=false)∧w5.cell? ⟨b,2,none⟩=some (.slice (some ⟨g,0,none⟩) 6 ca):=by
    obtain⟨hl',h1|⟨b,cp,cur,e,hb,hg,hn,hm,hs,hx⟩⟩:=M5.row
    ·simp at h1
    refine⟨b,cp,by rw[e];simp,trivial,hb,(Array.getElem?_eq_some_iff.1 hg).1,fun o=>by simp[World.frozen?,hg],?_⟩;have hu:=(cCs_get ((c0',Value.slice (some ⟨g,0,none⟩) 6 ca)::os') 0 (by simp)).2.2;rw[<-hx,List.getElem?_take,if_pos (by simp;omega)]at hu;simp only[World.cell?,hg];simpa using hu
   simp only[Value.slice.injEq,List.length_cons]at ev;obtain⟨rfl,_,rfl⟩:=ev;have fz2:=hfz 2;have hsl:∀wx,(Instr.slice 37 (.slice (some ⟨g,0,none⟩) 6 ca) none (some (.int .i64 5)) none).run Tryz.prog wx=.ok (.slice (some ⟨g,0,none⟩) 5 ca) wx:=fun wx=>by
    have e3:¬ca=0:=by omega
    rw[run_slice_h (w:=wx) 37 _ 6 ca (by kernel_rfl) .i64 5 (by omega) (by omega)];simp[go_sem,sliced,e3]
   have M6:=McS.cut (n:=os'.length+1) (by simpa using M5) h6;have S6:DlS w (w5.setCell ⟨b,2,none⟩ (.slice (some ⟨g,0,none⟩) 5 ca)) R w3.heap.size ex' sp' f':=S5.set (B:=0) (by omega);have ho2:((cutC c0',Value.slice (some ⟨g,0,none⟩) 5 ca)::os').map Prod.fst=cutH (c0'::r):=by
    show cutC c0'::os'.map Prod.fst=cutC c0'::r;rw[ho']
   obtain⟨_,k0,k1,k2,_,_,_⟩:=id S6.k;obtain⟨_,a0,a1,a2,e0,e1,e2⟩:=id S6.x;have HPd:Hid (∀nq,DrlP (cutH (c0'::r)) ex' sp' f' w (.returned (.tuple #[.slice (some ⟨b,0,none⟩) (os'.length+1) cv,.agg #[.int .i64 ex',.int .i64 sp',.int .i64 f']])) (((((w5.setCell ⟨b,2,none⟩ (.slice (some ⟨g,0,none⟩) 5 ca)).drewN nq).setCell ⟨w.heap.size,0,none⟩ (.int .i64 ex')).setCell ⟨w.heap.size,1,none⟩ (.int .i64 sp')).setCell ⟨w.heap.size,2,none⟩ (.int .i64 f'))):=fun nq=>(S6.below (below_drewN (Below.refl _ _) nq)).out (M6.below (below_drewN (Below.refl _ _) nq)) hB0 ho2
   have hpos:(0:Int)<((os'.length:Int)+1):=by omega
   have hoL:os'.length<=39:=by have:=hclen;simp at hol this;omega
   clear S5 M5 ho2 HX Hok S6 M6 hou hfz hol ho' hcv;dsimp only[List.length_cons];generalize os'.length=m at*;go_wp2_with fail;go_region_law(fail);all_goals
    go_wp2;exact bodyPost_ret (v:=.tuple #[.slice (some ⟨b,0,none⟩) (m+1) cv,.agg #[.int .i64 ex',.int .i64 sp',.int .i64 f']]) (by simp[results,Tryz.results4,go_sem,a0,a1,a2]) rfl (HPd.out _)
 obtain⟨_,k0,k1,k2,_,_,_⟩:=id S5.k;obtain⟨_,a0,a1,a2,e0,e1,e2⟩:=id S5.x;have HPd:Hid (∀nq,DrlP cs ex' sp' f' w (.returned (.tuple #[.slice av os.length cv,.agg #[.int .i64 ex',.int .i64 sp',.int .i64 f']])) ((((w5.drewN nq).setCell ⟨w.heap.size,0,none⟩ (.int .i64 ex')).setCell ⟨w.heap.size,1,none⟩ (.int .i64 sp')).setCell ⟨w.heap.size,2,none⟩ (.int .i64 f'))):=fun nq=>(S5.below (below_drewN (Below.refl _ _) nq)).out (M5.below (below_drewN (Below.refl _ _) nq)) hB0 ho
 have g3:(x0%50==3)=false:=by rw[beq_eq_false_iff_ne];omega
 clear S5 M5 ho HX Hok hol hcv;generalize os.length=m at*;go_wp2_with fail;go_region_law(fail);all_goals
  go_wp2;exact bodyPost_ret (v:=.tuple #[.slice av m cv,.agg #[.int .i64 ex',.int .i64 sp',.int .i64 f']]) (by simp[results,Tryz.results4,go_sem,a0,a1,a2]) rfl (HPd.out _)
end Go.Proofs.YtddemlfepjkgoaaGreat
