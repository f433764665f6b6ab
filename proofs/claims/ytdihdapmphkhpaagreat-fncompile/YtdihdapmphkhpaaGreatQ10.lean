import Derived.Test.YtdihdapmphkhpaaGreatQ09
set_option linter.all false
set_option maxRecDepth 200000
set_option maxHeartbeats 16000000
namespace Go.Proofs.YtdihdapmphkhpaaGreat
open Go.RowKit Go.Deep
theorem SlC.far{w w1:World}{size b off n cap:Nat}{olds:List Value}(h:SlC w size b off n cap olds)(hs:w.heap.size<=w1.heap.size)(hb:w1.heap[b]? =w.heap[b]?):SlC w1 size b off n cap olds:=
 ⟨h.le,by have:=h.lt;omega,h.len,fun j u hu=>(aN (a:=⟨b,off+j,none⟩) hb).trans (h.olds j u hu),fun j hj=>by rw[aN (a:=⟨b,_,none⟩) hb];exact h.spare j hj,fun o=>(ch (a:=⟨b,o,none⟩) hb).trans (h.fr o)⟩
structure PsS(w:World)(v:Value)(P:List E)(g:Nat)(gb:Nat->Nat)(cb:Nat->Nat->Nat):Prop where
 sg:P≠[]->∃cap xs,v=.slice (some ⟨g,0,none⟩) P.length cap∧SlC w 3 g 0 P.length cap xs
 sr:∀t,t<P.length->∃c xs,w.cell? ⟨g,t*3+2,none⟩=some (.slice (some ⟨gb t,0,none⟩) (eu P t).length c)∧SlC w 1 (gb t) 0 (eu P t).length c xs
 sc:∀t s,t<P.length->s<(eu P t).length->∃c xs,w.cell? ⟨gb t,s,none⟩=some (.slice (some ⟨cb t s,0,none⟩) (fh P t s).length c)∧SlC w 3 (cb t s) 0 (fh P t s).length c xs
theorem PsD.pss{w:World}{B:Nat}{v:Value}{P:List E}{rv:Nat->Value}{lo hi:Nat->Nat}{g:Nat}{gb:Nat->Nat}{cb:Nat->Nat->Nat}(h:PsD w B v P rv lo hi)(hc:PsC w v P g gb cb):PsS w v P g gb cb:=by
 have nn:∀{t},t<P.length->P≠[]:=fun ht e=>by rw[e]at ht;simp at ht
 have ev:P≠[]->∃cap,v=.slice (some ⟨g,0,none⟩) P.length cap:=fun hn=>by
  obtain⟨a,cap,e,_,ha⟩:=hc.val;exact⟨cap,by rw[e,ha hn]⟩
 have hrt:∀t,t<P.length->∃c,rv t=.slice (some ⟨gb t,0,none⟩) (eu P t).length c∧w.cell? ⟨g,t*3+2,none⟩=some (.slice (some ⟨gb t,0,none⟩) (eu P t).length c):=fun t ht=>by
  obtain⟨_,_,c,_,e⟩:=hc.ent t ht;obtain⟨cap,e1⟩:=ev (nn ht);have k:=h.row.cells (g:=g) (by rw[e1];rfl) _ _ (vi P rv ht).2.2;rw[kn,aC,e]at k;exact⟨c,(Option.some.inj k).symm,e⟩
 refine⟨fun hn=> ?_,fun t ht=> ?_,fun t s ht hs=> ?_⟩
 ·obtain⟨cap,e1⟩:=ev hn;have hr:=h.row;rw[e1]at hr;exact⟨cap,_,e1,SlC.uw hr⟩
 ·obtain⟨c,e,ec⟩:=hrt t ht;obtain⟨vs,cb',gb',h1,_⟩:=h.own t ht;have hr:=h1.row;rw[e]at hr;exact⟨c,_,ec,SlC.uw hr⟩
 obtain⟨c,e,ec⟩:=hrt t ht;obtain⟨vs,cb',gb',h1,_⟩:=h.own t ht;obtain⟨c2,_,e2⟩:=hc.rul t s ht hs;have k:=h1.row.cells (g:=gb t) (by rw[e];rfl) s (vs s) (by rw[cJ,List.getElem?_range hs];rfl);rw[kn,aC,e2]at k;have hr:=(h1.own s hs).1;rw[<-Option.some.inj k]at hr;exact⟨c2,_,e2,SlC.uw hr⟩
theorem PsS.far{w w1:World}{v:Value}{P:List E}{g:Nat}{gb:Nat->Nat}{cb:Nat->Nat->Nat}(h:PsS w v P g gb cb)(hs:w.heap.size<=w1.heap.size)(hg:P≠[]->w1.heap[g]? =w.heap[g]?)(hr:∀t,t<P.length->w1.heap[gb t]? =w.heap[gb t]?)(hc:∀t s,t<P.length->s<(eu P t).length->w1.heap[cb t s]? =w.heap[cb t s]?):PsS w1 v P g gb cb:=by
 have nn:∀{t},t<P.length->P≠[]:=fun ht e=>by rw[e]at ht;simp at ht
 refine⟨fun hn=> ?_,fun t ht=> ?_,fun t s ht hst=> ?_⟩
 ·obtain⟨cap,xs,e,k⟩:=h.sg hn;exact⟨cap,xs,e,k.far hs (hg hn)⟩
 ·obtain⟨c,xs,e,k⟩:=h.sr t ht;exact⟨c,xs,(aN (a:=⟨g,_,none⟩) (hg (nn ht))).trans e,k.far hs (hr t ht)⟩
 obtain⟨c,xs,e,k⟩:=h.sc t s ht hst;exact⟨c,xs,(aN (a:=⟨gb t,_,none⟩) (hr t ht)).trans e,k.far hs (hc t s ht hst)⟩
structure SpS(w W:World)(R:Nat)(ad:Option Addr)(cap:Nat)(l:List Int)(j B:Nat)(v:Value)(P:List E)(g:Nat)(gb:Nat->Nat)(cb:Nat->Nat->Nat):Prop where
 rd:Rd W R ad cap l j
 gr:w.grownBy W (some R)
 lt:R<B
 hB:B<=w.heap.size
 pc:PsC W v P g gb cb
 ps:PsS W v P g gb cb
 ge:GeB B P g gb cb
 old:(P≠[]->g<w.heap.size)∧(∀t,t<P.length->gb t<w.heap.size)∧∀t s,t<P.length->s<(eu P t).length->cb t s<w.heap.size
 c2:W.cell? ⟨w.heap.size,0,none⟩=some v
 f2:W.frozen? ⟨w.heap.size,0,none⟩=false
 c4:W.cell? ⟨w.heap.size+1,0,none⟩=some (.slice none 0 0)
 f4:W.frozen? ⟨w.heap.size+1,0,none⟩=false
 sz:w.heap.size+1<W.heap.size
section
variable{w W W1:World}{R cap j j1 B:Nat}{ad:Option Addr}{l:List Int}{v:Value}{P:List E}{g:Nat}{gb:Nat->Nat}{cb:Nat->Nat->Nat}
theorem SpS.draw(h:SpS w W R ad cap l j B v P g gb cb)(hr:Rd W1 R ad cap l j1)(hg:W.grownBy W1 (some R)):SpS w W1 R ad cap l j1 B v P g gb cb:=by
 have h1:=h.lt;have h2:=h.hB;have h3:=h.sz;have bl:∀k,k<W.heap.size->k≠R->W1.heap[k]? =W.heap[k]? :=fun k hk hne=>hg.block k hk (by simp;exact hne)
 have bg:P≠[]->W1.heap[g]? =W.heap[g]? :=fun hn=>bl g (h.pc.frg hn).1 (by have:=h.ge.1 hn;omega)
 have br:∀t,t<P.length->W1.heap[gb t]? =W.heap[gb t]? :=fun t ht=>bl _ (h.pc.frr t ht).1 (by have:=h.ge.2.1 t ht;omega)
 have bc:∀t s,t<P.length->s<(eu P t).length->W1.heap[cb t s]? =W.heap[cb t s]? :=fun t s ht hs=>bl _ (h.pc.frc t s ht hs).1 (by have:=h.ge.2.2 t s ht hs;omega)
 obtain⟨a1,a2⟩:=eB (g:=w.heap.size) (o:=0) hg (by omega) (by simp;omega);obtain⟨a3,a4⟩:=eB (g:=w.heap.size+1) (o:=0) hg (by omega) (by simp;omega);exact⟨hr,eU h.gr hg,h1,h2,h.pc.far hg.size bg br bc,h.ps.far hg.size bg br bc,h.ge,h.old,a1.trans h.c2,a2.trans h.f2,a3.trans h.c4,a4.trans h.f4,an h3 hg.size⟩
theorem SpS.below(h:SpS w W R ad cap l j B v P g gb cb)(hb:Below W.heap.size W W1):SpS w W1 R ad cap l j B v P g gb cb:=h.draw (h.rd.below hb) (fJ hb)
end
def spI(l:List Int)(P:List E)(j:Nat):Nat:=(l.getD (j+1) 0%(P.length:Int)).toNat
def spJ(l:List Int)(P:List E)(j:Nat):Nat:=(l.getD (j+2) 0%((eu P (spI l P j)).length:Int)).toNat
def spM(l:List Int)(j:Nat):Nat:=(l.getD (j+3) 0%6).toNat
def nG(P:List E)(i s m:Nat)(c:K):List E:=P.set i ⟨(P.getD i E.zero).et,(P.getD i E.zero).nr,(eu P i).set s ((fh P i s).set m c)⟩
def spP(l:List Int)(P:List E)(j:Nat):List E:=
 if P=[]then P else nG P (spI l P j) (spJ l P j) (spM l j) (spK ((fh P (spI l P j) (spJ l P j)).getD (spM l j) K.zero) (l.getD (j+4) 0))
def spB(l:List Int)(P:List E)(j:Nat):Bool:=decide (P≠[]∧(l.getD j 0%9=0∨l.getD j 0%9=1∨(l.getD j 0%9=2∧1<P.length)∨l.getD j 0%9=3∨l.getD j 0%9=4∨l.getD j 0%9=5))
def spN(P:List E)(j:Nat):Nat:=if P=[]then j+1 else j+5
def GoE(e:E):Prop:=e.ok∧e.rules.length<=300∧∀r∈e.rules,r.length<=7
theorem okK_ok{c:K}(h:OkK c):c.ok:=by obtain⟨h1,h2,h3⟩:=h;exact⟨⟨by omega,by omega⟩,by omega,by omega⟩
theorem mo{e:E}(h:OkE e):GoE e:=⟨⟨h.1.1,h.1.2,fun r hr c hc=>okK_ok ((h.2.1 r hr).1 c hc)⟩,by have:=h.2.2.2;omega,fun r hr=>by have:=(h.2.1 r hr).2;omega⟩
theorem tW{e:E}(h:GoE e){rs:List (List K)}(h1:uC rs)(h2:rs.length<=300)(h3:∀r∈rs,r.length<=7):GoE ⟨e.et,e.nr,rs⟩:=⟨⟨h.1.1,h.1.2.1,h1⟩,h2,h3⟩
theorem lJ{α:Type}{Q:α->Prop}{l:List α}{i:Nat}{x:α}(h:∀y∈l,Q y)(hx:Q x):∀y∈l.set i x,Q y:=fun y hy=>by
 rcases cQ hy with h1|h1
 ·exact h y h1
 rw[h1];exact hx
theorem SlC.cellAt{w:World}{size b off n cap:Nat}{olds:List Value}(h:SlC w size b off n cap olds){j:Nat}(hj:j<n*size):w.cell? ⟨b,off+j,none⟩=olds[j]? :=by
 have:=h.len;have hlt:j<olds.length:=by omega
 rw[ag hlt];exact h.olds j _ (ag hlt)
theorem eY{w:World}{b b' o o':Nat}{v:Value}(h:b'≠b):(w.setCell ⟨b,o,none⟩ v).cell? ⟨b',o',none⟩=w.cell? ⟨b',o',none⟩:=aJ _ _ _ _ (fun e=>h (by simpa using(congrArg Addr.block e).symm))
theorem py{w:World}{b b' o o':Nat}{v:Value}(h:¬(b'=b∧o'=o)):(w.setCell ⟨b,o,none⟩ v).cell? ⟨b',o',none⟩=w.cell? ⟨b',o',none⟩:=aJ _ _ _ _ (fun e=>by simp at e;exact h ⟨e.1.symm,e.2.symm⟩)
structure KeC(B b4:Nat)(w w1:World):Prop where
 size:w.heap.size<=w1.heap.size
 cell:∀b o,b<w.heap.size->B<=b->b≠b4->w1.cell? ⟨b,o,none⟩=w.cell? ⟨b,o,none⟩
theorem SpS.bad{w W W9:World}{R cap j B:Nat}{ad:Option Addr}{l:List Int}{v v9 u:Value}{P:List E}{D:List E×Nat}{g:Nat}{gb:Nat->Nat}{cb:Nat->Nat->Nat}(S:SpS w W R ad cap l j B v P g gb cb)(hrd:∃j,Rd W9 R ad cap l j)(hfr:FrB B R W W9)
 (P':List E)(a:Option Addr)(c:Nat)(hv:v9=.slice a P'.length c)(hc:P'.length<=c)(hgo:∀e∈P',GoE e)(hl:P'.length<=300)(hva:eW P'=false)(hsrc:∀w1,KeC B (w.heap.size+1) W9 w1->ga B 3 (PEB B) w1 a P'):
 fE B R ad cap l (D,true) w (W9.setCell ⟨w.heap.size+1,0,none⟩ u) v9:=by
 obtain⟨j',hrd⟩:=hrd
 have h1:=S.lt
 have h2:=S.hB
 have h3:=S.sz
 have hset:W9.grownBy (W9.setCell ⟨w.heap.size+1,0,none⟩ u) (some (w.heap.size+1)):=fG (ah _ _) 0 _
 refine⟨⟨j',hrd.ey (fun k hk=>aE W9 ⟨w.heap.size+1,0,none⟩ _ k (fun e=>by simp at e;omega))⟩,((FrB.of S.gr h2 (fun k hk=>by simp at hk;omega)).trans hfr).trans (FrB.of hset (by have:=hfr.size;omega) (fun k hk=>by simp at hk;omega)),.inl ⟨rfl,P',a,c,hv,hc,fun e he=>(hgo e he).1,hva,⟨hl,fun e he=>(hgo e he).2⟩,hsrc _ ⟨by simp,fun b o hb hR h4=>eY h4⟩⟩⟩
theorem rE(P:List E){is:List Nat}{t:Nat}(ht:t<is.length):(is.map fun t=>P.getD t E.zero).getD t E.zero=P.getD (is.getD t 0) E.zero:=by
 simp[aa,cJ,ag ht]
theorem ApC.lg{w wA w9:World}{size b off n g' o' cap':Nat}{xs:List Value}(A:ApC wA size b off n xs w9 g' o' cap')(bA:Below w.heap.size w wA){b' o:Nat}(hb:b'<w.heap.size)(hno:¬(b'=b∧off+n*size<=o)):w9.cell? ⟨b',o,none⟩=w.cell? ⟨b',o,none⟩:=
 (A.cell b' o (by have:=bA.size;omega) hno).trans (bA.cell (p:=⟨b',o,none⟩) hb)
theorem ApC.yN{w wA w9:World}{size b off n g' o' cap':Nat}{xs:List Value}(A:ApC wA size b off n xs w9 g' o' cap')(bA:Below w.heap.size w wA){b' o:Nat}(hb:b'<w.heap.size):w9.frozen? ⟨b',o,none⟩=w.frozen? ⟨b',o,none⟩:=
 (A.frz b' o (by have:=bA.size;omega)).trans (bA.frozen (p:=⟨b',o,none⟩) hb)
theorem SpS.badI{w W wA w9:World}{R cap j B:Nat}{ad:Option Addr}{l:List Int}{v:Value}{P:List E}{D:List E×Nat}{g:Nat}{gb:Nat->Nat}{cb:Nat->Nat->Nat}(S:SpS w W R ad cap l j B v P g gb cb)(hPn:P≠[])(hP:∀e∈P,OkE e){off k cpk g' o' cap':Nat}{xs news:List Value}
 (bA:Below W.heap.size W wA)(sl:SlC W 3 g off k cpk xs)(A:ApC wA 3 g off k (xs++news) w9 g' o' cap')(hoff:P.length*3<=off+k*3)(is:List Nat)(hil:is.length=k+1)(hk3:k<=299)(his:∀t,t<k+1->is.getD t 0<P.length)
 (hx:∀t,t<k->∀r,r<3->W.cell? ⟨g,off+(t*3+r),none⟩=W.cell? ⟨g,is.getD t 0*3+r,none⟩)(hnw:∀r,r<3->news[r]? =W.cell? ⟨g,is.getD k 0*3+r,none⟩)(hva:eW (is.map fun t=>P.getD t E.zero)=false):
 fE B R ad cap l (D,true) w ((w9.setCell ⟨w.heap.size,0,none⟩ (.slice (some ⟨g',o',none⟩) (k+1) cap')).setCell ⟨w.heap.size+1,0,none⟩ (.slice (some ⟨g',o',none⟩) (k+1) cap')) (.slice (some ⟨g',o',none⟩) (k+1) cap'):=by
 have hRB:=S.lt
 have hB:=S.hB
 have hsz:=S.sz
 have hsA:=bA.size
 have hs9:=A.gr.size
 have hgB:=S.ge.1 hPn
 have hgw:=S.old.1 hPn
 have hg9:=A.sl.lt
 have hA2:=A.at'
 have hset:w9.grownBy (w9.setCell ⟨w.heap.size,0,none⟩ (.slice (some ⟨g',o',none⟩) (k+1) cap')) (some w.heap.size):=fG (ah _ _) _ _
 have hrd9:=((S.rd.below bA).grown A.gr hRB (fun k hk=>by simp at hk;omega)).ey (w1:=w9.setCell ⟨w.heap.size,0,none⟩ (.slice (some ⟨g',o',none⟩) (k+1) cap')) (fun k hk=>aE w9 ⟨w.heap.size,0,none⟩ _ k (fun e=>by simp at e;omega))
 have hfr9:=((FrB.of (R:=R) (B:=B) (fJ bA (r:=none)) (by omega) (fun k hk=>by cases hk)).trans (FrB.of A.gr (by omega) (fun k hk=>by simp at hk;omega))).trans (FrB.of hset (by omega) (fun k hk=>by simp at hk;omega))
 refine S.bad ⟨_,hrd9⟩ hfr9 (is.map fun t=>P.getD t E.zero) (some ⟨g',o',none⟩) cap' (by rw[aX,hil]) (by rw[aX,hil];exact A.sl.le) (fun e he=> ?_) (by rw[aX,hil];omega) hva (fun w1 hk=> ?_)
 ·obtain⟨t,ht,rfl⟩:=bT.1 he
  obtain⟨q,hq,rfl⟩:=bH ht
  have:=his q (by omega)
  rw[aa,ag hq]at this
  exact mo (hP _ (gq this))
 ·have hRb:∀b,B<=b->B<=b:=fun b hb=>hb
  have hk1:∀b o,b<W.heap.size->B<=b->b≠w.heap.size->b≠w.heap.size+1->¬(b=g∧off+k*3<=o)->w1.cell? ⟨b,o,none⟩=W.cell? ⟨b,o,none⟩:=fun b o hb h1 h2 h3 h4=>by
   rw[hk.cell b o (by simp;omega) h1 h3,eY h2];exact A.lg bA hb h4
  have hgg:B<=g'∧g'≠w.heap.size∧g'≠w.heap.size+1:=by omega
  have hrow:∀t,t<k+1->∀r,r<3->w1.cell? ⟨g',o'+t*3+r,none⟩=(xs++news)[t*3+r]? :=fun t ht r hr=>by
   rw[hk.cell g' _ (by simpa using hg9) hgg.1 hgg.2.2,eY hgg.2.1,cX]
   exact A.sl.cellAt (by omega)
  have hxl:=sl.len
  have hks:=hk.size
  simp at hks
  refine S.pc.idx S.ge (by omega) _ (fun t ht=>his t (by omega)) hgg.1 (by omega) (fun t ht r hr=> ?_) (fun t ht s hs=>hk1 _ _ (S.pc.frr t ht).1 (hRb _ (S.ge.2.1 t ht)) (by have:=S.old.2.1 t ht;omega) (by have:=S.old.2.1 t ht;omega) (fun e=>(S.pc.frr t ht).2.1 e.1)) (fun t ht s hs o=>hk1 _ _ (S.pc.frc t s ht hs).1 (hRb _ (S.ge.2.2 t s ht hs)) (by have:=S.old.2.2 t s ht hs;omega) (by have:=S.old.2.2 t s ht hs;omega) (fun e=>(S.pc.frc t s ht hs).2.1 e.1))
  rw[hil]at ht
  rw[hrow t ht r hr]
  by_cases e:t=k
  ·rw[e,aw (by omega),show k*3+r-xs.length=r by omega]
   exact hnw r hr
  ·rw[aD (by omega),<-sl.cellAt (j:=t*3+r) (by omega)]
   exact hx t (by omega) r hr
theorem SpS.badR{w W W9:World}{R cap j B:Nat}{ad:Option Addr}{l:List Int}{v u:Value}{P:List E}{D:List E×Nat}{g:Nat}{gb:Nat->Nat}{cb:Nat->Nat->Nat}(S:SpS w W R ad cap l j B v P g gb cb)(hPn:P≠[])(hP:∀e∈P,OkE e)(hl4:P.length<=4){i s c cp:Nat}{a:Option Addr}{r:List K}
 (hi:i<P.length)(hs:s<(eu P i).length)(hrd:∃j,Rd W9 R ad cap l j)(hfr:FrB B R W W9)(h6:r.length≠6)(h7:r.length<=7)(hok:okR r)(hcell:W9.cell? ⟨gb i,s,none⟩=some (.slice a r.length c))(hsrc:∀w1,KeC B (w.heap.size+1) W9 w1->ga B 3 PK w1 a r)
 (hkeep:∀b o,b<w.heap.size->B<=b->¬(b=gb i∧o=s)->b≠cb i s->W9.cell? ⟨b,o,none⟩=W.cell? ⟨b,o,none⟩)(hcp:P.length<=cp):
 fE B R ad cap l (D,true) w (W9.setCell ⟨w.heap.size+1,0,none⟩ u) (.slice (some ⟨g,0,none⟩) P.length cp):=by
 have hRB:=S.lt
 have hB:=S.hB
 have hsz:=S.sz
 have hs9:=hfr.size
 have hgB:=S.ge.1 hPn
 have hgw:=S.old.1 hPn
 have hOk:=mo (hP _ (gq (d:=E.zero) hi))
 have hRb:∀b,B<=b->B<=b:=fun b hb=>hb
 have hget:((eu P i).set s r).getD s []=r:=by rw[iP _ _ _ _ _ hs,if_pos rfl]
 refine S.bad hrd hfr (P.set i ⟨(P.getD i E.zero).et,(P.getD i E.zero).nr,(eu P i).set s r⟩) (some ⟨g,0,none⟩) cp (by rw[aK]) (by rw[aK];exact hcp) (lJ (fun e he=>mo (hP e he)) (tW hOk (lJ hOk.1.2.2 hok) (by rw[aK];exact hOk.2.1) (lJ hOk.2.2 h7))) (by rw[aK];omega) (nL (i:=i) (by rw[aK];omega) (by rw[iP P i i _ _ hi,if_pos rfl];exact zP (s:=s) (by show s<((eu P i).set s r).length;rw[aK];exact hs) (by show(((eu P i).set s r).getD s []).length≠6;rw[hget];exact h6))) (fun w1 hk=> ?_)
 have hks:=hk.size
 have hk1:∀b o,b<w.heap.size->B<=b->¬(b=gb i∧o=s)->b≠cb i s->w1.cell? ⟨b,o,none⟩=W.cell? ⟨b,o,none⟩:=fun b o hb h1 h2 h3=>(hk.cell b o (by omega) h1 (by omega)).trans (hkeep b o hb h1 h2 h3)
 have hgi:=S.pc.frr i hi
 have hci:=S.pc.frc i s hi hs
 have hcell1:w1.cell? ⟨gb i,s,none⟩=some (.slice a r.length c):=by
  have:=S.old.2.1 i hi
  exact(hk.cell _ _ (by omega) (hRb _ (S.ge.2.1 i hi)) (by omega)).trans hcell
 have kg:∀o,w1.cell? ⟨g,o,none⟩=W.cell? ⟨g,o,none⟩:=fun o=>hk1 g o hgw (hRb _ hgB) (fun e=>hgi.2.1 e.1.symm) (fun e=>hci.2.1 e.symm)
 obtain⟨_,_,cR,_,e2⟩:=S.pc.ent i hi
 refine S.pc.putE S.ge (by omega) hi (fun o _=>kg o) (a:=some ⟨gb i,0,none⟩) (c:=cR) ((kg _).trans (by rw[aK];exact e2)) ?_ (fun t ht hne s' hs'=>hk1 _ _ (S.old.2.1 t ht) (hRb _ (S.ge.2.1 t ht)) (fun e=>S.pc.drr t i ht hi hne e.1) (fun e=>hci.2.2.1 t ht e.symm)) (fun t ht hne s' hs' o=>hk1 _ _ (S.old.2.2 t s' ht hs') (hRb _ (S.ge.2.2 t s' ht hs')) (fun e=>(S.pc.frc t s' ht hs').2.2.1 i hi e.1) (S.pc.dcc t s' i s ht hs' hi hs (fun e=>hne e.1)))
 exact S.pc.putR S.ge (by omega) hi hs hcell1 (hsrc w1 hk) (fun s' hs' hne=>hk1 _ _ (S.old.2.1 i hi) (hRb _ (S.ge.2.1 i hi)) (fun e=>hne e.2) (fun e=>hci.2.2.1 i hi e.symm)) (fun s' hs' hne o=>hk1 _ _ (S.old.2.2 i s' hi hs') (hRb _ (S.ge.2.2 i s' hi hs')) (fun e=>(S.pc.frc i s' hi hs').2.2.1 i hi e.1) (S.pc.dcc i s' i s hi hs' hi hs (fun e=>hne e.2)))
theorem H7{B:Nat}{P:List E}{g:Nat}{gb:Nat->Nat}{cb:Nat->Nat->Nat}(h:GeB B P g gb cb){i s m:Nat}(hi:i<P.length)(c:K):GeB B (nG P i s m c) g gb cb:=by
 have hl:(nG P i s m c).length=P.length:=by simp[nG]
 have eR:∀t,(eu (nG P i s m c) t).length=(eu P t).length:=fun t=>by
  show((nG P i s m c).getD t E.zero).rules.length=_;unfold nG;rw[iP P i t _ _ hi];by_cases e:t=i
  ·subst e;rw[if_pos rfl];simp
  rw[if_neg e]
 exact⟨fun hn=>h.1 (fun e=>hn (by rw[<-dG,hl,e];rfl)),fun t ht=>h.2.1 t (by omega),fun t s' ht hs=>h.2.2 t s' (by omega) (by rw[eR]at hs;exact hs)⟩
def OldB(N:Nat)(P:List E)(g:Nat)(gb:Nat->Nat)(cb:Nat->Nat->Nat):Prop:=(P≠[]->g<N)∧(∀t,t<P.length->gb t<N)∧∀t s,t<P.length->s<(eu P t).length->cb t s<N
theorem G8{N:Nat}{P:List E}{g:Nat}{gb:Nat->Nat}{cb:Nat->Nat->Nat}(h:OldB N P g gb cb){i s m:Nat}(hi:i<P.length)(c:K):OldB N (nG P i s m c) g gb cb:=by
 have hl:(nG P i s m c).length=P.length:=by simp[nG]
 have eR:∀t,(eu (nG P i s m c) t).length=(eu P t).length:=fun t=>by
  show((nG P i s m c).getD t E.zero).rules.length=_;unfold nG;rw[iP P i t _ _ hi];by_cases e:t=i
  ·subst e;rw[if_pos rfl];simp
  rw[if_neg e]
 exact⟨fun hn=>h.1 (fun e=>hn (by rw[<-dG,hl,e];rfl)),fun t ht=>h.2.1 t (by omega),fun t s' ht hs=>h.2.2 t s' (by omega) (by rw[eR]at hs;exact hs)⟩
theorem SpS.good{w W:World}{R cap j B:Nat}{ad:Option Addr}{l:List Int}{v u:Value}{P:List E}{g:Nat}{gb:Nat->Nat}{cb:Nat->Nat->Nat}(S:SpS w W R ad cap l j B v P g gb cb){i s m:Nat}(hi:i<P.length)(hs:s<(eu P i).length)(hm:m<(fh P i s).length)(c:K):
 fE B R ad cap l ((nG P i s m c,j),false) w ((((W.setCell ⟨cb i s,m*3,none⟩ (.int .i64 c.kind)).setCell ⟨cb i s,m*3+1,none⟩ (.int .u64 (c.a:Int))).setCell ⟨cb i s,m*3+2,none⟩ (.int .u64 (c.b:Int))).setCell ⟨w.heap.size+1,0,none⟩ u) v:=by
 have hpk:=S.pc.putK hi hs hm c;have hRB:=S.lt;have hB:=S.hB;have hsz:=S.sz;have hcB:=S.ge.2.2 i s hi hs;have hcw:=S.old.2.2 i s hi hs;have ho:OldB w.heap.size (nG P i s m c) g gb cb:=G8 S.old hi c;obtain⟨W9,hW9⟩:∃W9,((W.setCell ⟨cb i s,m*3,none⟩ (.int .i64 c.kind)).setCell ⟨cb i s,m*3+1,none⟩ (.int .u64 (c.a:Int))).setCell ⟨cb i s,m*3+2,none⟩ (.int .u64 (c.b:Int))=W9:=⟨_,rfl⟩;have g9:W.grownBy W9 (some (cb i s)):=by rw[<-hW9];exact fG (fG (fG (ah _ _) _ _) _ _) _ _
 rw[hW9]at hpk⊢;have hs9:=g9.size;have hset:W9.grownBy (W9.setCell ⟨w.heap.size+1,0,none⟩ u) (some (w.heap.size+1)):=fG (ah _ _) _ _;have hbl:∀k,k<w.heap.size->(W9.setCell ⟨w.heap.size+1,0,none⟩ u).heap[k]? =W9.heap[k]? :=fun k hk=>aE W9 ⟨w.heap.size+1,0,none⟩ _ k (fun e=>by simp at e;omega)
 have hrd':=(S.rd.grown g9 hRB (fun k hk=>by simp at hk;omega)).ey (w1:=W9.setCell ⟨w.heap.size+1,0,none⟩ u) (fun k hk=>hbl k (by omega));exact⟨⟨_,hrd'⟩,((FrB.of S.gr hB (fun k hk=>by simp at hk;omega)).trans (FrB.of g9 (by omega) (fun k hk=>by simp at hk;omega))).trans (FrB.of hset (by omega) (fun k hk=>by simp at hk;omega)),.inr ⟨rfl,hrd',g,gb,cb,PsC.far (P:=nG P i s m c) hpk (by simp) (fun hn=>hbl _ (ho.1 hn)) (fun t ht=>hbl _ (ho.2.1 t ht)) (fun t s' ht hs'=>hbl _ (ho.2.2 t s' ht hs')),H7 S.ge hi c⟩⟩
structure LpS(w5 W:World)(R:Nat)(ad:Option Addr)(cap:Nat)(l:List Int)(B g gi i rn:Nat)(xs:List Value)(v0:Value)(k q o cq:Nat):Prop where
 rd:∃j,Rd W R ad cap l j
 fr:FrB B R w5 W
 c:W.cell? ⟨g,i*3+2,none⟩=some (.slice (some ⟨q,o,none⟩) k cq)
 sl:SlC W 1 q o k cq (xs++List.replicate (k-rn) v0)
 ey:∀b o',b<w5.heap.size->¬(b=g∧o'=i*3+2)->¬(b=gi∧rn<=o')->W.cell? ⟨b,o',none⟩=w5.cell? ⟨b,o',none⟩
 frz:∀b o',b<w5.heap.size->W.frozen? ⟨b,o',none⟩=w5.frozen? ⟨b,o',none⟩
 at':(q=gi∧o=0)∨w5.heap.size<=q
 le:rn<=k∧k<=201
theorem LpS.next{w5 W WA w9:World}{R cap B g gi i rn k q o cq g' o' cap':Nat}{ad:Option Addr}{l:List Int}{xs:List Value}{v0:Value}(h:LpS w5 W R ad cap l B g gi i rn xs v0 k q o cq)(hk:k<201)(bA:Below W.heap.size W WA)(A:ApC WA 1 q o k (xs++List.replicate (k-rn) v0++[v0]) w9 g' o' cap')(hRB:R<B)(hB:B<=w5.heap.size)(hgB:B<=g)(hgw:g<w5.heap.size)(hgi:gi≠g)(hgiB:B<=gi):
 LpS w5 (w9.setCell ⟨g,i*3+2,none⟩ (.slice (some ⟨g',o',none⟩) (k+1) cap')) R ad cap l B g gi i rn xs v0 (k+1) g' o' cap':=by
 obtain⟨j,hrd⟩:=h.rd;have hs1:=h.fr.size;have hs2:=bA.size;have hs3:=A.gr.size;have hle:=h.le;have hqg:q≠g:=by rcases h.at' with⟨e,_⟩|e<;>omega
 have hqB:B<=q:=by rcases h.at' with⟨e,_⟩|e<;>omega
 have hg'g:g'≠g:=by rcases A.at' with⟨e,_⟩|⟨e,_⟩<;>omega
 have hset:w9.grownBy (w9.setCell ⟨g,i*3+2,none⟩ (.slice (some ⟨g',o',none⟩) (k+1) cap')) (some g):=fG (ah _ _) _ _;refine⟨⟨j,((hrd.below bA).grown A.gr hRB (fun k hk=>by simp at hk;omega)).ey (fun k hk=>aE w9 ⟨g,i*3+2,none⟩ _ k (fun e=>by simp at e;omega))⟩,((h.fr.trans (FrB.of (fJ bA (r:=none)) (by omega) (fun k hk=>by cases hk))).trans (FrB.of A.gr (by omega) (fun k hk=>by simp at hk;omega))).trans (FrB.of hset (by omega) (fun k hk=>by simp at hk;omega)),aG _ _ _ ((A.lg bA (by omega) (fun e=>hqg e.1.symm)).trans h.c),?_,fun b o'' hb h1 h2=> ?_,fun b o'' hb=> ?_,?_,by omega⟩
 ·have e:xs++List.replicate (k-rn) v0++[v0]=xs++List.replicate (k+1-rn) v0:=by rw[aF,<-List.replicate_succ',show k-rn+1=k+1-rn by omega]
  rw[<-e];exact A.sl.far (by simp) (aE w9 ⟨g,i*3+2,none⟩ _ g' (fun e=>hg'g (by simpa using e)))
 ·rw[py h1,A.lg bA (by omega) (fun e=> ?_)]
  ·exact h.ey b o'' hb h1 h2
  rcases h.at' with⟨e1,e2⟩|e1
  ·exact h2 ⟨by omega,by omega⟩
  omega
 ·have:=(A.yN bA (b':=b) (o:=o'') (by omega)).trans (h.frz b o'' hb);simpa using this
 rcases A.at' with⟨e1,e2⟩|⟨e1,_⟩
 ·rcases h.at' with⟨f1,f2⟩|f1
  ·exact .inl ⟨by omega,by omega⟩
  exact .inr (by omega)
 exact .inr (by omega)
theorem LpS.fin{w W W9:World}{R cap j B:Nat}{ad:Option Addr}{l:List Int}{v u:Value}{P:List E}{D:List E×Nat}{g:Nat}{gb:Nat->Nat}{cb:Nat->Nat->Nat}(S:SpS w W R ad cap l j B v P g gb cb)(hPn:P≠[])(hP:∀e∈P,OkE e)(hl4:P.length<=4){i cR q o cq cp c0:Nat}{xs:List Value}(hi:i<P.length)(h0:0<(eu P i).length)
 (sl:SlC W 1 (gb i) 0 (eu P i).length cR xs)(ev:W.cell? ⟨gb i,0,none⟩=some (.slice (some ⟨cb i 0,0,none⟩) (fh P i 0).length c0))(L:LpS W W9 R ad cap l B g (gb i) i (eu P i).length xs (.slice (some ⟨cb i 0,0,none⟩) (fh P i 0).length c0) 201 q o cq)(hcp:P.length<=cp):
 fE B R ad cap l (D,true) w (W9.setCell ⟨w.heap.size+1,0,none⟩ u) (.slice (some ⟨g,0,none⟩) P.length cp):=by
 have hRB:=S.lt
 have hB:=S.hB
 have hsz:=S.sz
 have hs9:=L.fr.size
 have hgB:=S.ge.1 hPn
 have hgw:=S.old.1 hPn
 have hOk:=hP _ (gq (d:=E.zero) hi)
 have hGo:=mo hOk
 have hr9:(eu P i).length<=9:=hOk.2.2.2
 have hRb:∀b,B<=b->B<=b:=fun b hb=>hb
 have hrl:(eu P i++List.replicate (201-(eu P i).length) (fh P i 0)).length=201:=by rw[aj,List.length_replicate];omega
 have hmem:∀{Q:List K->Prop},(∀r∈eu P i,Q r)->∀r∈eu P i++List.replicate (201-(eu P i).length) (fh P i 0),Q r:=fun{Q}hQ r hr=>by
  rcases bj.1 hr with h|h
  ·exact hQ r h
  ·rw[(List.mem_replicate.1 h).2];exact hQ _ (gq h0)
 refine S.bad L.rd L.fr (P.set i ⟨(P.getD i E.zero).et,(P.getD i E.zero).nr,eu P i++List.replicate (201-(eu P i).length) (fh P i 0)⟩) (some ⟨g,0,none⟩) cp (by rw[aK]) (by rw[aK];exact hcp) (lJ (fun e he=>mo (hP e he)) (tW hGo (hmem hGo.1.2.2) (by rw[hrl];decide) (hmem hGo.2.2))) (by rw[aK];omega) (nL (i:=i) (by rw[aK];omega) (by rw[iP P i i _ _ hi,if_pos rfl];exact zx (by show 200<(eu P i++List.replicate (201-(eu P i).length) (fh P i 0)).length;rw[hrl];decide))) (fun w1 hk=> ?_)
 have hks:=hk.size
 have hgi:=S.pc.frr i hi
 have hk1:∀b o,b<w.heap.size->B<=b->¬(b=g∧o=i*3+2)->¬(b=gb i∧(eu P i).length<=o)->w1.cell? ⟨b,o,none⟩=W.cell? ⟨b,o,none⟩:=fun b o hb h1 h2 h3=>(hk.cell b o (by omega) h1 (by omega)).trans (L.ey b o (by omega) h2 h3)
 have hq9:=L.sl.lt
 have hiw:=S.old.2.1 i hi
 have hiB:=S.ge.2.1 i hi
 have hqq:B<=q∧q≠w.heap.size+1:=by
  rcases L.at' with⟨e,_⟩|e
  ·omega
  ·omega
 refine S.pc.putE S.ge (by omega) hi (fun o ho=>hk1 _ _ hgw (hRb _ hgB) (fun e=>ho e.2) (fun e=>hgi.2.1 e.1.symm)) (a:=some ⟨q,o,none⟩) (c:=cq) (by rw[hrl];exact(hk.cell g _ (by omega) (hRb _ hgB) (by omega)).trans L.c) ?_ (fun t ht hne s' hs'=>hk1 _ _ (S.old.2.1 t ht) (hRb _ (S.ge.2.1 t ht)) (fun e=>(S.pc.frr t ht).2.1 e.1) (fun e=>S.pc.drr t i ht hi hne e.1)) (fun t ht hne s' hs' o'=>hk1 _ _ (S.old.2.2 t s' ht hs') (hRb _ (S.ge.2.2 t s' ht hs')) (fun e=>(S.pc.frc t s' ht hs').2.1 e.1) (fun e=>(S.pc.frc t s' ht hs').2.2.1 i hi e.1))
 refine .inr ⟨q,o,rfl,hqq.1,by omega,LAt.of [] fun s hs=> ?_⟩
 rw[hrl]at hs
 rw[bR]
 have hc1:w1.cell? ⟨q,o+s,none⟩=(xs++List.replicate (201-(eu P i).length) (.slice (some ⟨cb i 0,0,none⟩) (fh P i 0).length c0))[s]? :=(hk.cell q _ hq9 hqq.1 hqq.2).trans (L.sl.cellAt (by omega))
 have hxl:=sl.len
 have hks':∀s',s'<(eu P i).length->ga B 3 PK w1 (some ⟨cb i s',0,none⟩) (fh P i s'):=fun s' hs'=>S.pc.ksB S.ge (by omega) hi hs' (fun o'=>hk1 _ _ (S.old.2.2 i s' hi hs') (hRb _ (S.ge.2.2 i s' hi hs')) (fun e=>(S.pc.frc i s' hi hs').2.1 e.1) (fun e=>(S.pc.frc i s' hi hs').2.2.1 i hi e.1))
 by_cases hsr:s<(eu P i).length
 ·have eg:(eu P i++List.replicate (201-(eu P i).length) (fh P i 0)).getD s []=fh P i s:=by rw[aa,aD hsr];exact List.getD_eq_getElem?_getD.symm
  rw[eg]
  obtain⟨c,_,e⟩:=S.pc.rul i s hi hsr
  refine⟨_,c,hc1.trans ?_,hks' s hsr⟩
  rw[aD (by omega),<-sl.cellAt (j:=s) (by omega),aC]
  exact e
 ·have eg:(eu P i++List.replicate (201-(eu P i).length) (fh P i 0)).getD s []=fh P i 0:=by rw[aa,aw (by omega),List.getElem?_replicate,if_pos (by omega)];rfl
  rw[eg]
  refine⟨_,c0,hc1.trans ?_,hks' 0 h0⟩
  rw[aw (by omega),List.getElem?_replicate,if_pos (by omega)]
theorem ga.take{α:Type}{B k:Nat}{Q:World->Nat->Nat->α->Prop}{w:World}{a:Option Addr}{l:List α}(h:ga B k Q w a l)(n:Nat):ga B k Q w a (l.take n):=by
 rcases h with h|⟨b,o,ha,hB,hlt,hc⟩
 ·exact .inl (by rw[h];simp)
 exact .inr ⟨b,o,ha,hB,hlt,fun i hi=>by
 have h2:i<l.length:=by simp at hi;omega
 have:=hc i h2
 simpa using this⟩
end Go.Proofs.YtdihdapmphkhpaaGreat
namespace Go.Proofs.YtdihdapmphkhpaaGreat
open Go.RowKit Go.Deep
variable{B R cap:Nat}{P:List E}{W w:World}{ad:Option Addr}{l:List Int}{v:Value}
def Asc2(P:List E):Prop:=2<=P.length->jG (P.getD 0 E.zero) (P.getD 1 E.zero)=true
theorem Iv  (hl : eV l) (F : Nat -> K × Nat) (f i : Nat) (et nr : Int) (P : List E) (j : Nat) (hi : i = P.length) (hn : 0 <= nr ∧ nr <= 2 + 4 * i) (hif : i + f <= 4) (h1 : P.length = 1 -> (P.getD 0 E.zero).et = et ∧ (P.getD 0 E.zero).nr = nr) (h2 : Asc2 P) : Asc2 (goP l F f i et nr P j).1 := by
  induction f generalizing i et nr P j with
  | zero => exact h2
  | succ f ih =>
    have hb := ez hl j
    have step : ∀ rs : List (List K), Asc2 (P ++ [(⟨iR i et (l.getD j 0), nrP i nr (l.getD j 0), rs⟩ : E)]) := fun rs hlen => by
      rw [aj, bG] at hlen
      have g0 : (P ++ [(⟨iR i et (l.getD j 0), nrP i nr (l.getD j 0), rs⟩ : E)]).getD 0 E.zero = P.getD 0 E.zero := by
        rw [aa, aD (by omega), aa]
      by_cases hp : P.length = 1
      · obtain ⟨ha, hr⟩ := h1 hp
        have g1 : (P ++ [(⟨iR i et (l.getD j 0), nrP i nr (l.getD j 0), rs⟩ : E)]).getD 1 E.zero = ⟨iR i et (l.getD j 0), nrP i nr (l.getD j 0), rs⟩ := by
          rw [aa, aw (by omega), hp]; rfl
        rw [g0, g1]
        unfold jG iR nrP
        rw [ha, hr]
        by_cases h5 : l.getD j 0 % 5 = 0
        · rw [if_pos (.inl h5)]
          simp; left; omega
        · rw [if_neg (by omega), if_neg (by omega : ¬ (l.getD j 0 % 5 = 0 ∨ i = 0))]
          simp
          split <;> omega
      · have g1 : (P ++ [(⟨iR i et (l.getD j 0), nrP i nr (l.getD j 0), rs⟩ : E)]).getD 1 E.zero = P.getD 1 E.zero := by
          rw [aa, aD (by omega), aa]
        rw [g0, g1]
        exact h2 (by omega)
    unfold goP
    split
    · exact step _
    · have hn2 := Ci (i := i) (k := l.getD j 0) ⟨hb.1, by omega⟩ hn
      refine ih (i + 1) _ _ _ _ (by rw [aj, bG]; omega) hn2 (by omega) (fun hlen => ?_) (step _)
      rw [aj, bG] at hlen
      have : P = [] := aM (by omega)
      subst this
      exact ⟨rfl, rfl⟩
theorem E0(hl:eV l)(F:Nat->K×Nat)(j:Nat):Asc2 (iV l F j).1:=by
 have hb:=ez hl j;unfold iV;exact Iv hl F _ 0 0 0 [] (j+1) rfl (by omega) (by omega) (fun h=>by simp at h) (fun h=>by simp at h)
def mi(l:List Int)(F:Nat->K×Nat)(j:Nat):List E:=
 if l.getD j 0%60=0 then j6 5 (200+(l.getD (j+1) 0%2).toNat)
 else if l.getD j 0%60=1 then j6 (249+(l.getD (j+1) 0%3).toNat) 4
 else if l.getD j 0%60<10 then spP l (iV l F (j+1)).1 (iV l F (j+1)).2
 else(iV l F (j+1)).1
def rY(l:List Int)(F:Nat->K×Nat)(j:Nat):Nat:=
 if l.getD j 0%60<2 then j+2
 else if l.getD j 0%60<10 then spN (iV l F (j+1)).1 (iV l F (j+1)).2
 else(iV l F (j+1)).2
def uW(l:List Int)(F:Nat->K×Nat)(j:Nat):Bool:=
 if l.getD j 0%60<2 then false
 else if l.getD j 0%60<10 then spB l (iV l F (j+1)).1 (iV l F (j+1)).2
 else false
theorem rp{j:Nat}{u:Value}{rv:Nat->Value}{lo hi:Nat->Nat}(hp:PsD W B v P rv lo hi)(hB:w.heap.size<B)(hrd:Rd W R ad cap l j)(hgr:w.grownBy W (some R))(hR:R<w.heap.size):fE w.heap.size R ad cap l ((P,j),false) w (W.setCell ⟨w.heap.size,0,none⟩ u) v:=by
 obtain⟨g,gb,cb,pc,gg,gr1,gc1⟩:=hp.psc;have hset:W.grownBy (W.setCell ⟨w.heap.size,0,none⟩ u) (some w.heap.size):=fG (ah _ _) _ _;have hbl:∀k,B<=k->(W.setCell ⟨w.heap.size,0,none⟩ u).heap[k]? =W.heap[k]? :=fun k hk=>aE W ⟨w.heap.size,0,none⟩ _ k (fun e=>by simp at e;omega)
 have g1:P≠[]->B<=g:=gg;have g2:∀t,t<P.length->B<=gb t:=fun t ht=>by have:=gr1 t ht;have:=hp.lt t ht;omega
 have g3:∀t s,t<P.length->s<(eu P t).length->B<=cb t s:=fun t s ht hs=>by have:=gc1 t s ht hs;have:=hp.lt t ht;omega
 have hrd':=hrd.ey (w1:=W.setCell ⟨w.heap.size,0,none⟩ u) (fun k hk=>aE W ⟨w.heap.size,0,none⟩ _ k (fun e=>by simp at e;omega));exact⟨⟨j,hrd'⟩,(FrB.of hgr (ae _) (fun k hk=>by simp at hk;omega)).trans (FrB.of hset hgr.size (fun k hk=>by simp at hk;omega)),.inr ⟨rfl,hrd',g,gb,cb,pc.far (by simp) (fun hn=>hbl _ (g1 hn)) (fun t ht=>hbl _ (g2 t ht)) (fun t s ht hs=>hbl _ (g3 t s ht hs)),fun hn=>by have:=g1 hn;omega,fun t ht=>by have:=g2 t ht;omega,fun t s ht hs=>by have:=g3 t s ht hs;omega⟩⟩
theorem Bi{W2:World}{u:Value}{D:(List E×Nat)×Bool}(h:fE B R ad cap l D W W2 v)(hB:w.heap.size<B)(hBW:B<=W.heap.size)(hgr:w.grownBy W (some R))(hR:R<w.heap.size):fE w.heap.size R ad cap l D w (W2.setCell ⟨w.heap.size,0,none⟩ u) v:=by
 obtain⟨j,hrd⟩:=h.rd;have hg2:=h.fr.grown hgr (by omega);have hset:W2.grownBy (W2.setCell ⟨w.heap.size,0,none⟩ u) (some w.heap.size):=fG (ah _ _) _ _;have hbl:∀k,B<=k->(W2.setCell ⟨w.heap.size,0,none⟩ u).heap[k]? =W2.heap[k]? :=fun k hk=>aE W2 ⟨w.heap.size,0,none⟩ _ k (fun e=>by simp at e;omega)
 refine⟨⟨j,hrd.ey (fun k hk=>aE W2 ⟨w.heap.size,0,none⟩ _ k (fun e=>by simp at e;omega))⟩,(FrB.of hg2 (ae _) (fun k hk=>by simp at hk;omega)).trans (FrB.of hset hg2.size (fun k hk=>by simp at hk;omega)),?_⟩;rcases h.or with⟨hD,P,a,c,h1,h2,h3,h4,h5,h6⟩|⟨hD,hr2,g,gb,cb,pc,g1,g2,g3⟩
 ·exact .inl ⟨hD,P,a,c,h1,h2,h3,h4,h5,xt (sI h6 ⟨by simp,fun k hk _=>hbl k hk⟩) (by omega)⟩
 exact .inr ⟨hD,hr2.ey (fun k hk=>aE W2 ⟨w.heap.size,0,none⟩ _ k (fun e=>by simp at e;omega)),g,gb,cb,pc.far (by simp) (fun hn=>hbl _ (g1 hn)) (fun t ht=>hbl _ (g2 t ht)) (fun t s ht hs=>hbl _ (g3 t s ht hs)),fun hn=>by have:=g1 hn;omega,fun t ht=>by have:=g2 t ht;omega,fun t s ht hs=>by have:=g3 t s ht hs;omega⟩
theorem fE.form{D:(List E×Nat)×Bool}{w':World}(h:fE B R ad cap l D w w' v):∃a n c,v=.slice a n c:=by
 rcases h.or with⟨_,P,a,c,h1,_⟩|⟨_,_,g,gb,cb,pc,_⟩
 ·exact⟨_,_,_,h1⟩
 obtain⟨a,c,h1,_⟩:=pc.val;exact⟨_,_,_,h1⟩
theorem iT.refl(B:Nat)(w:World):iT B w w:=⟨ae _,fun _ _ _=>rfl⟩
theorem iT.grown{W1:World}(h:iT B w W)(hg:W.grownBy W1 (some R))(hR:R<B):iT B w W1:=
 ⟨aW h.1 hg.size,fun k h1 h2=>(hg.block k (an h2 h.1) (by simp;omega)).trans (h.2 k h1 h2)⟩
theorem iT.below{W1:World}(h:iT B w W)(hb:Below W.heap.size W W1):iT B w W1:=
 ⟨aW h.1 hb.size,fun k h1 h2=>(hb.block k (an h2 h.1)).trans (h.2 k h1 h2)⟩
theorem iT.set{D:Nat}(h:iT B w W)(hD:D<B∨w.heap.size<=D)(i:Nat)(v:Value):iT B w (W.setCell ⟨D,i,none⟩ v):=
 ⟨by have:=h.1;simpa using this,fun k h1 h2=>(aE W ⟨D,i,none⟩ v k (fun e=>by simp at e;omega)).trans (h.2 k h1 h2)⟩
theorem PsC.oj{w1:World}{g:Nat}{gb:Nat->Nat}{cb:Nat->Nat->Nat}(h:PsC w v P g gb cb)(ge:GeB B P g gb cb)(hk:iT B w w1):PsC w1 v P g gb cb:=
 h.far hk.1 (fun hn=>hk.2 _ (ge.1 hn) (h.frg hn).1) (fun t ht=>hk.2 _ (ge.2.1 t ht) (h.frr t ht).1) (fun t s ht hs=>hk.2 _ (ge.2.2 t s ht hs) (h.frc t s ht hs).1)
theorem GeB.mono{B':Nat}{g:Nat}{gb:Nat->Nat}{cb:Nat->Nat->Nat}(h:GeB B P g gb cb)(hB:B'<=B):GeB B' P g gb cb:=
 ⟨fun hn=>aW hB (h.1 hn),fun t ht=>aW hB (h.2.1 t ht),fun t s ht hs=>aW hB (h.2.2 t s ht hs)⟩
def tB(B:Nat)(D:List E)(w:World)(v:Value):Prop:=∃g gb cb,PsC w v D g gb cb∧GeB B D g gb cb
theorem tB.src{D:List E}{a:Option Addr}{c:Nat}(h:tB B D w (.slice a D.length c)):eS 3 PE w a D:=by
 obtain⟨g,gb,cb,pc,ge⟩:=h;obtain⟨a',cap,e,_,h1⟩:=pc.srcB ge;simp only[bs]at e;rw[e.1];exact yR h1
theorem tB.form{D:List E}(h:tB B D w v):∃a c,v=.slice a D.length c:=by
 obtain⟨g,gb,cb,pc,ge⟩:=h;obtain⟨a',cap,e,_⟩:=pc.val;exact⟨a',cap,e⟩
end Go.Proofs.YtdihdapmphkhpaaGreat
namespace Go.Proofs.YtdihdapmphkhpaaGreat
open Go.RowKit
variable{G R cap j:Nat}{W w:World}{a:Option Addr}{l xs:List Int}{v:Value}{x y:Int}
def pC(l:List Int)(j:Nat):Int:=if l.getD j 0%8<6 then 3221225534 else if l.getD j 0%8=6 then 1073741827 else 7
def nrD(l:List Int)(j:Nat):Int:=if 240<l.getD (j+1) 0 then kB l (j+2)else l.getD (j+1) 0%6
def nrJ(l:List Int)(j:Nat):Nat:=if 240<l.getD (j+1) 0 then jK l (j+2)else j+2
def agD(l:List Int)(k:Int)(j:Nat):Nat->List Int×Nat
 |0=>([],j)
 |i+1=>if 2<i∧0<k%4 then((agD l k j i).1++[0],(agD l k j i).2)else((agD l k j i).1++[j9 l (agD l k j i).2],k9 l (agD l k j i).2)
def mN(l:List Int)(j:Nat):C:=⟨pC l j,nrD l j,(agD l (l.getD (j+1) 0) (nrJ l j) 6).1⟩
def oH(l:List Int)(j:Nat):Nat:=(agD l (l.getD (j+1) 0) (nrJ l j) 6).2
theorem zj(l:List Int)(k:Int)(j i:Nat):agD l k j (i+1)=if 2<i∧0<k%4 then((agD l k j i).1++[0],(agD l k j i).2)else((agD l k j i).1++[j9 l (agD l k j i).2],k9 l (agD l k j i).2):=rfl
theorem CV(l:List Int)(k:Int)(j i:Nat):(agD l k j i).1.length=i:=by
 induction i with
 |zero=>rfl
 |succ i ih=>
  unfold agD;split<;>simp[ih]
theorem agD_ok(l:List Int)(hl:eV l)(k:Int)(j i:Nat):∀x∈(agD l k j i).1,gA x:=by
 induction i with
 |zero=>intro x hx;simp[agD]at hx
 |succ i ih=>
  unfold agD;split
  ·intro x hx;simp only[bj,aV]at hx;rcases hx with hx|rfl
   ·exact ih x hx
   unfold gA;omega
  intro x hx;simp only[bj,aV]at hx;rcases hx with hx|rfl
  ·exact ih x hx
  exact rO l hl _
theorem FN(l:List Int)(hl:eV l)(j:Nat):(mN l j).ok∧(mN l j).args.length=6:=by
 refine⟨⟨?_,?_,?_,?_,agD_ok l hl _ _ 6⟩,CV l _ _ 6⟩
 ·show 0<=pC l j;unfold pC;split<;>(try split)<;>omega
 ·show pC l j<=_;unfold pC;split<;>(try split)<;>omega
 ·show 0<=nrD l j
  have:=kU l hl (j+2);unfold nrD;split<;>omega
 show nrD l j<=_
 have:=kU l hl (j+2);unfold nrD;split<;>omega
theorem Gk(R cap:Nat)(a:Option Addr)(l:List Int)(j:Nat)(w:World)(hR:Rd w R a cap l j):
 Calls Tryz.prog 78 #[.pointer (some ⟨R,0,none⟩)] w fun e w'=>e=.returned (.int .u32 (pC l j))∧Rd w' R a cap l (j+1)∧w.grownBy w' (some R):=by
 have hx:=ez hR.bys j;have HN1:=nx1 R cap a l j (j+1) rfl;obtain⟨V,hV⟩:∃V,pC l j=V:=⟨_,rfl⟩;rw[hV];unfold pC at hV;generalize l.getD j 0=x at*;have HV:Hid _:=hV;clear hV;go_enter Tryz.func78,Tryz.ntmps78;go_wp2_with fail;refine(HN1.out _ hR).mono ?_;rintro _ w1⟨rfl,hR1,hg1⟩;by_cases c1:x%8<6
 ·have hV:V=3221225534:=by rw[<-HV.out,if_pos c1]
  subst hV;clear HV;go_wp2;go_ret;exact⟨rfl,hR1,hg1⟩
 by_cases c2:x%8=6
 ·have hV:V=1073741827:=by rw[<-HV.out,if_neg c1,if_pos c2]
  subst hV;clear HV;go_wp2;go_ret;exact⟨rfl,hR1,hg1⟩
 have hV:V=7:=by rw[<-HV.out,if_neg c1,if_neg c2]
 have c3:x%8=7:=by omega
 subst hV;clear HV;go_wp2;go_ret;refine⟨fL ?_,hR1,hg1⟩;rfl
theorem jT{wr:World}{B:Nat}(h:w.grownBy wr (some R))(hB:w.heap.size<=B)(j:Nat)(v:Value):w.grownBy (wr.setCell ⟨B,j,none⟩ v) (some R):=
 ⟨h.os,h.tape,h.output,by have:=h.size;simpa[World.setCell]using this,fun k hk hne=>(aE wr ⟨B,j,none⟩ v k (fun e=>by simp at e;omega)).trans (h.block k hk hne)⟩
theorem Rd.tG(h:Rd w R a cap l j)(B i:Nat)(hB:R<B)(v:Value):Rd (w.setCell ⟨B,i,none⟩ v) R a cap l j:=
 h.ey (fun k hk=>aE w ⟨B,i,none⟩ v k (fun e=>by simp at e;omega))
theorem fY.gX{w1:World}{g:Nat}{x y z:Value}{row:Option Nat}(h:fY w g x y z)(hg:w.grownBy w1 row)(hne:some g≠row):fY w1 g x y z:=by
 have e:=hg.block g h.lt hne;have ec:∀o,w1.cell? ⟨g,o,none⟩=w.cell? ⟨g,o,none⟩:=fun o=>aN (w:=w) e
 have ef:∀o,w1.frozen? ⟨g,o,none⟩=w.frozen? ⟨g,o,none⟩:=fun o=>by simp[World.frozen?,e]
 exact⟨an h.lt hg.size,(ec 0).trans h.c0,(ec 1).trans h.c1,(ec 2).trans h.c2,(ef 0).trans h.f0,(ef 1).trans h.f1,(ef 2).trans h.f2⟩
theorem sD{w1:World}{B:Nat}(h:iq w B v l)(hg:w.grownBy w1 (some R))(hR:R<B):iq w1 B v l:=
 vD h hg (fun q hq e=>by
  have h1:=(h.lt q hq).1
  have h2:q=R:=by simpa using e
  omega)
theorem fY.sW{g D i:Nat}{x y z u:Value}(h:fY w g x y z)(hne:g≠D):fY (w.setCell ⟨D,i,none⟩ u) g x y z:=
 h.gX (fG (ah w (some D)) i u) (fun e=>hne (by simpa using e))
structure DcS(w W:World)(R:Nat)(a:Option Addr)(cap:Nat)(l:List Int)(j G:Nat)(x y:Int)(v:Value)(xs:List Int):Prop where
 rd:Rd W R a cap l j
 box:fY W G (.int .u32 x) (.int .u32 y) v
 res:fY W w.heap.size (.int .u32 0) (.int .u32 0) (.slice none 0 0)
 own:iq W (G+1) v xs
 gr:w.grownBy W (some R)
 lt:R<w.heap.size
 hb:w.heap.size<G
theorem DcS.draw{W1:World}{j1:Nat}(h:DcS w W R a cap l j G x y v xs)(hr:Rd W1 R a cap l j1)(hg:W.grownBy W1 (some R)):DcS w W1 R a cap l j1 G x y v xs:=
 have h1:=h.lt
 have h2:=h.hb
 ⟨hr,h.box.gX hg (fun e=>by simp at e;omega),h.res.gX hg (fun e=>by simp at e;omega),sD h.own hg (by omega),eU h.gr hg,h1,h2⟩
theorem DcS.below{w W W1:World}{R cap j G:Nat}{a:Option Addr}{l xs:List Int}{x y:Int}{v:Value}(h:DcS w W R a cap l j G x y v xs)(hb:Below W.heap.size W W1):DcS w W1 R a cap l j G x y v xs:=
 ⟨h.rd.below hb,h.box.ey hb,h.res.ey hb,pG h.own hb,eU h.gr (fJ hb),h.lt,h.hb⟩
theorem DcS.alloc{w W:World}{R cap j G:Nat}{a:Option Addr}{l xs:List Int}{x y:Int}{v:Value}(h:DcS w W R a cap l j G x y v xs)(o:Obj):DcS w (W.alloc o) R a cap l j G x y v xs:=
 h.below ((af _ _).alloc (ae _) o)
theorem DcS.drew{w W:World}{R cap j G:Nat}{a:Option Addr}{l xs:List Int}{x y:Int}{v:Value}(h:DcS w W R a cap l j G x y v xs):DcS w W.drew R a cap l j G x y v xs:=
 h.below (af _ _).drew
theorem DcS.push{W1:World}{ys:List Int}{v1:Value}(h:DcS w W R a cap l j G x y v xs)(hg:W.grownBy W1 v.ownBlock)(ho:iq W1 (G+1) v1 ys):DcS w (W1.setCell ⟨G,2,none⟩ v1) R a cap l j G x y v1 ys:=by
 have hge:∀k,v.ownBlock=some k->G+1<=k:=fun k hk=>(h.own.lt k hk).1
 have hlt:=h.lt;have hb:=h.hb;refine⟨(h.rd.grown hg (by omega:R<G+1) hge).tG G 2 (by omega) _,(h.box.gX hg (fun e=>by have:=hge G e.symm;omega)).set2 _,(h.res.gX hg (fun e=>by have:=hge _ e.symm;omega)).sW (by omega),uA ho,jT (jx h.gr hg (fun k hk=>by have:=hge k hk;omega)) (by omega) 2 _,hlt,hb⟩
theorem DcS.nr(h:DcS w W R a cap l j G x y v xs)(y1:Int):DcS w (W.setCell ⟨G,1,none⟩ (.int .u32 y1)) R a cap l j G x y1 v xs:=
 have h1:=h.lt
 have h2:=h.hb
 ⟨h.rd.tG G 1 (by omega) _,h.box.set1 _,h.res.sW (by omega),uA h.own,jT h.gr (by omega) 1 _,h1,h2⟩
end Go.Proofs.YtdihdapmphkhpaaGreat
namespace Go.Proofs.YtdihdapmphkhpaaGreat
open Go.RowKit Go.Deep
structure MnP(w W:World)(G n:Nat)(a1 b1:Option Addr)(c1 cb1:Nat)(D:List E)(X:C):Prop where
 b:Below w.heap.size w W
 lt:G+1<W.heap.size
 p:W.cell? ⟨G,0,none⟩=some (.slice a1 n c1)
 x:fY W (G+1) (.int .u32 X.et) (.int .u32 X.nr) (.slice b1 6 cb1)
 sp:eS 3 PE W a1 D
 su:kV W b1 X.args
theorem MnP.ey{w W W1:World}{G n c1 cb1:Nat}{a1 b1:Option Addr}{D:List E}{X:C}(h:MnP w W G n a1 b1 c1 cb1 D X)(hb:Below W.heap.size W W1):MnP w W1 G n a1 b1 c1 cb1 D X:=
 have hl:=h.lt
 ⟨h.b.trans (hb.mono h.b.size),an hl hb.size,(hb.cell (p:=⟨G,0,none⟩) (by show G<_;omega)).trans h.p,h.x.ey hb,h.sp.below PE.stays hb,h.su.below hb⟩
theorem MnP.new{w w1:World}{n c1 cb1:Nat}{a1 b1:Option Addr}{D:List E}{X:C}(hb:Below w.heap.size w w1)(hp:eS 3 PE w1 a1 D)(hu:kV w1 b1 X.args):
 MnP w ((w1.alloc (.cells #[.slice a1 n c1] 25)).alloc (.cells #[.int .u32 X.et,.int .u32 X.nr,.slice b1 6 cb1] 29)) w1.heap.size n a1 b1 c1 cb1 D X:=by
 have b1':Below w1.heap.size w1 (w1.alloc (.cells #[.slice a1 n c1] 25)):=(af _ _).alloc (ae _) _;have b2:=b1'.alloc (by simp) (.cells #[.int .u32 X.et,.int .u32 X.nr,.slice b1 6 cb1] 29);have e1:(w1.alloc (.cells #[.slice a1 n c1] 25)).heap.size=w1.heap.size+1:=by simp
 have q1:=gw w1 (.slice a1 n c1) 25 _ rfl;obtain⟨c3,_⟩:=eB (g:=w1.heap.size) (o:=0) (fu (ah (w1.alloc (.cells #[.slice a1 n c1] 25)) none) (.cells #[.int .u32 X.et,.int .u32 X.nr,.slice b1 6 cb1] 29)) (by simp) (by simp);have x:=fY.new (w1.alloc (.cells #[.slice a1 n c1] 25)) 29 (.int .u32 X.et) (.int .u32 X.nr) (.slice b1 6 cb1);rw[e1]at x;exact⟨hb.trans (b2.mono hb.size),by simp,c3.trans q1.1,x,hp.below PE.stays b2,hu.below b2⟩
structure MnM(w W:World)(G M n:Nat)(a1 b1 am:Option Addr)(c1 cb1 cm:Nat)(D out:List E)(X:C):Prop where
 s:MnP w W G n a1 b1 c1 cb1 D X
 lt:M<W.heap.size
 m:W.cell? ⟨M,0,none⟩=some (.slice am n cm)
 sm:eS 3 PE W am out
theorem MnM.ey{w W W1:World}{G M n c1 cb1 cm:Nat}{a1 b1 am:Option Addr}{D out:List E}{X:C}(h:MnM w W G M n a1 b1 am c1 cb1 cm D out X)(hb:Below W.heap.size W W1):MnM w W1 G M n a1 b1 am c1 cb1 cm D out X:=
 ⟨h.s.ey hb,an h.lt hb.size,(hb.cell (p:=⟨M,0,none⟩) h.lt).trans h.m,h.sm.below PE.stays hb⟩
structure MnE(w W:World)(G M Z n rl:Nat)(a1 b1 am ar:Option Addr)(c1 cb1 cm cr:Nat)(D out:List E)(X:C)(rs:List (List K)):Prop where
 s:MnM w W G M n a1 b1 am c1 cb1 cm D out X
 lt:Z<W.heap.size
 e:W.cell? ⟨Z,2,none⟩=some (.slice ar rl cr)
 sr:eS 1 PR W ar rs
theorem MnE.ey{w W W1:World}{G M Z n rl c1 cb1 cm cr:Nat}{a1 b1 am ar:Option Addr}{D out:List E}{X:C}{rs:List (List K)}(h:MnE w W G M Z n rl a1 b1 am ar c1 cb1 cm cr D out X rs)(hb:Below W.heap.size W W1):MnE w W1 G M Z n rl a1 b1 am ar c1 cb1 cm cr D out X rs:=
 ⟨h.s.ey hb,an h.lt hb.size,(hb.cell (p:=⟨Z,2,none⟩) h.lt).trans h.e,h.sr.below PR.stays hb⟩
end Go.Proofs.YtdihdapmphkhpaaGreat
