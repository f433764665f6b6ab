import Derived.Test.YtdihdapmphkhpaaGreatQ26
import Derived.Test.YtdihdapmphkhpaaGreatQ41
set_option linter.all false
set_option maxRecDepth 200000
set_option maxHeartbeats 16000000
namespace Go.Proofs.YtdihdapmphkhpaaGreat
open Go.RowKit Go.Shelf
variable{B R n:Nat}{a b:Value}{w w':World}
attribute [local go_sem]Oper.semAt_some
def qp(pre:List BI):Option (List I×Mk):=pre.foldl (fun o x=>o.bind (stI x.1.2)) (some ([],fun _=>none))
theorem nM(pre:List BI)(x:BI):qp (pre++[x])=(qp pre).bind (stI x.1.2):=by unfold qp;rw[List.foldl_append];rfl
theorem uF(it:List It)(ho:∀x∈it,x.ok)(k:Nat)(hk:k<=it.length):qp (mZ (bkF it ho) k)=jc (it.drop (it.length-k)):=by
 induction k with
 |zero=>rw[dY,dC];rfl
 |succ k ih=>
  rw[uM,nM,ih (by omega)];have e:it.length-(k+1)=it.length-1-k:=by omega
  rw[e,j7 (i:=it.length-1-k) (by omega),show it.length-1-k+1=it.length-k by omega]
  cases jc (it.drop (it.length-k))<;>rfl
theorem AF:∀(pre:List BI){s:List I×Mk},pre.length=n->qp pre=some s->(∀k a,s.2 k=some a->a<=s.1.length)∧s.1.length<=n*2:=by
 induction n with
 |zero=>
  intro pre s hp h;have:pre=[]:=aM hp;subst this
  cases h;exact⟨fun k a h=>(by cases h),by simp⟩
 |succ n ih=>
  intro pre s hp h;have hne:pre≠[]:=by intro e;rw[e]at hp;simp at hp
  rw[<-List.dropLast_concat_getLast hne,nM]at h
  cases e:qp pre.dropLast with
  |none=>rw[e]at h;cases h
  |some t=>
   rw[e]at h;obtain⟨h1,h2⟩:=ih pre.dropLast (by simp;omega) e;obtain⟨⟨x,h3,h4⟩,h5⟩:=qc (show stI _ t=some s from h) h1;exact⟨h5,by rw[h3];simp;omega⟩
theorem jI.turn{L Bm:Nat}{v:Value}{p:List I}{m:Mk}{row:Option Nat}(h:jI w L Bm n v p m)(hg:w.grownBy w' row)(hL:L<B)(hr:∀r,row=some r->B<=r∧∃o:Obj,w.heap[r]? =some o∧o.isCells=false):jI w' L Bm n v p m:=by
 have hlt:=h.lt;have hbm:=h.bm;have ne:some L≠row:=fun e=>by have:=(hr L e.symm).1;omega
 have ne2:some Bm≠row:=fun e=>by have:=(hr Bm e.symm).1;omega
 obtain⟨D,d1,d2,d3⟩:=h.mp;refine⟨h.bm,(hg.cell_far ⟨L,0,none⟩ hlt ne).trans h.c0,(hg.cell_far ⟨L,1,none⟩ hlt ne).trans h.c1,(hg.frozen_far ⟨L,0,none⟩ hlt ne).trans h.f0,(by obtain⟨c,f,e⟩:=h.ty;exact⟨c,f,(hg.block L hlt ne).trans e⟩),qO h.own hg (fun q hq e=> ?_),D,d1.kept hg ne2,d2,d3⟩;obtain⟨_,o,h1,h2⟩:=hr q e.symm;rw[xA h.own q o hq h1]at h2;cases h2
structure nB(w:World)(R:Nat)(a b:Value):Prop where
 c0:w.cell? ⟨R,0,none⟩=some a
 f0:w.frozen? ⟨R,0,none⟩=false
 c1:w.cell? ⟨R+1,0,none⟩=some b
 f1:w.frozen? ⟨R+1,0,none⟩=false
theorem nB.turn{row:Option Nat}(h:nB w R a b)(hg:w.grownBy w' row)(hR:R+1<B)(hr:∀r,row=some r->B<=r∧∃o:Obj,w.heap[r]? =some o∧o.isCells=false):nB w' R a b:=by
 have n0:some R≠row:=fun e=>by have:=(hr R e.symm).1;omega
 have n1:some (R+1)≠row:=fun e=>by have:=(hr (R+1) e.symm).1;omega
 exact⟨(hg.cell_far ⟨R,0,none⟩ (fA h.c0) n0).trans h.c0,(hg.frozen_far ⟨R,0,none⟩ (fA h.c0) n0).trans h.f0,(hg.cell_far ⟨R+1,0,none⟩ (fA h.c1) n1).trans h.c1,(hg.frozen_far ⟨R+1,0,none⟩ (fA h.c1) n1).trans h.f1⟩
theorem nB.ey(h:nB w R a b)(hb:Below B w w')(hB:R+1<B):nB w' R a b:=
 ⟨(hb.cell (p:=⟨R,0,none⟩) (show R<B by omega)).trans h.c0,(hb.frozen (p:=⟨R,0,none⟩) (show R<B by omega)).trans h.f0,(hb.cell (p:=⟨R+1,0,none⟩) hB).trans h.c1,(hb.frozen (p:=⟨R+1,0,none⟩) hB).trans h.f1⟩
theorem nB.set(h:nB w R a b)(a' b':Value):nB ((w.setCell ⟨R,0,none⟩ a').setCell ⟨R+1,0,none⟩ b') R a' b':=by
 have x1:(w.setCell ⟨R,0,none⟩ a').cell? ⟨R+1,0,none⟩=some b:=by rw[aJ _ _ _ _ (by intro e;injection e with e;omega)];exact h.c1
 refine⟨?_,by rw[bZ,bZ];exact h.f0,aG _ _ _ x1,by rw[bZ,bZ];exact h.f1⟩;rw[aJ _ _ _ _ (by intro e;injection e with e;omega)];exact aG _ _ _ h.c0
theorem rL{B':Nat}(h:KeepsFrom B w w')(hB:B<=B'):KeepsFrom B' w w':=⟨h.size,fun k o hk ho hc=>h.same k o (aW hB hk) ho hc⟩
theorem BP{v:Value}{xs:List Value}(h:w.ownsRow B 68 4 v n xs)(hR:R+1<B)(a b:Value):((w.setCell ⟨R,0,none⟩ a).setCell ⟨R+1,0,none⟩ b).ownsRow B 68 4 v n xs:=by
 have key:∀(w:World)(q:Nat)(a:Value),q<B->w.ownsRow B 68 4 v n xs->(w.setCell ⟨q,0,none⟩ a).ownsRow B 68 4 v n xs:=fun w q a hq h=>by
  refine h.kept (row:=some q) ⟨rfl,rfl,rfl,by simp[World.setCell],fun i hi hne=> ?_⟩ ?_
  ·simp only[World.setCell,aH];rw[if_neg (fun e=>hne (by rw[e]))]
  refine .inr fun e=> ?_
  have:=(h.lt q e).1;omega
 exact key _ _ _ hR (key _ _ _ (by omega) h)
theorem nB.fin{W:World}{D:Nat}(h:nB W R a b)(hK:W.heap[D]? =some (.deferred (some []))):(W.putObj D (.deferred none)).cell? ⟨R,0,none⟩=some a∧(W.putObj D (.deferred none)).cell? ⟨R+1,0,none⟩=some b:=
 ⟨cell_kept h.c0 (grownBy_putObj' _ D _) (fun r e=>by cases e;exact⟨_,hK,rfl⟩),cell_kept h.c1 (grownBy_putObj' _ D _) (fun r e=>by cases e;exact⟨_,hK,rfl⟩)⟩
theorem EC(w:World)(x:Value)(W0:World)(h0:(((((w.alloc (.cells #[.slice none 0 0] 34)).alloc (.cells #[.int .i64 0] 3)).alloc (.map #[] 0)).alloc (.cells #[.slice none 0 0,.map (some (w.heap.size+1+1))] 107)).alloc (.cells #[x] 60))=W0):
 nB W0 w.heap.size (.slice none 0 0) (.int .i64 0)∧jI W0 (w.heap.size+1+1+1) (w.heap.size+1+1) 0 (.slice none 0 0) [] (fun _=>none)∧(∃fr,W0.heap[w.heap.size+1+1+1+1]? =some (.cells #[x] 60 fr))∧Below w.heap.size w W0∧W0.heap.size=w.heap.size+5:=by
 have g1:(w.alloc (.cells #[.slice none 0 0] 34)).cell? ⟨w.heap.size,0,none⟩=some (.slice none 0 0)∧(w.alloc (.cells #[.slice none 0 0] 34)).frozen? ⟨w.heap.size,0,none⟩=false:=⟨by simp,by simp⟩;have s1:(w.alloc (.cells #[.slice none 0 0] 34)).heap.size=w.heap.size+1:=by simp
 have b1:Below w.heap.size w (w.alloc (.cells #[.slice none 0 0] 34)):=(af _ _).alloc (ae _) _;generalize w.alloc (.cells #[.slice none 0 0] 34)=A1 at*;have g2:(A1.alloc (.cells #[.int .i64 0] 3)).cell? ⟨A1.heap.size,0,none⟩=some (.int .i64 0)∧(A1.alloc (.cells #[.int .i64 0] 3)).frozen? ⟨A1.heap.size,0,none⟩=false:=⟨by simp,by simp⟩;have s2:(A1.alloc (.cells #[.int .i64 0] 3)).heap.size=A1.heap.size+1:=by simp
 have b2:Below A1.heap.size A1 (A1.alloc (.cells #[.int .i64 0] 3)):=(af _ _).alloc (ae _) _;generalize A1.alloc (.cells #[.int .i64 0] 3)=A2 at*;have s3:(A2.alloc (.map #[] 0)).heap.size=A2.heap.size+1:=by simp
 have b3:Below A2.heap.size A2 (A2.alloc (.map #[] 0)):=(af _ _).alloc (ae _) _;have hM:=World.ownsMap_made (H:=Unit) A2 Tryz.prog 3 (plainElem Tryz.prog 3);generalize A2.alloc (.map #[] 0)=A3 at*;have s4:(A3.alloc (.cells #[.slice none 0 0,.map (some (w.heap.size+1+1))] 107)).heap.size=A3.heap.size+1:=by simp
 have b4:Below A3.heap.size A3 (A3.alloc (.cells #[.slice none 0 0,.map (some (w.heap.size+1+1))] 107)):=(af _ _).alloc (ae _) _;have g4:(A3.alloc (.cells #[.slice none 0 0,.map (some (w.heap.size+1+1))] 107)).cell? ⟨A3.heap.size,0,none⟩=some (.slice none 0 0)∧(A3.alloc (.cells #[.slice none 0 0,.map (some (w.heap.size+1+1))] 107)).cell? ⟨A3.heap.size,1,none⟩=some (.map (some (w.heap.size+1+1)))∧(A3.alloc (.cells #[.slice none 0 0,.map (some (w.heap.size+1+1))] 107)).frozen? ⟨A3.heap.size,0,none⟩=false:=⟨by simp,by simp,by simp⟩;have hN:=World.alloc_heap_new A3 (.cells #[.slice none 0 0,.map (some (w.heap.size+1+1))] 107);have hM4:=hM.kept (World.grownBy_alloc A3 (.cells #[.slice none 0 0,.map (some (w.heap.size+1+1))] 107) none) (by simp);generalize A3.alloc (.cells #[.slice none 0 0,.map (some (w.heap.size+1+1))] 107)=A4 at*;have hX:=World.alloc_heap_new A4 (.cells #[x] 60);have s5:(A4.alloc (.cells #[x] 60)).heap.size=A4.heap.size+1:=by simp
 have b5:Below A4.heap.size A4 (A4.alloc (.cells #[x] 60)):=(af _ _).alloc (ae _) _;have hM5:=hM4.kept (World.grownBy_alloc A4 (.cells #[x] 60) none) (by simp);rw[h0]at s5 b5 hX hM5;have c4:=b4.trans (b5.mono b4.size);have c3:=b3.trans (c4.mono b3.size);have c2:=b2.trans (c3.mono b2.size);have c1:=b1.trans (c2.mono b1.size);have e1:A1.heap.size=w.heap.size+1:=s1;have e2:A2.heap.size=w.heap.size+1+1:=by omega
 have e3:A3.heap.size=w.heap.size+1+1+1:=by omega
 have e4:A4.heap.size=w.heap.size+1+1+1+1:=by omega
 rw[e1]at g2;rw[e3]at g4 hN;rw[e2]at hM5;rw[e4]at hX;refine⟨⟨(c2.cell (p:=⟨_,0,none⟩) (by show w.heap.size<_;omega)).trans g1.1,(c2.frozen (p:=⟨_,0,none⟩) (by show w.heap.size<_;omega)).trans g1.2,(c3.cell (p:=⟨_,0,none⟩) (by show w.heap.size+1<_;omega)).trans g2.1,(c3.frozen (p:=⟨_,0,none⟩) (by show w.heap.size+1<_;omega)).trans g2.2⟩,
  ⟨by omega,(b5.cell (p:=⟨_,0,none⟩) (by show w.heap.size+1+1+1<_;omega)).trans g4.1,(b5.cell (p:=⟨_,1,none⟩) (by show w.heap.size+1+1+1<_;omega)).trans g4.2.1,(b5.frozen (p:=⟨_,0,none⟩) (by show w.heap.size+1+1+1<_;omega)).trans g4.2.2,⟨_,_,(b5.block _ (by omega)).trans hN⟩,aZ _ _ _ _,.map [],hM5,fun t _ _=>rfl,fun t a h=>by cases h⟩,⟨_,hX⟩,c1,by omega⟩
theorem Cb(it:List It)(a:Option Addr)(cap:Nat)(w:World)(hs:TSrc w a it)(ho:∀x∈it,x.ok)(hn:it.length<=400000):
 Calls Tryz.prog 27 #[.slice a it.length cap] w fun e w'=>ud it w e w':=by
 refine(callsIn_wide (n:=3)).1 ?_
 refine callsIn_of_wp_marks Tryz.func27 rfl trivial ?_ rfl
 simp only[Tryz.ntmps27,List.size_toArray,aq,aU,Nat.reduceAdd,Nat.reduceSub,Array.replicate_succ,Array.replicate_zero,List.push_toArray,List.append_toArray,bp,aO]
 have hmm:= @run_makeMap Tryz.prog
 gi_wp2_with(refine⟨trivial,?_⟩;gi_at_call 60;refine(callsIn_wide.2 (GR _ _ _ _)).mono ?_;rintro e w'⟨rfl,rfl⟩)
 obtain⟨hR0,hS0,⟨fr,hX0⟩,hB0,hsz⟩:=EC w (.slice a it.length cap) _ rfl
 generalize(((((w.alloc (.cells #[.slice none 0 0] 34)).alloc (.cells #[.int .i64 0] 3)).alloc (.map #[] 0)).alloc (.cells #[.slice none 0 0,.map (some (w.heap.size+1+1))] 107)).alloc (.cells #[.slice a it.length cap] 60))=W0 at*
 refine wpIn_rangeFunc_ownH rfl (by omega) (gf:=98) (lb:= #[.pointer (some ⟨w.heap.size+1+1+1+1,0,none⟩)]) rfl trivial (enters_of Tryz.func98 (by kernel_rfl) rfl)
  (Cq Fence.wide (3-1) trivial rfl (by omega) (w.heap.size+1+1+1+1) w.heap.size cap a it ho (by omega) w W0 (ae _) (by omega) hB0 fr hX0 hs) KpB.trans (fun W l o o' hl h1 h2 h3=> ?kb) (af _ _) (fun _=>rfl)
  (fun pre W=>∃s v,qp pre=some s∧jI W (w.heap.size+1+1+1) (w.heap.size+1+1) pre.length v s.1 s.2∧nB W w.heap.size (.slice none 0 0) (.int .i64 0)∧Below w.heap.size w W)
  (fun c pre W=>c=.ret∧qp pre=none∧nB W w.heap.size (.slice none 0 0) (.int .i64 1)∧Below w.heap.size w W)
  (fun pre A B row hs hg hr=> ?hI)
  (fun c pre A B row hs hg hr=> ?hIx)
  ⟨([],fun _=>none),_,rfl,hS0,hR0,hB0⟩
  (fun x a' W=>∃Bx,PI W Bx 0 x.1.2∧a'={tmps:= #[.slice a it.length cap,undef,.pointer (some ⟨w.heap.size,0,none⟩),.pointer (some ⟨w.heap.size+1,0,none⟩),.pointer (some ⟨w.heap.size+1+1+1,0,none⟩),undef,.pointer (some ⟨Bx,0,none⟩),.map (some (w.heap.size+1+1)),.agg #[.slice none 0 0,.map (some (w.heap.size+1+1))],.slice a it.length cap,.func (.func 98) #[] #[.pointer (some ⟨w.heap.size+1+1+1+1,0,none⟩)],.int .i64 (x.1.1:Int),itV x.1.2,undef,undef,undef,undef,undef,undef,undef,undef,undef,undef,undef,undef],defers:=[]})
  (fun x a' _ X Y row hs hg hr=> ?hAx)
  ?assign ?body ?done ?stop
 case kb=>
  refine⟨belowK_b (w:=W0) (by omega) W l o o' hl h1 h2 h3,fun q c t f hq _ _=> ?_⟩
  have hne:some q≠some l:=fun e=>by
   injection e with e
   subst e
   rw[h1]at hq;cases hq;cases h2
  exact((grownBy_putObj' W l o').block q (bf.1 hq).1 hne).trans hq
 case hI=>
  obtain⟨s,v,h1,h2,h3,h4⟩:=hs
  exact⟨s,v,h1,h2.turn hg (by omega) hr,h3.turn hg (by omega) hr,ownFrom_below (β:=Unit) (ae _) (show w.heap.size<=W0.heap.size by omega) () A B row h4 hg hr⟩
 case hIx=>
  obtain⟨h0,h1,h3,h4⟩:=hs
  exact⟨h0,h1,h3.turn hg (by omega) hr,ownFrom_below (β:=Unit) (ae _) (show w.heap.size<=W0.heap.size by omega) () A B row h4 hg hr⟩
 case hAx=>
  obtain⟨Bx,⟨c0,c1,c2,c3,c4,c5⟩,h3⟩:=hs
  have hr2:=fun r e=>(hr r e).2
  exact⟨Bx,⟨cell_kept c0 hg hr2,cell_kept c1 hg hr2,cell_kept c2 hg hr2,cell_kept c3 hg hr2,cell_kept c4 hg hr2,cell_kept c5 hg hr2⟩,h3⟩
 case assign=>
  rintro l pre⟨⟨ix,⟨kd,⟨c,jt,jf,k⟩,tg⟩⟩,hok⟩W K⟨s,v,h1,h2,h3,h4⟩hK
  have hba:∀ob,Below W.heap.size W (W.alloc ob):=fun ob=>(af _ _).alloc (ae _) ob
  have hsW:=h4.size
  gi_wp2
  refine hK _ _ ((KeepsOthers.alloc _ _).from _) ⟨(af _ W).alloc hsW _,AD.gG (hba _)⟩ ⟨s,v,h1,h2.ey (hba _),h3.ey (hba _) (by have:=h2.lt;omega),h4.alloc hsW _⟩ ⟨W.heap.size,⟨by simp,by simp,by simp,by simp,by simp,by simp⟩,rfl⟩
 case body=>
  rintro l pre⟨⟨ix,x⟩,hok⟩a' W hl hr⟨s,v,h1,h2,h3,h4⟩⟨Bx,hP,rfl⟩hlt
  obtain⟨f1,f2⟩:=AF pre rfl h1
  have hpl:pre.length*2<=800000:=by omega
  have HPut:Hid (Calls Tryz.prog 61 #[.pointer (some ⟨w.heap.size+1+1+1,0,none⟩),itV x] W fun e w'=>nI (w.heap.size+1+1+1) (w.heap.size+1+1) pre.length (stI x s) W e w'):=Ho W _ _ _ v s.1 s.2 x h2 hok f1 (by omega) (by omega)
  have HG:Hid (∀w' t,stI x s=some t->nI (w.heap.size+1+1+1) (w.heap.size+1+1) pre.length (stI x s) W (.returned (.bool true)) w'->KeepsFrom W0.heap.size W w'∧KpB w.heap.size W w'∧∃s' v',qp (pre++[⟨(ix,x),hok⟩])=some s'∧jI w' (w.heap.size+1+1+1) (w.heap.size+1+1) (pre++[(⟨(ix,x),hok⟩:BI)]).length v' s'.1 s'.2∧nB w' w.heap.size (.slice none 0 0) (.int .i64 0)∧Below w.heap.size w w'):=fun w' t ht hp=>by
   obtain⟨_,p1,p2⟩:=hp
   obtain⟨v',p3⟩:=p1 t ht
   refine⟨rL p2.k (by omega),⟨p2.b.mono (by omega),p2.f⟩,t,v',?_,?_,h3.ey p2.b (by omega),h4.trans (p2.b.mono (by omega))⟩
   ·rw[nM,h1];exact ht
   ·rw[aj];exact p3
  have HS:Hid (∀w',stI x s=none->nI (w.heap.size+1+1+1) (w.heap.size+1+1) pre.length (stI x s) W (.returned (.bool false)) w'->nB w' w.heap.size (.slice none 0 0) (.int .i64 0)∧(KeepsFrom W0.heap.size W ((w'.setCell ⟨w.heap.size,0,none⟩ (.slice none 0 0)).setCell ⟨w.heap.size+1,0,none⟩ (.int .i64 1))∧qp (pre++[⟨(ix,x),hok⟩])=none∧nB ((w'.setCell ⟨w.heap.size,0,none⟩ (.slice none 0 0)).setCell ⟨w.heap.size+1,0,none⟩ (.int .i64 1)) w.heap.size (.slice none 0 0) (.int .i64 1)∧Below w.heap.size w ((w'.setCell ⟨w.heap.size,0,none⟩ (.slice none 0 0)).setCell ⟨w.heap.size+1,0,none⟩ (.int .i64 1)))):=fun w' ht hp=>by
   obtain⟨_,p1,p2⟩:=hp
   have hR:=h3.ey p2.b (by omega)
   refine⟨hR,(rL p2.k (by omega)).trans (((KeepsOthers.setCell _ _ _).trans (KeepsOthers.setCell _ _ _)).from _),?_,hR.set _ _,((h4.trans (p2.b.mono (by omega))).setCell (p:=⟨w.heap.size,0,none⟩) (ae _) _).setCell (p:=⟨w.heap.size+1,0,none⟩) (by show w.heap.size<=w.heap.size+1;omega) _⟩
   rw[nM,h1];exact ht
  have hR1:(1:Nat)<=3-1-1:=by omega
  clear h1 h2 h3 h4 f1 f2
  obtain⟨kd,⟨c,jt,jf,k⟩,tg⟩:=x
  obtain⟨c0,c1,c2,c3,c4,c5⟩:=hP
  simp only[itV,aC]at c0 c1 c2 c3 c4 c5 HPut
  cases hst:stI ⟨kd,⟨c,jt,jf,k⟩,tg⟩ s with
  |none=>
   rw[hst]at HPut HS
   have HS2:=HS
   gi_wp2_with(refine⟨trivial,?_⟩;gi_at_call 61;refine(CallsIn.inRound l (callsIn_wide.2 HPut.out)).mono ?_;rintro e w1⟨rfl,hpp⟩;obtain⟨⟨r0,r1,r2,r3⟩,hfin⟩:=HS2.out w1 (by first|rfl|trivial) ⟨rfl,hpp⟩)
   exact⟨hfin.1,rfl,hfin.2⟩
  |some t=>
   rw[hst]at HPut HG
   have HG2:=HG
   gi_wp2_with(refine⟨trivial,?_⟩;gi_at_call 61;refine(CallsIn.inRound l (callsIn_wide.2 HPut.out)).mono ?_;rintro e w1⟨rfl,hpp⟩;have hfin:=HG2.out w1 t (by first|rfl|trivial) ⟨rfl,hpp⟩)
   exact hfin
 case done=>
  rintro D ys W hD rfl⟨s,v,h1,h2,h3,h4⟩hK
  rw[uF it ho _ (ae _),du,List.drop_zero]at h1
  by_cases h4096:4096<s.1.length
  ·obtain⟨e1,e2⟩:=Hc h1 h4096
   obtain⟨av,cv,rfl,_⟩:=j4 h2.own
   have q0:=h2.c0
   obtain⟨r0,r1,r2,r3⟩:=h3
   have hlt':(4096:Int)<(s.1.length:Int):=by omega
   have hRf:=(nB.mk r0 r1 r2 r3).set (.slice none 0 0) (.int .i64 10)
   have hKf:((W.setCell ⟨w.heap.size,0,none⟩ (.slice none 0 0)).setCell ⟨w.heap.size+1,0,none⟩ (.int .i64 10)).heap[D]? =some (.deferred (some [])):=((KeepsOthers.setCell _ _ _).trans (KeepsOthers.setCell _ _ _)).same D _ hK rfl
   have hBf:Below w.heap.size w ((W.setCell ⟨w.heap.size,0,none⟩ (.slice none 0 0)).setCell ⟨w.heap.size+1,0,none⟩ (.int .i64 10)):=(h4.setCell (p:=⟨w.heap.size,0,none⟩) (ae _) _).setCell (p:=⟨w.heap.size+1,0,none⟩) (by show w.heap.size<=w.heap.size+1;omega) _
   have hF2:=hRf.fin hKf
   have HF:Hid (ud it w (.returned (.tuple #[.slice none 0 0,.int .i64 10])) (((W.setCell ⟨w.heap.size,0,none⟩ (.slice none 0 0)).setCell ⟨w.heap.size+1,0,none⟩ (.int .i64 10)).putObj D (.deferred none))):=⟨_,by rw[e1],by rw[e2];exact aZ _ _ _ _,hBf.trans (belowK_b (w:=w) (ae _) _ D _ _ (by omega) hKf rfl rfl)⟩
   clear hRf h2
   gi_wp2
   refine⟨by simp,.inl ⟨_,_,rfl,run_takeDeferred hKf,?_⟩⟩
   exact⟨.tuple #[.slice none 0 0,.int .i64 10],by simp[results,Tryz.results27,go_sem,hF2.1,hF2.2],HF.out⟩
  ·obtain⟨e1,e2⟩:=Ha h1 (by omega)
   obtain⟨av,cv,hve,_⟩:=j4 h2.own
   subst hve
   have q0:=h2.c0
   have qlt:=h2.lt
   have hO:=h2.own
   have hlt':¬(4096:Int)<(s.1.length:Int):=by omega
   have HRv:Hid (Calls Tryz.prog 62 #[.slice av s.1.length cv] W fun e w'=>e=.returned (.tuple #[])∧(gS w' (w.heap.size+1+1+1+1) (.slice av s.1.length cv) s.1.reverse∧BO (w.heap.size+1+1+1+1) W w')∧w'.cell? ⟨w.heap.size+1+1+1,0,none⟩=some (.slice av s.1.length cv)∧nB w' w.heap.size (.slice none 0 0) (.int .i64 0)):=(y9 W _ _ s.1 hO (by omega)).mono (by
    rintro e w'⟨g1,g2,g3⟩
    exact⟨g1,⟨g2,g3⟩,(g3.1.cell (p:=⟨w.heap.size+1+1+1,0,none⟩) (by show w.heap.size+1+1+1<_;omega)).trans q0,h3.ey g3.1 (by omega)⟩)
   have HG:Hid (∀w1,gS w1 (w.heap.size+1+1+1+1) (.slice av s.1.length cv) s.1.reverse∧BO (w.heap.size+1+1+1+1) W w1->nB w1 w.heap.size (.slice none 0 0) (.int .i64 0)->∃hKf:((w1.setCell ⟨w.heap.size,0,none⟩ (.slice av s.1.length cv)).setCell ⟨w.heap.size+1,0,none⟩ (.int .i64 0)).heap[D]? =some (.deferred (some [])),((((w1.setCell ⟨w.heap.size,0,none⟩ (.slice av s.1.length cv)).setCell ⟨w.heap.size+1,0,none⟩ (.int .i64 0)).putObj D (.deferred none)).cell? ⟨w.heap.size,0,none⟩=some (.slice av s.1.length cv)∧(((w1.setCell ⟨w.heap.size,0,none⟩ (.slice av s.1.length cv)).setCell ⟨w.heap.size+1,0,none⟩ (.int .i64 0)).putObj D (.deferred none)).cell? ⟨w.heap.size+1,0,none⟩=some (.int .i64 0))∧ud it w (.returned (.tuple #[.slice av s.1.length cv,.int .i64 0])) (((w1.setCell ⟨w.heap.size,0,none⟩ (.slice av s.1.length cv)).setCell ⟨w.heap.size+1,0,none⟩ (.int .i64 0)).putObj D (.deferred none))):=fun w1 hA hR=>by
    obtain⟨g2,g3⟩:=hA
    have hKf:((w1.setCell ⟨w.heap.size,0,none⟩ (.slice av s.1.length cv)).setCell ⟨w.heap.size+1,0,none⟩ (.int .i64 0)).heap[D]? =some (.deferred (some [])):=((g3.2.trans (KeepsOthers.setCell _ _ _)).trans (KeepsOthers.setCell _ _ _)).same D _ hK rfl
    have hBf:Below w.heap.size w ((w1.setCell ⟨w.heap.size,0,none⟩ (.slice av s.1.length cv)).setCell ⟨w.heap.size+1,0,none⟩ (.int .i64 0)):=((h4.trans (g3.1.mono (by omega))).setCell (p:=⟨w.heap.size,0,none⟩) (ae _) _).setCell (p:=⟨w.heap.size+1,0,none⟩) (by show w.heap.size<=w.heap.size+1;omega) _
    refine⟨hKf,(hR.set _ _).fin hKf,_,by rw[e1],?_,hBf.trans (belowK_b (w:=w) (ae _) _ D _ _ (by omega) hKf rfl rfl)⟩
    rw[e2]
    have e3:s.1.length=s.1.reverse.length:=by simp
    have o1:w1.ownsRow (w.heap.size+1+1+1+1) 68 4 (.slice av s.1.length cv) s.1.reverse.length (ff s.1.reverse):=g2
    have o2:=ownsRow_putObj (BP o1 (R:=w.heap.size) (by omega) (.slice av s.1.length cv) (.int .i64 0)) (.deferred none) hKf rfl
    exact World.ownsRow.mono o2 (by omega)
   clear h1 h2 h3 h4 hO h4096
   generalize s.1.reverse=rv at*
   generalize s.1.length=ln at*
   gi_wp2_with(refine⟨trivial,?_⟩;gi_at_call 62;refine(callsIn_wide.2 HRv.out).mono ?_;rintro e w1⟨rfl,hA,q1,hR1⟩;obtain⟨hKf,hF2,hF⟩:=HG.out w1 hA hR1;obtain⟨r0,r1,r2,r3⟩:=hR1)
   refine⟨by simp,.inl ⟨_,_,rfl,run_takeDeferred hKf,?_⟩⟩
   exact⟨.tuple #[.slice av ln cv,.int .i64 0],by simp[results,Tryz.results27,go_sem,hF2.1,hF2.2],hF⟩
 case stop=>
  rintro D c pre W hD⟨kk,hkk,rfl⟩⟨rfl,hf,hRR,hB⟩hK
  rw[uF it ho _ hkk]at hf
  obtain⟨e1,e2⟩:=Gq (oM hf)
  have hF2:=hRR.fin hK
  have HF:Hid (ud it w (.returned (.tuple #[.slice none 0 0,.int .i64 1])) (W.putObj D (.deferred none))):=⟨_,by rw[e1],by rw[e2];exact aZ _ _ _ _,hB.trans (belowK_b (w:=w) (ae _) _ D _ _ (by omega) hK rfl rfl)⟩
  gi_wp2
  refine⟨by simp,.inl ⟨_,_,rfl,run_takeDeferred hK,?_⟩⟩
  exact⟨.tuple #[.slice none 0 0,.int .i64 1],by simp[results,Tryz.results27,go_sem,hF2.1,hF2.2],HF.out⟩
end Go.Proofs.YtdihdapmphkhpaaGreat
namespace Go.Proofs.YtdihdapmphkhpaaGreat
open Go.RowKit
def vS(p:List E):Int:=if eW p=true then tR (iY p)else 1
def ky(p:List E):List I:=if eW p=true then sH (iY p)else []
theorem E6(p:List E):(ky p).length<=4096:=by
 unfold ky;split
 ·exact FK _
 simp
def iW(p:List E)(w:World)(e:Ending)(w':World):Prop:=∃v,e=.returned (.tuple #[v,.int .i64 (vS p)])∧gS w' w.heap.size v (ky p)∧Below w.heap.size w w'
theorem WrS.new(w:World):WrS (w.alloc (.cells #[.slice none 0 0,.int .i64 0] 64)) w.heap.size (.slice none 0 0) [] 0:=
 ⟨by simp,by simp,by simp,by simp,⟨_,_,heap_alloc_new _ _⟩,aZ _ _ _ _⟩
theorem zN(p:List E)(a:Option Addr)(cap:Nat)(w:World)(hs:eS 3 PEC w a p)(hcap:p.length<=cap)(ho:okP p)(hn:p.length<=16777216)(hm:∀e∈p,e.rules.length<=16777216)(hr:∀e∈p,∀r∈e.rules,r.length<=16777216):
 Calls Tryz.prog 9 #[.agg #[.slice a p.length cap]] w fun e w'=>iW p w e w':=by
 have HV:Hid (∀w1,Below w.heap.size w w1->Calls Tryz.prog 25 #[.agg #[.slice a p.length cap]] w1 fun e w'=>e=.returned (.bool (eW p))∧Below w1.heap.size w1 w'):=fun w1 hb=>pA p a cap w1 ((PEC.uq hs).below PE.stays hb) ho hn hm hr
 have HNo:Hid (eW p=false->∀w1,Below w.heap.size w w1->iW p w (.returned (.tuple #[.slice none 0 0,.int .i64 1])) w1):=fun h w1 hb=>by
  refine⟨.slice none 0 0,?_,?_,hb⟩
  ·unfold vS;rw[if_neg (by rw[h];decide)]
  unfold ky;rw[if_neg (by rw[h];decide)];exact aZ _ _ _ _
 have HP:Hid (eW p=true->∀w2 F,w.heap.size<=F->Below w.heap.size w w2->WrS w2 F (.slice none 0 0) [] 0->Calls Tryz.prog 26 #[.pointer (some ⟨F,0,none⟩),.slice a p.length cap] w2 fun e w'=>e=.returned (.tuple #[])∧∃a3 n3 c3,w'.cell? ⟨F,0,none⟩=some (.slice a3 n3 c3)∧Below w.heap.size w w'∧Calls Tryz.prog 27 #[.slice a3 n3 c3] w' fun e w''=>∃v c,e=.returned (.tuple #[v,c])∧iW p w (.returned (.tuple #[v,c])) w''):=fun hv w2 F hF hb hS=>by
  obtain⟨h1,h2,h3,h4⟩:=sS hv ho;refine(Ba w w2 F hF _ p a cap hS hs hb h1 hcap (by omega) (by omega)).mono ?_;rintro e w'⟨rfl,⟨v',hS'⟩,hK⟩;obtain⟨a3,c3,rfl,_,ht⟩:=wZ hS'.own;have hb':Below w.heap.size w w':=hb.trans (hK.b.mono hF);have hl:=Bu p h1;refine⟨rfl,a3,_,c3,hS'.c0,hb',(Cb (iY p) a3 c3 w' ht (xp p h1 h2 (by omega)) (by omega)).mono ?_⟩;rintro e w''⟨v,rfl,ho',hb''⟩;refine⟨v,_,rfl,v,?_,?_,eo hb'' hb'⟩
  ·unfold vS;rw[if_pos hv]
  unfold ky;rw[if_pos hv];exact World.ownsRow.mono ho' hb'.size
 clear hs ho hn hm hr;generalize eW p=V at*;generalize p.length=n at*;have B0:Below w.heap.size w (w.alloc (.cells #[.slice a n cap] 25)):=(af _ _).alloc (ae _) _;have x0:(w.alloc (.cells #[.slice a n cap] 25)).cell? ⟨w.heap.size,0,none⟩=some (.slice a n cap):=by simp
 go_enter Tryz.func9,Tryz.ntmps9;go_wp2_with fail;refine(HV.out _ B0).mono ?_;rintro _ w1⟨rfl,hb1⟩;have B1:=eo hb1 B0;have x1:=eh hb1 x0;clear hb1 B0 x0 HV
 cases V with
 |false=>
  have HF:Hid (iW p w (.returned (.tuple #[.slice none 0 0,.int .i64 1])) w1):=HNo.out (by first|rfl|trivial) w1 B1;clear HNo HP B1 x1;go_wp2;exact bodyPost_ret (v:=.tuple #[.slice none 0 0,.int .i64 1]) (by simp[results,Tryz.results9,go_sem]) rfl HF.out
 |true=>
  have hb2:Below w1.heap.size w1 (w1.alloc (.cells #[.slice none 0 0,.int .i64 0] 64)):=(af _ _).alloc (ae _) _;have HQ:Hid (Calls Tryz.prog 26 #[.pointer (some ⟨w1.heap.size,0,none⟩),.slice a n cap] (w1.alloc (.cells #[.slice none 0 0,.int .i64 0] 64)) fun e w'=>e=.returned (.tuple #[])∧∃a3 n3 c3,w'.cell? ⟨w1.heap.size,0,none⟩=some (.slice a3 n3 c3)∧Below w.heap.size w w'∧Calls Tryz.prog 27 #[.slice a3 n3 c3] w' fun e w''=>∃v c,e=.returned (.tuple #[v,c])∧iW p w (.returned (.tuple #[v,c])) w''):=HP.out (by first|rfl|trivial) _ _ B1.size (eo hb2 B1) (WrS.new w1);have x2:=eh hb2 x1;clear HNo HP B1 hb2;go_wp2_with fail;refine(HQ.out).mono ?_;generalize w1.heap.size=F at*;rintro _ w3⟨rfl,a3,n3,c3,hc3,_,hL⟩;have HL:Hid (Calls Tryz.prog 27 #[.slice a3 n3 c3] w3 fun e w''=>∃v c,e=.returned (.tuple #[v,c])∧iW p w (.returned (.tuple #[v,c])) w''):=hL;clear hL HQ x2 x1;go_wp2_with fail;refine(HL.out).mono ?_;rintro _ w4⟨v,c,rfl,hF⟩;have HF:Hid (iW p w (.returned (.tuple #[v,c])) w4):=hF;clear hF HL hc3;go_wp2;exact bodyPost_ret (v:=.tuple #[v,c]) (by simp[results,Tryz.results9,go_sem]) rfl HF.out
def FD(w:World)(b o:Nat)(m:Nat->Int):Prop:=∀j,j<16->w.cell? ⟨b,o+j,none⟩=some (.int .i64 (m j))
theorem FD.below{w w':World}{b o:Nat}{m:Nat->Int}(h:FD w b o m)(hb:b<w.heap.size)(hB:Below w.heap.size w w'):FD w' b o m:=fun j hj=>(hB.cell (p:=⟨b,_,none⟩) hb).trans (h j hj)
abbrev ownsW(w:World)(base:Nat)(v:Value)(l:List Int):Prop:=w.ownsRow base 3 1 v l.length (l.map (Value.int .i64))
end Go.Proofs.YtdihdapmphkhpaaGreat
namespace Go.Proofs.YtdihdapmphkhpaaGreat
def lk(q:List I):Prop:=1<=q.length∧q.length<=4096∧(∀j,j<q.length->lE q j=0)∧∀x∈q,x.ok
theorem yI(n i d:Int)(c jt jf k:Int):sE (n-d) i c jt jf k=sE n (i+d) c jt jf k:=by
 rw[<-pX,<-pX];congr 1;omega
theorem lk.drop{q:List I}(h:lk q){d:Nat}(hd:d<q.length):lk (q.drop d):=by
 obtain⟨h1,h2,h3,h4⟩:=h;refine⟨by rw[bK];omega,by rw[bK];omega,fun j hj=> ?_,fun x hx=>h4 x (aQ hx)⟩;rw[bK]at hj;have:=h3 (j+d) (by omega);unfold lE at*;have e:(q.drop d).getD j I.zero=q.getD (j+d) I.zero:=by
  rw[aa,aa,List.getElem?_drop,Nat.add_comm]
 rw[e,bK,show((q.length-d:Nat):Int)=(q.length:Int)-d by omega,yI];rw[show((j:Int)+(d:Int))=((j+d:Nat):Int)by omega];exact this
theorem lk.tail{i:I}{t:List I}(h:lk (i::t)){d:Nat}(hd:d<t.length):lk (t.drop d):=by
 have:=h.drop (d:=d+1) (by simp;omega);simpa using this
structure GA(i:I)(n:Nat):Prop where
 known:qW i.c=true
 load:i.c=32->i.k<=60
 mem:oQ i.c=true->i.k<16
 jump:i.c=5->i.k+1<n
 test:ke i.c=true->i.jt+1<n∧i.jf+1<n
 divk:i.c=52->i.k≠0
 last:n=1->i.c=6∨i.c=22
theorem lk.head{i:I}{t:List I}(h:lk (i::t)):GA i (t.length+1):=by
 obtain⟨h1,h2,h3,h4⟩:=h;have h0:=h3 0 (by simp);unfold lE at h0;simp only[aq,dF]at h0;unfold sE at h0;by_cases g1:qW i.c=false
 ·rw[if_pos g1]at h0;omega
 rw[if_neg g1]at h0;by_cases g2:i.c=32∧(i.k%4≠0∨60<i.k)
 ·rw[if_pos g2]at h0;omega
 rw[if_neg g2]at h0;by_cases g3:oQ i.c=true∧16<=i.k
 ·rw[if_pos g3]at h0;omega
 rw[if_neg g3]at h0;split at h0
 ·omega
 rename_i g4;split at h0
 ·omega
 rename_i g5;split at h0
 ·omega
 rename_i g6;split at h0
 ·omega
 rename_i g7;split at h0
 ·omega
 rename_i g8;refine⟨by simpa using g1,fun e=> ?_,fun e=> ?_,fun e=> ?_,fun e=> ?_,fun e=> ?_,fun e=> ?_⟩
 ·by_cases hk:60<i.k
  ·exact absurd ⟨e,.inr hk⟩ g2
  omega
 ·by_cases hk:16<=i.k
  ·exact absurd ⟨e,hk⟩ g3
  omega
 ·have:¬((t.length+1:Nat):Int)<=((0:Nat):Int)+1+i.k:=fun hh=>g4 ⟨e,hh⟩
  omega
 ·constructor
  ·have:¬((t.length+1:Nat):Int)<=((0:Nat):Int)+1+i.jt:=fun hh=>g5 ⟨e,.inl hh⟩
   omega
  have:¬((t.length+1:Nat):Int)<=((0:Nat):Int)+1+i.jf:=fun hh=>g5 ⟨e,.inr hh⟩
  omega
 ·exact fun hk=>g6 ⟨e,hk⟩
 by_cases c6:i.c=6
 ·exact .inl c6
 by_cases c22:i.c=22
 ·exact .inr c22
 exact absurd ⟨by omega,c6,c22⟩ g8
theorem tst_facts{c:Int}(h:ke c=true):c%8=5∧(c/8%2=0∨c/8%2=1)∧c≠5∧c≠6∧c≠22∧c≠52∧c≠60∧pf c=false∧c≠0∧c≠1∧c≠32∧c≠96∧c≠97∧c≠2∧c≠3∧c≠7∧c≠135:=by
 have hm:c∈FH:=by simpa[qW]using I0 c h
 have key:∀c∈FH,ke c=true->c%8=5∧(c/8%2=0∨c/8%2=1)∧c≠5∧c≠6∧c≠22∧c≠52∧c≠60∧pf c=false∧c≠0∧c≠1∧c≠32∧c≠96∧c≠97∧c≠2∧c≠3∧c≠7∧c≠135:=by decide
 exact key c hm h
end Go.Proofs.YtdihdapmphkhpaaGreat
namespace Go.Proofs.YtdihdapmphkhpaaGreat
open Go.RowKit
variable{i:I}{t:List I}
attribute [local go_sem↓]Go.wp_at_zero Go.wp_at_succ
attribute [local go_sem↓]Go.wp_at_zero Go.wp_at_succ
attribute [local go_sem↓]Go.wp_at_zero Go.wp_at_succ
abbrev zU(r:Int×Int):Value:=.tuple #[.int .i64 r.1,.int .i64 r.2]
theorem Al{a b:Int}{r:Int×Int}(h:r=(a,b)):Ending.returned (.tuple #[.int .i64 a,.int .i64 b])=.returned (zU r):=by rw[h]
theorem qw.below{w w':World}{b o:Nat}{p:List I}(h:qw w b o p)(hb:b<w.heap.size)(hB:Below w.heap.size w w'):qw w' b o p:=by
 intro i hi;obtain⟨c0,c1,c2,c3⟩:=h i hi;exact⟨(hB.cell (p:=⟨b,_,none⟩) hb).trans c0,(hB.cell (p:=⟨b,_,none⟩) hb).trans c1,(hB.cell (p:=⟨b,_,none⟩) hb).trans c2,(hB.cell (p:=⟨b,_,none⟩) hb).trans c3⟩
theorem rQ(a:Option Addr)(n cap:Nat)(w:World)(hn:n<=1048576)(h:n<1∨4096<n):
 Calls Tryz.prog 11 #[.slice a n cap] w fun e w'=>e=.returned (zU (1,0))∧Below w.heap.size w w':=by
 rcases h with h|h
 ·have h0:n=0:=by omega
  subst h0;go_enter Tryz.func11,Tryz.ntmps11;go_wp2;go_ret2;exact⟨rfl,af _ _⟩
 have h1:((n:Int)==0)=false:=by simp;omega
 have h2:(4096:Int)<(n:Int):=by omega
 go_enter Tryz.func11,Tryz.ntmps11;go_wp2;go_ret2;exact⟨rfl,af _ _⟩
theorem tJ(b o cap:Nat)(p:List I)(w:World)(hb:b<w.heap.size)(hp:qw w b o p)(hok:∀x∈p,x.ok)(h1:1<=p.length)(h2:p.length<=4096):
 Calls Tryz.prog 11 #[.slice (some ⟨b,o,none⟩) p.length cap] w fun e w'=>e=.returned (zU (jz p))∧Below w.heap.size w w':=by
 have HV:Hid (jz p=mc (lE p) (p.length-0) 0):=xh h1 h2;obtain⟨r,hr⟩:∃r,jz p=r:=⟨_,rfl⟩;rw[hr]at HV⊢;clear hr;have HF:Hid (∀i,i<p.length->lE p i=kf (p.getD i I.zero).c (p.getD i I.zero).jt (p.getD i I.zero).jf (p.getD i I.zero).k ((p.length:Int)-1-i)):=fun i hi=>(pX _ _ _ _ _ _).symm
 have HO:Hid (∀i,i<p.length->(p.getD i I.zero).ok):=fun i hi=>hok _ (by rw[aa,ag hi];exact aI hi)
 have HP:Hid (qw w b o p):=hp;obtain⟨n,hn'⟩:∃n,p.length=n:=⟨_,rfl⟩;have HN:Hid (p.length=n):=hn';rw[hn']at HV HF HO h1 h2⊢;generalize lE p=F at*;clear hp hok hn';have n0:((n:Int)==0)=false:=by simp;omega
 have n1:(1:Int)<=n:=by omega
 have n2:(n:Int)<=4096:=by omega
 go_enter Tryz.func11,Tryz.ntmps11;go_wp2_with fail;go_loopw [17](fun i wr=>∃k:Nat,k<=n∧i=.int .i64 k∧Hid (r=mc F (n-k) k)∧Below w.heap.size w wr)(fun i _=>n-(intOf i).toNat)
 case atStart=>exact⟨0,by omega,rfl,HV,af _ _⟩
 case round=>
  obtain⟨k,hk,rfl,H,hB⟩:=hrel;clear HV;by_cases hlt:k<n
  ·obtain⟨c0,c1,c2,c3⟩:=HP.out k (by rw[HN.out];exact hlt);have d0:=(hB.cell (p:=⟨b,_,none⟩) hb).trans c0;have d1:=(hB.cell (p:=⟨b,_,none⟩) hb).trans c1;have d2:=(hB.cell (p:=⟨b,_,none⟩) hb).trans c2;have d3:=(hB.cell (p:=⟨b,_,none⟩) hb).trans c3;have HE:Hid (F k=kf (p.getD k I.zero).c (p.getD k I.zero).jt (p.getD k I.zero).jf (p.getD k I.zero).k ((n:Int)-1-k)):=HF.out k hlt;have HK:Hid (p.getD k I.zero).ok:=HO.out k hlt;clear c0 c1 c2 c3 HP HN HF HO;generalize p.getD k I.zero=x at*;obtain⟨c,jt,jf,kk⟩:=x;obtain⟨_,_,b1,b2,b3,b4,b5,_⟩:=HK.out;clear HK;simp only at d0 d1 d2 d3 b1 b2 b3 b4 b5 HE;go_wp2_with fail;refine(zz _ _ _ _ _ _ b1 b2 b3 b4 b5 (by omega) (by omega)).mono ?_;rintro e w1⟨rfl,hb1⟩;rw[<-HE.out];have hB1:Below w.heap.size w w1:=(hB.alloc hB.size _).trans (hb1.mono (by have:=hB.size;simp;omega));clear d0 d1 d2 d3 HE;by_cases hf:F k=0
   ·have hfb:(F k !=0)=false:=by simp[hf]
    have H1:Hid (F k=0):=hf;clear hf;go_wp2;go_roundw
    case rel=>exact⟨k+1,by omega,by go_num,H.out.trans (zH hlt H1.out).symm,hB1⟩
    case measure=>simp[intOf];omega
   have hfb:(F k !=0)=true:=by simp[hf]
   have H1:Hid (F k≠0):=hf;clear hf;go_wp2;go_ret2;exact⟨Al (H.out.trans (EK hlt H1.out)),hB1⟩
  go_wp2;go_ret2;have hkn:k=n:=by omega
  subst hkn;exact⟨Al (H.out.trans Eg),hB⟩
theorem np(a:Option Addr)(cap:Nat)(p:List I)(w:World)(hs:Src w a p)(hok:∀x∈p,x.ok)(hn:p.length<=1048576):
 Calls Tryz.prog 11 #[.slice a p.length cap] w fun e w'=>e=.returned (zU (jz p))∧Below w.heap.size w w':=by
 by_cases h:p.length<1∨4096<p.length
 ·rw[Ck h];exact rQ a p.length cap w hn h
 rcases hs with rfl|⟨b,o,rfl,hb,hp⟩
 ·exact absurd (.inl (by decide)) h
 exact tJ b o cap p w hb hp hok (by omega) (by omega)
theorem vk{r:List Int}{N:Nat}{s:S}(h:gV i s=none):kv r (N+1) (i::t) s=((kv r N (t.drop (gB i s)) (iH r i s)).1,(kv r N (t.drop (gB i s)) (iH r i s)).2+1):=by
 simp only[kv,h]
theorem xE{r:List Int}{N:Nat}{s:S}{v:Int}(h:gV i s=some v):kv r (N+1) (i::t) s=(v,1):=by
 simp only[kv,h]
theorem qw.tail{w:World}{b o:Nat}(h:qw w b o (i::t))(d:Nat):qw w b (o+(1+d)*4) (t.drop d):=by
 intro j hj;rw[bK]at hj;have:=h (j+d+1) (by simp;omega);have e:(i::t).getD (j+d+1) I.zero=(t.drop d).getD j I.zero:=by
  rw[List.getD_cons_succ,aa,aa,List.getElem?_drop,Nat.add_comm]
 rw[e,show o+(j+d+1)*4=o+(1+d)*4+j*4 by omega]at this;exact this
def nK(p:List I):Bool:=(jz p).1==0
def jU:S:=⟨0,0,fun _=>0⟩
def runR(p:List I)(r:List Int):Int:=if nK p&&r.length==64 then(kv r p.length p jU).1 else 0
def runT(p:List I)(r:List Int):Int:=if nK p&&r.length==64 then(kv r p.length p jU).2 else 0
def runC(p:List I)(r:List Int):Int:=if nK p&&r.length==64 then 0 else 1
theorem Bc{F:Nat->Int}{m i:Nat}(h:(mc F m i).1=0):∀j,i<=j->j<i+m->F j=0:=by
 induction m generalizing i with
 |zero=>intro j h1 h2;omega
 |succ m ih=>
  rw[mc]at h;by_cases h0:F i=0
  ·rw[if_pos h0]at h;intro j h1 h2;by_cases e:j=i
   ·rw[e];exact h0
   exact ih h j (by omega) (by omega)
  rw[if_neg h0]at h;exact absurd h h0
theorem Gr{p:List I}(hok:∀x∈p,x.ok)(h:nK p=true):lk p:=by
 have h0:(jz p).1=0:=by simpa[nK]using h
 unfold jz at h0;split at h0
 ·simp at h0
 exact⟨by omega,by omega,fun j hj=>Bc h0 j (by omega) (by omega),hok⟩
theorem Es:jU.ok:=⟨⟨by decide,by decide⟩,⟨by decide,by decide⟩,fun _=>⟨by simp[jU],by simp[jU]⟩⟩
end Go.Proofs.YtdihdapmphkhpaaGreat
namespace Go.Proofs.YtdihdapmphkhpaaGreat
variable{p:List E}
theorem Fy{x:I}(hx:x.ok)(b:Bool){n:Int}(h0:0<=n)(h1:n<=255):(kG x b n).ok:=by
 obtain⟨a1,a2,_,_,_,_,a7,a8⟩:=hx;unfold kG;split
 ·exact⟨a1,a2,h0,h1,(by decide:(0:Int)<=0),(by decide:(0:Int)<=255),a7,a8⟩
 exact⟨a1,a2,(by decide:(0:Int)<=0),(by decide:(0:Int)<=255),h0,h1,a7,a8⟩
theorem Em(l:List It):∀{s:List I×Mk},jc l=some s->(∀x∈l,x.ins.ok)->s.1.length<=4096->∀i∈s.1,i.ok:=by
 induction l with
 |nil=>intro s h _ _ i hi;cases h;cases hi
 |cons x l ih=>
  intro s h ho hn i hi;simp only[jc]at h
  cases e:jc l with
  |none=>rw[e]at h;cases h
  |some t=>
   rw[e]at h;simp only at h;obtain⟨⟨d,hd,_⟩,_⟩:=qc h (mu e).1;have hlt:t.1.length<=4096:=by rw[hd,aj]at hn;omega
   have hi':=ih e (fun y hy=>ho y (bo _ hy)) hlt;have hx:=ho x (aY ..);unfold stI at h;by_cases h0:x.kind=0
   ·rw[if_pos h0]at h
    cases h;rcases bj.1 hi with g|g
    ·exact hi' i g
    rw[aV.1 g];exact hx
   rw[if_neg h0]at h
   cases em:t.2 x.target with
   |none=>
    rw[em]at h;simp only at h;by_cases h4:x.kind=4
    ·rw[if_pos h4]at h;cases h;exact hi' i hi
    rw[if_neg h4]at h;cases h
   |some a=>
    rw[em]at h;simp only at h;by_cases h4:x.kind=4
    ·rw[if_pos h4]at h;cases h
    rw[if_neg h4]at h;cases h;have ha:=(mu e).1 _ _ em;rcases bj.1 hi with g|g
    ·exact hi' i g
    have hd0:0<=(t.1.length:Int)-a:=by omega
    have hd1:(t.1.length:Int)-a<=4096:=by omega
    generalize(t.1.length:Int)-a=d at*;have hsk:(⟨5,0,0,d⟩:I).ok:=⟨(by decide:(0:Int)<=5),(by decide:(5:Int)<=65535),(by decide:(0:Int)<=0),(by decide:(0:Int)<=255),(by decide:(0:Int)<=0),(by decide:(0:Int)<=255),hd0,by show d<=4294967295;omega⟩;unfold brI at g;split at g
    ·rw[aV.1 g];exact hsk
    split at g
    ·rename_i h255;rw[aV.1 g];exact Fy hx _ hd0 h255
    rcases bF.1 g with rfl|g
    ·exact hsk
    rw[aV.1 g];exact Fy hx _ (by decide) (by decide)
theorem wE(hv:eW p=true):p.Pairwise (fun a b=>jG a b=true):=by
 rw[dt];intro i j hi hj hij;have:=mW hv hij hj;rw[aa,ag hi,aa,ag hj]at this;exact this
theorem Iy(hv:eW p=true)(ho:okP p):∀e∈p,Ax e∧Six e:=fun e he=>by
 obtain⟨i,hi,rfl⟩:=bH he;have h1:=mA hv hi;have e1:p.getD i E.zero=p[i]:=by rw[aa,ag hi];rfl
 rw[fS,aL,e1,gP,aL,aL]at h1;obtain⟨_,⟨h2,_⟩,h4⟩:=h1;have h2':1<=p[i].rules.length:=by simpa using h2
 have h4':∀ks∈p[i].rules,eG ks=true:=fun ks hk=>bC.1 h4 ks hk
 refine⟨⟨fun e=>by rw[e]at h2';simp at h2',fun ks hk=>⟨(ho _ he).2.2 ks hk,h4' ks hk⟩⟩,fun ks hk=> ?_⟩;have:=h4' ks hk;unfold eG at this;simp at this;exact this.1
structure FiltOk(p:List E):Prop where
 ok:∀x∈ky p,x.ok
 few:∀x∈ky p,few x.c
 len:1<=(ky p).length∧(ky p).length<=4096
 valid:jz (ky p)=(0,0)
 run:∀(c:C)(ip:Int),c.ok->c.args.length=6->runR (ky p) (mw c ip)=(if kP p c=true then 2147418112 else 2147483648)∧1<=runT (ky p) (mw c ip)∧runT (ky p) (mw c ip)<=(ky p).length∧runC (ky p) (mw c ip)=0
theorem xX(hv:eW p=true)(ho:okP p)(hc:vS p=0):FiltOk p:=by
 obtain⟨out,_,m,_,hl⟩:=wO p;have hlen:out.length<=4096:=by
  unfold vS at hc;rw[if_pos hv]at hc;unfold tR at hc;rw[hl]at hc;simp only at hc;split at hc
  ·assumption
  cases hc
 have hL:ky p=out.reverse:=by
  unfold ky;rw[if_pos hv];exact(Ha hl hlen).2
 obtain⟨w1,w2,w3,w4⟩:=sS hv ho;have hok:=xp p w1 w2 (by omega);have hw:=Iy hv ho;obtain⟨hne,hval,hfew⟩:=xK (fun e he=>(hw e he).2) hl hlen;have hout:=Em (iY p) hl (fun x hx=>(hok x hx).1) hlen;refine⟨fun x hx=>by rw[hL]at hx;exact hout x (List.mem_reverse.1 hx),fun x hx=>by rw[hL]at hx;exact hfew x (List.mem_reverse.1 hx),by rw[hL,dc];exact⟨hne,hlen⟩,by rw[hL];exact hval,fun c ip hcok h6=> ?_⟩;have R:=rec_of hcok h6 ip;obtain⟨k,k1,k2,k3⟩:=Ad R (wE hv) (fun e he=>(hw e he).1) hl jU;have hvb:(nK out.reverse&&(mw c ip).length==64)=true:=by
  unfold nK;rw[hval,rI h6];rfl
 have hall:kP p c=p.any (ov c):=by
  unfold kP;rw[hv,h6];rfl
 have k3':=k3 out.reverse.length (ae _);rw[hL];unfold runR runT runC;rw[if_pos hvb,if_pos hvb,if_pos hvb,k3',hall];exact⟨rfl,k1,k2,rfl⟩
theorem IY(hc:vS p≠0):ky p=[]:=by
 unfold vS at hc;unfold ky;split
 ·rename_i hv;rw[if_pos hv]at hc;unfold tR at hc;unfold sH;split
  ·rfl
  rename_i s hs;rw[hs]at hc;simp only at hc;split
  ·rename_i h;rw[if_pos h]at hc;exact absurd rfl hc
  rfl
 rfl
end Go.Proofs.YtdihdapmphkhpaaGreat
