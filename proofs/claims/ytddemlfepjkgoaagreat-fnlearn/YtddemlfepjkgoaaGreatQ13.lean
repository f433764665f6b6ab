import Derived.RangeFuncNested
import Derived.RangeFuncBound
import Derived.RangeFuncLeaves
import Derived.RangeFuncBox
import Derived.Shelf.Abstract
import Derived.OwnWalkIn
import Derived.TacticsInMore
import Derived.LoopNIn
import Derived.LoopIn
import Derived.Maps.RangeRun
import Derived.Test.YtddemlfepjkgoaaGreatQ12
set_option linter.all false
set_option maxRecDepth 200000
set_option maxHeartbeats 16000000
namespace Go.Proofs.YtddemlfepjkgoaaGreat
open Go.RowKit Go.Shelf
set_option linter.unusedSimpArgs false
attribute [local go_sem]Oper.semAt_some
def KpS(n₀:Nat)(W W':World):Prop:=Below n₀ W W'∧KeepsWalks W W'
theorem KpS.trans{n₀:Nat}{a b c:World}(h:KpS n₀ a b)(k:KpS n₀ b c):KpS n₀ a c:=⟨h.1.trans k.1,h.2.trans k.2⟩
theorem KpS.refl(n₀:Nat)(a:World):KpS n₀ a a:=⟨Below.refl _ _,KeepsWalks.refl _⟩
def itLeft(w:World)(r n:Nat):Nat:=match w.heap[r]? with|some (.mapIter _ _ seen _)=>n-seen.size|_=>0
def keyJ(os:List GEl)(j:Nat):Id2:=(os.getD j ((0,0),[],undef)).1
structure ItS(w:World)(r m:Nat)(os:List GEl)(seen:Array Nat):Prop where
 it:w.heap[r]? =some (.mapIter (some m) os.length seen os.length)
 mp:w.heap[m]? =some (.map (entsI (kvG os)) os.length)
 nd:seen.toList.Nodup
 lt:∀j∈seen.toList,j<os.length
theorem ItS.keep{w w':World}{r m:Nat}{os:List GEl}{seen:Array Nat}(h:ItS w r m os seen)(hk:KeepsWalks w w'):ItS w' r m os seen:=
 ⟨hk.same r _ h.it rfl,hk.same m _ h.mp rfl,h.nd,h.lt⟩
theorem ents_mem{os:List GEl}{e:MapEntry}(h:e∈(entsI (kvG os)).toList):e.born<os.length∧e.key=idV (keyJ os e.born):=by
 obtain⟨q,hq⟩:=List.mem_iff_getElem?.1 h;rw[Array.getElem?_toList,entsI_get]at hq
 cases hk:(kvG os)[q]? with
 |none=>rw[hk]at hq;cases hq
 |some p=>
  rw[hk]at hq;simp at hq;subst hq;have hl:q<os.length:=by have:=(List.getElem?_eq_some_iff.1 hk).1;simpa[kvG]using this
  refine⟨hl,?_⟩;simp[kvG,List.getElem?_eq_getElem hl]at hk;simp[keyJ,List.getD_eq_getElem?_getD,List.getElem?_eq_getElem hl,<-hk]
theorem ItS.next{w:World}{r m:Nat}{os:List GEl}{seen:Array Nat}(h:ItS w r m os seen)(hrm:r≠m)(ty:TypeId):
 ((∀j,j<os.length->j∈seen.toList)∧(Instr.next (.pointer (some ⟨r,0,none⟩)) false ty).run Tryz.prog w=.ok (.tuple #[.bool false]) w)∨
 ∃(j:Nat)(v:Value)(w1:World),j<os.length∧(Instr.next (.pointer (some ⟨r,0,none⟩)) false ty).run Tryz.prog w=.ok (.tuple #[.bool true,idV (keyJ os j),v]) w1∧ItS w1 r m os (seen.push j)∧seen.size<os.length∧w.grownBy w1 (some r)∧w1.heap.size=w.heap.size∧(Instr.entry (.pointer (some ⟨r,0,none⟩))).run Tryz.prog w1=.ok (.tuple #[idV (keyJ os j),v]) w1:=by
 have hold:∀x∈(entsI (kvG os)).toList,x.born<os.length:=fun x hx=>(ents_mem hx).1
 have hbn:((entsI (kvG os)).toList.map (·.born)).Nodup:=by
  have e:(entsI (kvG os)).toList.map (·.born)=List.range (kvG os).length:=by
   apply List.ext_getElem?
   intro j
   rw[List.getElem?_map,Array.getElem?_toList,entsI_get]
   by_cases hj:j<(kvG os).length
   ·simp[hj]
   ·rw[List.getElem?_eq_none (Nat.le_of_not_lt hj),List.getElem?_eq_none (show(List.range (kvG os).length).length<=j by simp;omega)];rfl
  rw[e];exact List.nodup_range
 rcases run_next_at (P:=Tryz.prog) w ty r m os.length os.length seen (entsI (kvG os)) os.length h.it h.mp hold (Nat.le_refl _)with⟨h1,h2⟩|⟨e,he,w1,hw1,h2⟩
 ·refine .inl ⟨fun j hj=> ?_,h2⟩
  have h3:leftOf (entsI (kvG os)) seen= #[]:=Array.eq_empty_of_size_eq_zero h1
  unfold leftOf at h3
  rw[Array.filter_eq_empty_iff]at h3
  have hkj:j<(kvG os).length:=by simpa[kvG]using hj
  have h4:=h3 (⟨idV ((kvG os)[j]).1,((kvG os)[j]).2,j⟩:MapEntry) (by
   rw[Array.mem_iff_getElem?]
   exact⟨j,by rw[entsI_get,List.getElem?_eq_getElem hkj];rfl⟩)
  simp at h4
  simpa using h4
 ·obtain⟨hm1,hm2⟩:=mem_left he
  obtain⟨g1,g2⟩:=ents_mem hm1
  have hns:e.born∉seen.toList:=by simpa using hm2
  have hw1h:w1.heap=w.heap:=by rcases hw1 with rfl|rfl<;>rfl
  have hrl:r<w.heap.size:=(Array.getElem?_eq_some_iff.1 h.it).1
  have hit':(ChangeMaps.setBlock w1 r (.mapIter (some m) os.length (seen.push e.born) os.length)).heap[r]? =some (.mapIter (some m) os.length (seen.push e.born) os.length):=by
   simp[ChangeMaps.setBlock,hw1h,hrl]
  have hoth:∀b,b≠r->(ChangeMaps.setBlock w1 r (.mapIter (some m) os.length (seen.push e.born) os.length)).heap[b]? =w.heap[b]? :=fun b hb=>by
   simp only[ChangeMaps.setBlock,hw1h,Array.getElem?_setIfInBounds];rw[if_neg (fun e=>hb e.symm)]
  have hS':ItS (ChangeMaps.setBlock w1 r (.mapIter (some m) os.length (seen.push e.born) os.length)) r m os (seen.push e.born):=by
   refine⟨hit',(hoth m (fun e=>hrm e.symm)).trans h.mp,?_,fun j hj=> ?_⟩
   ·rw[Array.toList_push,List.nodup_append]
    refine⟨h.nd,by simp,fun a ha b hb e'=> ?_⟩
    simp at hb;subst hb;subst e';exact hns ha
   ·rw[Array.toList_push,List.mem_append,List.mem_singleton]at hj
    rcases hj with hj|rfl
    ·exact h.lt j hj
    ·exact g1
  refine .inr ⟨e.born,e.val,_,g1,by rw[h2,g2],hS',?_,?_,by simp[ChangeMaps.setBlock,hw1h],?_⟩
  ·have:=nodup_len (cs:=List.range os.length) hS'.nd (fun j hj=>List.mem_range.2 (hS'.lt j hj))
   simp at this;omega
  ·refine⟨?_,?_,?_,by simp[ChangeMaps.setBlock,hw1h],fun b hb hne=>hoth b (fun e=>hne (by rw[e]))⟩<;>(rcases hw1 with rfl|rfl<;>rfl)
  ·rw[run_entry_at _ r m os.length seen (entsI (kvG os)) os.length e hit' hS'.mp hm1 hbn,g2]
def seenK(os:List GEl)(seen:Array Nat):List Id2:=seen.toList.map (keyJ os)
theorem seenK_push(os:List GEl)(seen:Array Nat)(j:Nat):seenK os (seen.push j)=seenK os seen++[keyJ os j]:=by simp[seenK]
theorem seenK_all{os:List GEl}{seen:Array Nat}(h1:∀j,j<os.length->j∈seen.toList)(h2:∀j∈seen.toList,j<os.length)(i:Id2):i∈seenK os seen↔∃p∈os,p.1=i:=by
 unfold seenK;rw[List.mem_map];constructor
 ·rintro⟨j,hj,rfl⟩;have:=h2 j hj;refine⟨os[j],List.getElem_mem this,?_⟩;simp[keyJ,List.getD_eq_getElem?_getD,List.getElem?_eq_getElem this]
 rintro⟨p,hp,rfl⟩;obtain⟨j,hj,rfl⟩:=List.mem_iff_getElem.1 hp;exact⟨j,h1 j hj,by simp[keyJ,List.getD_eq_getElem?_getD,List.getElem?_eq_getElem hj]⟩
theorem run_rangeM(m:Nat)(es:Array MapEntry)(c:Nat)(w:World)(h:w.heap[m]? =some (.map es c)):(Instr.range 54 (.map (some m))).run Tryz.prog w=.ok (.pointer (some ⟨w.heap.size,0,none⟩)) (w.alloc (.mapIter (some m) c #[] c)):=by
 simp[Instr.range,run_underlying Tryz.underlying54,MapKept.run_getObj_map h,go_sem,Result.andThen]
theorem keys1_in(F:Fence)(n:Nat)(hf:F.fn 57)(hro:F.round=none)(hn:1<=n)(l Bm m n₀:Nat)(os:List GEl)(J Jx:List Id2->World->Prop)
 (hY:∀pre x W,J pre W->pre.length<os.length->YieldAt F (n-1) Tryz.prog l #[idV x] W fun e W'=>
  (e=.returned (.bool true)∧J (pre++[x]) W'∧KpS n₀ W W')∨(e=.returned (.bool false)∧Jx (pre++[x]) W'))
 (W:World)(hJ:AbidesFrom W.heap.size J)(hBm:W.cell? ⟨Bm,0,none⟩=some (.map (some m)))(hm:W.heap[m]? =some (.map (entsI (kvG os)) os.length))(h0:J [] W):
 CallsIn F n Tryz.prog 57 #[.func (.yield l) #[] #[],.pointer (some ⟨Bm,0,none⟩)] W fun e W'=>(∃v,e=.returned v)∧
  ((∃ss,((∀i,i∈ss↔∃p∈os,p.1=i)∧ss.length<=os.length)∧J ss W')∨(∃pre,True∧Jx pre W')):=by
 have hrm:W.heap.size≠m:=by have:=(Array.getElem?_eq_some_iff.1 hm).1;omega
 have hrg:=run_rangeM m _ _ W hm
 have h1:ItS (W.alloc (.mapIter (some m) os.length #[] os.length)) W.heap.size m os #[]:=
  ⟨heap_alloc_new W _,(Below.heap_alloc _ _ m (by have:=(Array.getElem?_eq_some_iff.1 hm).1;omega)).trans hm,by simp,by simp⟩
 have hJ1:J [] (W.alloc (.mapIter (some m) os.length #[] os.length)):=hJ [] W _ none h0 (World.grownBy_alloc W _ none) (fun r e=>by cases e)
 refine callsIn_of_wp Tryz.func57 rfl hf ?_ hro
 simp only[Tryz.ntmps57,List.size_toArray,List.length_cons,List.length_nil,Nat.reduceAdd,Nat.reduceSub,Array.replicate_succ,Array.replicate_zero,List.push_toArray,List.append_toArray,List.nil_append,List.cons_append]
 gi_wp2
 generalize W.alloc (.mapIter (some m) os.length #[] os.length)=W1 at*
 gi_loopw [3](fun _ wr=>∃seen:Array Nat,ItS wr W.heap.size m os seen∧J (seenK os seen) wr)(fun _ wr=>itLeft wr W.heap.size os.length)
 case atStart=>exact⟨#[],h1,hJ1⟩
 case round=>
  clear h1 hJ1
  obtain⟨seen,hI,hJs⟩:=hrel
  rcases hI.next hrm 0 with⟨g1,g2⟩|⟨j,v,w1,g1,g2,g3,g4,g5,g6,g7⟩
  ·gi_wp2
   go_end0
   exact⟨⟨_,rfl⟩,.inl ⟨_,⟨seenK_all g1 hI.lt,by
    have:=nodup_len (cs:=List.range os.length) hI.nd (fun j hj=>List.mem_range.2 (hI.lt j hj))
    simp[seenK]at this⊢;omega⟩,hJs⟩⟩
  ·have hJ2:J (seenK os seen) w1:=hJ _ wr w1 (some W.heap.size) hJs g5 (fun r e=>by cases e;exact⟨Nat.le_refl _,_,hI.it,rfl⟩)
   have hJ3:J (seenK os seen) (w1.alloc (.cells #[.int .u32 (keyJ os j).1,.int .u32 (keyJ os j).2] 61)):=hJ _ w1 _ none hJ2 (World.grownBy_alloc w1 _ none) (fun r e=>by cases e)
   have hI3:=g3.keep (KeepsWalks.alloc w1 (.cells #[.int .u32 (keyJ os j).1,.int .u32 (keyJ os j).2] 61))
   obtain⟨fn,tmps,assign,body,hy,hR⟩:=hY _ (keyJ os j) _ hJ3 (by simp[seenK];omega)
   have HM:Hid (itLeft wr W.heap.size os.length=os.length-seen.size):=by show _=_;simp[itLeft,hI.it]
   dsimp only[idV]at hy g2 g7
   clear g3 hI hJs hJ2 hJ3 g5
   gi_wp2
   refine hR.mono ?_
   rintro e W3(⟨rfl,hJ4,hk4⟩|⟨rfl,hJx4⟩)
   ·gi_wp2
    have hI4:=hI3.keep hk4.2
    go_roundw
    case rel=>exact⟨seen.push j,hI4,by rw[seenK_push];exact hJ4⟩
    case measure=>rw[HM.out];simp[itLeft,hI4.it];omega
   ·gi_wp2
    refine bodyPost_ret (results_none rfl _ _ _) rfl ?_
    exact⟨⟨_,rfl⟩,.inr ⟨_,trivial,hJx4⟩⟩
theorem keys_stops(F:Fence)(n:Nat)(hf:F.fn 57)(hro:F.round=none)(hn:1<=n)(Bm m n₀:Nat)(os:List GEl)(w:World)(hBm:w.cell? ⟨Bm,0,none⟩=some (.map (some m)))(hm:w.heap[m]? =some (.map (entsI (kvG os)) os.length)):
 SeqStopsK F n Tryz.prog 57 #[.pointer (some ⟨Bm,0,none⟩)] (fun x:Id2=> #[idV x]) (KpS n₀) (fun ss=>(∀i,i∈ss↔∃p∈os,p.1=i)∧ss.length<=os.length) (fun _=>True) os.length w:=fun l J Jx W hW hJ _ hY h0=>
 keys1_in F n hf hro hn l Bm m n₀ os J Jx hY W hJ (cell_step hW hBm) ((hW.block m (Array.getElem?_eq_some_iff.1 hm).1).trans hm) h0
theorem keys_any(m:Option Nat)(w:World):
 Calls Tryz.prog 27 #[.map m] w fun e w'=>e=.returned (.func (.func 57) #[] #[.pointer (some ⟨w.heap.size,0,none⟩)])∧w'=w.alloc (.cells #[.map m] 54):=by
 go_enter Tryz.func27,Tryz.ntmps27;go_wp2;go_ret;exact⟨rfl,rfl⟩
set_option linter.unusedSimpArgs false
attribute [local go_sem]Oper.semAt_some
theorem form_some{w:World}{B t s n:Nat}{v:Value}{xs:List Value}(h:w.ownsRow B t s v n xs)(hn:0<n):∃g cap,v=.slice (some ⟨g,0,none⟩) n cap:=by
 obtain⟨_,⟨_,h0⟩|⟨g,cap,_,rfl,_⟩⟩:=h
 ·omega
 exact⟨g,cap,rfl⟩
theorem form_nil{w:World}{B t s n:Nat}{v:Value}{xs:List Value}(h:w.ownsRow B t s v n xs):∃a cap,v=.slice a n cap:=by
 obtain⟨_,⟨rfl,rfl⟩|⟨g,cap,_,rfl,_⟩⟩:=h
 ·exact⟨_,_,rfl⟩
 exact⟨_,_,rfl⟩
theorem BR.turn{t s:Nat}{w W W':World}{v:Value}{n:Nat}{xs:List Value}{row:Option Nat}{B:Nat}(h:BR t s w W v n xs)(hB:w.heap.size<=B)(hg:W.grownBy W' row)(hr:∀r,row=some r->B<=r∧∃o:Obj,W.heap[r]? =some o∧o.isCells=false):BR t s w W' v n xs:=by
 have hr2:=fun r e=>(hr r e).2
 refine⟨ownFrom_below (β:=Unit) (Nat.le_refl _) hB () W W' row h.b hg hr,cell_kept h.c hg hr2,(frozen_kept h.c hg hr2).trans h.f,row_blockM h.own fun q hq=> ?_⟩;have hlt:=(h.own.lt q hq).2;refine hg.block q hlt fun e=> ?_
 obtain⟨o,h1,h2⟩:=hr2 q e.symm;obtain⟨_,⟨rfl,_⟩|⟨g,cap,cur,rfl,_,h3,_⟩⟩:=h.own
 ·cases hq
 cases hq;rw[h1]at h3;cases h3;cases h2
theorem BR.app{t s:Nat}{w W w3:World}{v:Value}{n m gg cap:Nat}{xs ys:List Value}{o:Obj}(h:BR t s w W v n xs)(hown:w3.ownsRow (w.heap.size+1) t s (.slice (some ⟨gg,0,none⟩) m cap) m ys)(hg:(W.alloc o).grownBy w3 v.ownBlock):
 w3.cell? ⟨w.heap.size,0,none⟩=some v∧w3.frozen? ⟨w.heap.size,0,none⟩=false∧KeepsOthers W (w3.setCell ⟨w.heap.size,0,none⟩ (.slice (some ⟨gg,0,none⟩) m cap))∧Below w.heap.size W (w3.setCell ⟨w.heap.size,0,none⟩ (.slice (some ⟨gg,0,none⟩) m cap))∧BR t s w (w3.setCell ⟨w.heap.size,0,none⟩ (.slice (some ⟨gg,0,none⟩) m cap)) (.slice (some ⟨gg,0,none⟩) m cap) m ys:=by
 have h':=h.keep ((Below.refl _ _).alloc (Nat.le_refl _) o);obtain⟨x1,x2,x3⟩:=h'.next hown hg;have hs:=h.b.size;refine⟨x1,x2,((KeepsOthers.alloc W o).trans (KeepsOthers.of_grownBy hg fun j ob hj hob=> ?_)).trans (KeepsOthers.setCell _ _ _),((((Below.refl _ _).alloc hs o).grown hg (by simp;omega) (fun k e=>by have:=(h.own.lt k e).1;omega)).setCell (p:=⟨w.heap.size,0,none⟩) (Nat.le_refl _) _),x3⟩;have h2:=h'.own;obtain⟨_,⟨rfl,_⟩|⟨g,cap',cur,rfl,_,h3,_⟩⟩:=h2
 ·cases hj
 cases hj;rw[hob]at h3;cases h3;rfl
def ColP{α:Type}(t s:Nat)(enc:α->List Value)(S:List α->Prop)(w:World)(e:Ending)(w':World):Prop:=∃v xs,e=.returned v∧S xs∧w'.ownsRow w.heap.size t s v xs.length (xs.flatMap enc)∧Below w.heap.size w w'
def cIq(x:Id2):List Value:=[.int .u32 x.1,.int .u32 x.2]
theorem infoAqI:(Tryz.prog.info? 61).map (fun i=>(i.zero,i.size,i.bytes))=some (some (.agg #[.int .u32 0,.int .u32 0]),2,8):=by kernel_rfl
theorem appSeqI_any(gf:Nat)(lb:Array Value)(S Sp:List Id2->Prop)(N:Nat)(w:World)(eg:∀args w,(callFunc gf args).run Tryz.prog w=.ok (.enter gf args) w)
 (hseq:SeqStopsK Fence.wide 2 Tryz.prog gf lb (fun x:Id2=> #[idV x]) (KpS w.heap.size) S Sp N w)(hN:N<=1000):
 Calls Tryz.prog 56 #[.slice none 0 0,.func (.func gf) #[] lb] w (ColP 61 2 (cIq) S w):=by
 obtain⟨i0,hi,hz0,hz1,hz2⟩:=info_parts infoAqI
 have T0:=BR.new 61 2 w 58
 have hs0:(w.alloc (.cells #[.slice none 0 0] 58)).heap.size=w.heap.size+1:=by simp
 have hb0:Below w.heap.size w (w.alloc (.cells #[.slice none 0 0] 58)):=(Below.refl _ _).alloc (Nat.le_refl _) _
 refine(callsIn_wide (n:=3)).1 ?_
 refine callsIn_of_wp_marks Tryz.func56 rfl trivial ?_ rfl
 simp only[Tryz.ntmps56,List.size_toArray,List.length_cons,List.length_nil,Nat.reduceAdd,Nat.reduceSub,Array.replicate_succ,Array.replicate_zero,List.push_toArray,List.append_toArray,List.nil_append,List.cons_append]
 gi_wp2
 generalize w.alloc (.cells #[.slice none 0 0] 58)=W0 at*
 refine wpIn_rangeFunc_ownH rfl (by omega) (gf:=gf) (lb:=lb) rfl trivial eg hseq KpS.trans (fun W l o o' hl h1 h2 h3=> ?kb) hb0 (fun _=>rfl)
  (fun pre W=>∃v,BR 61 2 w W v pre.length (pre.flatMap (cIq)))
  (fun _ _ _=>False)
  (fun pre A B row hs hg hr=> ?hI)
  (fun c pre A B row hs hg hr=>hs)
  ⟨_,T0⟩
  (fun x a' W=>∃Bx,(W.cell? ⟨Bx,0,none⟩=some (.int .u32 x.1)∧W.cell? ⟨Bx,1,none⟩=some (.int .u32 x.2))∧a'={tmps:= #[.slice none 0 0,.func (.func gf) #[] lb,.pointer (some ⟨w.heap.size,0,none⟩),undef,.slice none 0 0,.pointer (some ⟨Bx,0,none⟩),.func (.func gf) #[] lb,idV x,undef,undef,undef,undef,undef],defers:=[]})
  (fun x a' _ X Y row hs hg hr=> ?hAx)
  ?assign ?body ?done ?stop
 case kb=>exact⟨belowK_b (w:=W0) (by omega) W l o o' hl h1 h2 h3,KeepsWalks.putObj _ h1 h3⟩
 case hI=>
  obtain⟨v,h1⟩:=hs
  exact⟨v,h1.turn (by omega) hg hr⟩
 case hAx=>
  obtain⟨Bx,⟨c0,c1⟩,h3⟩:=hs
  have hr2:=fun r e=>(hr r e).2
  exact⟨Bx,⟨cell_kept c0 hg hr2,cell_kept c1 hg hr2⟩,h3⟩
 case assign=>
  rintro l pre x W K⟨v,h1⟩hK
  have hba:∀ob,Below W.heap.size W (W.alloc ob):=fun ob=>(Below.refl _ _).alloc (Nat.le_refl _) ob
  have hsW:=h1.b.size
  unfold idV at hK⊢
  gi_wp2
  refine hK _ _ ((KeepsOthers.alloc _ _).from _) ⟨(Below.refl _ W).alloc hsW _,KeepsWalks.alloc _ _⟩ ⟨v,h1.keep (hba _)⟩ ⟨W.heap.size,⟨by simp,by simp⟩,rfl⟩
 case body=>
  rintro l pre x a' W hl hr⟨v,h1⟩⟨Bx,⟨c0,c1⟩,rfl⟩hlt
  obtain⟨av,cv,rfl⟩:=form_nil h1.own
  have hc:=h1.c
  have hbm:pre.length+1<=maxLen:=by unfold maxLen;omega
  have hbd:(pre.length+1)*8<=140737488355328:=by omega
  have hsz:=h1.b.size
  have hO:=h1.own
  unfold idV
  gi_wp2_with(gi_at_builtin;refine wpListIn_append_own _ rfl _ _ 58 rfl (w.heap.size+1) 61 i0 _ 2 8 Tryz.underlying58 hi hz0 hz1 hz2 rfl (by decide) (.slice av pre.length cv) pre.length _ rfl (hO.alloc _) ⟨W.heap.size,0,none⟩ 1 1 (cIq x) rfl rfl (World.news_of_block (t:=61) (fr:=(0,0)) (heap_alloc_new W _)) (by simp[cIq,Value.oneCell']) hbm hbd (by have:=cell_ltM hc;simp at this⊢;omega) ?_;intro v' w3 hown hg3 hnil;obtain⟨gg,cap',rfl⟩:=form_some hown (by omega);obtain⟨x1,x2,x3,x4,x5⟩:=h1.app hown hg3)
  exact⟨x3.from _,⟨x4,x3.walks⟩,_,by rw[List.flatMap_append,List.length_append];simpa using x5⟩
 case done=>
  rintro D xs W hD hS⟨v,h1⟩hK
  have hc:=h1.c
  have HF:Hid (ColP 61 2 (cIq) S w (.returned v) (W.putObj D (.deferred none))):=⟨v,xs,rfl,hS,(row_blockM (h1.own.mono (by omega)) fun q hq=>by
   have hlt:=(h1.own.lt q hq).2
   refine(grownBy_putObj' W D (.deferred none)).block q hlt fun e=> ?_
   injection e with e
   subst e
   obtain⟨_,⟨rfl,_⟩|⟨g,cap,cur,rfl,_,h3,_⟩⟩:=h1.own
   ·cases hq
   ·cases hq;rw[hK]at h3;cases h3),h1.b.trans (belowK_b (w:=w) (Nat.le_refl _) _ D _ _ (by omega) hK rfl rfl)⟩
  clear h1
  gi_wp2
  refine⟨by simp,.inl ⟨_,_,rfl,run_takeDeferred hK,?_⟩⟩
  exact⟨v,by simp[results,Tryz.results56,go_sem],HF.out⟩
 case stop=>exact fun _ _ _ _ _ _ h _=>h.elim
theorem collectI_any(gf:Nat)(lb:Array Value)(S Sp:List Id2->Prop)(N:Nat)(w:World)(eg:∀args w,(callFunc gf args).run Tryz.prog w=.ok (.enter gf args) w)
 (hseq:SeqStopsK Fence.wide 2 Tryz.prog gf lb (fun x:Id2=> #[idV x]) (KpS w.heap.size) S Sp N w)(hN:N<=1000):
 Calls Tryz.prog 26 #[.func (.func gf) #[] lb] w (ColP 61 2 (cIq) S w):=by
 go_enter Tryz.func26,Tryz.ntmps26
 have HA:Hid (Calls Tryz.prog 56 #[.slice none 0 0,.func (.func gf) #[] lb] w (ColP 61 2 (cIq) S w)):=appSeqI_any gf lb S Sp N w eg hseq hN
 clear hseq eg
 go_wp2_with fail
 refine Calls.mono HA.out ?_
 rintro _ w1⟨v,xs,rfl,h1,h2,h3⟩
 go_wp2
 go_ret
 exact⟨v,xs,rfl,h1,h2,h3⟩
set_option linter.unusedSimpArgs false
attribute [local go_sem]Oper.semAt_some
def chV(b o i:Nat):Value:=.slice (some ⟨b,o+i*6,none⟩) 1 1
def cLq(b o:Nat)(x:Nat):List Value:=[.slice (some ⟨b,o+x*6,none⟩) 1 1]
theorem infoAqL:(Tryz.prog.info? 66).map (fun i=>(i.zero,i.size,i.bytes))=some (some (.slice none 0 0),1,24):=by kernel_rfl
theorem appSeqL_any(b o:Nat)(gf:Nat)(lb:Array Value)(S Sp:List Nat->Prop)(N:Nat)(w:World)(eg:∀args w,(callFunc gf args).run Tryz.prog w=.ok (.enter gf args) w)
 (hseq:SeqStopsK Fence.wide 2 Tryz.prog gf lb (fun x:Nat=> #[chV b o x]) (KpS w.heap.size) S Sp N w)(hN:N<=1000):
 Calls Tryz.prog 93 #[.slice none 0 0,.func (.func gf) #[] lb] w (ColP 66 1 (cLq b o) S w):=by
 obtain⟨i0,hi,hz0,hz1,hz2⟩:=info_parts infoAqL
 have T0:=BR.new 66 1 w 75
 have hs0:(w.alloc (.cells #[.slice none 0 0] 75)).heap.size=w.heap.size+1:=by simp
 have hb0:Below w.heap.size w (w.alloc (.cells #[.slice none 0 0] 75)):=(Below.refl _ _).alloc (Nat.le_refl _) _
 refine(callsIn_wide (n:=3)).1 ?_
 refine callsIn_of_wp_marks Tryz.func93 rfl trivial ?_ rfl
 simp only[Tryz.ntmps93,List.size_toArray,List.length_cons,List.length_nil,Nat.reduceAdd,Nat.reduceSub,Array.replicate_succ,Array.replicate_zero,List.push_toArray,List.append_toArray,List.nil_append,List.cons_append]
 gi_wp2
 generalize w.alloc (.cells #[.slice none 0 0] 75)=W0 at*
 refine wpIn_rangeFunc_ownH rfl (by omega) (gf:=gf) (lb:=lb) rfl trivial eg hseq KpS.trans (fun W l o o' hl h1 h2 h3=> ?kb) hb0 (fun _=>rfl)
  (fun pre W=>∃v,BR 66 1 w W v pre.length (pre.flatMap (cLq b o)))
  (fun _ _ _=>False)
  (fun pre A B row hs hg hr=> ?hI)
  (fun c pre A B row hs hg hr=>hs)
  ⟨_,T0⟩
  (fun x a' W=>a'={tmps:= #[.slice none 0 0,.func (.func gf) #[] lb,.pointer (some ⟨w.heap.size,0,none⟩),undef,.slice none 0 0,chV b o x,.func (.func gf) #[] lb,chV b o x,undef,undef,undef,undef,undef],defers:=[]})
  (fun x a' _ X Y row hs hg hr=>hs)
  ?assign ?body ?done ?stop
 case kb=>exact⟨belowK_b (w:=W0) (by omega) W l o o' hl h1 h2 h3,KeepsWalks.putObj _ h1 h3⟩
 case hI=>
  obtain⟨v,h1⟩:=hs
  exact⟨v,h1.turn (by omega) hg hr⟩
 case assign=>
  rintro l pre x W K⟨v,h1⟩hK
  unfold chV at hK⊢
  gi_wp2
  exact hK _ _ (KeepsFrom.refl _ _) (KpS.refl _ _) ⟨v,h1⟩ rfl
 case body=>
  rintro l pre x a' W hl hr⟨v,h1⟩rfl hlt
  obtain⟨av,cv,rfl⟩:=form_nil h1.own
  have hc:=h1.c
  have hbm:pre.length+1<=maxLen:=by unfold maxLen;omega
  have hbd:(pre.length+1)*24<=140737488355328:=by omega
  have hsz:=h1.b.size
  have hO:=h1.own
  unfold chV
  gi_wp2_with(gi_at_builtin;refine wpListIn_append_own _ rfl _ _ 75 rfl (w.heap.size+1) 66 i0 _ 1 24 Tryz.underlying75 hi hz0 hz1 hz2 rfl (by decide) (.slice av pre.length cv) pre.length _ rfl (hO.alloc _) ⟨W.heap.size,0,none⟩ 1 1 (cLq b o x) rfl rfl (World.news_of_block (t:=66) (fr:=(0,0)) (heap_alloc_new W _)) (by simp[cLq,Value.oneCell']) hbm hbd (by have:=cell_ltM hc;simp at this⊢;omega) ?_;intro v' w3 hown hg3 hnil;obtain⟨gg,cap',rfl⟩:=form_some hown (by omega);obtain⟨x1,x2,x3,x4,x5⟩:=h1.app hown hg3)
  exact⟨x3.from _,⟨x4,x3.walks⟩,_,by rw[List.flatMap_append,List.length_append];simpa using x5⟩
 case done=>
  rintro D xs W hD hS⟨v,h1⟩hK
  have hc:=h1.c
  have HF:Hid (ColP 66 1 (cLq b o) S w (.returned v) (W.putObj D (.deferred none))):=⟨v,xs,rfl,hS,(row_blockM (h1.own.mono (by omega)) fun q hq=>by
   have hlt:=(h1.own.lt q hq).2
   refine(grownBy_putObj' W D (.deferred none)).block q hlt fun e=> ?_
   injection e with e
   subst e
   obtain⟨_,⟨rfl,_⟩|⟨g,cap,cur,rfl,_,h3,_⟩⟩:=h1.own
   ·cases hq
   ·cases hq;rw[hK]at h3;cases h3),h1.b.trans (belowK_b (w:=w) (Nat.le_refl _) _ D _ _ (by omega) hK rfl rfl)⟩
  clear h1
  gi_wp2
  refine⟨by simp,.inl ⟨_,_,rfl,run_takeDeferred hK,?_⟩⟩
  exact⟨v,by simp[results,Tryz.results93,go_sem],HF.out⟩
 case stop=>exact fun _ _ _ _ _ _ h _=>h.elim
theorem collectL_any(b o:Nat)(gf:Nat)(lb:Array Value)(S Sp:List Nat->Prop)(N:Nat)(w:World)(eg:∀args w,(callFunc gf args).run Tryz.prog w=.ok (.enter gf args) w)
 (hseq:SeqStopsK Fence.wide 2 Tryz.prog gf lb (fun x:Nat=> #[chV b o x]) (KpS w.heap.size) S Sp N w)(hN:N<=1000):
 Calls Tryz.prog 65 #[.func (.func gf) #[] lb] w (ColP 66 1 (cLq b o) S w):=by
 go_enter Tryz.func65,Tryz.ntmps65
 have HA:Hid (Calls Tryz.prog 93 #[.slice none 0 0,.func (.func gf) #[] lb] w (ColP 66 1 (cLq b o) S w)):=appSeqL_any b o gf lb S Sp N w eg hseq hN
 clear hseq eg
 go_wp2_with fail
 refine Calls.mono HA.out ?_
 rintro _ w1⟨v,xs,rfl,h1,h2,h3⟩
 go_wp2
 go_ret
 exact⟨v,xs,rfl,h1,h2,h3⟩
end Go.Proofs.YtddemlfepjkgoaaGreat
