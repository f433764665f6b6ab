import Derived.Test.YtddemlfepjkgoaaGreatQ44
set_option linter.all false
set_option maxRecDepth 200000
set_option maxHeartbeats 16000000
namespace Go.Proofs.YtddemlfepjkgoaaGreat
open Go.RowKit Go.Deep
def SpecLearnP(cs:List C)(ex sp f:Int)(w:World)(e:Ending)(w':World):Prop:=
 ((knobsB ex sp f&&callsB cs)=true∧∃av cv out,e=.returned (.tuple #[.agg #[.slice av (List.length out) cv],.int .i64 0])∧IsLearn cs ex sp f out∧(∀w2:World,w'.heap.size<=w2.heap.size->(∀q,w.heap.size<=q->q<w'.heap.size->w2.heap[q]? =w'.heap[q]?)->LSrc 3 PEC w2 av out)∧out.length<=cv∧Below w.heap.size w w')∨
 ((knobsB ex sp f&&callsB cs)=false∧e=.returned (.tuple #[.agg #[.slice none 0 0],.int .i64 1])∧Below w.heap.size w w')
theorem specLearn_of(ex sp f:Int)(cs:List C)
 (HL0:0<=f∧f<=2->∀(a:Option Addr)(cap:Nat)(w:World),CSrc w a cs->cs.length<=cap->(∀c∈cs,okLa c.args)->cs.length<=1000->Calls Tryz.prog 19 #[.slice a cs.length cap,.agg #[.int .i64 ex,.int .i64 sp,.int .i64 f]] w fun e w'=>∃av cv out,e=.returned (.agg #[.slice av (List.length out) cv])∧IsLearn cs ex sp f out∧(∀w2,w'.heap.size<=w2.heap.size->(∀q,w.heap.size<=q->q<w'.heap.size->w2.heap[q]? =w'.heap[q]?)->LSrc 3 PEC w2 av out)∧out.length<=cv∧Below w.heap.size w w')
 (a:Option Addr)(cap:Nat)(w:World)(hs:CSrc w a cs)(hcap:cs.length<=cap)(hok:∀c∈cs,c.args.length<=1048576∧∀y∈c.args,0<=y∧y<=18446744073709551615)(hn:cs.length<=1048576):
 Calls Tryz.prog 5 #[.slice a cs.length cap,.agg #[.int .i64 ex,.int .i64 sp,.int .i64 f]] w (SpecLearnP cs ex sp f w):=by
 have HK:Hid (∀wr,Calls Tryz.prog 17 #[.agg #[.int .i64 ex,.int .i64 sp,.int .i64 f]] wr fun e w'=>e=.returned (.bool (knobsB ex sp f))∧Below wr.heap.size wr w'):=l4knobsOK_any ex sp f
 have HC:Hid (∀wr,Below w.heap.size w wr->Calls Tryz.prog 18 #[.slice a cs.length cap] wr fun e w'=>e=.returned (.bool (callsB cs))∧Below wr.heap.size wr w'):=fun wr hb=>l2callsOK_any cs a cap wr (hs.below hb) hn (fun c hc=>(hok c hc).1)
 have HL:Hid (knobsB ex sp f=true->callsB cs=true->∀wr,Below w.heap.size w wr->Calls Tryz.prog 19 #[.slice a cs.length cap,.agg #[.int .i64 ex,.int .i64 sp,.int .i64 f]] wr fun e w'=>∃av cv out,e=.returned (.agg #[.slice av (List.length out) cv])∧IsLearn cs ex sp f out∧(∀w2,w'.heap.size<=w2.heap.size->(∀q,wr.heap.size<=q->q<w'.heap.size->w2.heap[q]? =w'.heap[q]?)->LSrc 3 PEC w2 av out)∧out.length<=cv∧Below wr.heap.size wr w'):=fun h1 h2 wr hb=>by
  have g1:=of_decide_eq_true h1
  have g2:=of_decide_eq_true h2
  exact HL0 ⟨g1.2.2.2.2.1,g1.2.2.2.2.2⟩ a cap wr (hs.below hb) hcap (fun c hc=>⟨g2.2 c hc,(hok c hc).2⟩) g2.1
 have HF:Hid (∀av cv out w2,knobsB ex sp f=true->callsB cs=true->IsLearn cs ex sp f out->(∀w3:World,w2.heap.size<=w3.heap.size->(∀q,w.heap.size<=q->q<w2.heap.size->w3.heap[q]? =w2.heap[q]?)->LSrc 3 PEC w3 av out)->out.length<=cv->Below w.heap.size w w2->SpecLearnP cs ex sp f w (.returned (.tuple #[.agg #[.slice av (List.length out) cv],.int .i64 0])) w2):=fun av cv out w2 h1 h2 h3 h4 h5 h6=>.inl ⟨by rw[h1,h2];rfl,av,cv,out,rfl,h3,h4,h5,h6⟩
 have HB:Hid (∀w2,(knobsB ex sp f&&callsB cs)=false->Below w.heap.size w w2->SpecLearnP cs ex sp f w (.returned (.tuple #[.agg #[.slice none 0 0],.int .i64 1])) w2):=fun w2 h1 h2=>.inr ⟨h1,rfl,h2⟩
 have B2:Below w.heap.size w ((w.alloc (.cells #[.int .i64 ex,.int .i64 sp,.int .i64 f] 25)).alloc (.cells #[.slice none 0 0] 30)):=((Below.refl _ _).alloc (Nat.le_refl _) _).alloc (by simp) _
 have q0:=box1 (w.alloc (.cells #[.int .i64 ex,.int .i64 sp,.int .i64 f] 25)) 30 (.slice none 0 0)
 have q2:((w.alloc (.cells #[.int .i64 ex,.int .i64 sp,.int .i64 f] 25)).alloc (.cells #[.slice none 0 0] 30)).frozen? ⟨(w.alloc (.cells #[.int .i64 ex,.int .i64 sp,.int .i64 f] 25)).heap.size,0,none⟩=false:=by simp
 rw[show(w.alloc (.cells #[.int .i64 ex,.int .i64 sp,.int .i64 f] 25)).heap.size=w.heap.size+1 by simp]at q0 q2
 have X2:=(Box3.new w 25 (.int .i64 ex) (.int .i64 sp) (.int .i64 f)).alloc (.cells #[.slice none 0 0] 30)
 have hlt:=cell_ltM q0
 clear HL0 hs hok hcap
 generalize knobsB ex sp f=kb at*
 generalize callsB cs=cb at*
 generalize cs.length=n at*
 obtain⟨_,k0,k1,k2,_,_,_⟩:=id X2
 go_enter Tryz.func5,Tryz.ntmps5
 go_wp2_with fail
 generalize(w.alloc (.cells #[.int .i64 ex,.int .i64 sp,.int .i64 f] 25)).alloc (.cells #[.slice none 0 0] 30)=W2 at*
 refine(HK.out W2).mono ?_
 rintro _ w1⟨rfl,hb1⟩
 have B1:=below_step hb1 B2
 have c0:=cell_step hb1 q0
 have f0:w1.frozen? ⟨w.heap.size+1,0,none⟩=false:=(hb1.frozen (p:=⟨w.heap.size+1,0,none⟩) hlt).trans q2
 have X1:=X2.keep hb1
 clear q0 q2 X2 hb1 B2 HK hlt k0 k1 k2
 cases kb with
 |false=>
  have HB':Hid (SpecLearnP cs ex sp f w (.returned (.tuple #[.agg #[.slice none 0 0],.int .i64 1])) (w1.setCell ⟨w.heap.size+1,0,none⟩ (.slice none 0 0))):=HB.out (w1.setCell ⟨w.heap.size+1,0,none⟩ (.slice none 0 0)) (by first|rfl|trivial|simp) (B1.setCell (p:=⟨w.heap.size+1,0,none⟩) (show w.heap.size<=w.heap.size+1 by omega) _)
  clear HB HF HL HC X1
  go_wp2
  exact bodyPost_ret (v:=.tuple #[.agg #[.slice none 0 0],.int .i64 1]) (by simp[results,Tryz.results5,go_sem,c0]) rfl HB'.out
 |true=>
  go_wp2_with fail
  refine(HC.out w1 B1).mono ?_
  rintro _ w3⟨rfl,hb3⟩
  have B3:=below_step hb3 B1
  have c3:=cell_step hb3 c0
  have f3:w3.frozen? ⟨w.heap.size+1,0,none⟩=false:=(hb3.frozen (p:=⟨w.heap.size+1,0,none⟩) (cell_ltM c0)).trans f0
  obtain⟨_,k0,k1,k2,_,_,_⟩:=X1.keep hb3
  clear c0 f0 X1 hb3 B1 HC
  cases cb with
  |false=>
   have HB':Hid (SpecLearnP cs ex sp f w (.returned (.tuple #[.agg #[.slice none 0 0],.int .i64 1])) (w3.setCell ⟨w.heap.size+1,0,none⟩ (.slice none 0 0))):=HB.out (w3.setCell ⟨w.heap.size+1,0,none⟩ (.slice none 0 0)) (by first|rfl|trivial|simp) (B3.setCell (p:=⟨w.heap.size+1,0,none⟩) (show w.heap.size<=w.heap.size+1 by omega) _)
   clear HB HF HL
   go_wp2
   exact bodyPost_ret (v:=.tuple #[.agg #[.slice none 0 0],.int .i64 1]) (by simp[results,Tryz.results5,go_sem,c3]) rfl HB'.out
  |true=>
   have HL':Hid (∀wr,Below w.heap.size w wr->Calls Tryz.prog 19 #[.slice a n cap,.agg #[.int .i64 ex,.int .i64 sp,.int .i64 f]] wr fun e w'=>∃av cv out,e=.returned (.agg #[.slice av (List.length out) cv])∧IsLearn cs ex sp f out∧(∀w2,w'.heap.size<=w2.heap.size->(∀q,wr.heap.size<=q->q<w'.heap.size->w2.heap[q]? =w'.heap[q]?)->LSrc 3 PEC w2 av out)∧out.length<=cv∧Below wr.heap.size wr w'):=fun wr hb=>HL.out (by first|rfl|trivial) (by first|rfl|trivial) wr hb
   clear HL
   go_wp2_with fail
   refine(HL'.out w3 B3).mono ?_
   rintro _ w4⟨av,cv,out,rfl,hl1,hl2,hl3,hb4⟩
   have h13:w.heap.size+1<w3.heap.size:=cell_ltM c3
   have c4:=cell_step hb4 c3
   have f4:w4.frozen? ⟨w.heap.size+1,0,none⟩=false:=(hb4.frozen (p:=⟨w.heap.size+1,0,none⟩) h13).trans f3
   have HF':Hid (SpecLearnP cs ex sp f w (.returned (.tuple #[.agg #[.slice av out.length cv],.int .i64 0])) (w4.setCell ⟨w.heap.size+1,0,none⟩ (.slice av out.length cv))):=HF.out av cv out (w4.setCell ⟨w.heap.size+1,0,none⟩ (.slice av out.length cv)) (by first|rfl|trivial) (by first|rfl|trivial) hl1 (fun w9 g1 g2=>hl2 w9 (by simpa[World.setCell]using g1) (fun q h1 h2=>(g2 q (by omega) (by simpa[World.setCell]using h2)).trans (by simp only[World.setCell,Array.getElem?_modify];rw[if_neg (by omega)]))) hl3 ((below_step hb4 B3).setCell (p:=⟨w.heap.size+1,0,none⟩) (show w.heap.size<=w.heap.size+1 by omega) _)
   clear HF HB HL' hl1 hl2 hl3 hb4 c3 f3 k0 k1 k2
   go_wp2
   exact bodyPost_ret (v:=.tuple #[.agg #[.slice av out.length cv],.int .i64 0]) (by simp[results,Tryz.results5,go_sem,c4]) rfl HF'.out
theorem specLearn_any(ex sp f:Int)(cs:List C)(a:Option Addr)(cap:Nat)(w:World)(hs:CSrc w a cs)(hcap:cs.length<=cap)(ho:okC cs)(hok:∀c∈cs,c.args.length<=1048576∧∀y∈c.args,0<=y∧y<=18446744073709551615)(hn:cs.length<=1048576):
 Calls Tryz.prog 5 #[.slice a cs.length cap,.agg #[.int .i64 ex,.int .i64 sp,.int .i64 f]] w (SpecLearnP cs ex sp f w):=
 specLearn_of ex sp f cs (fun hf a cap w hs hcap hc hn=>l4learn_of ex sp f (fun t a cap w hs hc hn=>l4rules_any t a cap ex sp f w hs hc hn hf) cs a cap w hs hcap ho hc hn) a cap w hs hcap hok hn
end Go.Proofs.YtddemlfepjkgoaaGreat
namespace Go.Proofs.YtddemlfepjkgoaaGreat
open Go.RowKit
theorem USrc.atA{w:World}{a:Option Addr}{l:List Int}(h:USrc w a l){i:Nat}(hi:i<l.length):∃b o,a=some ⟨b,o,none⟩∧b<w.heap.size∧w.cell? ⟨b,o+i,none⟩=some (.int .u64 (l.getD i 0)):=by
 rcases h with rfl|⟨b,o,h1,h2,h3⟩
 ·simp at hi
 exact⟨b,o,h1,h2,h3 i hi⟩
theorem argU{l:List Int}(h:∀y∈l,isU64 y){i:Nat}(hi:i<l.length):isU64 (l.getD i 0):=by
 rw[List.getD_eq_getElem?_getD,List.getElem?_eq_getElem hi];exact h _ (List.getElem_mem hi)
def hits(e:E)(c:C):Bool:=meets e c&&e.rules.any fun r=>ruleHolds r c.args
theorem valid_entry{p:List E}(h:validP p=true){i:Nat}(hi:i<p.length):(p.getD i E.zero).rules.length<=200∧∀t,t<(p.getD i E.zero).rules.length->((p.getD i E.zero).rules.getD t []).length=6:=by
 have h1:=validP_step h hi;rw[stepOk,Bool.and_eq_true,validE,Bool.and_eq_true,Bool.and_eq_true]at h1;refine⟨by simpa using h1.2.1.2,fun t ht=> ?_⟩;have h2:=(all_getD [] validR _).1 h1.2.2 t ht;rw[validR,Bool.and_eq_true]at h2;simpa using h2.1
theorem validR_at{r:List K}(h:validR r=true)(i:Nat)(hi:i<6):r.length=6∧validK (r.getD i K.zero)=true:=by
 rw[validR,Bool.and_eq_true]at h;have h6:r.length=6:=by simpa using h.1
 exact⟨h6,(all_getD K.zero validK r).1 h.2 i (by omega)⟩
theorem no_nil{c:K}(h:Normal c){T:TypeId}{P:Value}(e:setV c=.iface T P)(w:World):(nilAhead 349 T P "loop.example/s0039/impl.holds").run Tryz.prog w=.ok (some false) w:=by
 rcases h with rfl|⟨a,b,rfl,_⟩|⟨a,b,rfl,_⟩
 ·cases e;kernel_rfl
 ·cases e;kernel_rfl
 cases e;kernel_rfl
theorem cond_holds(c:K)(v:Int)(ho:c.ok)(hc:validK c=true)(hv:isU64 v):∃T P F,(∀w,Calls Tryz.prog 102 #[conV c] w fun e w'=>e=.returned (.iface T P)∧Below w.heap.size w w')∧(∀w,(method 349 T P "loop.example/s0039/impl.holds").run Tryz.prog w=.ok (F,P) w)∧(∀(xs:Array Value)(w:World),(callFunc F xs).run Tryz.prog w=.ok (.enter F xs) w)∧(∀w,(nilAhead 349 T P "loop.example/s0039/impl.holds").run Tryz.prog w=.ok (some false) w)∧
 ∀w,Calls Tryz.prog F #[P,.int .u64 v] w fun e w'=>e=.returned (.bool (holdsK c v.toNat))∧Below w.heap.size w w':=by
 unfold isU64 at hv;obtain⟨T,P,F,e1,e2,e4,e3⟩:=meth_holds (normK_normal ho hc) (v:=v.toNat) (by omega);rw[show((v.toNat:Nat):Int)=v by omega]at e3;refine⟨T,P,F,fun w=> ?_,e2,e4,fun w=>no_nil (normK_normal ho hc) e1 w,fun w=> ?_⟩
 ·have:=conditionOf_any c w ho;rw[e1]at this;exact this
 have:=e3 w;rw[normK_holds ho hc (by omega)]at this;exact this
theorem implRuleHolds_any(r:List K)(args:List Int)(a a':Option Addr)(cap cap':Nat)(w:World)(hs:LSrc 3 PK w a r)(hu:USrc w a' args)(ho:okR r)(hok:∀y∈args,isU64 y)(hv:validR r=true)(g6:args.length=6):
 Calls Tryz.prog 78 #[.agg #[.slice a 6 cap],.slice a' 6 cap'] w fun e w'=>e=.returned (.bool (ruleHolds r args))∧Below w.heap.size w w':=by
 have h6:r.length=6:=(validR_at hv 0 (by omega)).1
 have HC:Hid (∀i,i<6->∃T P F,(∀w,Calls Tryz.prog 102 #[conV (r.getD i K.zero)] w fun e w'=>e=.returned (.iface T P)∧Below w.heap.size w w')∧(∀w,(method 349 T P "loop.example/s0039/impl.holds").run Tryz.prog w=.ok (F,P) w)∧(∀(xs:Array Value)(w:World),(callFunc F xs).run Tryz.prog w=.ok (.enter F xs) w)∧(∀w,(nilAhead 349 T P "loop.example/s0039/impl.holds").run Tryz.prog w=.ok (some false) w)∧
  ∀w,Calls Tryz.prog F #[P,.int .u64 (args.getD i 0)] w fun e w'=>e=.returned (.bool (holdsK (r.getD i K.zero) (args.getD i 0).toNat))∧Below w.heap.size w w'):=fun i hi=>cond_holds _ _ (okR_at ho i) (validR_at hv i hi).2 (argU hok (by omega))
 have HY:Hid ((∀i,i<6->holdsK (r.getD i K.zero) (args.getD i 0).toNat=true)->ruleHolds r args=true):=ruleHolds_yes
 have HF:Hid (∀i,i<6->holdsK (r.getD i K.zero) (args.getD i 0).toNat=false->ruleHolds r args=false):=fun i hi h=>ruleHolds_no hi h
 have HP:Hid (∀wr,Below w.heap.size w wr->∀i,i<6->∃b o,a=some ⟨b,o,none⟩∧b<wr.heap.size∧PK wr b (o+i*3) (r.getD i K.zero)):=fun wr hB i hi=>(hs.below PK.stays hB).at (by omega) K.zero
 have HU:Hid (∀wr,Below w.heap.size w wr->∀i,i<6->∃b o,a'=some ⟨b,o,none⟩∧b<wr.heap.size∧wr.cell? ⟨b,o+i,none⟩=some (.int .u64 (args.getD i 0))):=fun wr hB i hi=>(hu.below hB).atA (by omega)
 obtain⟨V,hV⟩:∃V,ruleHolds r args=V:=⟨_,rfl⟩
 rw[hV]at HY HF⊢
 clear hV hs hu h6 g6 hok ho hv
 have B:Below w.heap.size w (w.alloc (.cells #[.slice a 6 cap] 116)):=(Below.refl _ _).alloc (Nat.le_refl _) _
 go_enter Tryz.func78,Tryz.ntmps78
 go_wp2_with fail
 go_loopw [10](fun i wr=>∃k:Nat,k<=6∧i=.int .i64 k∧Hid (∀j,j<k->holdsK (r.getD j K.zero) (args.getD j 0).toNat=true)∧Below w.heap.size w wr)(fun i _=>6-(intOf i).toNat)
 case atStart=>exact⟨0,by omega,rfl,fun j hj=>by omega,B⟩
 case round=>
  clear B
  obtain⟨k,hk,rfl,HJ,B⟩:=hrel
  rename World=>W0
  by_cases hk6:k<6
  ·obtain⟨b,o,rfl,hlt,c0,c1,c2⟩:=HP.out W0 B k hk6
   obtain⟨b',o',rfl,hlt',d0⟩:=HU.out W0 B k hk6
   obtain⟨T,P,F,HN0,e2,e4,e5,HM0⟩:=HC.out k hk6
   have HF1:Hid (holdsK (r.getD k K.zero) (args.getD k 0).toNat=false->V=false):=HF.out k hk6
   have HJ1:Hid (holdsK (r.getD k K.zero) (args.getD k 0).toNat=true->∀j,j<k+1->holdsK (r.getD j K.zero) (args.getD j 0).toNat=true):=fun h j hj=>by
    by_cases hjk:j=k
    ·subst hjk;exact h
    ·exact HJ.out j (by omega)
   have hk6':(k:Int)<6:=by omega
   generalize hQ:holdsK (r.getD k K.zero) (args.getD k 0).toNat=Q at*
   clear hQ
   generalize args.getD k 0=v at*
   generalize r.getD k K.zero=c at*
   obtain⟨ck,ca,cb⟩:=c
   simp only at c0 c1 c2
   simp only[conV]at HN0
   have HN:Hid (∀w,Calls Tryz.prog 102 #[.agg #[.int .i64 ck,.int .u64 (ca:Int),.int .u64 (cb:Int)]] w fun e w'=>e=.returned (.iface T P)∧Below w.heap.size w w'):=HN0
   have HM:Hid (∀w,Calls Tryz.prog F #[P,.int .u64 v] w fun e w'=>e=.returned (.bool Q)∧Below w.heap.size w w'):=HM0
   clear HC HF HP HU HJ HN0 HM0
   have hbx:Below W0.heap.size W0 (W0.alloc (.cells #[.int .i64 ck,.int .u64 (ca:Int),.int .u64 (cb:Int)] 94)):=(Below.refl _ _).alloc (Nat.le_refl _) _
   have Xc:=BoxK.new W0 94 (.int .i64 ck) (.int .u64 (ca:Int)) (.int .u64 (cb:Int))
   go_wp2_with fail
   have Bx:=below_step hbx B
   have dx:=cell_step hbx d0
   clear c0 c1 c2 d0 hlt hlt' hbx B
   generalize W0.heap.size=D at*
   generalize W0.alloc (.cells #[.int .i64 ck,.int .u64 (ca:Int),.int .u64 (cb:Int)] 94)=W1 at*
   have SK:Hid (∀wa wb,Below wa.heap.size wa wb->(Below w.heap.size w wa∧wa.cell? ⟨D,0,none⟩=some (.int .i64 ck)∧wa.cell? ⟨D,1,none⟩=some (.int .u64 (ca:Int))∧wa.cell? ⟨D,2,none⟩=some (.int .u64 (cb:Int))∧wa.cell? ⟨b',o'+k,none⟩=some (.int .u64 v))->(Below w.heap.size w wb∧wb.cell? ⟨D,0,none⟩=some (.int .i64 ck)∧wb.cell? ⟨D,1,none⟩=some (.int .u64 (ca:Int))∧wb.cell? ⟨D,2,none⟩=some (.int .u64 (cb:Int))∧wb.cell? ⟨b',o'+k,none⟩=some (.int .u64 v))):=fun wa wb hb⟨s,x,y,z,q⟩=>
    ⟨below_step hb s,cell_step hb x,cell_step hb y,cell_step hb z,cell_step hb q⟩
   have hS7:Below w.heap.size w W1.drew∧W1.drew.cell? ⟨D,0,none⟩=some (.int .i64 ck)∧W1.drew.cell? ⟨D,1,none⟩=some (.int .u64 (ca:Int))∧W1.drew.cell? ⟨D,2,none⟩=some (.int .u64 (cb:Int))∧W1.drew.cell? ⟨b',o'+k,none⟩=some (.int .u64 v):=SK.out W1 W1.drew ((Below.refl _ _).drew) ⟨Bx,Xc.c0,Xc.c1,Xc.c2,dx⟩
   clear Bx Xc dx
   go_region_held3(fun w'=>Below w.heap.size w w'∧w'.cell? ⟨D,0,none⟩=some (.int .i64 ck)∧w'.cell? ⟨D,1,none⟩=some (.int .u64 (ca:Int))∧w'.cell? ⟨D,2,none⟩=some (.int .u64 (cb:Int))∧w'.cell? ⟨b',o'+k,none⟩=some (.int .u64 v))
    (assumption)
    (first
     |(go_at_call 102;refine(HN.out _).mono ?_;rintro _ w8⟨rfl,hb8⟩;have hS8:=SK.out _ _ hb8 (by assumption))
     |(refine(HM.out _).mono ?_;rintro _ w9⟨rfl,hb9⟩;have hS9:=SK.out _ _ hb9 (by assumption)))
   all_goals
    have B1:Below w.heap.size w w9:=hS9.1
    clear hS9 hb9
    cases Q with
    |false=>
     have hVf:V=false:=HF1.out (by first|rfl|trivial)
     subst hVf
     go_wp2
     go_ret
     exact⟨rfl,B1⟩
    |true=>
     have HJ2:Hid (∀j,j<k+1->holdsK (r.getD j K.zero) (args.getD j 0).toNat=true):=HJ1.out (by first|rfl|trivial)
     go_wp2
     go_roundw
     case rel=>exact⟨k+1,by omega,by go_num,HJ2,B1⟩
     case measure=>simp[intOf];omega
  ·have hk':k=6:=by omega
   subst hk'
   have hVt:V=true:=HY.out HJ.out
   subst hVt
   go_wp2
   go_ret
   exact⟨rfl,B⟩
theorem someRule_any(l:List (List K))(args:List Int)(a a':Option Addr)(cap cap':Nat)(w:World)(hs:LSrc 1 PR w a l)(hu:USrc w a' args)(ho:okRs l)(hok:∀y∈args,isU64 y)(hv:∀t,t<l.length->validR (l.getD t [])=true)(g6:args.length=6)(hn:l.length<=200):
 Calls Tryz.prog 36 #[.slice a l.length cap,.slice a' 6 cap'] w fun e w'=>e=.returned (.bool (l.any fun r=>ruleHolds r args))∧Below w.heap.size w w':=by
 have HP:Hid (∀wr,Below w.heap.size w wr->∀i,i<l.length->∃b o,a=some ⟨b,o,none⟩∧b<wr.heap.size∧PR wr b (o+i*1) (l.getD i [])):=fun wr hB i hi=>(hs.below PR.stays hB).at hi []
 have HR:Hid (∀t,t<l.length->∀w1 a2 cap2,Below w.heap.size w w1->LSrc 3 PK w1 a2 (l.getD t [])->Calls Tryz.prog 78 #[.agg #[.slice a2 (l.getD t []).length cap2],.slice a' 6 cap'] w1 fun e w'=>e=.returned (.bool (ruleHolds (l.getD t []) args))∧Below w1.heap.size w1 w'):=fun t ht w1 a2 cap2 hb hsr=>by
  have h6:=(validR_at (hv t ht) 0 (by omega)).1;have:=implRuleHolds_any _ args a2 a' cap2 cap' w1 hsr (hu.below hb) (okRs_at ho t) hok (hv t ht) g6;rw[h6];exact this
 have HN:Hid ((∀i,i<l.length->ruleHolds (l.getD i []) args=false)->(l.any fun r=>ruleHolds r args)=false):=fun h=>any_no (d:=[]) h
 have HY:Hid (∀i,i<l.length->ruleHolds (l.getD i []) args=true->(l.any fun r=>ruleHolds r args)=true):=fun i hi h=>(any_getD [] (fun r=>ruleHolds r args) l).2 ⟨i,hi,h⟩
 obtain⟨V,hV⟩:∃V,(l.any fun r=>ruleHolds r args)=V:=⟨_,rfl⟩;rw[hV]at HN HY⊢;clear hV hs hu ho hok hv g6;generalize l.length=n at*;go_enter Tryz.func36,Tryz.ntmps36;go_wp2_with fail;go_loopw [9](fun i wr=>∃k:Nat,k<=n∧i=.int .i64 k∧Hid (∀j,j<k->ruleHolds (l.getD j []) args=false)∧Below w.heap.size w wr)(fun i _=>n-(intOf i).toNat)
 case atStart=>exact⟨0,by omega,rfl,fun j hj=>by omega,Below.refl _ _⟩
 case round=>
  obtain⟨k,hk,rfl,HJ,B⟩:=hrel;rename World=>W0
  by_cases hkn:k<n
  ·have hkn':(k:Int)<(n:Int):=by omega
   obtain⟨b,o,rfl,hlt,a2,cap2,c0,hsr⟩:=HP.out W0 B k hkn;have HJ1:Hid (ruleHolds (l.getD k []) args=false->∀s,s<k+1->ruleHolds (l.getD s []) args=false):=fun h s hs=>by
    by_cases hst:s=k
    ·subst hst;exact h
    exact HJ.out s (by omega)
   have HF1:Hid (ruleHolds (l.getD k []) args=true->V=true):=fun h=>HY.out k hkn h
   have hbx:Below W0.heap.size W0 (W0.alloc (.cells #[.slice a2 (l.getD k []).length cap2] 116)):=(Below.refl _ _).alloc (Nat.le_refl _) _;have Bx:=below_step hbx B;have HRo:Hid (Calls Tryz.prog 78 #[.agg #[.slice a2 (l.getD k []).length cap2],.slice a' 6 cap'] (W0.alloc (.cells #[.slice a2 (l.getD k []).length cap2] 116)) fun e w'=>e=.returned (.bool (ruleHolds (l.getD k []) args))∧Below (W0.alloc (.cells #[.slice a2 (l.getD k []).length cap2] 116)).heap.size (W0.alloc (.cells #[.slice a2 (l.getD k []).length cap2] 116)) w'):=HR.out k hkn _ a2 cap2 Bx (hsr.below PK.stays hbx);rw[Nat.mul_one]at c0;generalize ruleHolds (l.getD k []) args=Q at*;generalize(l.getD k []).length=m at*;clear HJ HP HR HN HY hsr;go_wp2_with fail;refine(HRo.out).mono ?_;rintro _ w1⟨rfl,hb1⟩;have B1:=below_step hb1 Bx;clear hb1 HRo c0
   cases Q with
   |true=>
    have hVf:V=true:=HF1.out (by first|rfl|trivial);subst hVf;go_wp2;go_ret;exact⟨rfl,B1⟩
   |false=>
    have HJ2:Hid (∀s,s<k+1->ruleHolds (l.getD s []) args=false):=HJ1.out (by first|rfl|trivial);go_wp2;go_roundw
    case rel=>exact⟨k+1,by omega,by go_num,HJ2,B1⟩
    case measure=>simp[intOf];omega
  have hk':k=n:=by omega
  subst hk';have hVf:V=false:=HN.out HJ.out;subst hVf;go_wp2;go_ret;exact⟨rfl,B⟩
theorem validCall_any(ca cn:Int)(m cap:Nat)(a:Option Addr)(w:World)(hm:m<=16777216):
 Calls Tryz.prog 22 #[.agg #[.int .u32 ca,.int .u32 cn,.slice a m cap]] w fun e w'=>e=.returned (.bool (m==6))∧Below w.heap.size w w':=by
 have B:Below w.heap.size w (w.alloc (.cells #[.int .u32 ca,.int .u32 cn,.slice a m cap] 39)):=(Below.refl _ _).alloc (Nat.le_refl _) _;by_cases h6:m=6
 ·subst h6;go_enter Tryz.func22,Tryz.ntmps22;go_wp2;go_ret;exact⟨rfl,B⟩
 have hb6:((m:Int)==6)=false:=by rw[beq_eq_false_iff_ne];omega
 have hb7:(m==6)=false:=by rw[beq_eq_false_iff_ne];exact h6
 rw[hb7];go_enter Tryz.func22,Tryz.ntmps22;go_wp2;go_ret;exact⟨rfl,B⟩
theorem allowsP_eq(p:List E)(c:C):allowsP p c=(validP p&&(c.args.length==6)&&p.any fun e=>hits e c):=rfl
end Go.Proofs.YtddemlfepjkgoaaGreat
