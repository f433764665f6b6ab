import Derived.Test.YtddemlfepjkgoaaGreatQ41
set_option linter.all false
set_option maxRecDepth 200000
set_option maxHeartbeats 16000000
namespace Go.Proofs.YtddemlfepjkgoaaGreat
open Go.RowKit Go.Deep
set_option linter.unusedSimpArgs false
def RelL(cs:List C)(ex sp f:Int)(out:List E)(z:Int):Prop:=((knobsB ex sp f&&callsB cs)=true∧z=0∧IsLearn cs ex sp f out)∨((knobsB ex sp f&&callsB cs)=false∧z=1∧out=[])
def ImplL(cs:List C)(ex sp f:Int)(w:World)(e:Ending)(w':World):Prop:=∃a c out z,RelL cs ex sp f out z∧e=.returned (.tuple #[.agg #[.slice a out.length c],.int .i64 z])∧GOwn w.heap.size w'.heap.size w' a c out∧Below w.heap.size w w'
structure LeS(W0 wr:World)(G:Nat)(v:Value):Prop where
 b:Below G W0 wr
 q:∀q,G<q->q<W0.heap.size->wr.heap[q]? =W0.heap[q]?
 c:wr.cell? ⟨G,0,none⟩=some v
 f:wr.frozen? ⟨G,0,none⟩=false
theorem LeS.keep{W0 wr w1:World}{G:Nat}{v:Value}(h:LeS W0 wr G v)(hb:Below wr.heap.size wr w1):LeS W0 w1 G v:=
 ⟨h.b.trans (hb.mono (Nat.le_of_lt (cell_ltM h.c))),fun q h1 h2=>(hb.block q (by have:=h.b.size;omega)).trans (h.q q h1 h2),cell_step hb h.c,(hb.frozen (p:=⟨G,0,none⟩) (cell_ltM h.c)).trans h.f⟩
theorem LeS.next{W0 wr w9 w1:World}{G:Nat}{v v':Value}{l:List E}{e:E}{cells:List Value}{gg cap:Nat}{o:Obj}(h:LeS W0 wr G v)(hG:G<W0.heap.size)(hP:PlS wr W0.heap.size W0.heap.size v l cells)(hb:Below wr.heap.size wr w9)(hv:RsIn w9 wr.heap.size w9.heap.size v' e.rules)
 (hown:w1.ownsRow W0.heap.size 78 3 (.slice (some ⟨gg,0,none⟩) (l.length+1) cap) (l.length+1) (cells++entC e v'))(hg:(w9.alloc o).grownBy w1 v.ownBlock)(hat:v.ownBlock=some gg∨gg=(w9.alloc o).heap.size):
 w1.cell? ⟨G,0,none⟩=some v∧w1.frozen? ⟨G,0,none⟩=false∧LeS W0 (w1.setCell ⟨G,0,none⟩ (.slice (some ⟨gg,0,none⟩) (l.length+1) cap)) G (.slice (some ⟨gg,0,none⟩) (l.length+1) cap)∧PlS (w1.setCell ⟨G,0,none⟩ (.slice (some ⟨gg,0,none⟩) (l.length+1) cap)) W0.heap.size W0.heap.size (.slice (some ⟨gg,0,none⟩) (l.length+1) cap) (l++[e]) (cells++entC e v'):=by
 have hws:=h.b.size
 have hbs:=hb.size
 have hb2:Below w9.heap.size w9 (w9.alloc o):=(Below.refl _ _).alloc (Nat.le_refl _) o
 have hsz:(w9.alloc o).heap.size=w9.heap.size+1:=by simp
 have s9:=(h.keep hb).keep hb2
 have ne:∀q,q<W0.heap.size->some q≠v.ownBlock:=fun q hq e=>by have:=(hP.1.lt q e.symm).1;omega
 have x1:=(hg.cell_far ⟨G,0,none⟩ (by show G<_;omega) (ne G hG)).trans s9.c
 have x2:=(hg.frozen_far ⟨G,0,none⟩ (by show G<_;omega) (ne G hG)).trans s9.f
 have hN:=hP.next hws hb hv hown hg hat
 have hb1:Below G W0 w1:=s9.b.grown hg (by omega) (fun z hz=>by have:=(hP.1.lt z hz).1;omega)
 refine⟨x1,x2,⟨hb1.setCell (p:=⟨G,0,none⟩) (Nat.le_refl _) _,fun q h1 h2=> ?_,World.cell?_setCell_same _ _ _ x1,by rw[frozen_setCell];exact x2⟩,hN.far (by simp[World.setCell]) fun q h1 h2=> ?_⟩
 ·have e1:(w1.setCell ⟨G,0,none⟩ (.slice (some ⟨gg,0,none⟩) (l.length+1) cap)).heap[q]? =w1.heap[q]? :=by simp only[World.setCell,Array.getElem?_modify];rw[if_neg (by omega)]
  exact(e1.trans (hg.block q (by omega) (ne q h2))).trans (s9.q q h1 h2)
 ·simp only[World.setCell,Array.getElem?_modify];rw[if_neg (by omega)]
theorem cell_blkL{w w1:World}{b o:Nat}{v:Value}(h:w.cell? ⟨b,o,none⟩=some v)(e:w1.heap[b]? =w.heap[b]?):w1.cell? ⟨b,o,none⟩=some v:=by
 simp only[World.cell?,e]at h⊢;exact h
theorem LeS.ids{W0 wr:World}{G:Nat}{v:Value}{a:Option Addr}{ids:List Id2}(h:LeS W0 wr G v)(hs:LSrc 2 PI2 W0 a ids)(hb:∀x,a=some x->G<x.block)(k:Nat)(hk:k<ids.length):∃b o,a=some ⟨b,o,none⟩∧wr.cell? ⟨b,o+k*2,none⟩=some (.int .u32 (ids.getD k (0,0)).1)∧wr.cell? ⟨b,o+k*2+1,none⟩=some (.int .u32 (ids.getD k (0,0)).2):=by
 rcases hs with rfl|⟨b,o,rfl,hlt,hA⟩
 ·simp at hk
 have e:=h.q b (hb _ rfl) hlt;have h1:=hA k hk;have e2:ids.getD k (0,0)=ids[k]:=by rw[List.getD_eq_getElem?_getD,List.getElem?_eq_getElem hk];rfl
 rw[e2];exact⟨b,o,rfl,cell_blkL h1.1 e,cell_blkL h1.2 e⟩
theorem implLearn_good(ex sp f:Int)(cs:List C)(a:Option Addr)(cap:Nat)(w:World)(hs:CSrc w a cs)(ho:okC cs)(hk:knobsB ex sp f=true)(hcb:callsB cs=true):
 Calls Tryz.prog 6 #[.slice a cs.length cap,.agg #[.int .i64 ex,.int .i64 sp,.int .i64 f]] w (ImplL cs ex sp f w):=by
 obtain⟨i0,hi,hz0,hz1,hz2⟩:=info_parts infoEnt;have hcc:=of_decide_eq_true hcb;have hn:=hcc.1;have hla:∀c∈cs,okLa c.args:=fun c hc=>⟨hcc.2 c hc,fun y hy=>by
  have:=(ho c hc).1.2.2.2.2 y hy
  unfold isU64 at this
  omega⟩
 have hidk:∀c∈cs,srtI.okI (idC c):=fun c hc=>by have:=(ho c hc).1;exact⟨⟨this.1,this.2.1⟩,this.2.2.1,this.2.2.2.1⟩
 have HK:Hid (∀wr,Calls Tryz.prog 20 #[.agg #[.int .i64 ex,.int .i64 sp,.int .i64 f]] wr fun e w'=>e=.returned (.bool true)∧Below wr.heap.size wr w'):=fun wr=>by
  have:=areValidKnobs_any ex sp f wr;rw[hk]at this;exact this
 have HE:Hid (∀wr,Below w.heap.size w wr->Calls Tryz.prog 21 #[.slice a cs.length cap,.func (.func 22) #[] #[]] wr fun e w'=>e=.returned (.bool true)∧Below wr.heap.size wr w'):=fun wr hb=>by
  have:=everyCall_any cs a cap wr (hs.below hb) (by omega) (fun c hc=>(ho c hc).2);rw[decide_eq_true hcc.2]at this;exact this
 have HG:Hid (∀wr,Below w.heap.size w wr->Calls Tryz.prog 23 #[.slice a cs.length cap] wr (GatP cs wr)):=fun wr hb=>gatherCalls_any cs a cap wr (hs.below hb) hla hn
 have HIds:Hid (∀m os W,GrpS W m os->IsGrp cs (fun i=>i∈cs.map idC) (glG os)->os.length<=cs.length->Calls Tryz.prog 26 #[.func (.func 57) #[] #[.pointer (some ⟨W.heap.size,0,none⟩)]] (W.alloc (.cells #[.map (some m)] 54)) (IdsP cs W)):=fun m os W h1 h2 h3=>ids_chain cs m os W h1 h2 h3 hidk hn
 have HEn:Hid (∀m os W gf id,GrpS W m os->IsGrp cs (fun i=>i∈cs.map idC) (glG os)->id∈cs.map idC->W.cell? ⟨gf,0,none⟩=some (.int .i64 f)->∃a n cap,(∀W',Below W.heap.size W W'->(Instr.lookup 54 (.map (some m)) (idV id) false).run Tryz.prog W'=.ok (.slice a n cap) W')∧∀W',Below W.heap.size W W'->EntP cs id ex sp f gf W' a n cap):=fun m os W gf id h1 h2 h3 h4=>entry_chain cs m os W gf ex sp f id h1 h2 h3 h4 hla hn hk
 have HF:Hid (∀a c out w',IsLearn cs ex sp f out->GOwn w.heap.size w'.heap.size w' a c out->Below w.heap.size w w'->ImplL cs ex sp f w (.returned (.tuple #[.agg #[.slice a out.length c],.int .i64 0])) w'):=fun a c out w' h1 h2 h3=>⟨a,c,out,0,.inl ⟨by rw[hk,hcb];rfl,rfl,h1⟩,rfl,h2,h3⟩
 have B2:Below w.heap.size w ((w.alloc (.cells #[.int .i64 ex,.int .i64 sp,.int .i64 f] 25)).alloc (.cells #[.slice none 0 0] 30)):=((Below.refl _ _).alloc (Nat.le_refl _) _).alloc (by simp) _;have q0:=box1 (w.alloc (.cells #[.int .i64 ex,.int .i64 sp,.int .i64 f] 25)) 30 (.slice none 0 0);have q2:((w.alloc (.cells #[.int .i64 ex,.int .i64 sp,.int .i64 f] 25)).alloc (.cells #[.slice none 0 0] 30)).frozen? ⟨(w.alloc (.cells #[.int .i64 ex,.int .i64 sp,.int .i64 f] 25)).heap.size,0,none⟩=false:=by simp
 rw[show(w.alloc (.cells #[.int .i64 ex,.int .i64 sp,.int .i64 f] 25)).heap.size=w.heap.size+1 by simp]at q0 q2;have X2:=(Box3.new w 25 (.int .i64 ex) (.int .i64 sp) (.int .i64 f)).alloc (.cells #[.slice none 0 0] 30);have hnL:Hid (cs.length<=1000):=hn;have hn':¬(1000:Int)<(cs.length:Int):=by omega
 clear hs ho hk hcb hcc hla hidk hn;obtain⟨_,k0,k1,k2,_,_,_⟩:=id X2;obtain⟨n,hnn⟩:∃n,cs.length=n:=⟨_,rfl⟩;have HN:Hid (cs.length=n):=hnn;rw[hnn]at hn' HE HG HIds hnL⊢;clear hnn;go_enter Tryz.func6,Tryz.ntmps6;go_wp2_with fail;generalize(w.alloc (.cells #[.int .i64 ex,.int .i64 sp,.int .i64 f] 25)).alloc (.cells #[.slice none 0 0] 30)=W2 at*;refine(HK.out W2).mono ?_;rintro _ w1⟨rfl,hb1⟩;have B1:=below_step hb1 B2;have c1:=cell_step hb1 q0;have f1:w1.frozen? ⟨w.heap.size+1,0,none⟩=false:=(hb1.frozen (p:=⟨w.heap.size+1,0,none⟩) (cell_ltM q0)).trans q2;have X1:=X2.keep hb1;clear q0 q2 X2 hb1 B2 HK k0 k1 k2;go_wp2_with fail;refine(HE.out w1 B1).mono ?_;rintro _ w3⟨rfl,hb3⟩;have B3:=below_step hb3 B1;have c3:=cell_step hb3 c1;have f3:w3.frozen? ⟨w.heap.size+1,0,none⟩=false:=(hb3.frozen (p:=⟨w.heap.size+1,0,none⟩) (cell_ltM c1)).trans f1;have X3:=X1.keep hb3;clear c1 f1 X1 hb3 B1 HE;go_wp2_with fail;refine(HG.out w3 B3).mono ?_;rintro _ w4⟨m,os,rfl,hm,hgr,hisg,hosl,hb4⟩;have B4:=below_step hb4 B3;have c4:=cell_step hb4 c3;have f4:w4.frozen? ⟨w.heap.size+1,0,none⟩=false:=(hb4.frozen (p:=⟨w.heap.size+1,0,none⟩) (cell_ltM c3)).trans f3;have X4:=X3.keep hb4;clear c3 f3 X3 hb4 B3 HG hm;obtain⟨_,k0,k1,k2,_,_,_⟩:=id X4;go_wp2_with fail;refine(coverBy_any _ _).mono ?_;rintro _ _⟨rfl,rfl⟩;clear k0 k1 k2;go_wp2_with fail;refine(keys_any _ _).mono ?_;rintro _ _⟨rfl,rfl⟩;have b5:Below w4.heap.size w4 (w4.alloc (.cells #[.int .i64 f] 3)):=(Below.refl _ _).alloc (Nat.le_refl _) _;have g5:=box1 w4 3 (.int .i64 f);have hs5:(w4.alloc (.cells #[.int .i64 f] 3)).heap.size=w4.heap.size+1:=by simp
 have b6:Below (w4.alloc (.cells #[.int .i64 f] 3)).heap.size (w4.alloc (.cells #[.int .i64 f] 3)) ((w4.alloc (.cells #[.int .i64 f] 3)).alloc (.cells #[.slice none 0 0] 30)):=(Below.refl _ _).alloc (Nat.le_refl _) _;have o6:=box1 (w4.alloc (.cells #[.int .i64 f] 3)) 30 (.slice none 0 0);have z6:((w4.alloc (.cells #[.int .i64 f] 3)).alloc (.cells #[.slice none 0 0] 30)).frozen? ⟨(w4.alloc (.cells #[.int .i64 f] 3)).heap.size,0,none⟩=false:=by simp
 have hs6:((w4.alloc (.cells #[.int .i64 f] 3)).alloc (.cells #[.slice none 0 0] 30)).heap.size=w4.heap.size+1+1:=by simp
 rw[hs5]at o6 z6;have g6:=cell_step b6 g5;have B6:=below_step b6 b5;clear b5 b6 g5 hs5;generalize(w4.alloc (.cells #[.int .i64 f] 3)).alloc (.cells #[.slice none 0 0] 30)=W6 at*;have HI6:Hid _:=HIds.out m os W6 (hgr.keep B6) hisg (by rw[<-HN.out];exact hosl);have Hs6:Hid _:=hs6;clear HIds hs6;go_wp2_with fail;refine Calls.mono HI6.out ?_;rintro _ w8⟨ai,ni,ci,rfl,hb8,hcall⟩;have HC8:Hid _:=hcall;have hs8:Hid (w4.heap.size+1+1<=w8.heap.size):=by have:=hb8.size;rw[Hs6.out]at this;exact this
 clear hcall HI6;go_wp2_with fail;refine Calls.mono HC8.out ?_;rintro _ W0⟨ad,ids,cd,rfl,hb9,hsrc,hdist,hidl,hblk⟩;have hb69:=below_step hb9 hb8;have o9:=cell_step hb69 o6;have g9:=cell_step hb69 g6;have z9:W0.frozen? ⟨w4.heap.size+1,0,none⟩=false:=(hb69.frozen (p:=⟨w4.heap.size+1,0,none⟩) (cell_ltM o6)).trans z6;have B9:=below_step hb69 B6;have hGl:w4.heap.size+1<W0.heap.size:=cell_ltM o9;have HS0:Hid (LeS W0 W0 (w4.heap.size+1) (.slice none 0 0)):=⟨Below.refl _ _,fun _ _ _=>rfl,o9,z9⟩;have HL:Hid (∀W,Below (w4.heap.size+1) W0 W->Below w.heap.size w W∧Box3 W w.heap.size (.int .i64 ex) (.int .i64 sp) (.int .i64 f)∧W.cell? ⟨w.heap.size+1,0,none⟩=some (.slice none 0 0)∧W.frozen? ⟨w.heap.size+1,0,none⟩=false):=fun W hb=>by
  have h1:Below w4.heap.size w4 W:=B9.trans (hb.mono (by omega));exact⟨below_step h1 B4,X4.keep h1,cell_step h1 c4,(h1.frozen (p:=⟨w.heap.size+1,0,none⟩) (cell_ltM c4)).trans f4⟩
 have HEk:Hid (∀W,Below (w4.heap.size+1) W0 W->∀k,k<ids.length->∃a n cap,(∀W',Below W.heap.size W W'->(Instr.lookup 54 (.map (some m)) (idV (ids.getD k (0,0))) false).run Tryz.prog W'=.ok (.slice a n cap) W')∧∀W',Below W.heap.size W W'->EntP cs (ids.getD k (0,0)) ex sp f w4.heap.size W' a n cap):=fun W hb k hk=>by
  have h1:Below w4.heap.size w4 W:=B9.trans (hb.mono (by omega));refine HEn.out m os W w4.heap.size _ (hgr.keep h1) hisg ((hdist.2 _).1 ?_) ((hb.cell (p:=⟨w4.heap.size,0,none⟩) (by show w4.heap.size<w4.heap.size+1;omega)).trans g9);rw[List.getD_eq_getElem?_getD,List.getElem?_eq_getElem hk];exact List.getElem_mem hk
 have HI:Hid (∀wr v,LeS W0 wr (w4.heap.size+1) v->∀k,k<ids.length->∃b o,ad=some ⟨b,o,none⟩∧wr.cell? ⟨b,o+k*2,none⟩=some (.int .u32 (ids.getD k (0,0)).1)∧wr.cell? ⟨b,o+k*2+1,none⟩=some (.int .u32 (ids.getD k (0,0)).2)):=fun wr v h k hk=>h.ids hsrc (fun x hx=>by have:=hblk x hx;have:=hs8.out;omega) k hk
 have HR0:Hid (LrnTo cs ids ex sp f 0 []):=LrnTo.zero;have HRn:Hid (∀k l rs,LrnTo cs ids ex sp f k l->(∃t,DistG ordL (groupOf cs (ids.getD k (0,0))) t∧IsRules t ex sp f rs)->LrnTo cs ids ex sp f (k+1) (l++[⟨(ids.getD k (0,0)).1,(ids.getD k (0,0)).2,rs⟩])):=fun k l rs h h'=>h.next h'
 have HRl:Hid (∀k l,LrnTo cs ids ex sp f k l->l.length=k):=fun k l h=>h.1
 have HFin:Hid (∀l wr a c cells,LrnTo cs ids ex sp f ids.length l->LeS W0 wr (w4.heap.size+1) (.slice a ids.length c)->PlS wr W0.heap.size W0.heap.size (.slice a ids.length c) l cells->ImplL cs ex sp f w (.returned (.tuple #[.agg #[.slice a ids.length c],.int .i64 0])) (wr.setCell ⟨w.heap.size+1,0,none⟩ (.slice a ids.length c))):=fun l wr a c cells h1 h2 h3=>by
  have hll:=h1.1;obtain⟨g1,_,g3,_⟩:=HL.out wr h2.b;have hlt:w.heap.size+1<w4.heap.size:=cell_ltM c4;have h4:=h3.far (w1:=wr.setCell ⟨w.heap.size+1,0,none⟩ (.slice a ids.length c)) (by simp[World.setCell]) (fun q hq _=>by simp only[World.setCell,Array.getElem?_modify];rw[if_neg (by omega)]);have h5:=HF.out a c l (wr.setCell ⟨w.heap.size+1,0,none⟩ (.slice a ids.length c)) (h1.done hdist) (h4.gown hll.symm (by have:=B4.size;omega)) (g1.setCell (p:=⟨w.heap.size+1,0,none⟩) (show w.heap.size<=w.heap.size+1 by omega) _);rw[hll]at h5;exact h5
 obtain⟨R,hR⟩:∃R:Nat->List E->Prop,∀k l,LrnTo cs ids ex sp f k l=R k l:=⟨_,fun _ _=>rfl⟩;simp only[hR]at HR0 HRn HRl HFin;obtain⟨fi,hfi⟩:∃fi:Nat->Id2,∀k,ids.getD k (0,0)=fi k:=⟨_,fun _=>rfl⟩;simp only[hfi]at HEk HI HRn;generalize ids.length=ni at*;clear hR hfi hsrc hdist hblk HF HEn B9 g9 z9 o9 hb69 hb9 hb8 HC8 hgr hisg hosl o6 z6 g6 B6 X4 c4 f4 B4 Hs6 hs8;generalize w4.heap.size+1=G at*;go_wp2_with fail;go_loopw [37](fun i wr=>∃(k:Nat)(v:Value)(l:List E)(cells:List Value),k<=ni∧i=.int .i64 k∧LeS W0 wr G v∧Hid (PlS wr W0.heap.size W0.heap.size v l cells)∧Hid (R k l))(fun i _=>ni-(intOf i).toNat)
 case atStart=>exact⟨0,_,[],[],by omega,rfl,HS0.out,PlS.nil _ _ _,HR0⟩
 case round=>
  clear HS0 HR0;obtain⟨k,v,l,cells,hk,rfl,hS,HP,HR⟩:=hrel;rename World=>wr
  have hl:=HRl.out k l HR.out;obtain⟨av,cv,rfl⟩:=form_nil HP.out.1;rw[hl]at hS HP;by_cases hkn:k<ni
  ·have hkn':(k:Int)<(ni:Int):=by omega
   obtain⟨b,o,rfl,d0,d1⟩:=HI.out wr _ hS k hkn;obtain⟨an,nn,cn,hlook,hent⟩:=HEk.out wr hS.b k hkn;have HR1:Hid (∀rs,(∃t,DistG ordL (groupOf cs (fi k)) t∧IsRules t ex sp f rs)->R (k+1) (l++[⟨(fi k).1,(fi k).2,rs⟩])):=fun rs h=>HRn.out k l rs HR.out h
   clear HI HEk HRn HRl HFin HR;generalize fi k=id2 at*;obtain⟨ar,nr⟩:=id2;dsimp only at d0 d1 HR1;have hba:Below wr.heap.size wr (wr.alloc (.cells #[.int .u32 ar,.int .u32 nr] 61)):=(Below.refl _ _).alloc (Nat.le_refl _) _;have hlook1:=hlook _ hba;dsimp only[idV]at hlook1;have HE1:Hid (EntP cs (ar,nr) ex sp f w4.heap.size (wr.alloc (.cells #[.int .u32 ar,.int .u32 nr] 61)) an nn cn):=hent _ hba;clear hlook hent;have xb0:(wr.alloc (.cells #[.int .u32 ar,.int .u32 nr] 61)).cell? ⟨wr.heap.size,0,none⟩=some (.int .u32 ar):=by simp
   have xb1:(wr.alloc (.cells #[.int .u32 ar,.int .u32 nr] 61)).cell? ⟨wr.heap.size,1,none⟩=some (.int .u32 nr):=by simp
   have hS1:=hS.keep hba;go_wp2_with fail;refine Calls.mono HE1.out ?_;clear HE1 hlook1 d0 d1;generalize wr.alloc (.cells #[.int .u32 ar,.int .u32 nr] 61)=V1 at*;rintro _ w1⟨a1,n1,c1,rfl,hb1,h2⟩;have H2:Hid _:=h2;have hS2:=hS1.keep hb1;have hb01:=below_step hb1 hba;have x10:=cell_step hb1 xb0;have x11:=cell_step hb1 xb1;obtain⟨_,k0,k1,k2,_,_,_⟩:=id (HL.out w1 hS2.b).2.1;clear h2 hS1 xb0 xb1;go_wp2_with fail;refine Calls.mono H2.out ?_;clear H2 k0 k1 k2;rintro _ w2⟨a2,n2,c2,rfl,hb2,h3⟩;have H3:Hid _:=h3;have hS3:=hS2.keep hb2;have hb02:=below_step hb2 hb01;have x20:=cell_step hb2 x10;have x21:=cell_step hb2 x11;clear h3 hS2 x10 x11 hb01;go_wp2_with fail;refine Calls.mono H3.out ?_;clear H3;rintro _ w3⟨a3,n3,c3,rs,rfl,hb3,hrs,ht⟩;have hS4:=hS3.keep hb3;have hb03:=below_step hb3 hb02;have x30:=cell_step hb3 x20;have x31:=cell_step hb3 x21;have HR2:Hid (R (k+1) (l++[⟨ar,nr,rs⟩])):=HR1.out rs ht;have hsz3:=hS4.b.size;have hO:w3.ownsRow W0.heap.size 78 3 (.slice av k cv) k cells:=by
    have:=(HP.out.below hb03).1;rw[hl]at this;exact this
   have HNx:Hid (∀gg cap' w1',w1'.ownsRow W0.heap.size 78 3 (.slice (some ⟨gg,0,none⟩) (k+1) cap') (k+1) (cells++[.int .u32 ar,.int .u32 nr,.slice a3 n3 c3])->(w3.alloc (.cells #[.int .u32 ar,.int .u32 nr,.slice a3 n3 c3] 78)).grownBy w1' (Value.slice av k cv).ownBlock->((Value.slice av k cv).ownBlock=some gg∨gg=(w3.alloc (.cells #[.int .u32 ar,.int .u32 nr,.slice a3 n3 c3] 78)).heap.size)->w1'.cell? ⟨G,0,none⟩=some (.slice av k cv)∧w1'.frozen? ⟨G,0,none⟩=false∧LeS W0 (w1'.setCell ⟨G,0,none⟩ (.slice (some ⟨gg,0,none⟩) (k+1) cap')) G (.slice (some ⟨gg,0,none⟩) (k+1) cap')∧Hid (PlS (w1'.setCell ⟨G,0,none⟩ (.slice (some ⟨gg,0,none⟩) (k+1) cap')) W0.heap.size W0.heap.size (.slice (some ⟨gg,0,none⟩) (k+1) cap') (l++[⟨ar,nr,rs⟩]) (cells++[.int .u32 ar,.int .u32 nr,.slice a3 n3 c3]))):=fun gg cap' w1' h1 h2 h3=>by
    have h4:=hS.next (e:=⟨ar,nr,rs⟩) (cap:=cap') hGl HP.out hb03 (hrs.mono (hba.size)) (by rw[hl];exact h1) h2 h3;rw[hl]at h4;exact h4
   have c4:=hS4.c;clear hS hS3 hrs ht HR1 hb02 hb03 hb1 hb2 hb3 x20 x21 hba HP HL;have hbm:k+1<=maxLen:=by unfold maxLen;omega
   have hbd:(k+1)*32<=140737488355328:=by omega
   go_wp2_with(at_builtin;refine wpList_append_lies _ rfl (.tmp 51) (.tmp 58) 28 rfl W0.heap.size 78 i0 _ 3 32 Tryz.underlying28 hi hz0 hz1 hz2 rfl (by omega) (.slice av k cv) k cells rfl (hO.alloc _) ⟨w3.heap.size,0,none⟩ 1 1 [.int .u32 ar,.int .u32 nr,.slice a3 n3 c3] rfl rfl (World.news_of_block (t:=78) (fr:=(0,0)) (heap_alloc_new w3 _)) (by simp[Value.oneCell']) (by omega) hbm hbd (by simp;omega) _ rfl ?_;intro gg cap2 w1' hown1 hgrow hat hlt3;obtain⟨y1,y2,y3,y4⟩:=HNx.out gg cap2 w1' hown1 hgrow hat);clear HNx hown1 hgrow hat hlt3 hO c4 x30 x31 hS4;go_wp2;go_roundw
   case rel=>exact⟨k+1,_,_,_,by omega,by go_num,y3,y4,HR2⟩
   case measure=>simp[intOf];omega
  have hk':k=ni:=by omega
  subst hk';have hlt':¬(k:Int)<(k:Int):=by omega
  have HF2:Hid _:=HFin.out l wr av cv cells HR.out hS HP.out;obtain⟨_,_,r0,r1⟩:=HL.out wr hS.b;have c4:=hS.c;clear HFin HI HEk HRn HRl HL HR HP hS;go_wp2;exact bodyPost_ret (v:=.tuple #[.agg #[.slice av k cv],.int .i64 0]) (by simp[results,Tryz.results6,go_sem,r0]) rfl HF2.out
theorem implLearn_bad(ex sp f:Int)(cs:List C)(a:Option Addr)(cap:Nat)(w:World)(hs:CSrc w a cs)(ho:okC cs)(hn:cs.length<=1048576)(hb:(knobsB ex sp f&&callsB cs)=false):
 Calls Tryz.prog 6 #[.slice a cs.length cap,.agg #[.int .i64 ex,.int .i64 sp,.int .i64 f]] w (ImplL cs ex sp f w):=by
 have HK:Hid (∀wr,Calls Tryz.prog 20 #[.agg #[.int .i64 ex,.int .i64 sp,.int .i64 f]] wr fun e w'=>e=.returned (.bool (knobsB ex sp f))∧Below wr.heap.size wr w'):=areValidKnobs_any ex sp f;have HE:Hid (∀wr,Below w.heap.size w wr->Calls Tryz.prog 21 #[.slice a cs.length cap,.func (.func 22) #[] #[]] wr fun e w'=>e=.returned (.bool (decide (∀c∈cs,c.args.length=6)))∧Below wr.heap.size wr w'):=fun wr hb=>everyCall_any cs a cap wr (hs.below hb) hn (fun c hc=>(ho c hc).2)
 have HF:Hid (∀w',Below w.heap.size w w'->ImplL cs ex sp f w (.returned (.tuple #[.agg #[.slice none 0 0],.int .i64 1])) w'):=fun w' h=>⟨none,0,[],1,.inr ⟨hb,rfl,rfl⟩,rfl,.inl rfl,h⟩
 have HV:Hid (knobsB ex sp f=true->¬1000<cs.length->decide (∀c∈cs,c.args.length=6)=false):=fun h1 h2=>by
  rw[h1]at hb;have h3:=of_decide_eq_false (show callsB cs=false from hb);exact decide_eq_false fun g=>h3 ⟨by omega,g⟩
 have B2:Below w.heap.size w ((w.alloc (.cells #[.int .i64 ex,.int .i64 sp,.int .i64 f] 25)).alloc (.cells #[.slice none 0 0] 30)):=((Below.refl _ _).alloc (Nat.le_refl _) _).alloc (by simp) _;have q0:=box1 (w.alloc (.cells #[.int .i64 ex,.int .i64 sp,.int .i64 f] 25)) 30 (.slice none 0 0);have q2:((w.alloc (.cells #[.int .i64 ex,.int .i64 sp,.int .i64 f] 25)).alloc (.cells #[.slice none 0 0] 30)).frozen? ⟨(w.alloc (.cells #[.int .i64 ex,.int .i64 sp,.int .i64 f] 25)).heap.size,0,none⟩=false:=by simp
 rw[show(w.alloc (.cells #[.int .i64 ex,.int .i64 sp,.int .i64 f] 25)).heap.size=w.heap.size+1 by simp]at q0 q2;have X2:=(Box3.new w 25 (.int .i64 ex) (.int .i64 sp) (.int .i64 f)).alloc (.cells #[.slice none 0 0] 30);obtain⟨_,k0,k1,k2,_,_,_⟩:=id X2;clear hs ho hb X2;generalize knobsB ex sp f=kb at*;generalize decide (∀c∈cs,c.args.length=6)=V at*;generalize cs.length=n at*;go_enter Tryz.func6,Tryz.ntmps6;go_wp2_with fail;generalize(w.alloc (.cells #[.int .i64 ex,.int .i64 sp,.int .i64 f] 25)).alloc (.cells #[.slice none 0 0] 30)=W2 at*;refine(HK.out W2).mono ?_;rintro _ w1⟨rfl,hb1⟩;have B1:=below_step hb1 B2;have c1:=cell_step hb1 q0;have f1:w1.frozen? ⟨w.heap.size+1,0,none⟩=false:=(hb1.frozen (p:=⟨w.heap.size+1,0,none⟩) (cell_ltM q0)).trans q2;clear q0 q2 hb1 B2 HK k0 k1 k2
 cases kb with
 |false=>
  have HB':Hid _:=HF.out (w1.setCell ⟨w.heap.size+1,0,none⟩ (.slice none 0 0)) (B1.setCell (p:=⟨w.heap.size+1,0,none⟩) (show w.heap.size<=w.heap.size+1 by omega) _);clear HF HE HV;go_wp2;exact bodyPost_ret (v:=.tuple #[.agg #[.slice none 0 0],.int .i64 1]) (by simp[results,Tryz.results6,go_sem,c1]) rfl HB'.out
 |true=>
  by_cases hn1:1000<n
  ·have hn2:(1000:Int)<(n:Int):=by omega
   have HB':Hid _:=HF.out (w1.setCell ⟨w.heap.size+1,0,none⟩ (.slice none 0 0)) (B1.setCell (p:=⟨w.heap.size+1,0,none⟩) (show w.heap.size<=w.heap.size+1 by omega) _);clear HF HE HV;go_wp2;exact bodyPost_ret (v:=.tuple #[.agg #[.slice none 0 0],.int .i64 1]) (by simp[results,Tryz.results6,go_sem,c1]) rfl HB'.out
  have hn2:¬(1000:Int)<(n:Int):=by omega
  obtain rfl:=HV.out (by first|rfl|trivial) hn1;go_wp2_with fail;refine(HE.out w1 B1).mono ?_;rintro _ w3⟨rfl,hb3⟩;have B3:=below_step hb3 B1;have c3:=cell_step hb3 c1;have f3:w3.frozen? ⟨w.heap.size+1,0,none⟩=false:=(hb3.frozen (p:=⟨w.heap.size+1,0,none⟩) (cell_ltM c1)).trans f1;have HB':Hid _:=HF.out (w3.setCell ⟨w.heap.size+1,0,none⟩ (.slice none 0 0)) (B3.setCell (p:=⟨w.heap.size+1,0,none⟩) (show w.heap.size<=w.heap.size+1 by omega) _);clear HF HE HV hb3 c1 f1;go_wp2;exact bodyPost_ret (v:=.tuple #[.agg #[.slice none 0 0],.int .i64 1]) (by simp[results,Tryz.results6,go_sem,c3]) rfl HB'.out
theorem implLearn_any(ex sp f:Int)(cs:List C)(a:Option Addr)(cap:Nat)(w:World)(hs:CSrc w a cs)(ho:okC cs)(hn:cs.length<=1048576):
 Calls Tryz.prog 6 #[.slice a cs.length cap,.agg #[.int .i64 ex,.int .i64 sp,.int .i64 f]] w (ImplL cs ex sp f w):=by
 cases h:(knobsB ex sp f&&callsB cs)with
 |true=>
  rw[Bool.and_eq_true]at h;exact implLearn_good ex sp f cs a cap w hs ho h.1 h.2
 |false=>exact implLearn_bad ex sp f cs a cap w hs ho hn h
theorem RelL.uniq{cs:List C}{ex sp f:Int}{out out':List E}{z z':Int}(h:RelL cs ex sp f out z)(h':RelL cs ex sp f out' z'):out=out'∧z=z':=by
 rcases h with⟨h1,h2,h3⟩|⟨h1,h2,h3⟩<;>rcases h' with⟨k1,k2,k3⟩|⟨k1,k2,k3⟩
 ·exact⟨h3.uniq k3,by rw[h2,k2]⟩
 ·rw[h1]at k1;cases k1
 ·rw[h1]at k1;cases k1
 exact⟨by rw[h3,k3],by rw[h2,k2]⟩
end Go.Proofs.YtddemlfepjkgoaaGreat
