import Derived.Laws.OwnMore
import Derived.Test.YtddemlfepjkgoaaGreatQ37
import Derived.Test.YtddemlfepjkgoaaGreatQ38
set_option linter.all false
set_option maxRecDepth 200000
set_option maxHeartbeats 16000000
namespace Go.Proofs.YtddemlfepjkgoaaGreat
open Go.RowKit Go.Deep
set_option linter.unusedSimpArgs false
theorem append_known{P:Program}{w w':World}{ops:Array Oper}{rest:List Oper}{o:Oper}{a:Act}{Q:Exit->Act->World->Prop}(hgd:o.guard=none)(s x:Operand)(t:TypeId)
 (ho:o.op=.call {callee:=.builtin .append,args:= #[s,x],argTypes:= #[t,t]})(v u r:Value)(hs:a.eval s=v)(hx:a.eval x=u)(hrun:(Builtin.append_ #[t,t] o.type #[v,u]).run P w=.ok r w')
 (h:wpList P ops Q rest (a.put o.dst r) w'):wpList P ops Q (o::rest) a w:=by
 refine wpList_plain hgd fun K hK=> ?_
 unfold Oper.wp
 simp[execOp,ho,resolve,invoke,builtin,hs,hx,hrun,Result.andThen]
 exact hK _ _ h
theorem compactNone_anyI(bx:Nat)(w:World):
 Calls Tryz.prog 54 #[.slice none 0 0,.func (.func 55) #[] #[.pointer (some ⟨bx,0,none⟩)]] w fun e w'=>e=.returned (.slice none 0 0)∧w'=w:=by
 go_enter Tryz.func54,Tryz.ntmps54;go_wp2;go_ret;exact⟨rfl,rfl⟩
theorem onceI_none(a:Option Addr)(cap:Nat)(w:World):
 Calls Tryz.prog 25 #[.slice a 0 cap,.func (.func 28) #[] #[]] w fun e w'=>e=.returned (.slice none 0 0)∧Below w.heap.size w w':=by
 obtain⟨i0,hi,hz0,hz1,hz2⟩:=info_parts infoAqI;have hap:∀u:World,(Builtin.append_ #[58,58] 58 #[.slice none 0 0,.slice a 0 cap]).run Tryz.prog u=.ok (.slice none 0 0) u:=fun u=>by
  cases a<;>simp[Builtin.append_,run_underlying Tryz.underlying58,sizeOf,typeInfo,hi,Builtin.lenOf,Builtin.firstCells,loadCells,loadCellsFrom]
 have HS:Hid (∀w1,Calls Tryz.prog 53 #[.slice none 0 0,.func (.func 28) #[] #[]] w1 fun e w'=>e=.returned (.tuple #[])∧w'=w1):=srtI.sortNone_anyI 0;have HC:Hid (∀bx w1,Calls Tryz.prog 54 #[.slice none 0 0,.func (.func 55) #[] #[.pointer (some ⟨bx,0,none⟩)]] w1 fun e w'=>e=.returned (.slice none 0 0)∧w'=w1):=compactNone_anyI;have Hap:Hid _:=hap;have B0:Below w.heap.size w (w.alloc (.cells #[.func (.func 28) #[] #[]] 67)):=(Below.refl _ _).alloc (Nat.le_refl _) _;clear hap;go_enter Tryz.func25,Tryz.ntmps25;go_wp2_with(at_builtin;refine append_known rfl (.const (.slice none 0 0)) (.tmp 6) 58 rfl (.slice none 0 0) (.slice a 0 cap) (.slice none 0 0) rfl rfl (Hap.out _) ?_);go_wp2_with fail;refine(HS.out _).mono ?_;rintro e w1⟨rfl,rfl⟩;go_wp2_with fail;refine(HC.out _ _).mono ?_;rintro e w1⟨rfl,rfl⟩;clear HS HC Hap;go_wp2;go_ret;exact⟨rfl,B0⟩
theorem onceI_all(l:List Id2)(a:Option Addr)(cap:Nat)(w:World)(hs:LSrc 2 PI2 w a l)(hu:∀x∈l,srtI.okI x)(hn:l.length<=1000):
 Calls Tryz.prog 25 #[.slice a l.length cap,.func (.func 28) #[] #[]] w fun e w'=>∃a' d cap',e=.returned (.slice a' d.length cap')∧LSrc 2 PI2 w' a' d∧DistG ordP l d∧d.length<=l.length∧(∀x,a'=some x->w.heap.size<=x.block)∧Below w.heap.size w w':=by
 rcases Nat.eq_zero_or_pos l.length with h0|h0
 ·obtain rfl:=List.length_eq_zero_iff.1 h0;refine(onceI_none a cap w).mono ?_;rintro e w'⟨rfl,hb⟩;exact⟨none,[],0,rfl,.inl rfl,⟨List.Pairwise.nil,fun c=>Iff.rfl⟩,Nat.le_refl _,fun x hx=>(nomatch hx),hb⟩
 exact onceI_l l a cap w hs hu h0 hn
theorem RsIn.mono{w:World}{lo lo' hi:Nat}{v:Value}{l:List Ru}(h:RsIn w lo hi v l)(hl:lo'<=lo):RsIn w lo' hi v l:=by
 obtain⟨vs,cb,gb,h1,h2,h3⟩:=h;exact⟨vs,cb,gb,⟨World.ownsRow.mono h1.row hl,h1.ob,fun i hi=>⟨World.ownsRow.mono (h1.own i hi).1 hl,(h1.own i hi).2⟩,h1.ne,h1.inc⟩,h2,h3⟩
theorem PlS.far{w w1:World}{B:Nat}{v:Value}{l:List E}{cells:List Value}(h:PlS w B B v l cells)(hs:w.heap.size<=w1.heap.size)(hb:∀q,B<=q->q<w.heap.size->w1.heap[q]? =w.heap[q]?):PlS w1 B B v l cells:=by
 have key:∀q,v.ownBlock=some q->w1.heap[q]? =w.heap[q]? :=fun q hq=>by have:=h.1.lt q hq;exact hb q this.1 this.2
 refine⟨row_blockM h.1 key,h.2.imp id ?_⟩;rintro⟨rv,lo,hi,gb,h1,h2⟩;exact⟨rv,lo,hi,gb,h1,h2.far hs (key gb h2.ob) hb⟩
theorem PlS.gown{w:World}{B D:Nat}{a:Option Addr}{c n:Nat}{l:List E}{cells:List Value}(h:PlS w B B (.slice a n c) l cells)(hn:n=l.length)(hD:D<=B):GOwn D w.heap.size w a c l:=by
 subst hn;rcases h.2 with⟨h1,_⟩|⟨rv,lo,hi,gb,_,hO⟩
 ·exact .inl h1
 exact .inr ⟨rv,lo,hi,gb,hO.mono hD hD,(hO.row.lt gb hO.ob).2,fun i hi'=>(hO.lt i hi').2⟩
def LrnTo(cs:List C)(ids:List Id2)(ex sp f:Int)(k:Nat)(l:List E):Prop:=l.length=k∧∀i,i<k->((l.getD i E.zero).arch,(l.getD i E.zero).nr)=ids.getD i (0,0)∧∃t,DistG ordL (groupOf cs (ids.getD i (0,0))) t∧IsRules t ex sp f (l.getD i E.zero).rules
theorem LrnTo.zero{cs:List C}{ids:List Id2}{ex sp f:Int}:LrnTo cs ids ex sp f 0 []:=⟨rfl,fun i hi=>by omega⟩
theorem LrnTo.next{cs:List C}{ids:List Id2}{ex sp f:Int}{k:Nat}{l:List E}{rs:List Ru}(h:LrnTo cs ids ex sp f k l)(hr:∃t,DistG ordL (groupOf cs (ids.getD k (0,0))) t∧IsRules t ex sp f rs):LrnTo cs ids ex sp f (k+1) (l++[⟨(ids.getD k (0,0)).1,(ids.getD k (0,0)).2,rs⟩]):=by
 obtain⟨h1,h2⟩:=h;refine⟨by simp[h1],fun i hi=> ?_⟩;by_cases hik:i<k
 ·have e:∀x,(l++[x]).getD i E.zero=l.getD i E.zero:=fun x=>by simp[List.getD_eq_getElem?_getD,List.getElem?_append_left (show i<l.length by omega)]
  rw[e];exact h2 i hik
 obtain rfl:i=k:=by omega
 have e:∀x,(l++[x]).getD i E.zero=x:=fun x=>by simp[List.getD_eq_getElem?_getD,<-h1]
 rw[e];exact⟨rfl,hr⟩
theorem LrnTo.done{cs:List C}{ids:List Id2}{ex sp f:Int}{l:List E}(h:LrnTo cs ids ex sp f ids.length l)(hd:DistG ordP (cs.map idC) ids):IsLearn cs ex sp f l:=⟨ids,hd,h.1,h.2⟩
theorem group_len(cs:List C)(i:Id2):(groupOf cs i).length<=cs.length:=by unfold groupOf;rw[List.length_map];exact List.length_filter_le _ _
theorem group_pos{cs:List C}{i:Id2}(h:i∈cs.map idC):0<(groupOf cs i).length:=by
 obtain⟨c,hc,e⟩:=List.mem_map.1 h;have:c.args∈groupOf cs i:=by
  unfold groupOf;exact List.mem_map.2 ⟨c,List.mem_filter.2 ⟨hc,by simpa using e⟩,rfl⟩
 exact List.length_pos_of_mem this
theorem group_okL{cs:List C}(h:∀c∈cs,okLa c.args)(i:Id2):∀a∈groupOf cs i,okLa a:=by
 intro a ha;simp only[groupOf,List.mem_map,List.mem_filter]at ha;obtain⟨c,⟨hc,_⟩,rfl⟩:=ha;exact h c hc
def EntP(cs:List C)(id:Id2)(ex sp f:Int)(gf:Nat)(W':World)(a:Option Addr)(n cap:Nat):Prop:=
 Calls Tryz.prog 29 #[.slice a n cap,.func (.func 30) #[] #[]] W' fun e w1=>∃a1 n1 c1,e=.returned (.slice a1 n1 c1)∧Below W'.heap.size W' w1∧
  Calls Tryz.prog 32 #[.slice a1 n1 c1,.agg #[.int .i64 ex,.int .i64 sp,.int .i64 f]] w1 fun e w2=>∃a2 n2 c2,e=.returned (.slice a2 n2 c2)∧Below w1.heap.size w1 w2∧
   Calls Tryz.prog 31 #[.slice a2 n2 c2,.func (.func 46) #[] #[.pointer (some ⟨gf,0,none⟩)]] w2 fun e w3=>∃a3 n3 c3 rs,e=.returned (.slice a3 n3 c3)∧Below w2.heap.size w2 w3∧RsIn w3 W'.heap.size w3.heap.size (.slice a3 n3 c3) rs∧∃t,DistG ordL (groupOf cs id) t∧IsRules t ex sp f rs
theorem entry_chain(cs:List C)(m:Nat)(os:List GEl)(W:World)(gf:Nat)(ex sp f:Int)(id:Id2)(hG:GrpS W m os)(hI:IsGrp cs (fun i=>i∈cs.map idC) (glG os))(hid:id∈cs.map idC)(hgf:W.cell? ⟨gf,0,none⟩=some (.int .i64 f))(hc:∀c∈cs,okLa c.args)(hn:cs.length<=1000)(hk:knobsB ex sp f=true):
 ∃a n cap,(∀W',Below W.heap.size W W'->(Instr.lookup 54 (.map (some m)) (idV id) false).run Tryz.prog W'=.ok (.slice a n cap) W')∧∀W',Below W.heap.size W W'->EntP cs id ex sp f gf W' a n cap:=by
 have hkb:=of_decide_eq_true hk;obtain⟨p,hp,hpe⟩:=(hI.2.2 id).2 hid;obtain⟨q,hq,rfl⟩:=List.mem_map.1 hp;obtain⟨j,hj⟩:=List.mem_iff_getElem?.1 hq;obtain⟨qi,ql,qv⟩:=q;dsimp only at hpe;subst hpe;have hls:=hI.2.1 _ hp;dsimp only at hls;subst hls;have hrow:=hG.rows.own (groupOf cs qi,qv) (List.mem_map.2 ⟨_,hq,rfl⟩);obtain⟨a,cap,hv,hsrc⟩:=row6_src hrow;dsimp only at hv;subst hv;have hnd:((kvG os).map Prod.fst).Nodup:=by
  have:=hI.1;simpa[kvG,glG,Function.comp_def]using this
 have hlen:=group_len cs qi;have hpos:=group_pos hid;have hokg:=group_okL hc qi;refine⟨a,(groupOf cs qi).length,cap,fun W' hb=> ?_,fun W' hb=> ?_⟩
 ·have hkl:(kvG os).length=os.length:=by simp[kvG]
  exact run_look (q:=j) (by rw[hkl];exact(hG.keep hb).blk) hnd (by simp[kvG,hj])
 refine(onceA_l (groupOf cs qi) a cap W' (hsrc.below PA.stays hb) hokg hpos (Nat.le_trans hlen hn)).mono ?_;rintro e w1⟨a1,t,c1,rfl,h1,hD,hl1,hc1,hb1⟩;have hok1:∀x∈t,okLa x:=fun x hx=>hokg x ((hD.2 x).1 hx)
 have hp1:=distG_pos hD hpos;refine⟨a1,t.length,c1,rfl,hb1,(groupLists_any t a1 c1 ex sp f w1 h1 hc1 hok1 hp1 (by omega) ⟨hkb.1,hkb.2.1⟩ ⟨hkb.2.2.1,hkb.2.2.2.1⟩).mono ?_⟩;rintro e w2⟨gs,hgs,a2,c2,rfl,h2,hb2⟩;obtain⟨hgl,hgm⟩:=hgs.mem hp1 hok1;have hgf2:=cell_step hb2 (cell_step hb1 (cell_step hb hgf));refine⟨a2,gs.length,c2,rfl,hb2,(coverGroups_any gs a2 c2 gf f w2 h2 hgf2 hkb.2.2.2.2 (by omega) (fun g hg=>⟨(hgm g hg).1,by have:=(hgm g hg).2.1;omega,fun x hx=>hok1 x ((hgm g hg).2.2 x hx)⟩)).mono ?_⟩;rintro e w3⟨v3,cells,rfl,h3,hb3⟩;obtain⟨a3,c3,rfl⟩:=form_nil h3.1;have hne:gs.map (fun g=>coverR g f)≠[]:=by
  have:gs≠[]:=by
   rcases hgs with⟨_,rfl⟩|⟨_,⟨j,d,_,hm,_,hd,rfl⟩|⟨_,rfl⟩⟩
   ·intro e;have:=congrArg List.length e;simp at this;rw[this]at hp1;simp at hp1
   ·intro e;have:=congrArg List.length e;simp at this;have h2:=((maySplit_iff hd).1 hm).1;rw[this]at h2;simp at h2
   simp
  simpa using this
 refine⟨a3,_,c3,_,rfl,hb3,(h3.rsIn hne).mono (Nat.le_trans hb1.size hb2.size),t,hD,hgs.rules hok1 hkb.2.2.2.2⟩
def IdsP(cs:List C)(W:World)(e:Ending)(w1:World):Prop:=∃a n cap,e=.returned (.slice a n cap)∧Below W.heap.size W w1∧
 Calls Tryz.prog 25 #[.slice a n cap,.func (.func 28) #[] #[]] w1 fun e w2=>∃a2 ids c2,e=.returned (.slice a2 (List.length ids) c2)∧Below w1.heap.size w1 w2∧LSrc 2 PI2 w2 a2 ids∧DistG ordP (cs.map idC) ids∧ids.length<=1000∧(∀x,a2=some x->w1.heap.size<=x.block)
theorem ids_chain(cs:List C)(m:Nat)(os:List GEl)(W:World)(hG:GrpS W m os)(hI:IsGrp cs (fun i=>i∈cs.map idC) (glG os))(hos:os.length<=cs.length)(hok:∀c∈cs,srtI.okI (idC c))(hn:cs.length<=1000):
 Calls Tryz.prog 26 #[.func (.func 57) #[] #[.pointer (some ⟨W.heap.size,0,none⟩)]] (W.alloc (.cells #[.map (some m)] 54)) (IdsP cs W):=by
 have hB0:Below W.heap.size W (W.alloc (.cells #[.map (some m)] 54)):=(Below.refl _ _).alloc (Nat.le_refl _) _;refine(collectI_any _ _ _ _ os.length _ (enters_of Tryz.func57 (by kernel_rfl) rfl) (keys_stops Fence.wide 2 trivial rfl (by omega) _ m _ os _ (box1 W 54 (.map (some m))) (hG.keep hB0).blk) (by omega)).mono ?_;rintro e w1⟨v,xs,rfl,⟨hS,hxl⟩,hown,hb⟩;obtain⟨a,cap,rfl,hsrc⟩:=rowI_src hown;have hmem:∀i,i∈xs↔i∈cs.map idC:=fun i=>(hS i).trans (by
  have h3:=hI.2.2 i
  dsimp only at h3
  rw[<-h3]
  constructor
  ·rintro⟨p,hp,rfl⟩;exact⟨_,List.mem_map.2 ⟨p,hp,rfl⟩,rfl⟩
  rintro⟨p,hp,rfl⟩
  obtain⟨q,hq,rfl⟩:=List.mem_map.1 hp
  exact⟨q,hq,rfl⟩)
 refine⟨a,xs.length,cap,rfl,below_step hb hB0,(onceI_all xs a cap w1 hsrc (fun x hx=> ?_) (by omega)).mono ?_⟩
 ·obtain⟨c,hc,rfl⟩:=List.mem_map.1 ((hmem x).1 hx);exact hok c hc
 rintro e w2⟨a2,ids,c2,rfl,h1,h2,h3,h4,h5⟩;exact⟨a2,ids,c2,rfl,h5,h1,distG_perm h2 hmem,by omega,h4⟩
end Go.Proofs.YtddemlfepjkgoaaGreat
namespace Go.Proofs.YtddemlfepjkgoaaGreat
open Go.RowKit
theorem ordC_arch{a b:C}(h:a.arch≠b.arch):ordC a b=ordI a.arch b.arch:=by
 unfold ordC;rw[if_pos (fun e=>h (ordI_zero e))]
theorem ordC_nr{a b:C}(h:a.arch=b.arch)(h2:a.nr≠b.nr):ordC a b=ordI a.nr b.nr:=by
 unfold ordC;rw[if_neg (by rw[h,ordI_self];simp),if_pos (fun e=>h2 (ordI_zero e))]
theorem ordC_args{a b:C}(h:a.arch=b.arch)(h2:a.nr=b.nr):ordC a b=ordL a.args b.args:=by
 unfold ordC;rw[if_neg (by rw[h,ordI_self];simp),if_neg (by rw[h2,ordI_self];simp)]
theorem l2order_far (c d : C) (v v' : Value) (w : World) (hc : c.ok) (hd : d.ok) (h : c.arch ≠ d.arch ∨ c.nr ≠ d.nr) :
    Calls Tryz.prog 82 #[callV c v, callV d v'] w fun e w' => e = .returned (.int .i64 (ordC c d)) ∧ Below w.heap.size w w' := by
  obtain ⟨ca0, ca1, cn0, cn1, _⟩ := hc
  obtain ⟨da0, da1, dn0, dn1, _⟩ := hd
  by_cases h1 : c.arch = d.arch
  · have h2 : c.nr ≠ d.nr := by
      rcases h with h | h
      · exact absurd h1 h
      · exact h
    rw [ordC_nr h1 h2]
    obtain ⟨ar, nr, args⟩ := c
    obtain ⟨ar', nr', args'⟩ := d
    simp only at *
    subst h1
    have hb : (nr != nr') = true := by simpa using h2
    by_cases h3 : nr < nr'
    · rw [ordI_neg h3]
      go_enter Tryz.func82, Tryz.ntmps82
      go_wp2
      go_ret
      exact ⟨rfl, ((Below.refl _ _).alloc (Nat.le_refl _) _).alloc (by simp) _⟩
    · rw [ordI_pos (by omega)]
      go_enter Tryz.func82, Tryz.ntmps82
      go_wp2
      go_ret
      exact ⟨rfl, ((Below.refl _ _).alloc (Nat.le_refl _) _).alloc (by simp) _⟩
  · rw [ordC_arch h1]
    obtain ⟨ar, nr, args⟩ := c
    obtain ⟨ar', nr', args'⟩ := d
    simp only at *
    have hb : (ar != ar') = true := by simpa using h1
    by_cases h3 : ar < ar'
    · rw [ordI_neg h3]
      go_enter Tryz.func82, Tryz.ntmps82
      go_wp2
      go_ret
      exact ⟨rfl, ((Below.refl _ _).alloc (Nat.le_refl _) _).alloc (by simp) _⟩
    · rw [ordI_pos (by omega)]
      go_enter Tryz.func82, Tryz.ntmps82
      go_wp2
      go_ret
      exact ⟨rfl, ((Below.refl _ _).alloc (Nat.le_refl _) _).alloc (by simp) _⟩
theorem l2order_near(ar nr:Int)(l m:List Int)(a a':Option Addr)(cap cap':Nat)(w:World)(h:USrc w a l)(h':USrc w a' m)(hl:∀v∈l,isU64 v)(hm:∀v∈m,isU64 v)(hn:l.length<=16777216)(hn':m.length<=16777216):
 Calls Tryz.prog 82 #[callV ⟨ar,nr,l⟩ (.slice a l.length cap),callV ⟨ar,nr,m⟩ (.slice a' m.length cap')] w fun e w'=>e=.returned (.int .i64 (ordL l m))∧Below w.heap.size w w':=by
 have H1:Hid (∀i,i<l.length->∃b o,a=some ⟨b,o,none⟩∧b<w.heap.size∧w.cell? ⟨b,o+i,none⟩=some (.int .u64 (l.getD i 0))):=fun i hi=>h.at i hi
 have H2:Hid (∀i,i<m.length->∃b o,a'=some ⟨b,o,none⟩∧b<w.heap.size∧w.cell? ⟨b,o+i,none⟩=some (.int .u64 (m.getD i 0))):=fun i hi=>h'.at i hi
 have H3:Hid (∀i,isU64 (l.getD i 0)∧isU64 (m.getD i 0)):=fun i=>⟨isU64_getD hl i,isU64_getD hm i⟩
 have HS:Hid (∀i,i<l.length->i<m.length->ordL (l.drop i) (m.drop i)=if ordI (l.getD i 0) (m.getD i 0)=0 then ordL (l.drop (i+1)) (m.drop (i+1))else ordI (l.getD i 0) (m.getD i 0)):=fun i h1 h2=>ordL_step h1 h2
 have HO1:Hid (∀i,l.length<=i->i<m.length->ordL (l.drop i) (m.drop i)= -1):=fun i h1 h2=>ordL_out1 h1 h2
 have HO2:Hid (∀i,i<l.length->m.length<=i->ordL (l.drop i) (m.drop i)=1):=fun i h1 h2=>ordL_out2 h1 h2
 have HO:Hid (∀i,l.length<=i->m.length<=i->ordL (l.drop i) (m.drop i)=0):=fun i h1 h2=>ordL_out h1 h2
 have H0:Hid (ordL l m=ordL (l.drop 0) (m.drop 0)):=rfl;obtain⟨O,hO⟩:∃O:Nat->Int,∀i,ordL (l.drop i) (m.drop i)=O i:=⟨_,fun _=>rfl⟩;simp only[hO]at HS HO1 HO2 HO H0;generalize ordL l m=R at*;clear h h' hl hm hO;obtain⟨L,hL⟩:∃L:Nat->Int,∀i,l.getD i 0=L i:=⟨_,fun _=>rfl⟩;obtain⟨M,hM⟩:∃M:Nat->Int,∀i,m.getD i 0=M i:=⟨_,fun _=>rfl⟩;simp only[hL,hM]at H1 H2 H3 HS;clear hL hM;generalize l.length=n at*;generalize m.length=k at*;go_enter Tryz.func82,Tryz.ntmps82;go_wp2_with fail;have X:=(Box3.new w 39 (.int .u32 ar) (.int .u32 nr) (.slice a n cap)).alloc (.cells #[.int .u32 ar,.int .u32 nr,.slice a' k cap'] 39);have Y:=Box3.new (w.alloc (.cells #[.int .u32 ar,.int .u32 nr,.slice a n cap] 39)) 39 (.int .u32 ar) (.int .u32 nr) (.slice a' k cap');have hsz:(w.alloc (.cells #[.int .u32 ar,.int .u32 nr,.slice a n cap] 39)).heap.size=w.heap.size+1:=by simp
 have B0:Below w.heap.size w ((w.alloc (.cells #[.int .u32 ar,.int .u32 nr,.slice a n cap] 39)).alloc (.cells #[.int .u32 ar,.int .u32 nr,.slice a' k cap'] 39)):=((Below.refl _ _).alloc (Nat.le_refl _) _).alloc (by simp) _;rw[hsz]at Y;generalize(w.alloc (.cells #[.int .u32 ar,.int .u32 nr,.slice a n cap] 39)).alloc (.cells #[.int .u32 ar,.int .u32 nr,.slice a' k cap'] 39)=W at*;clear hsz;obtain⟨_,x0,x1,x2,_,_,_⟩:=X;obtain⟨_,y0,y1,y2,_,_,_⟩:=Y;go_loopw [5](fun i wr=>∃j q:Nat,j<=n∧j<=k∧i=.int .i64 j∧wr=W.drewN q∧Hid (R=O j))(fun i _=>n-(intOf i).toNat)
 case atStart=>exact⟨0,0,by omega,by omega,rfl,rfl,H0⟩
 case round=>
  obtain⟨j,q,hj,hjk,rfl,rfl,HR⟩:=hrel;have Bq:Below w.heap.size w (W.drewN q):=below_drewN B0 q;by_cases h1:j<n
  ·obtain⟨b,o,ha,hb,c1⟩:=H1.out j h1;subst ha;by_cases h2:j<k
   ·obtain⟨b',o',ha',hb',c2⟩:=H2.out j h2;subst ha';have d1:=(B0.cell (p:=⟨b,_,none⟩) hb).trans c1;have d2:=(B0.cell (p:=⟨b',_,none⟩) hb').trans c2;obtain⟨⟨u0,u1⟩,⟨t0,t1⟩⟩:=H3.out j;have HS1:Hid _:=HS.out j h1 h2;have h1':(j:Int)<n:=by omega
    have h2':(j:Int)<k:=by omega
    clear H1 H2 H3 HS HO1 HO2 HO H0 c1 c2;have HBw:Hid (∀p:Nat,Below w.heap.size w ((W.drewN q).drewN p)):=fun p=>below_drewN Bq p
    rcases Int.lt_trichotomy (L j) (M j)with h3|h3|h3
    ·have e1:Hid (R= -1):=by show _=_;rw[HR.out,HS1.out,ordI_neg h3];rfl
     clear HS1 HR;generalize L j=xx at*;generalize M j=yy at*;go_wp2_with fail;go_quiet(fail);go_wp2;go_ret;exact⟨ret_int e1.out.symm,HBw.out _⟩
    ·have e1:Hid (R=O (j+1)):=by show _=_;rw[HR.out,HS1.out,if_pos (ordI_same h3)]
     clear HS1 HR;rw[h3]at d1;generalize L j=xx at*;generalize M j=yy at*;go_wp2_with fail;go_quiet(fail);go_wp2_with fail;go_quiet(fail);go_wp2;go_roundw
     case rel=>exact⟨j+1,_,by omega,by omega,by go_num,rfl,e1⟩
     case measure=>simp[intOf];omega
    have e1:Hid (R=1):=by show _=_;rw[HR.out,HS1.out,ordI_pos h3];rfl
    have h3':¬L j<M j:=by omega
    clear HS1 HR;generalize L j=xx at*;generalize M j=yy at*;go_wp2_with fail;go_quiet(fail);go_wp2_with fail;go_quiet(fail);go_wp2;go_ret;exact⟨ret_int e1.out.symm,below_drewN (HBw.out _) _⟩
   have E1:Hid (R=1):=HR.out.trans (HO2.out j h1 (by omega));have h1':(j:Int)<n:=by omega
   have h2':¬(j:Int)<k:=by omega
   have h3:¬(n:Int)<k:=by omega
   have h4:(k:Int)<n:=by omega
   clear H1 H2 H3 HS HO1 HO2 HO H0 HR c1;go_wp2;go_ret;exact⟨ret_int E1.out.symm,Bq⟩
  have h1':¬(j:Int)<n:=by omega
  by_cases h2:j<k
  ·have E1:Hid (R= -1):=HR.out.trans (HO1.out j (by omega) h2);have h3:(n:Int)<k:=by omega
   clear H1 H2 H3 HS HO1 HO2 HO H0 HR;go_wp2;go_ret;exact⟨ret_int E1.out.symm,Bq⟩
  have E1:Hid (R=0):=HR.out.trans (HO.out j (by omega) (by omega));have h3:¬(n:Int)<k:=by omega
  have h4:¬(k:Int)<n:=by omega
  clear H1 H2 H3 HS HO1 HO2 HO H0 HR;go_wp2;go_ret;exact⟨ret_int E1.out.symm,Bq⟩
theorem l2order_any(c d:C)(a a':Option Addr)(cap cap':Nat)(w:World)(h:USrc w a c.args)(h':USrc w a' d.args)(hc:c.ok)(hd:d.ok)(hn:c.args.length<=16777216)(hn':d.args.length<=16777216):
 Calls Tryz.prog 82 #[callV c (.slice a c.args.length cap),callV d (.slice a' d.args.length cap')] w fun e w'=>e=.returned (.int .i64 (ordC c d))∧Below w.heap.size w w':=by
 by_cases h1:c.arch=d.arch
 ·by_cases h2:c.nr=d.nr
  ·rw[ordC_args h1 h2];obtain⟨ar,nr,args⟩:=c;obtain⟨ar',nr',args'⟩:=d;simp only at*;subst h1 h2;exact l2order_near ar nr args args' a a' cap cap' w h h' hc.2.2.2.2 hd.2.2.2.2 hn hn'
  exact l2order_far c d _ _ w hc hd (.inr h2)
 exact l2order_far c d _ _ w hc hd (.inl h1)
structure OwnC(w:World)(D N:Nat)(vs:Nat->Value)(cs:List C):Prop where
 row:∃f,w.rowIs D 39 (N*3) f∧∀i,i<cs.length->f (i*3)=.int .u32 (cs.getD i C.zero).arch∧f (i*3+1)=.int .u32 (cs.getD i C.zero).nr∧f (i*3+2)=vs i
 le:cs.length<=N
 own:∀i,i<cs.length->ownsU w (D+1) (vs i) (cs.getD i C.zero).args
 inc:∀i j p q,i<j->j<cs.length->(vs i).ownBlock=some p->(vs j).ownBlock=some q->p<q
theorem OwnC.lt{w:World}{D N:Nat}{vs:Nat->Value}{cs:List C}(h:OwnC w D N vs cs):D<w.heap.size:=by
 obtain⟨f,hr,_⟩:=h.row;exact hr.lt
theorem OwnC.src{w:World}{D N:Nat}{vs:Nat->Value}{cs:List C}(h:OwnC w D N vs cs):CSrc w (some ⟨D,0,none⟩) cs:=by
 obtain⟨f,hr,hf⟩:=h.row;have hle:=h.le;refine .inr ⟨D,0,rfl,hr.lt,fun i hi=> ?_⟩;obtain⟨f0,f1,f2⟩:=hf i hi;obtain⟨a,cap,e,hs⟩:=ownsU_src (h.own i hi);refine⟨?_,?_,a,cap,?_,hs⟩
 ·rw[Nat.zero_add,hr.cell (by omega),f0]
 ·rw[Nat.zero_add,hr.cell (by omega),f1]
 rw[Nat.zero_add,hr.cell (by omega),f2,e]
theorem OwnC.below{w w1:World}{D N:Nat}{vs:Nat->Value}{cs:List C}(h:OwnC w D N vs cs)(hb:Below w.heap.size w w1):OwnC w1 D N vs cs:=by
 obtain⟨f,hr,hf⟩:=h.row;exact⟨⟨f,hr.of_block (hb.block D hr.lt),hf⟩,h.le,fun i hi=>ownsU_below (h.own i hi) hb,h.inc⟩
theorem OwnC.cellOk{w:World}{D N:Nat}{vs:Nat->Value}{cs:List C}(h:OwnC w D N vs cs)(j:Nat)(hj:j<N*3):∃v,w.cell? ⟨D,j,none⟩=some v∧w.frozen? ⟨D,j,none⟩=false:=by
 obtain⟨f,hr,_⟩:=h.row;exact⟨_,hr.cell hj,hr.frozen j⟩
theorem infoCall:(Tryz.prog.info? 39).map (fun i=>(i.zero,i.size,i.bytes))=some (some (.agg #[.int .u32 0,.int .u32 0,.slice none 0 0]),3,32):=by kernel_rfl
theorem longs_one(l:List Int):∀u∈l.map (Value.int .u64),u.oneCell'=true:=ints_oneCell .u64 l
theorem l2copy_any(c:C)(a:Option Addr)(cap:Nat)(w:World)(h:USrc w a c.args)(hn:c.args.length<=16777216):
 Calls Tryz.prog 41 #[callV c (.slice a c.args.length cap)] w fun e w'=>∃v',e=.returned (callV c v')∧ownsU w' w.heap.size v' c.args∧Below w.heap.size w w':=by
 obtain⟨i0,hi,hz0,hz1,hz2⟩:=info_parts info61;obtain⟨ar,nr,l⟩:=c;simp only at h hn⊢;have X:=(Box3.new w 39 (.int .u32 ar) (.int .u32 nr) (.slice a l.length cap)).alloc (.cells #[.int .u32 0,.int .u32 0,.slice none 0 0] 39);have Y:=Box3.new (w.alloc (.cells #[.int .u32 ar,.int .u32 nr,.slice a l.length cap] 39)) 39 (.int .u32 0) (.int .u32 0) (.slice none 0 0);have hsz:(w.alloc (.cells #[.int .u32 ar,.int .u32 nr,.slice a l.length cap] 39)).heap.size=w.heap.size+1:=by simp
 have B0:Below w.heap.size w ((w.alloc (.cells #[.int .u32 ar,.int .u32 nr,.slice a l.length cap] 39)).alloc (.cells #[.int .u32 0,.int .u32 0,.slice none 0 0] 39)):=((Below.refl _ _).alloc (Nat.le_refl _) _).alloc (by simp) _;rw[hsz]at Y;clear hsz;have HU:Hid (∀w1,Below w.heap.size w w1->USrc w1 a l):=fun w1 hB=>h.below hB
 cases a with
 |none=>
  have hl:l=[]:=by
   rcases h with h|⟨b,o,h,_⟩
   ·exact h
   cases h
  subst hl;have hap:∀u:World,(Builtin.append_ #[37,37] 37 #[.slice none 0 0,.slice none 0 cap]).run Tryz.prog u=.ok (.slice none 0 0) u:=fun u=>by
   simp[Builtin.append_,run_underlying Tryz.underlying37,sizeOf,typeInfo,hi,Builtin.lenOf,Builtin.firstCells]
  obtain⟨_,p0,p1,p2,_,_,_⟩:=X;obtain⟨_,r0,r1,r2,s0,s1,s2⟩:=Y;simp only[List.length_nil]at*;clear HU h;go_enter Tryz.func41,Tryz.ntmps41;go_wp2;refine bodyPost_ret (v:=callV ⟨ar,nr,[]⟩ (.slice none 0 0)) (by simp[results,Tryz.results41,go_sem]) rfl ⟨_,rfl,?_,?_⟩
  ·exact World.ownsRow_nil _ _ _ _
  exact((Below.refl _ _).alloc (Nat.le_refl _) _).alloc (by simp) _
 |some ad=>
  have hcell:∀w1,Below w.heap.size w w1->∀j u,(l.map (Value.int .u64))[j]? =some u->w1.cell? (ad.add j)=some u:=by
   intro w1 hB j u hj;rcases HU.out w1 hB with hl|⟨b,o,ha,hb,hp⟩
   ·subst hl;simp at hj
   obtain rfl:ad=⟨b,o,none⟩:=by simpa using ha
   have hjl:j<l.length:=by
    have:=(List.getElem?_eq_some_iff.1 hj).1;simpa using this
   rw[add_at,hp j hjl];rw[List.getElem?_map,List.getElem?_eq_getElem hjl]at hj;rw[List.getD_eq_getElem?_getD,List.getElem?_eq_getElem hjl];simpa using hj
  have HCe:Hid _:=hcell _ B0;clear hcell h HU;go_enter Tryz.func41,Tryz.ntmps41;go_wp2_with(at_builtin;refine wpList_append_own _ rfl (.tmp 4) (.tmp 6) 37 rfl (w.heap.size+1+1) 69 i0 (.int .u64 0) 1 8 Tryz.underlying37 hi hz0 hz1 hz2 rfl (by decide) (.slice none 0 0) 0 [] rfl (World.ownsRow_nil _ _ _ _) ad l.length cap (l.map (Value.int .u64)) rfl ?c0 HCe.out (longs_one l) ?c3 ?c4 ?c5 ?_)
  case c0=>simp
  case c3=>unfold maxLen;omega
  case c4=>omega
  case c5=>simp
  intro v1 w1 ow gr _;have o1:ownsU w1 (w.heap.size+1+1) v1 l:=ow;have b1:Below ((w.alloc (.cells #[.int .u32 ar,.int .u32 nr,.slice (some ad) l.length cap] 39)).alloc (.cells #[.int .u32 0,.int .u32 0,.slice none 0 0] 39)).heap.size ((w.alloc (.cells #[.int .u32 ar,.int .u32 nr,.slice (some ad) l.length cap] 39)).alloc (.cells #[.int .u32 0,.int .u32 0,.slice none 0 0] 39)) w1:=(Below.refl _ _).grown gr (Nat.le_refl _) (fun q hq=>by cases hq);have X1:=X.keep b1;have Y1:=Y.keep b1;have B1:=B0.trans (b1.mono B0.size);obtain⟨ax,cx,hv,_⟩:=ownsU_src o1;subst hv;have hq:∀q,(Value.slice ax l.length cx).ownBlock=some q->w.heap.size+1+1<=q:=fun q hq=>(o1.lt q hq).1
  clear ow gr b1 X Y HCe B0;obtain⟨_,p0,p1,p2,_,_,_⟩:=X1;obtain⟨_,r0,r1,r2,s0,s1,s2⟩:=Y1;go_wp2;refine bodyPost_ret (v:=callV ⟨ar,nr,l⟩ (.slice ax l.length cx)) (by simp[results,Tryz.results41,go_sem,r0,r1,r2]) rfl ⟨_,rfl,?_,?_⟩
  ·refine ownsU_set (ownsU_set (ownsU_set (ownsU_mono o1 (by omega)) ?_) ?_) ?_;all_goals(intro q h2;have:=hq q h2;omega)
  refine((B1.setCell ?_ _).setCell ?_ _).setCell ?_ _;all_goals(simp only;omega)
end Go.Proofs.YtddemlfepjkgoaaGreat
