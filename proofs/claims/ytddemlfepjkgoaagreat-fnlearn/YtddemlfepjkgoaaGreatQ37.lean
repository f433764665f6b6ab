import Derived.Test.YtddemlfepjkgoaaGreatQ28
import Derived.Test.YtddemlfepjkgoaaGreatQ36
set_option linter.all false
set_option maxRecDepth 200000
set_option maxHeartbeats 16000000
namespace Go.Proofs.YtddemlfepjkgoaaGreat
open Go.RowKit Go.Deep
set_option linter.unusedSimpArgs false
def RlS(w:World)(B:Nat)(v:Value)(l:List Ru)(cells:List Value):Prop:=w.ownsRow B 116 1 v l.length cells∧((l=[]∧v=.slice none 0 0∧cells=[])∨∃vs cb gb,cells=(List.range l.length).map vs∧OwnRs w B v l vs cb gb)
theorem RlS.nil(w:World)(B:Nat):RlS w B (.slice none 0 0) [] []:=⟨World.ownsRow_nil _ _ _ _,.inl ⟨rfl,rfl,rfl⟩⟩
theorem RlS.below{w w1:World}{B:Nat}{v:Value}{l:List Ru}{cells:List Value}(h:RlS w B v l cells)(hb:Below w.heap.size w w1):RlS w1 B v l cells:=
 ⟨World.ownsRow.kept (row:=none) h.1 ⟨hb.os,hb.tape,hb.output,hb.size,fun k hk _=>hb.block k hk⟩ (by cases v.ownBlock<;>simp),h.2.imp id fun⟨vs,cb,gb,h1,h2⟩=>⟨vs,cb,gb,h1,h2.below hb⟩⟩
theorem RlS.next {w w9 w1 : World} {B : Nat} {v v' : Value} {l : List Ru} {r : Ru} {cells : List Value} {gg cap q : Nat} {o : Obj} (h : RlS w B v l cells) (hBw : B <= w.heap.size) (hb : Below w.heap.size w w9) (hv : ownsK w9 w.heap.size v' r) (hq : v'.ownBlock = some q)
    (hown : w1.ownsRow B 116 1 (.slice (some ⟨gg, 0, none⟩) (l.length + 1) cap) (l.length + 1) (cells ++ [v'])) (hg : (w9.alloc o).grownBy w1 v.ownBlock) (hat : v.ownBlock = some gg ∨ gg = (w9.alloc o).heap.size) :
    RlS w1 B (.slice (some ⟨gg, 0, none⟩) (l.length + 1) cap) (l ++ [r]) (cells ++ [v']) := by
  have len1 : (l ++ [r]).length = l.length + 1 := by simp
  rcases h.2 with ⟨rfl, rfl, rfl⟩ | ⟨vs, cb, gb, rfl, hO⟩
  · have hgg : gg = (w9.alloc o).heap.size := by
      rcases hat with e | e
      · cases e
      · exact e
    have hsz : (w9.alloc o).heap.size = w9.heap.size + 1 := by simp
    have hq1 := hv.lt q hq
    refine ⟨by rw [len1]; exact hown, .inr ⟨fun _ => v', fun _ => q, gg, rfl, hown, rfl, fun i hi => ?_, fun i hi => ?_, fun i j hij hj => ?_⟩⟩
    · simp at hi; subst hi
      refine ⟨World.ownsRow.mono (row_blockM hv fun k hk => ?_) hBw, hq⟩
      rw [hq] at hk; cases hk
      exact (hg.block q (by omega) (by simp [Value.ownBlock])).trans (Below.heap_alloc _ _ _ hq1.2)
    · omega
    · simp at hj; omega
  · have := hO.next hBw hb hv hq hown hg hat
    refine ⟨by rw [len1]; exact hown, .inr ⟨_, _, gg, ?_, this⟩⟩
    rw [len1, List.range_succ, List.map_append]
    congr 1
    · apply List.map_congr_left
      intro i hi
      rw [if_neg (by have := List.mem_range.1 hi; omega)]
    · simp
theorem RlS.rsIn{w:World}{B:Nat}{v:Value}{l:List Ru}{cells:List Value}(h:RlS w B v l cells)(h0:l≠[]):RsIn w B w.heap.size v l:=by
 rcases h.2 with⟨h1,_⟩|⟨vs,cb,gb,_,hO⟩
 ·exact absurd h1 h0
 exact⟨vs,cb,gb,hO,(hO.row.lt gb hO.ob).2,fun i hi=>((hO.own i hi).1.lt _ (hO.own i hi).2).2⟩
structure CgS(w0 W:World)(ks:List K):Prop where
 blk:W.heap[w0.heap.size]? =some (.cells (kCells ks).toArray 94 (0,0))
 bx:W.cell? ⟨w0.heap.size+1,0,none⟩=some (.slice (some ⟨w0.heap.size,0,none⟩) 6 6)
 len:ks.length=6
 b:Below w0.heap.size w0 W
theorem cell_farP{w:World}{p a:Addr}{v:Value}(h:p.block≠a.block):(w.setCell p v).cell? a=w.cell? a:=
 World.cell?_setCell_other w p a v (fun e=>h (by rw[e]))
theorem kc_len(c:K):([.int .i64 c.kind,.int .u64 (c.a:Int),.int .u64 (c.b:Int)]:List Value).length=3:=rfl
theorem CgS.lt{w0 W:World}{ks:List K}(h:CgS w0 W ks):w0.heap.size+1<W.heap.size:=cell_ltM h.bx
theorem CgS.keep{w0 W W':World}{ks:List K}(h:CgS w0 W ks)(hb:Below W.heap.size W W'):CgS w0 W' ks:=
 ⟨(hb.block _ (by have:=h.lt;omega)).trans h.blk,cell_step hb h.bx,h.len,below_step hb h.b⟩
theorem kCells_at(ks:List K)(i q:Nat)(hi:i<ks.length)(hq:q<3):(kCells ks)[i*3+q]? =([.int .i64 (ks[i]).kind,.int .u64 ((ks[i]).a:Int),.int .u64 ((ks[i]).b:Int)]:List Value)[q]? :=by
 unfold kCells;exact flat_at (fun c:K=>([.int .i64 c.kind,.int .u64 (c.a:Int),.int .u64 (c.b:Int)]:List Value)) 3 kc_len ks i q hi hq
theorem kCells_len(ks:List K):(kCells ks).length=ks.length*3:=by
 induction ks with
 |nil=>rfl
 |cons a r ih=>
  have e:kCells (a::r)=[.int .i64 a.kind,.int .u64 (a.a:Int),.int .u64 (a.b:Int)]++kCells r:=rfl;rw[e,List.length_append,ih];simp;omega
theorem kCells_set(ks:List K)(i:Nat)(c:K)(hi:i<ks.length):(((kCells ks).set (i*3) (.int .i64 c.kind)).set (i*3+1) (.int .u64 (c.a:Int))).set (i*3+2) (.int .u64 (c.b:Int))=kCells (ks.set i c):=by
 apply List.ext_getElem?;intro j;by_cases hj:j<ks.length*3
 ·have h1:j/3<ks.length:=by omega
  have h2:j%3<3:=Nat.mod_lt _ (by omega);have ej:j=j/3*3+j%3:=by omega
  have hl:=kCells_len ks;have e2:=kCells_at (ks.set i c) (j/3) (j%3) (by rw[List.length_set];exact h1) h2;have e1:=kCells_at ks (j/3) (j%3) h1 h2;rw[<-ej]at e1 e2;rw[e2,List.getElem?_set,List.getElem?_set,List.getElem?_set];simp only[List.length_set,hl];by_cases e:j/3=i
  ·subst e;simp only[List.getElem_set_self];rcases(show j%3=0∨j%3=1∨j%3=2 by omega)with h|h|h
   ·rw[if_neg (by omega),if_neg (by omega),if_pos (by omega),if_pos (by omega),h];rfl
   ·rw[if_neg (by omega),if_pos (by omega),if_pos (by omega),h];rfl
   rw[if_pos (by omega),if_pos (by omega),h];rfl
  rw[if_neg (by omega),if_neg (by omega),if_neg (by omega),e1];rw[List.getElem_set_ne (by omega)]
 rw[List.getElem?_eq_none (by simp[kCells_len];omega),List.getElem?_eq_none (by rw[kCells_len,List.length_set];omega)]
theorem CgS.cells{w0 W:World}{ks:List K}(h:CgS w0 W ks){i:Nat}(hi:i<6):(∃x,W.cell? ⟨w0.heap.size,i*3,none⟩=some x)∧(∃x,W.cell? ⟨w0.heap.size,i*3+1,none⟩=some x)∧(∃x,W.cell? ⟨w0.heap.size,i*3+2,none⟩=some x)∧∀q,W.frozen? ⟨w0.heap.size,q,none⟩=false:=by
 have hl:=h.len;have key:∀q,q<3->∃x,W.cell? ⟨w0.heap.size,i*3+q,none⟩=some x:=fun q hq=>by
  rw[cell_of_row W _ _ _ _ _ h.blk];rw[List.getElem?_toArray,kCells_at ks i q (by omega) hq];rcases(show q=0∨q=1∨q=2 by omega)with rfl|rfl|rfl<;>exact⟨_,rfl⟩
 exact⟨key 0 (by omega),key 1 (by omega),key 2 (by omega),fun q=>by simp[World.frozen?,h.blk]⟩
theorem CgS.put{w0 W:World}{ks:List K}(h:CgS w0 W ks){i:Nat}(hi:i<6)(c:K):CgS w0 (((W.setCell ⟨w0.heap.size,i*3,none⟩ (.int .i64 c.kind)).setCell ⟨w0.heap.size,i*3+1,none⟩ (.int .u64 (c.a:Int))).setCell ⟨w0.heap.size,i*3+2,none⟩ (.int .u64 (c.b:Int))) (ks.set i c):=by
 have hl:=h.len;refine⟨?_,?_,by rw[List.length_set];exact hl,((h.b.setCell (p:=⟨w0.heap.size,i*3,none⟩) (Nat.le_refl _) _).setCell (p:=⟨w0.heap.size,i*3+1,none⟩) (Nat.le_refl _) _).setCell (p:=⟨w0.heap.size,i*3+2,none⟩) (Nat.le_refl _) _⟩
 ·rw[heap_setCell_at _ (heap_setCell_at _ (heap_setCell_at _ h.blk)),<-kCells_set ks i c (by omega)];simp
 rw[cell_farP,cell_farP,cell_farP]
 ·exact h.bx
 all_goals(show w0.heap.size≠w0.heap.size+1;omega)
theorem CgS.own{w0 W:World}{ks:List K}(h:CgS w0 W ks):ownsK W w0.heap.size (.slice (some ⟨w0.heap.size,0,none⟩) 6 6) ks:=by
 have hl:=h.len;show W.ownsRow w0.heap.size 94 3 (.slice (some ⟨w0.heap.size,0,none⟩) 6 6) ks.length (kCells ks);rw[hl];exact⟨by rw[kCells_len,hl],.inr ⟨_,6,_,rfl,Nat.le_refl _,h.blk,by omega,by decide,by simp[kCells_len,hl],by simp[List.take_of_length_le (show(kCells ks).length<=18 by rw[kCells_len,hl];omega)]⟩⟩
theorem cg_start(w0:World):CgS w0 ((w0.alloc (.cells (madeCells #[.int .i64 0,.int .u64 0,.int .u64 0] 18) 94)).alloc (.cells #[.slice (some ⟨w0.heap.size,0,none⟩) 6 6] 116)) (List.replicate 6 K.zero):=by
 have hs:(w0.alloc (.cells (madeCells #[.int .i64 0,.int .u64 0,.int .u64 0] 18) 94)).heap.size=w0.heap.size+1:=by simp
 refine⟨?_,?_,by simp,((Below.refl _ _).alloc (Nat.le_refl _) _).alloc (by simp) _⟩
 ·rw[Below.heap_alloc _ _ _ (by rw[hs];omega),heap_alloc_new];have e:madeCells #[.int .i64 0,.int .u64 0,.int .u64 0] 18=(kCells (List.replicate 6 K.zero)).toArray:=by kernel_rfl
  rw[e]
 have:=box1 (w0.alloc (.cells (madeCells #[.int .i64 0,.int .u64 0,.int .u64 0] 18) 94)) 116 (.slice (some ⟨w0.heap.size,0,none⟩) 6 6);rw[hs]at this;exact this
theorem infoCons:(Tryz.prog.info? 94).map (fun i=>(i.zero,i.size,i.bytes))=some (some (.agg #[.int .i64 0,.int .u64 0,.int .u64 0]),3,24):=by kernel_rfl
theorem infoRls:(Tryz.prog.info? 116).map (fun i=>(i.zero,i.size,i.bytes))=some (some (.agg #[.slice none 0 0]),1,24):=by kernel_rfl
def CgP(l:List Ru)(w:World)(e:Ending)(w':World):Prop:=∃v cells,e=.returned v∧RlS w' w.heap.size v l cells∧Below w.heap.size w w'
theorem coverR_take(g:List La)(f:Int){i:Nat}(hi:i<6){ks:List K}(hl:ks.length=6)(h:ks.take i=(coverR g f).take i):(ks.set i (coverK (colN g i) f)).take (i+1)=(coverR g f).take (i+1):=by
 have hr:(coverR g f).length=6:=by simp[coverR]
 rw[List.take_add_one,List.take_add_one,List.take_set_of_le (Nat.le_refl _),h,List.getElem?_set_self (by omega),List.getElem?_eq_getElem (by omega)];simp[coverR]
theorem coverGroups_any(gs:List (List La))(a:Option Addr)(cap gf:Nat)(f:Int)(w:World)(hs:LSrc 1 PG w a gs)(hgf:w.cell? ⟨gf,0,none⟩=some (.int .i64 f))(hf:0<=f∧f<=2)(hn:gs.length<=1000)(hg:∀g∈gs,0<g.length∧g.length<=1000∧∀x∈g,okLa x):
 Calls Tryz.prog 31 #[.slice a gs.length cap,.func (.func 46) #[] #[.pointer (some ⟨gf,0,none⟩)]] w (CgP (gs.map fun g=>coverR g f) w):=by
 obtain⟨i0,hi,hz0,hz1,hz2⟩:=info_parts infoCons;obtain⟨i1,hi1,hy0,hy1,hy2⟩:=info_parts infoRls;have hmk:∀u:World,(Instr.makeSlice 114 (.int .i64 6) (.int .i64 6)).run Tryz.prog u=.ok (.slice (some ⟨u.heap.size,0,none⟩) 6 6) (u.alloc (.cells (madeCells #[.int .i64 0,.int .u64 0,.int .u64 0] 18) 94)):=fun u=>by
  have h:=run_make (P:=Tryz.prog) u 114 94 i0 _ Tryz.underlying114 hi hz0 .i64 .i64 6 6 (by omega) (by omega) (by rw[hz2];omega) (by omega);simpa[hz1,Value.cells]using h
 have HP:Hid (∀W,Below w.heap.size w W->∀k,k<gs.length->∃b o ag cg,a=some ⟨b,o,none⟩∧W.cell? ⟨b,o+k,none⟩=some (.slice ag (gs.getD k []).length cg)∧∀W',Below W.heap.size W W'->∀i:Nat,i<6->Calls Tryz.prog 64 #[.slice ag (gs.getD k []).length cg,.int .i64 (i:Int)] W' fun e w1=>∃av cv,e=.returned (.slice av (gs.getD k []).length cv)∧Below W'.heap.size W' w1∧Calls Tryz.prog 46 #[.slice av (gs.getD k []).length cv,.pointer (some ⟨gf,0,none⟩)] w1 fun e w2=>e=.returned (conV (coverK (colN (gs.getD k []) i) f))∧Below w1.heap.size w1 w2):=fun W hB k hk=>by
  obtain⟨b,o,h1,_,ag,cg,h2,h3⟩:=(hs.below PG.stays hB).at hk [];have hm:gs.getD k []∈gs:=by rw[List.getD_eq_getElem?_getD,List.getElem?_eq_getElem hk];exact List.getElem_mem hk
  obtain⟨g0,g1,g2⟩:=hg _ hm;rw[Nat.mul_one]at h2;refine⟨b,o,ag,cg,h1,h2,fun W' hB' i hi6=> ?_⟩;refine(valuesAt_any (gs.getD k []) ag cg i W' (h3.below PA.stays hB') hi6 g1).mono ?_;rintro e w1⟨v,rfl,ho,hB1⟩;obtain⟨av,cv,rfl,hu⟩:=ownsU_plain ho;have hl:((gs.getD k []).map fun x=>x.getD i 0).length=(gs.getD k []).length:=by simp
  refine⟨av,cv,by rw[hl],hB1,?_⟩;have hB3:=below_step hB1 (below_step hB' hB);have hcl:(colN (gs.getD k []) i).length=(gs.getD k []).length:=by simp[colN]
  have h4:=coverFn_any f gf av cv (colN (gs.getD k []) i) w1 (cell_step hB3 hgf) hf (by show USrc w1 av ((colN (gs.getD k []) i).map fun n:Nat=>(n:Int));rw[natV_col g2 i];exact hu) (by rw[hcl];exact g0) (by rw[hcl];omega) (by
   intro j
   by_cases hj:j<(gs.getD k []).length
   ·have hm2:=List.getElem_mem hj
    have e:(colN (gs.getD k []) i).getD j 0=((gs.getD k [])[j].getD i 0).toNat:=by
     rw[List.getD_eq_getElem?_getD];simp only[colN,List.getElem?_map,List.getElem?_eq_getElem hj];rfl
    rw[e];exact((g2 _ hm2).lt i).1
   rw[List.getD_eq_getElem?_getD,List.getElem?_eq_none (by rw[hcl];omega)];simp)
  rw[hcl]at h4;exact h4
 have HT:Hid (∀k,k<gs.length->(gs.map fun g=>coverR g f).take (k+1)=(gs.map fun g=>coverR g f).take k++[coverR (gs.getD k []) f]):=fun k hk=>by
  rw[List.take_add_one,List.getElem?_map,List.getElem?_eq_getElem hk,List.getD_eq_getElem?_getD,List.getElem?_eq_getElem hk];rfl
 have HF:Hid (∀W v cells,RlS W w.heap.size v ((gs.map fun g=>coverR g f).take gs.length) cells->Below w.heap.size w W->CgP (gs.map fun g=>coverR g f) w (.returned v) W):=fun W v cells h hb=>by
  rw[List.take_of_length_le (by simp)]at h;exact⟨v,cells,rfl,h,hb⟩
 have HL:Hid (∀k,k<=gs.length->((gs.map fun g=>coverR g f).take k).length=k):=fun k hk=>by rw[List.length_take,List.length_map];omega
 have H0:Hid (RlS w w.heap.size (.slice none 0 0) ((gs.map fun g=>coverR g f).take 0) []):=RlS.nil w _;obtain⟨R,hR⟩:∃R:Nat->List Ru,∀k,(gs.map fun g=>coverR g f).take k=R k:=⟨_,fun _=>rfl⟩;simp only[hR]at HT HF HL H0;obtain⟨fg,hfg⟩:∃fg:Nat->List La,∀k,gs.getD k []=fg k:=⟨_,fun _=>rfl⟩;simp only[hfg]at HP HT;generalize(gs.map fun g=>coverR g f)=RES at*;generalize gs.length=n at*;clear hs hg hgf hR hfg;go_enter Tryz.func31,Tryz.ntmps31;go_wp2_with fail;go_loopw [5,12](fun v' i wr=>∃(k:Nat)(v:Value)(cells:List Value),v=v'∧k<=n∧i=.int .i64 k∧Hid (RlS wr w.heap.size v (R k) cells)∧Below w.heap.size w wr)(fun _ i _=>n-(intOf i).toNat)
 case atStart=>exact⟨0,_,[],rfl,by omega,rfl,H0,Below.refl _ _⟩
 case round=>
  clear H0;obtain⟨k,v,cells,hvv,hk,rfl,HR,hB⟩:=hrel;subst hvv;rename World=>wr
  by_cases hkn:k<n
  ·have hkn':(k:Int)<(n:Int):=by omega
   obtain⟨b,o,ag,cg,rfl,cg0,hcall⟩:=HP.out wr hB k hkn;have HC:Hid _:=hcall;have HT1:Hid _:=HT.out k hkn;have S0:=cg_start wr;clear hcall HP HT HF;have hmk1:=hmk wr;go_wp2_with fail;generalize(wr.alloc (.cells (madeCells #[.int .i64 0,.int .u64 0,.int .u64 0] 18) 94)).alloc (.cells #[.slice (some ⟨wr.heap.size,0,none⟩) 6 6] 116)=W0 at*;go_loopw [21](fun i W=>∃(j:Nat)(ks:List K),j<=6∧i=.int .i64 j∧CgS wr W ks∧Hid (ks.take j=(coverR (fg k) f).take j))(fun i _=>6-(intOf i).toNat)
   case atStart=>exact⟨0,_,by omega,rfl,S0,rfl⟩
   case round=>
    clear S0;obtain⟨j,ks,hj,rfl,hS,HK⟩:=hrel;rename World=>W1
    by_cases hj6:j<6
    ·have hj6':(j:Int)<6:=by omega
     have H1:Hid _:=HC.out W1.drew ((hS.b.mono (Nat.le_refl _)).drew) j hj6;have HK2:Hid ((ks.set j (coverK (colN (fg k) j) f)).take (j+1)=(coverR (fg k) f).take (j+1)):=coverR_take _ _ hj6 hS.len HK.out;have bx0:=hS.bx;have HS2:Hid (∀W,Below W1.drew.heap.size W1.drew W->CgS wr W ks∧W.cell? ⟨wr.heap.size+1,0,none⟩=some (.slice (some ⟨wr.heap.size,0,none⟩) 6 6)∧(∃x,W.cell? ⟨wr.heap.size,j*3,none⟩=some x)∧(∃x,W.cell? ⟨wr.heap.size,j*3+1,none⟩=some x)∧(∃x,W.cell? ⟨wr.heap.size,j*3+2,none⟩=some x)∧W.frozen? ⟨wr.heap.size,j*3,none⟩=false∧W.frozen? ⟨wr.heap.size,j*3+1,none⟩=false∧W.frozen? ⟨wr.heap.size,j*3+2,none⟩=false):=fun W hb=>by
      have h:=(hS.keep (Below.refl _ _).drew).keep hb;obtain⟨c0,c1,c2,c3⟩:=h.cells hj6;exact⟨h,h.bx,c0,c1,c2,c3 _,c3 _,c3 _⟩
     clear hS HK HC HT1 HL HR;generalize coverK (colN (fg k) j) f=c at*;generalize(fg k).length=m at*;obtain⟨ck,ca,cb⟩:=c;go_wp2_with fail;go_region_law(first
      |(go_simp;go_at_call 64;refine Calls.mono H1.out ?_;rintro _ w1⟨av,cv,rfl,hb1,h2⟩;obtain⟨_,bx1,_,_,_,_,_,_⟩:=HS2.out w1 hb1;dsimp only)
      |(go_simp;go_at_call 46;refine Calls.mono h2 ?_;rintro _ w2⟨rfl,hb2⟩;obtain⟨hS3,bx2,⟨z0,c0⟩,⟨z1,c1⟩,⟨z2,c2⟩,f0,f1,f2⟩:=HS2.out w2 (below_step hb2 hb1);have hS4:=hS3.put hj6 ⟨ck,ca,cb⟩;dsimp only at hS4⊢))
     all_goals
      clear H1 HS2 hb1 h2 hb2 hS3 bx0 bx1 bx2 c0 c1 c2 f0 f1 f2;go_wp2;go_roundw
      case rel=>exact⟨j+1,_,by omega,by go_num,hS4,HK2⟩
      case measure=>simp[intOf];omega
    obtain rfl:j=6:=by omega
    have hks:ks=coverR (fg k) f:=by
     have h:=HK.out;rwa [List.take_of_length_le (by rw[hS.len];omega),List.take_of_length_le (by simp[coverR])]at h
    subst hks;have hl:=HL.out k hk;have hR1:=HR.out.below (hS.b);obtain⟨av,cv,hve⟩:=form_nil hR1.1;rw[hl]at hve;have bx:=hS.bx;have hlt2:=hS.lt;have hBw:=hB.size;have hO:=hR1.1;rw[hl]at hO;have HNx:Hid (∀gg cap' w1',w1'.ownsRow w.heap.size 116 1 (.slice (some ⟨gg,0,none⟩) (k+1) cap') (k+1) (cells++[.slice (some ⟨wr.heap.size,0,none⟩) 6 6])->(W1.alloc (.cells #[.slice (some ⟨wr.heap.size,0,none⟩) 6 6] 116)).grownBy w1' v.ownBlock->(v.ownBlock=some gg∨gg=(W1.alloc (.cells #[.slice (some ⟨wr.heap.size,0,none⟩) 6 6] 116)).heap.size)->Hid (RlS w1' w.heap.size (.slice (some ⟨gg,0,none⟩) (k+1) cap') (R (k+1)) (cells++[.slice (some ⟨wr.heap.size,0,none⟩) 6 6]))∧Below w.heap.size w w1'):=fun gg cap' w1' h1 h2 h3=>by
     have h4:=HR.out.next (cap:=cap') hBw hS.b hS.own rfl (by rw[hl];exact h1) h2 h3;rw[hl]at h4;refine⟨by rw[HT1.out];exact h4,?_⟩;exact((below_step hS.b hB).alloc (by have:=hS.b.size;omega) _).grown h2 (by simp;omega) (fun t e=>(hR1.1.lt t e).1)
    subst hve;have hbm:k+1<=maxLen:=by unfold maxLen;omega
    have hbd:(k+1)*24<=140737488355328:=by omega
    clear HR HC HT1 HK HL hR1 hS hmk hmk1;go_wp2_with(at_builtin;refine wpList_append_lies _ rfl (.tmp 34) (.tmp 36) 73 rfl w.heap.size 116 i1 _ 1 24 Tryz.underlying73 hi1 hy0 hy1 hy2 rfl (by omega) (.slice av k cv) k cells rfl (hO.alloc _) ⟨W1.heap.size,0,none⟩ 1 1 [.slice (some ⟨wr.heap.size,0,none⟩) 6 6] rfl rfl (World.news_of_block (t:=116) (fr:=(0,0)) (heap_alloc_new W1 _)) (by simp[Value.oneCell']) (by omega) hbm hbd (by simp;omega) _ rfl ?_;intro gg cap2 w1' hown1 hgrow hat hlt3;obtain⟨y1,y2⟩:=HNx.out gg cap2 w1' hown1 hgrow hat);clear HNx hown1 hgrow hat hlt3 hO bx;go_wp2;go_roundw
    case rel=>exact⟨k+1,_,_,rfl,by omega,by go_num,y1,y2⟩
    case measure=>simp[intOf];omega
  have hk':k=n:=by omega
  subst hk';have hlt':¬(k:Int)<(k:Int):=by omega
  have HR2:Hid _:=HF.out wr v cells HR.out hB;clear HF HP HT HL;go_wp2;go_ret;exact HR2.out
set_option linter.unusedSimpArgs false
theorem own_uniq{w:World}{B t s n:Nat}{v:Value}{xs ys:List Value}(h:w.ownsRow B t s v n xs)(h':w.ownsRow B t s v n ys):xs=ys:=by
 obtain⟨l1,⟨e1,n1⟩|⟨g,c,cur,e1,_,h1,_,_,_,h2⟩⟩:=h
 ·subst n1;rw[Nat.zero_mul]at l1;have l2:=h'.1;rw[Nat.zero_mul]at l2;rw[List.length_eq_zero_iff.1 l1,List.length_eq_zero_iff.1 l2]
 obtain⟨l2,⟨e2,n2⟩|⟨g',c',cur',e2,_,h1',_,_,_,h2'⟩⟩:=h'
 ·rw[e1]at e2;cases e2
 rw[e1]at e2;cases e2;rw[h1]at h1';cases h1';rw[<-h2,<-h2']
def PlS(w:World)(B C:Nat)(v:Value)(l:List E)(cells:List Value):Prop:=w.ownsRow B 78 3 v l.length cells∧((l=[]∧v=.slice none 0 0∧cells=[])∨∃rv lo hi gb,cells=entCs l rv∧OwnPs w B C v l rv lo hi gb)
theorem PlS.nil(w:World)(B C:Nat):PlS w B C (.slice none 0 0) [] []:=⟨World.ownsRow_nil _ _ _ _,.inl ⟨rfl,rfl,rfl⟩⟩
theorem PlS.below{w w1:World}{B C:Nat}{v:Value}{l:List E}{cells:List Value}(h:PlS w B C v l cells)(hb:Below w.heap.size w w1):PlS w1 B C v l cells:=
 ⟨World.ownsRow.kept (row:=none) h.1 ⟨hb.os,hb.tape,hb.output,hb.size,fun k hk _=>hb.block k hk⟩ (by cases v.ownBlock<;>simp),h.2.imp id fun⟨rv,lo,hi,gb,h1,h2⟩=>⟨rv,lo,hi,gb,h1,h2.below hb⟩⟩
theorem PlS.next {w w9 w1 : World} {B C : Nat} {v v' : Value} {l : List E} {e : E} {cells : List Value} {gg cap : Nat} {o : Obj} (h : PlS w B C v l cells) (hBw : C <= w.heap.size) (hb : Below w.heap.size w w9) (hv : RsIn w9 w.heap.size w9.heap.size v' e.rules)
    (hown : w1.ownsRow B 78 3 (.slice (some ⟨gg, 0, none⟩) (l.length + 1) cap) (l.length + 1) (cells ++ entC e v')) (hg : (w9.alloc o).grownBy w1 v.ownBlock) (hat : v.ownBlock = some gg ∨ gg = (w9.alloc o).heap.size) :
    PlS w1 B C (.slice (some ⟨gg, 0, none⟩) (l.length + 1) cap) (l ++ [e]) (cells ++ entC e v') := by
  have len1 : (l ++ [e]).length = l.length + 1 := by simp
  rcases h.2 with ⟨rfl, rfl, rfl⟩ | ⟨rv, lo, hi, gb, rfl, hO⟩
  · have hgg : gg = (w9.alloc o).heap.size := by
      rcases hat with e | e
      · cases e
      · exact e
    have hsz : (w9.alloc o).heap.size = w9.heap.size + 1 := by simp
    have h1 := hg.size
    refine ⟨by rw [len1]; exact hown, .inr ⟨fun _ => v', fun _ => w.heap.size, fun _ => w9.heap.size, gg, rfl, hown, rfl, fun i hi => ?_, fun i hi => ⟨hBw, by omega⟩, fun i hi => .inr (by omega), fun i j hij hj => ?_⟩⟩
    · simp at hi; subst hi
      exact hv.far fun k _ hk => (hg.block k (by omega) (by simp [Value.ownBlock])).trans (Below.heap_alloc _ _ _ hk)
    · simp at hj; omega
  · obtain ⟨rv', lo', hi', h2⟩ := hO.next hBw hb hv hown hg hat
    have h3 := h2.row
    rw [len1] at h3
    exact ⟨by rw [len1]; exact hown, .inr ⟨rv', lo', hi', gg, own_uniq hown h3, h2⟩⟩
end Go.Proofs.YtddemlfepjkgoaaGreat
