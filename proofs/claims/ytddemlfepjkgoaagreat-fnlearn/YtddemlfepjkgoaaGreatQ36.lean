import Derived.Test.YtddemlfepjkgoaaGreatQ34
import Derived.Test.YtddemlfepjkgoaaGreatQ35
set_option linter.all false
set_option maxRecDepth 200000
set_option maxHeartbeats 16000000
namespace Go.Proofs.YtddemlfepjkgoaaGreat
open Go.RowKit
open srtR
def RsIn(w:World)(lo hi:Nat)(v:Value)(l:List Ru):Prop:=∃vs cb gb,OwnRs w lo v l vs cb gb∧gb<hi∧∀i,i<l.length->cb i<hi
theorem RsIn.far{w w1:World}{lo hi:Nat}{v:Value}{l:List Ru}(h:RsIn w lo hi v l)(hb:∀k,lo<=k->k<hi->w1.heap[k]? =w.heap[k]?):RsIn w1 lo hi v l:=by
 obtain⟨vs,cb,gb,h1,h2,h3⟩:=h;refine⟨vs,cb,gb,⟨row_blockK h1.row (fun q hq=> ?_),h1.ob,fun i hi=>⟨row_blockK (h1.own i hi).1 (fun q hq=> ?_),(h1.own i hi).2⟩,h1.ne,h1.inc⟩,h2,h3⟩
 ·rw[h1.ob]at hq;cases hq;exact hb _ (h1.row.lt _ h1.ob).1 h2
 rw[(h1.own i hi).2]at hq;cases hq;exact hb _ ((h1.own i hi).1.lt _ (h1.own i hi).2).1 (h3 i hi)
def entC(e:E)(v:Value):List Value:=[.int .u32 e.arch,.int .u32 e.nr,v]
def entCs(l:List E)(rv:Nat->Value):List Value:=(List.range l.length).flatMap fun i=>entC (l.getD i E.zero) (rv i)
theorem entCs_snoc(l:List E)(e:E)(rv:Nat->Value)(v:Value):entCs (l++[e]) (fun i=>if i=l.length then v else rv i)=entCs l rv++entC e v:=by
 unfold entCs;rw[List.length_append,List.length_singleton,List.range_succ,List.flatMap_append];congr 1
 ·rw[List.flatMap_def,List.flatMap_def];congr 1;apply List.map_congr_left;intro i hi;have hi':=List.mem_range.1 hi;show entC ((l++[e]).getD i E.zero) (if i=l.length then v else rv i)=entC (l.getD i E.zero) (rv i);rw[if_neg (by omega)];simp[List.getD_eq_getElem?_getD,List.getElem?_append_left hi']
 simp[List.getD_eq_getElem?_getD]
structure OwnPs(w:World)(B C:Nat)(v:Value)(l:List E)(rv:Nat->Value)(lo hi:Nat->Nat)(gb:Nat):Prop where
 row:w.ownsRow B 78 3 v l.length (entCs l rv)
 ob:v.ownBlock=some gb
 own:∀i,i<l.length->RsIn w (lo i) (hi i) (rv i) (l.getD i E.zero).rules
 lt:∀i,i<l.length->C<=lo i∧hi i<=w.heap.size
 out:∀i,i<l.length->gb<lo i∨hi i<=gb
 inc:∀i j,i<j->j<l.length->hi i<=lo j
theorem OwnPs.below{w w1:World}{B C:Nat}{v:Value}{l:List E}{rv:Nat->Value}{lo hi:Nat->Nat}{gb:Nat}(h:OwnPs w B C v l rv lo hi gb)(hb:Below w.heap.size w w1):OwnPs w1 B C v l rv lo hi gb:=
 ⟨World.ownsRow.kept (row:=none) h.row ⟨hb.os,hb.tape,hb.output,hb.size,fun k hk _=>hb.block k hk⟩ (by cases v.ownBlock<;>simp),h.ob,fun i hi'=>(h.own i hi').far (fun k h1 h2=>hb.block k (by have:=(h.lt i hi').2;omega)),fun i hi'=>⟨(h.lt i hi').1,Nat.le_trans (h.lt i hi').2 hb.size⟩,h.out,h.inc⟩
theorem OwnPs.next{w w9 w1:World}{B C:Nat}{v v':Value}{l:List E}{e:E}{rv:Nat->Value}{lo hi:Nat->Nat}{gb gg cap:Nat}{o:Obj}(h:OwnPs w B C v l rv lo hi gb)(hBw:C<=w.heap.size)(hb:Below w.heap.size w w9)(hv:RsIn w9 w.heap.size w9.heap.size v' e.rules)
 (hown:w1.ownsRow B 78 3 (.slice (some ⟨gg,0,none⟩) (l.length+1) cap) (l.length+1) (entCs l rv++entC e v'))(hg:(w9.alloc o).grownBy w1 v.ownBlock)(hat:v.ownBlock=some gg∨gg=(w9.alloc o).heap.size):
 ∃rv' lo' hi',OwnPs w1 B C (.slice (some ⟨gg,0,none⟩) (l.length+1) cap) (l++[e]) rv' lo' hi' gg:=by
 have hgb:=(h.row.lt gb h.ob).2
 have hb2:Below w9.heap.size w9 (w9.alloc o):=(Below.refl _ _).alloc (Nat.le_refl _) o
 have hsz:(w9.alloc o).heap.size=w9.heap.size+1:=by simp
 have hws:=hb.size
 have hg1:=hg.size
 have len1:(l++[e]).length=l.length+1:=by simp
 have blk:∀k,k<w9.heap.size->k≠gb->w1.heap[k]? =w9.heap[k]? :=fun k hk hne=>(hg.block k (by omega) (by rw[h.ob];intro e;cases e;exact hne rfl)).trans (hb2.block k hk)
 have hgg:gg=gb∨gg=w9.heap.size+1:=by
  rcases hat with e|e
  ·rw[h.ob]at e;cases e;exact .inl rfl
  ·exact .inr (by omega)
 refine⟨fun i=>if i=l.length then v' else rv i,fun i=>if i=l.length then w.heap.size else lo i,fun i=>if i=l.length then w9.heap.size else hi i,by rw[len1,entCs_snoc];exact hown,rfl,fun i hi'=> ?_,fun i hi'=> ?_,fun i hi'=> ?_,fun i j hij hj=> ?_⟩
 ·rw[len1]at hi'
  by_cases e':i=l.length
  ·subst e'
   simp only[if_true]
   have e2:(l++[e]).getD l.length E.zero=e:=by simp[List.getD_eq_getElem?_getD]
   rw[e2]
   exact hv.far (fun k h1 h2=>blk k h2 (by omega))
  ·have hi'':i<l.length:=by omega
   simp only[if_neg e']
   have e2:(l++[e]).getD i E.zero=l.getD i E.zero:=by simp[List.getD_eq_getElem?_getD,List.getElem?_append_left hi'']
   rw[e2]
   refine(h.own i hi'').far (fun k h1 h2=> ?_)
   have l1:=h.lt i hi''
   have l2:=h.out i hi''
   exact(blk k (by omega) (by omega)).trans (hb.block k (by omega))
 ·rw[len1]at hi'
  by_cases e':i=l.length
  ·simp only[if_pos e'];omega
  ·simp only[if_neg e']
   have:=h.lt i (by omega);omega
 ·rw[len1]at hi'
  by_cases e':i=l.length
  ·simp only[if_pos e'];omega
  ·simp only[if_neg e']
   have l1:=h.lt i (by omega)
   have l2:=h.out i (by omega)
   omega
 ·rw[len1]at hj
  by_cases e':j=l.length
  ·simp only[if_pos e']
   rw[if_neg (by omega)]
   exact(h.lt i (by omega)).2
  ·simp only[if_neg e']
   rw[if_neg (by omega)]
   exact h.inc i j hij (by omega)
theorem infoEnt:(Tryz.prog.info? 78).map (fun i=>(i.zero,i.size,i.bytes))=some (some (.agg #[.int .u32 0,.int .u32 0,.slice none 0 0]),3,32):=by kernel_rfl
theorem OwnPs.far{w w1:World}{B C:Nat}{v:Value}{l:List E}{rv:Nat->Value}{lo hi:Nat->Nat}{gb:Nat}(h:OwnPs w B C v l rv lo hi gb)(hs:w.heap.size<=w1.heap.size)(h1:w1.heap[gb]? =w.heap[gb]?)(h2:∀k,C<=k->k<w.heap.size->w1.heap[k]? =w.heap[k]?):OwnPs w1 B C v l rv lo hi gb:=
 ⟨row_blockK h.row (fun q hq=>by rw[h.ob]at hq;cases hq;exact h1),h.ob,fun i hi'=>(h.own i hi').far (fun k a b=>h2 k (by have:=(h.lt i hi').1;omega) (by have:=(h.lt i hi').2;omega)),fun i hi'=>⟨(h.lt i hi').1,Nat.le_trans (h.lt i hi').2 hs⟩,h.out,h.inc⟩
theorem OwnPs.mono{w:World}{B C B' C':Nat}{v:Value}{l:List E}{rv:Nat->Value}{lo hi:Nat->Nat}{gb:Nat}(h:OwnPs w B C v l rv lo hi gb)(hB:B'<=B)(hC:C'<=C):OwnPs w B' C' v l rv lo hi gb:=
 ⟨World.ownsRow.mono h.row hB,h.ob,h.own,fun i hi'=>⟨Nat.le_trans hC (h.lt i hi').1,(h.lt i hi').2⟩,h.out,h.inc⟩
theorem OwnRs.form{w:World}{B:Nat}{v:Value}{l:List Ru}{vs:Nat->Value}{cb:Nat->Nat}{gb:Nat}(h:OwnRs w B v l vs cb gb):∃cap,v=.slice (some ⟨gb,0,none⟩) l.length cap:=by
 have ho:=h.ob;obtain⟨_,h|⟨g,cap,cur,e,_⟩⟩:=h.row
 ·rw[h.1]at ho;cases ho
 have:g=gb:=by rw[e]at ho;simpa[Value.ownBlock]using ho
 subst this;exact⟨cap,e⟩
structure EnS(w wr:World)(G:Nat)(v:Value)(l:List E)(rv:Nat->Value)(lo hi:Nat->Nat)(gb:Nat):Prop where
 b:Below w.heap.size w wr
 hG:w.heap.size+2<=G
 c:wr.cell? ⟨G+1,0,none⟩=some v
 f:wr.frozen? ⟨G+1,0,none⟩=false
 c0:wr.cell? ⟨w.heap.size+1,0,none⟩=some (.slice none 0 0)
 f0:wr.frozen? ⟨w.heap.size+1,0,none⟩=false
 own:OwnPs wr (w.heap.size+2) (G+2) v l rv lo hi gb
 ne:gb≠G+1
theorem EnS.keep{w wr w1:World}{G:Nat}{v:Value}{l:List E}{rv:Nat->Value}{lo hi:Nat->Nat}{gb:Nat}(h:EnS w wr G v l rv lo hi gb)(hb:Below wr.heap.size wr w1):EnS w w1 G v l rv lo hi gb:=
 ⟨below_step hb h.b,h.hG,cell_step hb h.c,(hb.frozen (p:=⟨G+1,0,none⟩) (cell_ltK h.c)).trans h.f,cell_step hb h.c0,(hb.frozen (p:=⟨w.heap.size+1,0,none⟩) (cell_ltK h.c0)).trans h.f0,h.own.below hb,h.ne⟩
theorem EnS.next{w wr w9 w1:World}{G:Nat}{v v':Value}{l:List E}{e:E}{rv:Nat->Value}{lo hi:Nat->Nat}{gb gg cap:Nat}{o:Obj}(h:EnS w wr G v l rv lo hi gb)(hb:Below wr.heap.size wr w9)(hv:RsIn w9 wr.heap.size w9.heap.size v' e.rules)
 (hown:w1.ownsRow (w.heap.size+2) 78 3 (.slice (some ⟨gg,0,none⟩) (l.length+1) cap) (l.length+1) (entCs l rv++entC e v'))(hg:(w9.alloc o).grownBy w1 v.ownBlock)(hat:v.ownBlock=some gg∨gg=(w9.alloc o).heap.size):
 w1.cell? ⟨G+1,0,none⟩=some v∧w1.frozen? ⟨G+1,0,none⟩=false∧∃rv' lo' hi',EnS w (w1.setCell ⟨G+1,0,none⟩ (.slice (some ⟨gg,0,none⟩) (l.length+1) cap)) G (.slice (some ⟨gg,0,none⟩) (l.length+1) cap) (l++[e]) rv' lo' hi' gg:=by
 have h1:=cell_ltK h.c
 have h2:=cell_ltK h.c0
 simp only at h1 h2
 have hgb:=h.own.row.lt gb h.own.ob
 have hws:=hb.size
 have hb2:Below w9.heap.size w9 (w9.alloc o):=(Below.refl _ _).alloc (Nat.le_refl _) o
 have hsz:(w9.alloc o).heap.size=w9.heap.size+1:=by simp
 have s9:=(h.keep hb).keep hb2
 have ne1:some (G+1)≠v.ownBlock:=by rw[h.own.ob];intro e;cases e;exact h.ne rfl
 have ne2:some (w.heap.size+1)≠v.ownBlock:=by rw[h.own.ob];intro e;injection e with e;omega
 have x1:=(hg.cell_far ⟨G+1,0,none⟩ (by show G+1<_;omega) ne1).trans s9.c
 have x2:=(hg.frozen_far ⟨G+1,0,none⟩ (by show G+1<_;omega) ne1).trans s9.f
 have x3:=(hg.cell_far ⟨w.heap.size+1,0,none⟩ (by show w.heap.size+1<_;omega) ne2).trans s9.c0
 have x4:=(hg.frozen_far ⟨w.heap.size+1,0,none⟩ (by show w.heap.size+1<_;omega) ne2).trans s9.f0
 obtain⟨rv',lo',hi',hO⟩:=OwnPs.next h.own (by omega) hb hv hown hg hat
 have hgne:gg≠G+1:=by
  rcases hat with e|e
  ·rw[h.own.ob]at e;cases e;exact h.ne
  ·omega
 have hhG:=h.hG
 have hb1:Below w.heap.size w w1:=s9.b.grown hg (by omega) (fun z hz=>by rw[h.own.ob]at hz;cases hz;omega)
 refine⟨x1,x2,rv',lo',hi',⟨hb1.setCell (p:=⟨G+1,0,none⟩) (by show w.heap.size<=G+1;omega) _,h.hG,World.cell?_setCell_same _ _ _ x1,by rw[frozen_setCell];exact x2,?_,by rw[frozen_setCell];exact x4,?_,hgne⟩⟩
 ·rw[World.cell?_setCell_other _ _ _ _ (by intro e;injection e with e;omega)];exact x3
 ·refine hO.far (by simp[World.setCell]) ?_ (fun k hk hk2=> ?_)
  ·simp only[World.setCell,Array.getElem?_modify];rw[if_neg (fun e=>hgne e.symm)]
  ·simp only[World.setCell,Array.getElem?_modify];rw[if_neg (by omega)]
def MiniPost(p:List E)(w:World)(e:Ending)(w':World):Prop:=∃v out rv lo hi gb,IsMin p out∧e=.returned (.agg #[v])∧OwnPs w' w.heap.size w.heap.size v out rv lo hi gb∧Below w.heap.size w w'
def MinTo(p out:List E)(k:Nat):Prop:=out.length=k∧∀i,i<k->(out.getD i E.zero).arch=(p.getD i E.zero).arch∧(out.getD i E.zero).nr=(p.getD i E.zero).nr∧IsSmall (p.getD i E.zero).rules (out.getD i E.zero).rules
theorem MinTo.next {p out : List E} {k : Nat} {rs : List Ru} (h : MinTo p out k) (hs : IsSmall (p.getD k E.zero).rules rs) : MinTo p (out ++ [⟨(p.getD k E.zero).arch, (p.getD k E.zero).nr, rs⟩]) (k + 1) := by
  refine ⟨by simp [h.1], fun i hi => ?_⟩
  by_cases e : i = k
  · subst e
    have e2 : (out ++ [(⟨(p.getD i E.zero).arch, (p.getD i E.zero).nr, rs⟩ : E)]).getD i E.zero = ⟨(p.getD i E.zero).arch, (p.getD i E.zero).nr, rs⟩ := by
      rw [List.getD_eq_getElem?_getD, List.getElem?_append_right (by rw [h.1]; exact Nat.le_refl _), h.1]; simp
    rw [e2]; exact ⟨rfl, rfl, hs⟩
  · have e2 : (out ++ [(⟨(p.getD k E.zero).arch, (p.getD k E.zero).nr, rs⟩ : E)]).getD i E.zero = out.getD i E.zero := by
      rw [List.getD_eq_getElem?_getD, List.getElem?_append_left (by rw [h.1]; omega), List.getD_eq_getElem?_getD]
    rw [e2]; exact h.2 i (by omega)
theorem implMin_yes(p:List E)(a:Option Addr)(cap:Nat)(w:World)(hs:LSrc 3 PE w a p)(ho:okP p)(hv:validP p=true)(hn:p.length<=1000):
 Calls Tryz.prog 8 #[.agg #[.slice a p.length cap]] w fun e w'=>MiniPost p w e w':=by
 obtain⟨i0,hi,hz0,hz1,hz2⟩:=info_parts infoEnt;have hlen:∀e∈p,e.rules.length<=200∧∀r∈e.rules,r.length=6:=by
  intro e he;obtain⟨i,hi,rfl⟩:=List.getElem_of_mem he;have e1:p.getD i E.zero=p[i]:=by rw[List.getD_eq_getElem?_getD,List.getElem?_eq_getElem hi];rfl
  have h1:=validE_parts (validP_parts hv hi).1;rw[e1]at h1;exact⟨h1.2.1,fun r hr=>(vr_of ((ho _ he).2.2 r hr) (h1.2.2 r hr)).1⟩
 have HV:Hid (∀wr,Below w.heap.size w wr->Calls Tryz.prog 7 #[.agg #[.slice a p.length cap]] wr fun e w'=>e=.returned (.bool true)∧Below wr.heap.size wr w'):=fun wr hb=>by
  have:=implValidP_any p a cap wr (hs.below PE.stays hb) ho (by omega) (fun e he=>by have:=(hlen e he).1;omega) (fun e he r hr=>by have:=(hlen e he).2 r hr;omega);rw[hv]at this;exact this
 have HP:Hid (∀wr,Below w.heap.size w wr->∀i,i<p.length->∃b o,a=some ⟨b,o,none⟩∧b<wr.heap.size∧PE wr b (o+i*3) (p.getD i E.zero)):=fun wr hB i hi=>(hs.below PE.stays hB).at hi E.zero
 have HSm:Hid (∀i wr a' cap',i<p.length->LSrc 1 PR wr a' (p.getD i E.zero).rules->Calls Tryz.prog 35 #[.slice a' (p.getD i E.zero).rules.length cap'] wr fun e w'=>SmallPost (p.getD i E.zero).rules wr e w'):=fun i wr a' cap' hi' h=>smallRules_any _ a' cap' wr h (valid_rules hv ho hi') (by have:=(validE_parts (validP_parts hv hi').1).1;omega) (by have:=(validE_parts (validP_parts hv hi').1).2.1;omega)
 have HSl:Hid (∀i,i<p.length->(p.getD i E.zero).rules.length<=200):=fun i hi'=>(validE_parts (validP_parts hv hi').1).2.1
 clear hs ho hv hlen;have B2:Below w.heap.size w ((w.alloc (.cells #[.slice a p.length cap] 30)).alloc (.cells #[.slice none 0 0] 30)):=((Below.refl _ _).alloc (Nat.le_refl _) _).alloc (by simp) _;have q0:=box_get (w.alloc (.cells #[.slice a p.length cap] 30)) (.slice none 0 0) 30 (w.heap.size+1) (by simp);have q1:((w.alloc (.cells #[.slice a p.length cap] 30)).alloc (.cells #[.slice none 0 0] 30)).cell? ⟨w.heap.size,0,none⟩=some (.slice a p.length cap):=(((Below.refl (w.alloc (.cells #[.slice a p.length cap] 30)).heap.size _).alloc (Nat.le_refl _) _).cell (p:=⟨w.heap.size,0,none⟩) (by simp)).trans (by simp);have hz2s:((w.alloc (.cells #[.slice a p.length cap] 30)).alloc (.cells #[.slice none 0 0] 30)).heap.size=w.heap.size+2:=by simp
 obtain⟨n,hpn⟩:∃n,p.length=n:=⟨_,rfl⟩;have HPn:Hid (p.length=n):=hpn;rw[hpn]at HV HP HSm HSl B2 q0 q1 hz2s hn⊢;clear hpn;have hmk:∀u:World,(Instr.makeSlice 28 (.int .i64 0) (.int .i64 (n:Int))).run Tryz.prog u=
  .ok (.slice (some ⟨u.heap.size,0,none⟩) 0 n) (u.alloc (.cells (madeCells #[.int .u32 0,.int .u32 0,.slice none 0 0] (n*3)) 78)):=fun u=>by
  have h:=run_make (P:=Tryz.prog) u 28 78 i0 _ Tryz.underlying28 hi hz0 .i64 .i64 0 (n:Int) (by omega) (by omega) (by rw[hz2];omega) (by omega);simpa[hz1,Value.cells]using h
 go_enter Tryz.func8,Tryz.ntmps8;go_wp2_with fail;generalize(w.alloc (.cells #[.slice a n cap] 30)).alloc (.cells #[.slice none 0 0] 30)=W2 at*;refine(HV.out W2 B2).mono ?_;rintro _ w1⟨rfl,hb1⟩;have B1:=below_step hb1 B2;have c1:=cell_step hb1 q1;have c0:=cell_step hb1 q0.1;have f0:w1.frozen? ⟨w.heap.size+1,0,none⟩=false:=(hb1.frozen (p:=⟨w.heap.size+1,0,none⟩) (cell_ltK q0.1)).trans q0.2;have hG:w.heap.size+2<=w1.heap.size:=by have:=hb1.size;omega
 clear q0 q1 hb1 B2 HV hz2s;have hb3:Below w1.heap.size w1 ((w1.alloc (.cells (madeCells #[.int .u32 0,.int .u32 0,.slice none 0 0] (n*3)) 78)).alloc (.cells #[.slice (some ⟨w1.heap.size,0,none⟩) 0 n] 30)):=((Below.refl _ _).alloc (Nat.le_refl _) _).alloc (by simp) _;have c1a:=cell_step hb3 c1;have S0:EnS w ((w1.alloc (.cells (madeCells #[.int .u32 0,.int .u32 0,.slice none 0 0] (n*3)) 78)).alloc (.cells #[.slice (some ⟨w1.heap.size,0,none⟩) 0 n] 30)) w1.heap.size (.slice (some ⟨w1.heap.size,0,none⟩) 0 n) [] (fun _=>undef) (fun _=>0) (fun _=>0) w1.heap.size:=by
  have qb:=box_get (w1.alloc (.cells (madeCells #[.int .u32 0,.int .u32 0,.slice none 0 0] (n*3)) 78)) (.slice (some ⟨w1.heap.size,0,none⟩) 0 n) 30 (w1.heap.size+1) (by simp);refine⟨below_step hb3 B1,hG,qb.1,qb.2,cell_step hb3 c0,(hb3.frozen (p:=⟨w.heap.size+1,0,none⟩) (cell_ltK c0)).trans f0,⟨?_,rfl,fun i hi=>by simp at hi,fun i hi=>by simp at hi,fun i hi=>by simp at hi,fun i j _ hj=>by simp at hj⟩,by omega⟩;exact(World.ownsRow_made w1 _ n (by omega) (by unfold maxLen;omega) (by rw[size_madeCells])).alloc _
 clear c0 f0 B1 hb3;go_wp2_with fail;generalize((w1.alloc (.cells (madeCells #[.int .u32 0,.int .u32 0,.slice none 0 0] (n*3)) 78)).alloc (.cells #[.slice (some ⟨w1.heap.size,0,none⟩) 0 n] 30))=W3 at*;generalize w1.heap.size=G at*;clear hmk c1a c1;go_loopw [18](fun i wr=>∃(k:Nat)(v:Value)(l:List E)(rv:Nat->Value)(lo hi':Nat->Nat)(gb:Nat),k<=n∧i=.int .i64 k∧EnS w wr G v l rv lo hi' gb∧Hid (MinTo p l k))(fun i _=>n-(intOf i).toNat)
 case atStart=>exact⟨0,_,[],_,_,_,_,by omega,rfl,S0,⟨rfl,fun i hi=>by omega⟩⟩
 case round=>
  clear S0;obtain⟨k,v,l,rv,lo,hi',gb,hk,rfl,hS,HM⟩:=hrel;rename World=>W4
  by_cases hkn:k<n
  ·obtain⟨b,o,rfl,hlt,d0,d1,a',cap',d2,hls⟩:=HP.out W4 hS.b k hkn;have hkn':(k:Int)<(n:Int):=by omega
   have hsl:=HSl.out k hkn;have HSk:Hid (∀wr,LSrc 1 PR wr a' (p.getD k E.zero).rules->Calls Tryz.prog 35 #[.slice a' (p.getD k E.zero).rules.length cap'] wr fun e w'=>SmallPost (p.getD k E.zero).rules wr e w'):=fun wr h=>HSm.out k wr a' cap' hkn h
   have HMn:Hid (∀rs,IsSmall (p.getD k E.zero).rules rs->MinTo p (l++[⟨(p.getD k E.zero).arch,(p.getD k E.zero).nr,rs⟩]) (k+1)):=fun rs h=>HM.out.next h
   have hlk:l.length=k:=HM.out.1;clear HP HSm HSl HM;generalize p.getD k E.zero=en at*;obtain⟨ar,nr,rs0⟩:=en;simp only at d0 d1 d2 hls HSk HMn hsl;generalize hrl:rs0.length=rl at*;have hb5:Below W4.heap.size W4 (W4.alloc (.cells #[.int .u32 ar,.int .u32 nr,.slice a' rl cap'] 78)):=(Below.refl _ _).alloc (Nat.le_refl _) _;have X5:=BoxK.new W4 78 (.int .u32 ar) (.int .u32 nr) (.slice a' rl cap');have hS5:=hS.keep hb5;have hls5:=hls.below PR.stays hb5;clear hS hls hb5;go_wp2_with fail;generalize W4.alloc (.cells #[.int .u32 ar,.int .u32 nr,.slice a' rl cap'] 78)=W5 at*;have hcd:W5.drew.cell? ⟨G+1,0,none⟩=some v:=hS5.c;have xd0:W5.drew.cell? ⟨W4.heap.size,0,none⟩=some (.int .u32 ar):=X5.c0;have xd1:W5.drew.cell? ⟨W4.heap.size,1,none⟩=some (.int .u32 nr):=X5.c1;have xd2:W5.drew.cell? ⟨W4.heap.size,2,none⟩=some (.slice a' rl cap'):=X5.c2;have hlsd:LSrc 1 PR W5.drew a' rs0:=hls5.below PR.stays (Below.refl _ _).drew;have hS5d:=hS5.keep (Below.refl _ _).drew;have HSk2:Hid (Calls Tryz.prog 35 #[.slice a' rl cap'] W5.drew fun e w'=>∃g9 m9 c9,e=.returned (.slice (some ⟨g9,0,none⟩) m9 c9)∧(∃rs,RsIn w' W5.drew.heap.size w'.heap.size (.slice (some ⟨g9,0,none⟩) m9 c9) rs∧MinTo p (l++[⟨ar,nr,rs⟩]) (k+1))∧Below W5.drew.heap.size W5.drew w'):=(HSk.out W5.drew hlsd).mono (by
    rintro e w'⟨v9,rs,vs,cb,gb9,h1,h2,h3,h4⟩
    obtain⟨c9,rfl⟩:=h3.form
    exact⟨gb9,_,c9,h2,⟨rs,⟨vs,cb,gb9,h3,(h3.row.lt _ h3.ob).2,fun i hi=>((h3.own i hi).1.lt _ (h3.own i hi).2).2⟩,HMn.out rs h1⟩,h4⟩)
   have SKc:Hid (∀w9,Below W5.drew.heap.size W5.drew w9->EnS w w9 G v l rv lo hi' gb∧w9.cell? ⟨G+1,0,none⟩=some v∧G+1<w9.heap.size∧(∀ob,(w9.alloc ob).cell? ⟨G+1,0,none⟩=some v)∧w9.cell? ⟨W4.heap.size,0,none⟩=some (.int .u32 ar)∧w9.cell? ⟨W4.heap.size,1,none⟩=some (.int .u32 nr)):=fun w9 hb=>by
    have:=hS5d.keep hb;exact⟨this,this.c,cell_ltK this.c,fun ob=>cell_step ((Below.refl _ _).alloc (Nat.le_refl _) ob) this.c,cell_step hb xd0,cell_step hb xd1⟩
   have hbm:l.length+1<=maxLen:=by rw[hlk];unfold maxLen;omega
   have hbd:(l.length+1)*32<=140737488355328:=by rw[hlk];omega
   have hhG:=hS5.hG;have HLk:Hid (l.length=k):=hlk;clear hS5 X5 hls5 hlsd HSk HMn hlk d0 d1 d2;go_region_law(first
    |(go_simp;refine HSk2.out.mono ?_;rintro _ w9⟨g9,m9,c9,rfl,hrs9,hb9⟩;obtain⟨hS9,hc9,hl9,ha9,y0,y1⟩:=SKc.out w9 hb9;dsimp only)
    |(refine step_append_lies _ (by rfl) _ _ _ (by rfl) (w.heap.size+2) 78 i0 _ 3 32 Tryz.underlying28 hi hz0 hz1 hz2 rfl (by omega) v l.length (entCs l rv) (by rfl) (hS9.own.row.alloc _) ⟨w9.heap.size,0,none⟩ 1 1 [.int .u32 ar,.int .u32 nr,.slice (some ⟨g9,0,none⟩) m9 c9] (by rfl) (by rfl) (World.news_of_block (t:=78) (fr:=(0,0)) (heap_alloc_new w9 _)) (by simp[Value.oneCell']) (by omega) hbm hbd (by simp;omega) (w9.heap.size+1) (by simp) ?_;intro gg cap2 w1' hown1 hgrow hat hlt2;obtain⟨rs9,hr9,hm9⟩:=hrs9;obtain⟨x1,x2,rv',lo',hi2,x3⟩:=EnS.next (e:=⟨ar,nr,rs9⟩) hS5d hb9 hr9 hown1 hgrow (by simpa using hat)))
   all_goals
    have HX3:Hid (∃rv' lo' hi2,EnS w (w1'.setCell ⟨G+1,0,none⟩ (.slice (some ⟨gg,0,none⟩) (l.length+1) cap2)) G (.slice (some ⟨gg,0,none⟩) (l.length+1) cap2) (l++[⟨ar,nr,rs9⟩]) rv' lo' hi2 gg):=⟨_,_,_,x3⟩;have HM9:Hid _:=hm9;clear x1 x2 x3 hown1 hgrow hat hlt2 hS9 hc9 hl9 ha9 hb9 SKc HSk2 hr9 hm9 y0 y1 hS5d hcd xd0 xd1 xd2;go_wp2;go_roundw
    case rel=>obtain⟨rv',lo',hi2,h⟩:=HX3.out;exact⟨k+1,_,_,rv',lo',hi2,gg,by omega,by go_num,h,HM9⟩
    case measure=>simp[intOf];omega
  have hk':k=n:=by omega
  subst hk';have hlt':¬(k:Int)<(k:Int):=by omega
  obtain⟨hb,hhG,hc,hf,hc0,hf0,hown,hne⟩:=hS;obtain⟨cv,rfl⟩:∃cv,v=.slice (some ⟨gb,0,none⟩) l.length cv:=by
   have ho:=hown.ob;obtain⟨_,h|⟨g,cap,cur,e,_⟩⟩:=hown.row
   ·rw[h.1]at ho;cases ho
   have:g=gb:=by rw[e]at ho;simpa[Value.ownBlock]using ho
   subst this;exact⟨cap,e⟩
  have hgb:=(hown.row.lt gb hown.ob).1;have hws:=cell_ltK hc;simp only at hws;have HF:Hid (MiniPost p w (.returned (.agg #[.slice (some ⟨gb,0,none⟩) l.length cv])) (W4.setCell ⟨w.heap.size+1,0,none⟩ (.slice (some ⟨gb,0,none⟩) l.length cv))):=by
   refine⟨_,l,rv,lo,hi',gb,?_,rfl,(hown.far (by simp[World.setCell]) ?_ (fun q hq hq2=> ?_)).mono (by omega) (by omega),hb.setCell (p:=⟨w.heap.size+1,0,none⟩) (by show w.heap.size<=w.heap.size+1;omega) _⟩
   ·exact⟨by rw[HM.out.1];exact HPn.out.symm,fun i hi=>HM.out.2 i (by rw[HPn.out]at hi;exact hi)⟩
   ·simp only[World.setCell,Array.getElem?_modify];rw[if_neg (by omega)]
   simp only[World.setCell,Array.getElem?_modify];rw[if_neg (by omega)]
  clear hown hb HM HP HSm HSl;generalize l.length=ll at*;go_wp2;exact bodyPost_ret (v:=.agg #[.slice (some ⟨gb,0,none⟩) ll cv]) (by simp[results,Tryz.results8,go_sem,hc0]) rfl HF.out
end Go.Proofs.YtddemlfepjkgoaaGreat
