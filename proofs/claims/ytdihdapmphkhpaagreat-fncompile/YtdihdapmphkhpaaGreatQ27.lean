import Derived.Test.YtdihdapmphkhpaaGreatQ25
import Derived.Test.YtdihdapmphkhpaaGreatQ26
set_option linter.all false
set_option maxRecDepth 200000
set_option maxHeartbeats 16000000
namespace Go.Proofs.YtdihdapmphkhpaaGreat
open Go.RowKit
open srtR
variable{B gb:Nat}{hi lo:Nat->Nat}{l:List E}{rv:Nat->Value}{v:Value}{w w1:World}
def AB(w:World)(lo hi:Nat)(v:Value)(l:List Ru):Prop:=∃vs cb gb,mD w lo v l vs cb gb∧gb<hi∧∀i,i<l.length->cb i<hi
theorem AB.far{lo hi:Nat}{l:List Ru}(h:AB w lo hi v l)(hb:∀k,lo<=k->k<hi->w1.heap[k]? =w.heap[k]?):AB w1 lo hi v l:=by
 obtain⟨vs,cb,gb,h1,h2,h3⟩:=h;refine⟨vs,cb,gb,⟨kH h1.row (fun q hq=> ?_),h1.ob,fun i hi=>⟨kH (h1.own i hi).1 (fun q hq=> ?_),(h1.own i hi).2⟩,h1.ne,h1.inc⟩,h2,h3⟩
 ·rw[h1.ob]at hq;cases hq;exact hb _ (h1.row.lt _ h1.ob).1 h2
 rw[(h1.own i hi).2]at hq;cases hq;exact hb _ ((h1.own i hi).1.lt _ (h1.own i hi).2).1 (h3 i hi)
def uV(e:E)(v:Value):List Value:=[.int .u32 e.et,.int .u32 e.nr,v]
def qG(l:List E)(rv:Nat->Value):List Value:=(List.range l.length).flatMap fun i=>uV (l.getD i E.zero) (rv i)
theorem Cz(l:List E)(e:E)(rv:Nat->Value)(v:Value):qG (l++[e]) (fun i=>if i=l.length then v else rv i)=qG l rv++uV e v:=by
 unfold qG;rw[aj,bG,cC,bY];congr 1
 ·rw[List.flatMap_def,List.flatMap_def];congr 1;apply dD;intro i hi;have hi':=bD.1 hi;show uV ((l++[e]).getD i E.zero) (if i=l.length then v else rv i)=uV (l.getD i E.zero) (rv i);rw[if_neg (by omega)];simp[aa,aD hi']
 simp[aa]
structure kT(w:World)(B C:Nat)(v:Value)(l:List E)(rv:Nat->Value)(lo hi:Nat->Nat)(gb:Nat):Prop where
 row:w.ownsRow B 53 3 v l.length (qG l rv)
 ob:v.ownBlock=some gb
 own:∀i,i<l.length->AB w (lo i) (hi i) (rv i) (l.getD i E.zero).rules
 lt:∀i,i<l.length->C<=lo i∧hi i<=w.heap.size
 out:∀i,i<l.length->gb<lo i∨hi i<=gb
 inc:∀i j,i<j->j<l.length->hi i<=lo j
theorem kT.below{C:Nat}(h:kT w B C v l rv lo hi gb)(hb:Below w.heap.size w w1):kT w1 B C v l rv lo hi gb:=
 ⟨aA (row:=none) h.row ⟨hb.os,hb.tape,hb.output,hb.size,fun k hk _=>hb.block k hk⟩ (by cases v.ownBlock<;>simp),h.ob,fun i hi'=>(h.own i hi').far (fun k h1 h2=>hb.block k (by have:=(h.lt i hi').2;omega)),fun i hi'=>⟨(h.lt i hi').1,aW (h.lt i hi').2 hb.size⟩,h.out,h.inc⟩
theorem kT.next{w9:World}{C:Nat}{v':Value}{e:E}{gg cap:Nat}{o:Obj}(h:kT w B C v l rv lo hi gb)(hBw:C<=w.heap.size)(hb:Below w.heap.size w w9)(hv:AB w9 w.heap.size w9.heap.size v' e.rules)
 (hown:w1.ownsRow B 53 3 (.slice (some ⟨gg,0,none⟩) (l.length+1) cap) (l.length+1) (qG l rv++uV e v'))(hg:(w9.alloc o).grownBy w1 v.ownBlock)(hat:v.ownBlock=some gg∨gg=(w9.alloc o).heap.size):
 ∃rv' lo' hi',kT w1 B C (.slice (some ⟨gg,0,none⟩) (l.length+1) cap) (l++[e]) rv' lo' hi' gg:=by
 have hgb:=(h.row.lt gb h.ob).2
 have hb2:Below w9.heap.size w9 (w9.alloc o):=(af _ _).alloc (ae _) o
 have hsz:(w9.alloc o).heap.size=w9.heap.size+1:=by simp
 have hws:=hb.size
 have hg1:=hg.size
 have len1:(l++[e]).length=l.length+1:=by simp
 have blk:∀k,k<w9.heap.size->k≠gb->w1.heap[k]? =w9.heap[k]? :=fun k hk hne=>(hg.block k (by omega) (by rw[h.ob];intro e;cases e;exact hne rfl)).trans (hb2.block k hk)
 have hgg:gg=gb∨gg=w9.heap.size+1:=by
  rcases hat with e|e
  ·rw[h.ob]at e;cases e;exact .inl rfl
  ·exact .inr (by omega)
 refine⟨fun i=>if i=l.length then v' else rv i,fun i=>if i=l.length then w.heap.size else lo i,fun i=>if i=l.length then w9.heap.size else hi i,by rw[len1,Cz];exact hown,rfl,fun i hi'=> ?_,fun i hi'=> ?_,fun i hi'=> ?_,fun i j hij hj=> ?_⟩
 ·rw[len1]at hi'
  by_cases e':i=l.length
  ·subst e'
   simp only[if_true]
   have e2:(l++[e]).getD l.length E.zero=e:=by simp[aa]
   rw[e2]
   exact hv.far (fun k h1 h2=>blk k h2 (by omega))
  ·have hi'':i<l.length:=by omega
   simp only[if_neg e']
   have e2:(l++[e]).getD i E.zero=l.getD i E.zero:=by simp[aa,aD hi'']
   rw[e2]
   refine(h.own i hi'').far (fun k h1 h2=> ?_)
   have l1:=h.lt i hi''
   have l2:=h.out i hi''
   exact(blk k (by omega) (by omega)).trans (hb.block k (by omega))
 ·rw[len1]at hi'
  by_cases e':i=l.length
  ·simp only[if_pos e'];omega
  ·simp only[if_neg e']
   have:=h.lt i (by omega);omega
 ·rw[len1]at hi'
  by_cases e':i=l.length
  ·simp only[if_pos e'];omega
  ·simp only[if_neg e']
   have l1:=h.lt i (by omega)
   have l2:=h.out i (by omega)
   omega
 ·rw[len1]at hj
  by_cases e':j=l.length
  ·simp only[if_pos e']
   rw[if_neg (by omega)]
   exact(h.lt i (by omega)).2
  ·simp only[if_neg e']
   rw[if_neg (by omega)]
   exact h.inc i j hij (by omega)
theorem Hv:(Tryz.prog.info? 53).map (fun i=>(i.zero,i.size,i.bytes))=some (some (.agg #[.int .u32 0,.int .u32 0,.slice none 0 0]),3,32):=by kernel_rfl
theorem kT.far{w w1:World}{B C:Nat}{v:Value}{l:List E}{rv:Nat->Value}{lo hi:Nat->Nat}{gb:Nat}(h:kT w B C v l rv lo hi gb)(hs:w.heap.size<=w1.heap.size)(h1:w1.heap[gb]? =w.heap[gb]?)(h2:∀k,C<=k->k<w.heap.size->w1.heap[k]? =w.heap[k]?):kT w1 B C v l rv lo hi gb:=
 ⟨kH h.row (fun q hq=>by rw[h.ob]at hq;cases hq;exact h1),h.ob,fun i hi'=>(h.own i hi').far (fun k a b=>h2 k (by have:=(h.lt i hi').1;omega) (by have:=(h.lt i hi').2;omega)),fun i hi'=>⟨(h.lt i hi').1,aW (h.lt i hi').2 hs⟩,h.out,h.inc⟩
theorem kT.mono{w:World}{B C B' C':Nat}{v:Value}{l:List E}{rv:Nat->Value}{lo hi:Nat->Nat}{gb:Nat}(h:kT w B C v l rv lo hi gb)(hB:B'<=B)(hC:C'<=C):kT w B' C' v l rv lo hi gb:=
 ⟨World.ownsRow.mono h.row hB,h.ob,h.own,fun i hi'=>⟨aW hC (h.lt i hi').1,(h.lt i hi').2⟩,h.out,h.inc⟩
theorem mD.form{l:List Ru}{vs:Nat->Value}{cb:Nat->Nat}(h:mD w B v l vs cb gb):∃cap,v=.slice (some ⟨gb,0,none⟩) l.length cap:=by
 have ho:=h.ob;obtain⟨_,h|⟨g,cap,cur,e,_⟩⟩:=h.row
 ·rw[h.1]at ho;cases ho
 have:g=gb:=by rw[e]at ho;simpa[Value.ownBlock]using ho
 subst this;exact⟨cap,e⟩
structure EnS(w wr:World)(G:Nat)(v:Value)(l:List E)(rv:Nat->Value)(lo hi:Nat->Nat)(gb:Nat):Prop where
 b:Below w.heap.size w wr
 hG:w.heap.size+2<=G
 c:wr.cell? ⟨G+1,0,none⟩=some v
 f:wr.frozen? ⟨G+1,0,none⟩=false
 c0:wr.cell? ⟨w.heap.size+1,0,none⟩=some (.slice none 0 0)
 f0:wr.frozen? ⟨w.heap.size+1,0,none⟩=false
 own:kT wr (w.heap.size+2) (G+2) v l rv lo hi gb
 ne:gb≠G+1
theorem EnS.ey{wr:World}{G:Nat}(h:EnS w wr G v l rv lo hi gb)(hb:Below wr.heap.size wr w1):EnS w w1 G v l rv lo hi gb:=
 ⟨eo hb h.b,h.hG,eh hb h.c,(hb.frozen (p:=⟨G+1,0,none⟩) (fA h.c)).trans h.f,eh hb h.c0,(hb.frozen (p:=⟨w.heap.size+1,0,none⟩) (fA h.c0)).trans h.f0,h.own.below hb,h.ne⟩
theorem EnS.next{w wr w9 w1:World}{G:Nat}{v v':Value}{l:List E}{e:E}{rv:Nat->Value}{lo hi:Nat->Nat}{gb gg cap:Nat}{o:Obj}(h:EnS w wr G v l rv lo hi gb)(hb:Below wr.heap.size wr w9)(hv:AB w9 wr.heap.size w9.heap.size v' e.rules)
 (hown:w1.ownsRow (w.heap.size+2) 53 3 (.slice (some ⟨gg,0,none⟩) (l.length+1) cap) (l.length+1) (qG l rv++uV e v'))(hg:(w9.alloc o).grownBy w1 v.ownBlock)(hat:v.ownBlock=some gg∨gg=(w9.alloc o).heap.size):
 w1.cell? ⟨G+1,0,none⟩=some v∧w1.frozen? ⟨G+1,0,none⟩=false∧∃rv' lo' hi',EnS w (w1.setCell ⟨G+1,0,none⟩ (.slice (some ⟨gg,0,none⟩) (l.length+1) cap)) G (.slice (some ⟨gg,0,none⟩) (l.length+1) cap) (l++[e]) rv' lo' hi' gg:=by
 have h1:=fA h.c
 have h2:=fA h.c0
 simp only at h1 h2
 have hgb:=h.own.row.lt gb h.own.ob
 have hws:=hb.size
 have hb2:Below w9.heap.size w9 (w9.alloc o):=(af _ _).alloc (ae _) o
 have hsz:(w9.alloc o).heap.size=w9.heap.size+1:=by simp
 have s9:=(h.ey hb).ey hb2
 have ne1:some (G+1)≠v.ownBlock:=by rw[h.own.ob];intro e;cases e;exact h.ne rfl
 have ne2:some (w.heap.size+1)≠v.ownBlock:=by rw[h.own.ob];intro e;injection e with e;omega
 have x1:=(hg.cell_far ⟨G+1,0,none⟩ (by show G+1<_;omega) ne1).trans s9.c
 have x2:=(hg.frozen_far ⟨G+1,0,none⟩ (by show G+1<_;omega) ne1).trans s9.f
 have x3:=(hg.cell_far ⟨w.heap.size+1,0,none⟩ (by show w.heap.size+1<_;omega) ne2).trans s9.c0
 have x4:=(hg.frozen_far ⟨w.heap.size+1,0,none⟩ (by show w.heap.size+1<_;omega) ne2).trans s9.f0
 obtain⟨rv',lo',hi',hO⟩:=kT.next h.own (by omega) hb hv hown hg hat
 have hgne:gg≠G+1:=by
  rcases hat with e|e
  ·rw[h.own.ob]at e;cases e;exact h.ne
  ·omega
 have hhG:=h.hG
 have hb1:Below w.heap.size w w1:=s9.b.grown hg (by omega) (fun z hz=>by rw[h.own.ob]at hz;cases hz;omega)
 refine⟨x1,x2,rv',lo',hi',⟨hb1.setCell (p:=⟨G+1,0,none⟩) (by show w.heap.size<=G+1;omega) _,h.hG,aG _ _ _ x1,by rw[ia];exact x2,?_,by rw[ia];exact x4,?_,hgne⟩⟩
 ·rw[aJ _ _ _ _ (by intro e;injection e with e;omega)];exact x3
 ·refine hO.far (by simp[World.setCell]) ?_ (fun k hk hk2=> ?_)
  ·simp only[World.setCell,aH];rw[if_neg (fun e=>hgne e.symm)]
  ·simp only[World.setCell,aH];rw[if_neg (by omega)]
def Az(p:List E)(w:World)(e:Ending)(w':World):Prop:=∃v out rv lo hi gb,rS p out∧e=.returned (.agg #[v])∧kT w' w.heap.size w.heap.size v out rv lo hi gb∧Below w.heap.size w w'
def xw(p out:List E)(k:Nat):Prop:=out.length=k∧∀i,i<k->(out.getD i E.zero).et=(p.getD i E.zero).et∧(out.getD i E.zero).nr=(p.getD i E.zero).nr∧iI (p.getD i E.zero).rules (out.getD i E.zero).rules
theorem xw.next {p out : List E} {k : Nat} {rs : List Ru} (h : xw p out k) (hs : iI (p.getD k E.zero).rules rs) : xw p (out ++ [⟨(p.getD k E.zero).et, (p.getD k E.zero).nr, rs⟩]) (k + 1) := by
  refine ⟨by simp [h.1], fun i hi => ?_⟩
  by_cases e : i = k
  · subst e
    have e2 : (out ++ [(⟨(p.getD i E.zero).et, (p.getD i E.zero).nr, rs⟩ : E)]).getD i E.zero = ⟨(p.getD i E.zero).et, (p.getD i E.zero).nr, rs⟩ := by
      rw [aa, aw (by rw [h.1]; exact ae _), h.1]; simp
    rw [e2]; exact ⟨rfl, rfl, hs⟩
  · have e2 : (out ++ [(⟨(p.getD k E.zero).et, (p.getD k E.zero).nr, rs⟩ : E)]).getD i E.zero = out.getD i E.zero := by
      rw [aa, aD (by rw [h.1]; omega), aa]
    rw [e2]; exact h.2 i (by omega)
theorem tn(p:List E)(a:Option Addr)(cap:Nat)(w:World)(hs:eS 3 PE w a p)(ho:okP p)(hv:eW p=true)(hn:p.length<=1000):
 Calls Tryz.prog 10 #[.agg #[.slice a p.length cap]] w fun e w'=>Az p w e w':=by
 obtain⟨i0,hi,hz0,hz1,hz2⟩:=info_parts Hv;have hlen:∀e∈p,e.rules.length<=200∧∀r∈e.rules,r.length=6:=by
  intro e he;obtain⟨i,hi,rfl⟩:=bH he;have e1:p.getD i E.zero=p[i]:=by rw[aa,ag hi];rfl
  have h1:=gZ (gY hv hi).1;rw[e1]at h1;exact⟨h1.2.1,fun r hr=>(C1 ((ho _ he).2.2 r hr) (h1.2.2 r hr)).1⟩
 have HV:Hid (∀wr,Below w.heap.size w wr->Calls Tryz.prog 25 #[.agg #[.slice a p.length cap]] wr fun e w'=>e=.returned (.bool true)∧Below wr.heap.size wr w'):=fun wr hb=>by
  have:=pA p a cap wr (hs.below PE.stays hb) ho (by omega) (fun e he=>by have:=(hlen e he).1;omega) (fun e he r hr=>by have:=(hlen e he).2 r hr;omega);rw[hv]at this;exact this
 have HP:Hid (∀wr,Below w.heap.size w wr->∀i,i<p.length->∃b o,a=some ⟨b,o,none⟩∧b<wr.heap.size∧PE wr b (o+i*3) (p.getD i E.zero)):=fun wr hB i hi=>(hs.below PE.stays hB).at hi E.zero
 have HSm:Hid (∀i wr a' cap',i<p.length->eS 1 PR wr a' (p.getD i E.zero).rules->Calls Tryz.prog 28 #[.slice a' (p.getD i E.zero).rules.length cap'] wr fun e w'=>qg (p.getD i E.zero).rules wr e w'):=fun i wr a' cap' hi' h=>vu _ a' cap' wr h (pj hv ho hi') (by have:=(gZ (gY hv hi').1).1;omega) (by have:=(gZ (gY hv hi').1).2.1;omega)
 have HSl:Hid (∀i,i<p.length->(p.getD i E.zero).rules.length<=200):=fun i hi'=>(gZ (gY hv hi').1).2.1
 clear hs ho hv hlen;have B2:Below w.heap.size w ((w.alloc (.cells #[.slice a p.length cap] 25)).alloc (.cells #[.slice none 0 0] 25)):=((af _ _).alloc (ae _) _).alloc (by simp) _;have q0:=qe (w.alloc (.cells #[.slice a p.length cap] 25)) (.slice none 0 0) 25 (w.heap.size+1) (by simp);have q1:((w.alloc (.cells #[.slice a p.length cap] 25)).alloc (.cells #[.slice none 0 0] 25)).cell? ⟨w.heap.size,0,none⟩=some (.slice a p.length cap):=(((af (w.alloc (.cells #[.slice a p.length cap] 25)).heap.size _).alloc (ae _) _).cell (p:=⟨w.heap.size,0,none⟩) (by simp)).trans (by simp);have hz2s:((w.alloc (.cells #[.slice a p.length cap] 25)).alloc (.cells #[.slice none 0 0] 25)).heap.size=w.heap.size+2:=by simp
 obtain⟨n,hpn⟩:∃n,p.length=n:=⟨_,rfl⟩;have HPn:Hid (p.length=n):=hpn;rw[hpn]at HV HP HSm HSl B2 q0 q1 hz2s hn⊢;clear hpn;have hmk:∀u:World,(Instr.makeSlice 23 (.int .i64 0) (.int .i64 (n:Int))).run Tryz.prog u=
  .ok (.slice (some ⟨u.heap.size,0,none⟩) 0 n) (u.alloc (.cells (madeCells #[.int .u32 0,.int .u32 0,.slice none 0 0] (n*3)) 53)):=fun u=>by
  have h:=run_make (P:=Tryz.prog) u 23 53 i0 _ Tryz.underlying23 hi hz0 .i64 .i64 0 (n:Int) (by omega) (by omega) (by rw[hz2];omega) (by omega);simpa[hz1,Value.cells]using h
 go_enter Tryz.func10,Tryz.ntmps10;go_wp2_with fail;generalize(w.alloc (.cells #[.slice a n cap] 25)).alloc (.cells #[.slice none 0 0] 25)=W2 at*;refine(HV.out W2 B2).mono ?_;rintro _ w1⟨rfl,hb1⟩;have B1:=eo hb1 B2;have c1:=eh hb1 q1;have c0:=eh hb1 q0.1;have f0:w1.frozen? ⟨w.heap.size+1,0,none⟩=false:=(hb1.frozen (p:=⟨w.heap.size+1,0,none⟩) (fA q0.1)).trans q0.2;have hG:w.heap.size+2<=w1.heap.size:=by have:=hb1.size;omega
 clear q0 q1 hb1 B2 HV hz2s;have hb3:Below w1.heap.size w1 ((w1.alloc (.cells (madeCells #[.int .u32 0,.int .u32 0,.slice none 0 0] (n*3)) 53)).alloc (.cells #[.slice (some ⟨w1.heap.size,0,none⟩) 0 n] 25)):=((af _ _).alloc (ae _) _).alloc (by simp) _;have c1a:=eh hb3 c1;have S0:EnS w ((w1.alloc (.cells (madeCells #[.int .u32 0,.int .u32 0,.slice none 0 0] (n*3)) 53)).alloc (.cells #[.slice (some ⟨w1.heap.size,0,none⟩) 0 n] 25)) w1.heap.size (.slice (some ⟨w1.heap.size,0,none⟩) 0 n) [] (fun _=>undef) (fun _=>0) (fun _=>0) w1.heap.size:=by
  have qb:=qe (w1.alloc (.cells (madeCells #[.int .u32 0,.int .u32 0,.slice none 0 0] (n*3)) 53)) (.slice (some ⟨w1.heap.size,0,none⟩) 0 n) 25 (w1.heap.size+1) (by simp);refine⟨eo hb3 B1,hG,qb.1,qb.2,eh hb3 c0,(hb3.frozen (p:=⟨w.heap.size+1,0,none⟩) (fA c0)).trans f0,⟨?_,rfl,fun i hi=>by simp at hi,fun i hi=>by simp at hi,fun i hi=>by simp at hi,fun i j _ hj=>by simp at hj⟩,by omega⟩;exact(World.ownsRow_made w1 _ n (by omega) (by unfold maxLen;omega) (by rw[size_madeCells])).alloc _
 clear c0 f0 B1 hb3;go_wp2_with fail;generalize((w1.alloc (.cells (madeCells #[.int .u32 0,.int .u32 0,.slice none 0 0] (n*3)) 53)).alloc (.cells #[.slice (some ⟨w1.heap.size,0,none⟩) 0 n] 25))=W3 at*;generalize w1.heap.size=G at*;clear hmk c1a c1;go_loopw [18](fun i wr=>∃(k:Nat)(v:Value)(l:List E)(rv:Nat->Value)(lo hi':Nat->Nat)(gb:Nat),k<=n∧i=.int .i64 k∧EnS w wr G v l rv lo hi' gb∧Hid (xw p l k))(fun i _=>n-(intOf i).toNat)
 case atStart=>exact⟨0,_,[],_,_,_,_,by omega,rfl,S0,⟨rfl,fun i hi=>by omega⟩⟩
 case round=>
  clear S0;obtain⟨k,v,l,rv,lo,hi',gb,hk,rfl,hS,HM⟩:=hrel;rename World=>W4
  by_cases hkn:k<n
  ·obtain⟨b,o,rfl,hlt,d0,d1,a',cap',d2,hls⟩:=HP.out W4 hS.b k hkn;have hkn':(k:Int)<(n:Int):=by omega
   have hsl:=HSl.out k hkn;have HSk:Hid (∀wr,eS 1 PR wr a' (p.getD k E.zero).rules->Calls Tryz.prog 28 #[.slice a' (p.getD k E.zero).rules.length cap'] wr fun e w'=>qg (p.getD k E.zero).rules wr e w'):=fun wr h=>HSm.out k wr a' cap' hkn h
   have HMn:Hid (∀rs,iI (p.getD k E.zero).rules rs->xw p (l++[⟨(p.getD k E.zero).et,(p.getD k E.zero).nr,rs⟩]) (k+1)):=fun rs h=>HM.out.next h
   have hlk:l.length=k:=HM.out.1;clear HP HSm HSl HM;generalize p.getD k E.zero=en at*;obtain⟨ar,nr,rs0⟩:=en;simp only at d0 d1 d2 hls HSk HMn hsl;generalize hrl:rs0.length=rl at*;have hb5:Below W4.heap.size W4 (W4.alloc (.cells #[.int .u32 ar,.int .u32 nr,.slice a' rl cap'] 53)):=(af _ _).alloc (ae _) _;have X5:=gu.new W4 53 (.int .u32 ar) (.int .u32 nr) (.slice a' rl cap');have hS5:=hS.ey hb5;have hls5:=hls.below PR.stays hb5;clear hS hls hb5;go_wp2_with fail;generalize W4.alloc (.cells #[.int .u32 ar,.int .u32 nr,.slice a' rl cap'] 53)=W5 at*;have hcd:W5.drew.cell? ⟨G+1,0,none⟩=some v:=hS5.c;have xd0:W5.drew.cell? ⟨W4.heap.size,0,none⟩=some (.int .u32 ar):=X5.c0;have xd1:W5.drew.cell? ⟨W4.heap.size,1,none⟩=some (.int .u32 nr):=X5.c1;have xd2:W5.drew.cell? ⟨W4.heap.size,2,none⟩=some (.slice a' rl cap'):=X5.c2;have hlsd:eS 1 PR W5.drew a' rs0:=hls5.below PR.stays (af _ _).drew;have hS5d:=hS5.ey (af _ _).drew;have HSk2:Hid (Calls Tryz.prog 28 #[.slice a' rl cap'] W5.drew fun e w'=>∃g9 m9 c9,e=.returned (.slice (some ⟨g9,0,none⟩) m9 c9)∧(∃rs,AB w' W5.drew.heap.size w'.heap.size (.slice (some ⟨g9,0,none⟩) m9 c9) rs∧xw p (l++[⟨ar,nr,rs⟩]) (k+1))∧Below W5.drew.heap.size W5.drew w'):=(HSk.out W5.drew hlsd).mono (by
    rintro e w'⟨v9,rs,vs,cb,gb9,h1,h2,h3,h4⟩
    obtain⟨c9,rfl⟩:=h3.form
    exact⟨gb9,_,c9,h2,⟨rs,⟨vs,cb,gb9,h3,(h3.row.lt _ h3.ob).2,fun i hi=>((h3.own i hi).1.lt _ (h3.own i hi).2).2⟩,HMn.out rs h1⟩,h4⟩)
   have SKc:Hid (∀w9,Below W5.drew.heap.size W5.drew w9->EnS w w9 G v l rv lo hi' gb∧w9.cell? ⟨G+1,0,none⟩=some v∧G+1<w9.heap.size∧(∀ob,(w9.alloc ob).cell? ⟨G+1,0,none⟩=some v)∧w9.cell? ⟨W4.heap.size,0,none⟩=some (.int .u32 ar)∧w9.cell? ⟨W4.heap.size,1,none⟩=some (.int .u32 nr)):=fun w9 hb=>by
    have:=hS5d.ey hb;exact⟨this,this.c,fA this.c,fun ob=>eh ((af _ _).alloc (ae _) ob) this.c,eh hb xd0,eh hb xd1⟩
   have hbm:l.length+1<=maxLen:=by rw[hlk];unfold maxLen;omega
   have hbd:(l.length+1)*32<=140737488355328:=by rw[hlk];omega
   have hhG:=hS5.hG;have HLk:Hid (l.length=k):=hlk;clear hS5 X5 hls5 hlsd HSk HMn hlk d0 d1 d2;go_region_law(first
    |(go_simp;refine HSk2.out.mono ?_;rintro _ w9⟨g9,m9,c9,rfl,hrs9,hb9⟩;obtain⟨hS9,hc9,hl9,ha9,y0,y1⟩:=SKc.out w9 hb9;dsimp only)
    |(refine step_append_lies _ (by rfl) _ _ _ (by rfl) (w.heap.size+2) 53 i0 _ 3 32 Tryz.underlying23 hi hz0 hz1 hz2 rfl (by omega) v l.length (qG l rv) (by rfl) (hS9.own.row.alloc _) ⟨w9.heap.size,0,none⟩ 1 1 [.int .u32 ar,.int .u32 nr,.slice (some ⟨g9,0,none⟩) m9 c9] (by rfl) (by rfl) (World.news_of_block (t:=53) (fr:=(0,0)) (heap_alloc_new w9 _)) (by simp[Value.oneCell']) (by omega) hbm hbd (by simp;omega) (w9.heap.size+1) (by simp) ?_;intro gg cap2 w1' hown1 hgrow hat hlt2;obtain⟨rs9,hr9,hm9⟩:=hrs9;obtain⟨x1,x2,rv',lo',hi2,x3⟩:=EnS.next (e:=⟨ar,nr,rs9⟩) hS5d hb9 hr9 hown1 hgrow (by simpa using hat)))
   all_goals
    have HX3:Hid (∃rv' lo' hi2,EnS w (w1'.setCell ⟨G+1,0,none⟩ (.slice (some ⟨gg,0,none⟩) (l.length+1) cap2)) G (.slice (some ⟨gg,0,none⟩) (l.length+1) cap2) (l++[⟨ar,nr,rs9⟩]) rv' lo' hi2 gg):=⟨_,_,_,x3⟩;have HM9:Hid _:=hm9;clear x1 x2 x3 hown1 hgrow hat hlt2 hS9 hc9 hl9 ha9 hb9 SKc HSk2 hr9 hm9 y0 y1 hS5d hcd xd0 xd1 xd2;go_wp2;go_roundw
    case rel=>obtain⟨rv',lo',hi2,h⟩:=HX3.out;exact⟨k+1,_,_,rv',lo',hi2,gg,by omega,by go_num,h,HM9⟩
    case measure=>simp[intOf];omega
  have hk':k=n:=by omega
  subst hk';have hlt':¬(k:Int)<(k:Int):=by omega
  obtain⟨hb,hhG,hc,hf,hc0,hf0,hown,hne⟩:=hS;obtain⟨cv,rfl⟩:∃cv,v=.slice (some ⟨gb,0,none⟩) l.length cv:=by
   have ho:=hown.ob;obtain⟨_,h|⟨g,cap,cur,e,_⟩⟩:=hown.row
   ·rw[h.1]at ho;cases ho
   have:g=gb:=by rw[e]at ho;simpa[Value.ownBlock]using ho
   subst this;exact⟨cap,e⟩
  have hgb:=(hown.row.lt gb hown.ob).1;have hws:=fA hc;simp only at hws;have HF:Hid (Az p w (.returned (.agg #[.slice (some ⟨gb,0,none⟩) l.length cv])) (W4.setCell ⟨w.heap.size+1,0,none⟩ (.slice (some ⟨gb,0,none⟩) l.length cv))):=by
   refine⟨_,l,rv,lo,hi',gb,?_,rfl,(hown.far (by simp[World.setCell]) ?_ (fun q hq hq2=> ?_)).mono (by omega) (by omega),hb.setCell (p:=⟨w.heap.size+1,0,none⟩) (by show w.heap.size<=w.heap.size+1;omega) _⟩
   ·exact⟨by rw[HM.out.1];exact HPn.out.symm,fun i hi=>HM.out.2 i (by rw[HPn.out]at hi;exact hi)⟩
   ·simp only[World.setCell,aH];rw[if_neg (by omega)]
   simp only[World.setCell,aH];rw[if_neg (by omega)]
  clear hown hb HM HP HSm HSl;generalize l.length=ll at*;go_wp2;exact bodyPost_ret (v:=.agg #[.slice (some ⟨gb,0,none⟩) ll cv]) (by simp[results,Tryz.results10,go_sem,hc0]) rfl HF.out
end Go.Proofs.YtdihdapmphkhpaaGreat
