import Derived.Laws.IdiomCopy
import Derived.Shelf.SlSortCmp.WholeK
import Derived.Shelf.SlSortCmp.NoneTotal
import Derived.Test.YtddemlfepjkgoaaGreatQ05
set_option linter.all false
set_option maxRecDepth 200000
set_option maxHeartbeats 16000000
namespace Go.Proofs.YtddemlfepjkgoaaGreat
open Go.Shelf Go.RowKit Go.Lib Go.Sort
section
variable{α:Type}
def cellsF(enc:α->List Value)(k:Nat)(g:Nat->α)(j:Nat):Value:=(enc (g (j/k))).getD (j%k) undef
theorem cellsF_at{enc:α->List Value}{k:Nat}(g:Nat->α)(i:Nat){r:Nat}(hr:r<k):cellsF enc k g (i*k+r)=(enc (g i)).getD r undef:=by
 have h1:(i*k+r)/k=i:=by
  rw[Nat.mul_comm,Nat.mul_add_div (by omega),Nat.div_eq_of_lt hr,Nat.add_zero]
 have h2:(i*k+r)%k=r:=by
  rw[Nat.mul_comm,Nat.mul_add_mod,Nat.mod_eq_of_lt hr]
 rw[cellsF,h1,h2]
theorem in_row{i n k r:Nat}(hi:i<n)(hr:r<k):i*k+r<n*k:=by
 have:(i+1)*k<=n*k:=Nat.mul_le_mul_right k hi;rw[Nat.succ_mul]at this;omega
def RowF(t:Nat)(enc:α->List Value)(k:Nat)(w:World)(D N n:Nat)(g:Nat->α):Prop:=n<=N∧∃f,w.rowIs D t (N*k) f∧∀j,j<n*k->f j=cellsF enc k g j
variable{t k:Nat}{enc:α->List Value}
theorem RowF.lt{w:World}{D N n:Nat}{g:Nat->α}(h:RowF t enc k w D N n g):D<w.heap.size:=by
 obtain⟨_,f,hr,_⟩:=h;exact hr.lt
theorem RowF.keep{w w1:World}{D N n:Nat}{g:Nat->α}(h:RowF t enc k w D N n g)(hb:Below w.heap.size w w1):RowF t enc k w1 D N n g:=by
 obtain⟨hn,f,hr,hf⟩:=h;exact⟨hn,f,hr.of_block (hb.block D hr.lt),hf⟩
theorem RowF.cell{w:World}{D N n i r:Nat}{g:Nat->α}(h:RowF t enc k w D N n g)(hi:i<n)(hr:r<k):w.cell? ⟨D,i*k+r,none⟩=some ((enc (g i)).getD r undef):=by
 obtain⟨hn,f,hrow,hf⟩:=h;rw[hrow.cell (in_row (by omega) hr),hf _ (in_row hi hr),cellsF_at g i hr]
theorem RowF.open{w:World}{D N n:Nat}{g:Nat->α}(h:RowF t enc k w D N n g)(j:Nat)(hj:j<N*k):∃v,w.cell? ⟨D,j,none⟩=some v∧w.frozen? ⟨D,j,none⟩=false:=by
 obtain⟨hn,f,hr,hf⟩:=h;exact⟨_,hr.cell hj,hr.frozen j⟩
theorem row_setCells'{D t n:Nat}:∀(vs:List Value)(o:Nat)(w:World)(f:Nat->Value),w.rowIs D t n f->(w.setCells D o vs).rowIs D t n (fun j=>if o<=j∧j<o+vs.length then vs.getD (j-o) undef else f j)
 |[],o,w,f,h=>by
  have e:(fun j=>if o<=j∧j<o+([]:List Value).length then([]:List Value).getD (j-o) undef else f j)=f:=funext fun j=>if_neg (by simp)
  rw[e];exact h
 |v::r,o,w,f,h=>by
  have:=row_setCells' r (o+1) _ _ (h.set o v);have e:(fun j=>if o<=j∧j<o+(v::r).length then(v::r).getD (j-o) undef else f j)=(fun j=>if o+1<=j∧j<o+1+r.length then r.getD (j-(o+1)) undef else if j=o then v else f j):=by
   funext j;simp only[List.length_cons];by_cases h0:j=o
   ·subst h0;rw[if_pos (by omega),if_neg (by omega),if_pos rfl];simp
   by_cases h1:o+1<=j∧j<o+1+r.length
   ·rw[if_pos (by omega),if_pos h1,show j-o=(j-(o+1))+1 by omega];simp
   rw[if_neg (by omega),if_neg h1,if_neg h0]
  rw[e];exact this
theorem below_setCells'{B D:Nat}{W:World}(hD:B<=D):∀(vs:List Value)(o:Nat)(w:World),Below B W w->Below B W (w.setCells D o vs)
 |[],_,_,h=>h
 |v::r,o,w,h=>below_setCells' hD r (o+1) _ (h.setCell (p:=⟨D,o,none⟩) hD v)
theorem RowF.set{w:World}{D N n:Nat}{g:Nat->α}(h:RowF t enc k w D N n g)(i:Nat)(p:α)(hk:(enc p).length=k)(h0:0<k):RowF t enc k (w.setCells D (i*k) (enc p)) D N n (fun j=>if j=i then p else g j):=by
 obtain⟨hn,f,hr,hf⟩:=h;refine⟨hn,_,row_setCells' (enc p) (i*k) w f hr,fun j hj=> ?_⟩;have hj':=hf j hj;obtain⟨q,r,hr',rfl⟩:∃q r,r<k∧j=q*k+r:=⟨j/k,j%k,Nat.mod_lt _ h0,by rw[Nat.mul_comm];exact(Nat.div_add_mod j k).symm⟩;rw[cellsF_at _ q hr'];rw[cellsF_at _ q hr']at hj';rw[hk];by_cases e:q=i
 ·subst e;rw[if_pos (by omega),if_pos rfl];congr 1;omega
 rw[if_neg,if_neg e]
 ·exact hj'
 rintro⟨h1,h2⟩;rcases Nat.lt_or_gt_of_ne e with g1|g1
 ·have:(q+1)*k<=i*k:=Nat.mul_le_mul_right k g1;rw[Nat.succ_mul]at this;omega
 have:(i+1)*k<=q*k:=Nat.mul_le_mul_right k g1;rw[Nat.succ_mul]at this;omega
theorem RowF.less{w:World}{D N n m:Nat}{g:Nat->α}(h:RowF t enc k w D N n g)(hm:m<=n):RowF t enc k w D N m g:=by
 obtain⟨hn,f,hr,hf⟩:=h;exact⟨by omega,f,hr,fun j hj=>hf j (Nat.lt_of_lt_of_le hj (Nat.mul_le_mul_right k hm))⟩
theorem RowF.clear{w:World}{D N n m:Nat}{g:Nat->α}(h:RowF t enc k w D N n g)(hm:m<=n)(vs:List Value):RowF t enc k (w.setCells D (m*k) vs) D N m g:=by
 obtain⟨hn,f,hr,hf⟩:=h;refine⟨by omega,_,row_setCells' vs (m*k) w f hr,fun j hj=> ?_⟩;rw[if_neg (by omega)];exact hf j (Nat.lt_of_lt_of_le hj (Nat.mul_le_mul_right k hm))
theorem RowF.congr{w:World}{D N n:Nat}{g g':Nat->α}(h:RowF t enc k w D N n g)(e:∀i,i<n->g i=g' i):RowF t enc k w D N n g':=by
 obtain⟨hn,f,hr,hf⟩:=h;refine⟨hn,f,hr,fun j hj=> ?_⟩;rw[hf j hj,cellsF,cellsF,e];exact Nat.div_lt_of_lt_mul (by rw[Nat.mul_comm];exact hj)
def lstF(g:Nat->α)(n:Nat):List α:=(List.range n).map g
theorem lstF_len(g:Nat->α)(n:Nat):(lstF g n).length=n:=by simp[lstF]
theorem lstF_get(g:Nat->α){n i:Nat}(h:i<n):(lstF g n)[i]'(by rw[lstF_len];exact h)=g i:=by simp[lstF]
theorem lstF_take(g:Nat->α){n k:Nat}(h:k<=n):(lstF g n).take k=lstF g k:=by
 unfold lstF;rw[<-List.map_take,List.take_range,Nat.min_eq_left h]
theorem lstF_succ(g:Nat->α)(n:Nat):lstF g (n+1)=lstF g n++[g n]:=by simp[lstF,List.range_succ]
theorem lstF_congr{g g':Nat->α}{n:Nat}(h:∀i,i<n->g i=g' i):lstF g n=lstF g' n:=by
 unfold lstF;apply List.map_congr_left;intro i hi;rw[h i (by simpa using hi)]
variable{ord:α->α->Int}
theorem compF_same(L:Lin ord)(g:Nat->α){n q:Nat}(h:q+1<n)(he:ord (g (q+1)) (g q)=0):compG ord (lstF g n) (q+2)=compG ord (lstF g n) (q+1):=
 compG_same L (by rw[lstF_len];exact h) (by rw[lstF_get g h,lstF_get g (by omega)];exact he)
theorem compF_diff(L:Lin ord)(g:Nat->α){n q:Nat}(h:q+1<n)(he:ord (g (q+1)) (g q)≠0):compG ord (lstF g n) (q+2)=compG ord (lstF g n) (q+1)++[g (q+1)]:=by
 rw[compG_diff L (by rw[lstF_len];exact h) (by rw[lstF_get g h,lstF_get g (by omega)];exact he),lstF_get g h]
theorem compF_all(L:Lin ord)(g:Nat->α){n q:Nat}(h:q<=n)(hd:∀j,0<j->j<q->ord (g j) (g (j-1))≠0):compG ord (lstF g n) q=lstF g q:=by
 rw[compG_all L (by rw[lstF_len];exact h) (fun j hj=> ?_),lstF_take g h];rw[lstF_get g (by omega),lstF_get g (by omega)];exact hd (j+1) (by omega) hj
theorem belowB_step'{B:Nat}{W wa wb:World}(hBW:B<=W.heap.size)(hb:Below wa.heap.size wa wb)(h:Below B W wa):Below B W wb:=h.trans (hb.mono (Nat.le_trans hBW h.size))
theorem sw_block' [Inhabited α](enc:α->List Value)(k:Nat)(w:World)(D off m:Nat)(dk:Array α)(os:Array Obj){j:Nat}(hj:j<w.heap.size)(hne:j≠D):(sortWorldK enc k w D off m dk os).heap[j]? =w.heap[j]? :=by
 unfold sortWorldK putRowK putRow;rw[heap_grow_old _ _ (by simpa[mapBlock,Sort.ahead]using hj)];simp only[mapBlock,Sort.ahead,Array.getElem?_modify];rw[if_neg (fun e=>hne e.symm)]
theorem sw_row' [Inhabited α](enc:α->List Value)(k:Nat){w:World}{D m t n:Nat}{f:Nat->Value}(dk:Array α)(os:Array Obj)(h:w.rowIs D t n f):(sortWorldK enc k w D 0 m dk os).rowIs D t n (fun j=>if j<dk.size*k then(flatK enc k dk)[j]! else f j):=by
 have hlt:=h.lt;obtain⟨c,hc,hs,hv⟩:=h;refine⟨putCells id 0 (flatK enc k dk) c,?_,by simpa[putCells]using hs,fun i hi=> ?_⟩
 ·unfold sortWorldK putRowK putRow;rw[heap_grow_old _ _ (by simpa[mapBlock,Sort.ahead]using hlt)];simp only[mapBlock,Sort.ahead,Array.getElem?_modify,if_true,hc,Option.map_some,onCells]
 simp only[putCells,Array.getElem?_mapIdx,hv i hi,Option.map_some,Nat.zero_le,true_and,Nat.zero_add,size_flatK,Nat.sub_zero,id]
theorem sw_below' [Inhabited α](enc:α->List Value)(k:Nat){B:Nat}{W w:World}{D m:Nat}(dk:Array α)(os:Array Obj)(hb:Below B W w)(hD:B<=D)(hBw:B<=w.heap.size):Below B W (sortWorldK enc k w D 0 m dk os):=
 hb.trans ⟨rfl,rfl,rfl,by simp only[sortWorldK,putRowK,size_grow,size_putRow];exact Nat.le_add_right _ _,fun j hj=>sw_block' enc k w D 0 m dk os (by omega) (by omega)⟩
theorem swo_of(L:Lin ord):SWO (ltOf ord)where
 irrefl:=fun x=>by simp[ltOf,L.self]
 trans:=fun x y z h h'=>decide_eq_true (L.trans _ _ _ (of_decide_eq_true h) (of_decide_eq_true h'))
 ntrans:=fun x y z h h'=>by
  have h1:¬ord x y<0:=of_decide_eq_false h;have h2:¬ord y z<0:=of_decide_eq_false h';refine decide_eq_false (show¬ord x z<0 from ?_);have e1:=L.anti x y;have e2:=L.anti y z;have e3:=L.anti x z;have:=L.le_trans (a:=z) (b:=y) (c:=x) (by omega) (by omega);omega
theorem sort_of [Inhabited α]{P:Program}{F:Nat}{fv:Value}(L:Lin ord)(hlen:∀x,(enc x).length=k)(h0:0<k)(B D N n cap:Nat)(g:Nat->α)(W w:World)(hBW:B<=W.heap.size)(hb:Below B W w)(hD:B<=D)(hr:RowF t enc k w D N n g)
 (HS:∀d:Array α,d.size=n->HoldsK enc k w D 0 d->D<w.heap.size->Calls P F #[.slice (some ⟨D,0,none⟩) d.size cap,fv] w fun e w'=>e=.returned (.tuple #[])∧∃d' m os,PermIn 0 d.size d d'∧SortedIn (ltOf ord) 0 d.size d'∧w'=sortWorldK enc k w D 0 m d' os):
 Calls P F #[.slice (some ⟨D,0,none⟩) n cap,fv] w fun e w'=>e=.returned (.tuple #[])∧
  ∃g',RowF t enc k w' D N n g'∧(∀c,c∈lstF g' n↔c∈lstF g n)∧(lstF g' n).Pairwise (fun a b=>ord a b<=0)∧Below B W w':=by
 have hBw:B<=w.heap.size:=Nat.le_trans hBW hb.size
 obtain⟨d,hd⟩:∃d:Array α,d=(lstF g n).toArray:=⟨_,rfl⟩
 have hds:d.size=n:=by rw[hd];simp[lstF]
 have hdi:∀i,i<n->d[i]! =g i:=by intro i hi;rw[hd];simp[lstF,hi]
 have flat:∀(x:Array α)(q:Nat->α),x.size=n->(∀i,i<n->x[i]! =q i)->∀j,j<n*k->(flatK enc k x)[j]! =cellsF enc k q j:=by
  intro x q hx hq j hj
  have hjk:j/k<n:=Nat.div_lt_of_lt_mul (by rw[Nat.mul_comm];exact hj)
  rw[get_flatK _ _ _ _ (by rw[hx];exact hj),cellsF,hq _ hjk]
  have hm:j%k<(enc (q (j/k))).length:=by rw[hlen];exact Nat.mod_lt _ h0
  simp[List.getD_eq_getElem?_getD,hm]
 have hH:HoldsK enc k w D 0 d:=by
  obtain⟨hnN,f0,hrow,hf0⟩:=hr
  intro j hj
  rw[size_flatK,hds]at hj
  rw[Nat.zero_add,hrow.cell (Nat.lt_of_lt_of_le hj (Nat.mul_le_mul_right k hnN)),hf0 j hj,flat d g hds hdi j hj]
  exact⟨rfl,hrow.frozen j⟩
 have hS:=HS d hds hH hr.lt
 rw[hds]at hS
 refine hS.mono ?_
 rintro e w'⟨rfl,d',n',os,hp,hs,rfl⟩
 obtain⟨p1,p2,p3⟩:=hp
 rw[hds]at p1
 have ex:∀(x:Array α),x.size=n->x.extract 0 n=x:=fun x hx=>by rw[<-hx];exact Array.extract_size
 rw[ex d' p1,ex d hds]at p3
 have el:∀(x:Array α),x.size=n->lstF (fun i=>x[i]!) n=x.toList:=by
  intro x hx
  apply List.ext_getElem
  ·simp[lstF,hx]
  ·intro i h1 h2
   rw[lstF_len]at h1
   simp[lstF,show i<x.size by omega]
 refine⟨rfl,fun i=>d'[i]!,?_,?_,?_,sw_below' enc k d' os hb hD hBw⟩
 ·obtain⟨hnN,f0,hrow,hf0⟩:=hr
  refine⟨hnN,_,sw_row' enc k d' os hrow,fun j hj=> ?_⟩
  rw[if_pos (by rw[p1];exact hj)]
  exact flat d' _ p1 (fun i hi=>rfl) j hj
 ·intro c
  rw[el d' p1,p3.mem_iff,hd]
 ·rw[List.pairwise_iff_getElem]
  intro i j hi hj hij
  rw[lstF_len]at hi hj
  have h1:=hs i j (Nat.zero_le _) hij hj
  have h2:¬ord d'[j]! d'[i]! <0:=of_decide_eq_false h1
  have e:=L.anti d'[i]! d'[j]!
  rw[lstF_get _ hi,lstF_get _ hj]
  omega
theorem flat_len(hlen:∀x,(enc x).length=k)(g:Nat->α):∀n,((lstF g n).flatMap enc).length=n*k
 |0=>by simp[lstF]
 |n+1=>by rw[lstF_succ,List.flatMap_append,List.length_append,flat_len hlen g n];simp[hlen,Nat.succ_mul]
theorem flat_get(hlen:∀x,(enc x).length=k)(g:Nat->α):∀n j,j<n*k->((lstF g n).flatMap enc)[j]? =some (cellsF enc k g j)
 |0,j,h=>by simp at h
 |n+1,j,h=>by
  rw[lstF_succ,List.flatMap_append];by_cases hj:j<n*k
  ·rw[List.getElem?_append_left (by rw[flat_len hlen];exact hj)];exact flat_get hlen g n j hj
  rw[List.getElem?_append_right (by rw[flat_len hlen];omega),flat_len hlen];obtain⟨r,rfl⟩:∃r,j=n*k+r:=⟨j-n*k,by omega⟩;have hr:r<k:=by rw[Nat.succ_mul]at h;omega
  rw[cellsF_at g n hr,show n*k+r-n*k=r by omega];have:r<(enc (g n)).length:=by rw[hlen];exact hr
  simp[List.getD_eq_getElem?_getD,this]
theorem own_rowF(hlen:∀x,(enc x).length=k){w:World}{base n:Nat}{v:Value}{g:Nat->α}(h0:0<n)(h:w.ownsRow base t k v n ((lstF g n).flatMap enc)):∃D N,v=.slice (some ⟨D,0,none⟩) n N∧base<=D∧n<=N∧RowF t enc k w D N n g:=by
 obtain⟨_,h|⟨D,cap,cur,rfl,hb,hgc,hn,hm,hs,hx⟩⟩:=h
 ·omega
 refine⟨D,cap,rfl,hb,hn,hn,fun j=>cur.getD j undef,⟨cur,hgc,hs,fun i hi=>by simp[hs,hi]⟩,fun j hj=> ?_⟩;have hu:=flat_get hlen g n j hj;rw[<-hx,List.getElem?_take,if_pos hj,Array.getElem?_toList]at hu;simp[Array.getD_eq_getD_getElem?,hu]
def SrcF(enc:α->List Value)(k:Nat)(w:World)(b o:Nat)(n:Nat)(g:Nat->α):Prop:=b<w.heap.size∧∀j,j<n*k->w.cell? ⟨b,o+j,none⟩=some (cellsF enc k g j)
theorem SrcF.below{w w1:World}{b o:Nat}{n:Nat}{g:Nat->α}(h:SrcF enc k w b o n g)(hb:Below w.heap.size w w1):SrcF enc k w1 b o n g:=
 ⟨Nat.lt_of_lt_of_le h.1 hb.size,fun j hj=>(hb.cell (p:=⟨b,o+j,none⟩) h.1).trans (h.2 j hj)⟩
theorem RowF.src{w:World}{D N n:Nat}{g:Nat->α}(h:RowF t enc k w D N n g):SrcF enc k w D 0 n g:=by
 refine⟨h.lt,fun j hj=> ?_⟩;obtain⟨hn,f,hr,hf⟩:=h;rw[Nat.zero_add,hr.cell (Nat.lt_of_lt_of_le hj (Nat.mul_le_mul_right k hn)),hf j hj]
def OnceF(t:Nat)(enc:α->List Value)(k:Nat)(w:World)(B:Nat)(v:Value)(m:Nat)(g:Nat->α):Prop:=∃D N,v=.slice (some ⟨D,0,none⟩) m N∧B<=D∧m<=N∧RowF t enc k w D N m g
end
end Go.Proofs.YtddemlfepjkgoaaGreat
