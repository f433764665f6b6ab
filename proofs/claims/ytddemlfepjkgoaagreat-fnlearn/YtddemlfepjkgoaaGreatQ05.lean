import Derived.Test.YtddemlfepjkgoaaGreatQ04
set_option linter.all false
set_option maxRecDepth 200000
set_option maxHeartbeats 16000000
namespace Go.Proofs.YtddemlfepjkgoaaGreat
open Go.RowKit
def NewP{α:Type}(k:Nat)(P:Nat->World->Nat->Nat->α->Prop)(l:List α)(w:World)(wrap:Value->Value)(e:Ending)(w':World):Prop:=
 ∃a cap,e=.returned (wrap (.slice a l.length cap))∧(LSrcG w.heap.size k (P w.heap.size) w' a l∧l.length<=cap)∧Below w.heap.size w w'
theorem NewP.mk{α:Type}{k:Nat}{P:Nat->World->Nat->Nat->α->Prop}{l:List α}{w:World}{wrap:Value->Value}{w':World}{a:Option Addr}{cap:Nat}{e:Ending}(he:e=.returned (wrap (.slice a l.length cap)))(h:LSrcG w.heap.size k (P w.heap.size) w' a l)(hc:l.length<=cap)(hb:Below w.heap.size w w'):NewP k P l w wrap e w':=⟨a,cap,he,⟨h,hc⟩,hb⟩
structure Box1(w:World)(g:Nat)(x:Value):Prop where
 lt:g<w.heap.size
 c0:w.cell? ⟨g,0,none⟩=some x
 f0:w.frozen? ⟨g,0,none⟩=false
theorem Box1.keep{w w1:World}{g:Nat}{x:Value}(h:Box1 w g x)(hb:Below w.heap.size w w1):Box1 w1 g x:=
 ⟨Nat.lt_of_lt_of_le h.lt hb.size,(hb.cell (p:=⟨g,0,none⟩) h.lt).trans h.c0,(hb.frozen (p:=⟨g,0,none⟩) h.lt).trans h.f0⟩
theorem Box1.new(w:World)(t:TypeId)(x:Value):Box1 (w.alloc (.cells #[x] t)) w.heap.size x:=⟨by simp,by simp,by simp⟩
theorem conA_mem{b o n:Nat}{x:AdK}(h:x∈conA b o n):x.1.block=b∧o<=x.1.off∧x.1.off<o+n*3:=by
 obtain⟨j,hj,hx⟩:=List.mem_flatMap.1 h;have hj':=List.mem_range.1 hj;simp only[a3,List.mem_cons,List.not_mem_nil,or_false]at hx;rcases hx with rfl|rfl|rfl<;>refine⟨rfl,?_,?_⟩<;>simp only<;>omega
theorem IntsAt.below{w w':World}{A:List AdK}(h:IntsAt w A)(hb:Below w.heap.size w w'):IntsAt w' A:=fun x hx=>by
 obtain⟨⟨n,h1⟩,h2⟩:=h x hx;have hl:=cell_ltK h1;exact⟨⟨n,(hb.cell hl).trans h1⟩,(hb.frozen hl).trans h2⟩
theorem SK.below{w w':World}{a:Option Addr}{n:Nat}{A:List AdK}(h:SK w a n A)(s:Below w.heap.size w w'):SK w' a n A:=by
 rcases h with h|⟨b,o,h1,h2,h3⟩
 ·exact .inl h
 exact .inr ⟨b,o,h1,h2,h3.below s⟩
theorem SR.below{w w':World}{a:Option Addr}{n:Nat}{A:List AdK}(h:SR w a n A)(s:Below w.heap.size w w'):SR w' a n A:=by
 obtain⟨hm,h⟩:=h;rcases h with h|⟨b,o,h1,F,h2,h3⟩
 ·exact⟨hm,.inl h⟩
 refine⟨hm,.inr ⟨b,o,h1,F,h2,fun i hi=> ?_⟩⟩;obtain⟨a',n',c',h4,h5⟩:=h3 i hi;exact⟨a',n',c',cell_step s h4,h5.below s⟩
theorem SE.below{w w':World}{a:Option Addr}{n:Nat}{A:List AdK}(h:SE w a n A)(s:Below w.heap.size w w'):SE w' a n A:=by
 obtain⟨hm,h⟩:=h;rcases h with h|⟨b,o,h1,F,h2,h3⟩
 ·exact⟨hm,.inl h⟩
 refine⟨hm,.inr ⟨b,o,h1,F,h2,fun i hi=> ?_⟩⟩;obtain⟨h6,a',n',c',h4,h5⟩:=h3 i hi;exact⟨h6.below s,a',n',c',cell_step s h4,h5.below s⟩
end Go.Proofs.YtddemlfepjkgoaaGreat
namespace Go.Proofs.YtddemlfepjkgoaaGreat
structure Lin{α:Type}(ord:α->α->Int):Prop where
 self:∀a,ord a a=0
 zero:∀a b,ord a b=0->a=b
 anti:∀a b,ord a b= -ord b a
 trans:∀a b c,ord a b<0->ord b c<0->ord a c<0
section
variable{α:Type}{ord:α->α->Int}
theorem Lin.lt_le(L:Lin ord){a b c:α}(h:ord a b<0)(h':ord b c<=0):ord a c<0:=by
 by_cases e:ord b c=0
 ·rw[<-L.zero _ _ e];exact h
 exact L.trans _ _ _ h (by omega)
theorem Lin.le_trans(L:Lin ord){a b c:α}(h:ord a b<=0)(h':ord b c<=0):ord a c<=0:=by
 by_cases e:ord a b=0
 ·rw[L.zero _ _ e];exact h'
 have:=L.lt_le (a:=a) (b:=b) (c:=c) (by omega) h';omega
def AscG(ord:α->α->Int)(r:List α):Prop:=r.Pairwise fun a b=>ord a b<0
def DistG(ord:α->α->Int)(cs r:List α):Prop:=AscG ord r∧∀c,c∈r↔c∈cs
theorem ascG_uniq(L:Lin ord){r s:List α}(h:AscG ord r)(h':AscG ord s)(e:∀c,c∈r↔c∈s):r=s:=by
 induction r generalizing s with
 |nil=>cases s with
  |nil=>rfl
  |cons b s=>exact absurd ((e b).2 (by simp)) (by simp)
 |cons a r ih=>cases s with
  |nil=>exact absurd ((e a).1 (by simp)) (by simp)
  |cons b s=>
   have ha:=List.pairwise_cons.1 h;have hb:=List.pairwise_cons.1 h';have eab:a=b:=by
    have m1:=(e a).1 (by simp);have m2:=(e b).2 (by simp);simp only[List.mem_cons]at m1 m2;rcases m1 with m1|m1
    ·exact m1
    rcases m2 with m2|m2
    ·exact m2.symm
    have g1:=hb.1 a m1;have g2:=ha.1 b m2;have:=L.anti a b;omega
   subst eab;congr 1;refine ih ha.2 hb.2 fun c=> ?_
   constructor
   ·intro hc;have:=(e c).1 (by simp[hc]);simp only[List.mem_cons]at this;rcases this with rfl|this
    ·have:=ha.1 c hc;rw[L.self]at this;omega
    exact this
   intro hc;have:=(e c).2 (by simp[hc]);simp only[List.mem_cons]at this;rcases this with rfl|this
   ·have:=hb.1 c hc;rw[L.self]at this;omega
   exact this
theorem distG_uniq(L:Lin ord){cs r s:List α}(h:DistG ord cs r)(h':DistG ord cs s):r=s:=ascG_uniq L h.1 h'.1 fun c=>(h.2 c).trans (h'.2 c).symm
theorem distG_perm{cs l r:List α}(h:DistG ord l r)(hp:∀c,c∈l↔c∈cs):DistG ord cs r:=⟨h.1,fun c=>(h.2 c).trans (hp c)⟩
theorem ascG_nodup(L:Lin ord){r:List α}(h:AscG ord r):r.Nodup:=h.imp fun{a b}hab e=>by subst e;rw[L.self]at hab;omega
def pushG(ord:α->α->Int)(out:List α)(c:α):List α:=if(∃z,out.getLast? =some z∧ord z c=0)then out else out++[c]
theorem pushG_nil(c:α):pushG ord [] c=[c]:=by simp[pushG]
theorem pushG_same{out:List α}{c z:α}(h:out.getLast? =some z)(h0:ord z c=0):pushG ord out c=out:=if_pos ⟨z,h,h0⟩
theorem pushG_diff{out:List α}{c z:α}(h:out.getLast? =some z)(h0:ord z c≠0):pushG ord out c=out++[c]:=if_neg (by rintro⟨y,h1,h2⟩;rw[h]at h1;cases h1;exact h0 h2)
theorem pushG_last(L:Lin ord)(out:List α)(c:α):(pushG ord out c).getLast? =some c:=by
 unfold pushG;split
 ·rename_i h;obtain⟨z,h1,h2⟩:=h;rw[h1,L.zero _ _ h2]
 simp
theorem pushG_asc (L : Lin ord) {out : List α} {c : α} (h : AscG ord out) (hc : ∀ o ∈ out, ord o c <= 0) : AscG ord (pushG ord out c) ∧ (∀ d, d ∈ pushG ord out c ↔ d ∈ out ∨ d = c) := by
  rcases List.eq_nil_or_concat out with rfl | ⟨t, z, rfl⟩
  · rw [pushG_nil]; simp [AscG]
  · have hz : (t.concat z).getLast? = some z := by simp
    by_cases e : ord z c = 0
    · rw [pushG_same hz e]
      obtain rfl := L.zero _ _ e
      refine ⟨h, fun d => ⟨fun hd => .inl hd, fun hd => ?_⟩⟩
      rcases hd with hd | rfl
      · exact hd
      · simp
    · rw [pushG_diff hz e]
      refine ⟨?_, fun d => by simp [or_assoc]⟩
      refine List.pairwise_append.2 ⟨h, by simp, fun a ha b hb => ?_⟩
      simp only [List.mem_singleton] at hb
      subst hb
      have hzc : ord z b < 0 := by have := hc z (by simp); omega
      simp only [List.concat_eq_append, List.mem_append, List.mem_singleton] at ha
      rcases ha with ha | rfl
      · have h2 : ord a z < 0 := by
          have := h
          unfold AscG at this
          rw [List.concat_eq_append] at this
          exact (List.pairwise_append.1 this).2.2 a ha z (by simp)
        exact L.trans _ _ _ h2 hzc
      · exact hzc
theorem fold_pushG(L:Lin ord){l:List α}(hl:l.Pairwise fun a b=>ord a b<=0):DistG ord l (l.foldl (pushG ord) []):=by
 have key:∀(l out cs:List α),(l.Pairwise fun a b=>ord a b<=0)->AscG ord out->(∀a∈out,∀b∈l,ord a b<=0)->(∀c,c∈cs↔c∈out∨c∈l)->DistG ord cs (l.foldl (pushG ord) out):=by
  intro l;induction l with
  |nil=>intro out cs _ h2 _ h4;exact⟨h2,fun c=>by rw[h4 c];simp⟩
  |cons a l ih=>
   intro out cs h1 h2 h3 h4;have g:=List.pairwise_cons.1 h1;obtain⟨p1,p2⟩:=pushG_asc L h2 (fun o ho=>h3 o ho a (by simp));refine ih (pushG ord out a) cs g.2 p1 ?_ ?_
   ·intro c hc b hb;rcases(p2 c).1 hc with hc|rfl
    ·exact h3 c hc b (by simp[hb])
    exact g.1 b hb
   intro c;rw[h4 c,p2 c];simp only[List.mem_cons];constructor
   ·rintro(q|q|q)
    ·exact .inl (.inl q)
    ·exact .inl (.inr q)
    exact .inr q
   rintro((q|q)|q)
   ·exact .inl q
   ·exact .inr (.inl q)
   exact .inr (.inr q)
 exact key l [] l hl List.Pairwise.nil (by simp) (by simp)
def compG(ord:α->α->Int)(l:List α)(k:Nat):List α:=(l.take k).foldl (pushG ord) []
theorem compG_zero(l:List α):compG ord l 0=[]:=rfl
theorem compG_succ{l:List α}{k:Nat}(h:k<l.length):compG ord l (k+1)=pushG ord (compG ord l k) l[k]:=by
 have e:l.take (k+1)=l.take k++[l[k]]:=by
  rw[List.take_add_one,List.getElem?_eq_getElem h];rfl
 rw[compG,e,List.foldl_append];rfl
theorem compG_last(L:Lin ord){l:List α}{k:Nat}(h:k<l.length):(compG ord l (k+1)).getLast? =some l[k]:=by
 rw[compG_succ h];exact pushG_last L _ _
theorem compG_one{l:List α}(h:0<l.length):compG ord l 1=[l[0]]:=by
 rw[compG_succ h,compG_zero,pushG_nil]
theorem compG_same(L:Lin ord){l:List α}{k:Nat}(h:k+1<l.length)(he:ord l[k+1] l[k]=0):compG ord l (k+2)=compG ord l (k+1):=by
 rw[compG_succ h,pushG_same (compG_last L (by omega))];rw[L.anti,he];rfl
theorem compG_diff(L:Lin ord){l:List α}{k:Nat}(h:k+1<l.length)(he:ord l[k+1] l[k]≠0):compG ord l (k+2)=compG ord l (k+1)++[l[k+1]]:=by
 rw[compG_succ h,pushG_diff (compG_last L (by omega))];rw[L.anti];omega
theorem compG_len(l:List α)(k:Nat)(h:k<=l.length):(compG ord l k).length<=k:=by
 induction k with
 |zero=>simp[compG_zero]
 |succ k ih=>
  have:=ih (by omega);rw[compG_succ (by omega),pushG];split
  ·omega
  simp;omega
theorem compG_all(L:Lin ord){l:List α}{k:Nat}(h:k<=l.length)(hd:∀j(hj:j+1<k),ord (l[j+1]'(by omega)) (l[j]'(by omega))≠0):compG ord l k=l.take k:=by
 induction k with
 |zero=>simp[compG_zero]
 |succ k ih=>
  have e:l.take (k+1)=l.take k++[l[k]]:=by
   rw[List.take_add_one,List.getElem?_eq_getElem (by omega)];rfl
  cases k with
  |zero=>rw[compG_one (by omega),e];simp
  |succ k=>
   rw[compG_diff L (by omega) (hd k (by omega)),ih (by omega) (fun j hj=>hd j (by omega)),e]
theorem compG_dist(L:Lin ord){l:List α}(hl:l.Pairwise fun a b=>ord a b<=0):DistG ord l (compG ord l l.length):=by
 rw[compG,List.take_length];exact fold_pushG L hl
structure SelG(ord:α->α->Int)(cs out:List α):Prop where
 asc:AscG ord out
 sub:∀c∈out,c∈cs
 low:∀c∈cs,c∈out∨∀o∈out,ord o c<0
theorem SelG.nil(cs:List α):SelG ord cs []:=⟨List.Pairwise.nil,by simp,fun c hc=>.inr (by simp)⟩
theorem SelG.next(L:Lin ord){cs out:List α}{b:α}(h:SelG ord cs out)(hb:b∈cs)(h1:∀o∈out,ord o b<0)(h2:∀c∈cs,(∀o∈out,ord o c<0)->ord b c<=0):SelG ord cs (out++[b]):=by
 refine⟨List.pairwise_append.2 ⟨h.asc,by simp,fun a ha c hc=> ?_⟩,?_,?_⟩
 ·simp only[List.mem_singleton]at hc;subst hc;exact h1 a ha
 ·intro c hc;simp only[List.mem_append,List.mem_singleton]at hc;rcases hc with hc|rfl
  ·exact h.sub c hc
  exact hb
 intro c hc;rcases h.low c hc with g|g
 ·exact .inl (by simp[g])
 by_cases e:ord b c=0
 ·exact .inl (by simp[L.zero _ _ e])
 refine .inr fun o ho=> ?_
 simp only[List.mem_append,List.mem_singleton]at ho;rcases ho with ho|rfl
 ·exact g o ho
 have:=h2 c hc g;omega
theorem SelG.done{cs out:List α}(h:SelG ord cs out)(hn:∀c∈cs,¬∀o∈out,ord o c<0):DistG ord cs out:=
 ⟨h.asc,fun c=>⟨h.sub c,fun hc=>(h.low c hc).resolve_right (hn c hc)⟩⟩
theorem asc_last (L : Lin ord) {out : List α} {z c : α} (h : AscG ord out) (hz : out.getLast? = some z) : (∀ o ∈ out, ord o c < 0) ↔ ord z c < 0 := by
  rcases List.eq_nil_or_concat out with rfl | ⟨t, y, rfl⟩
  · cases hz
  · have : y = z := by simpa using hz
    subst this
    constructor
    · intro h1; exact h1 y (by simp)
    · intro h1 o ho
      simp only [List.concat_eq_append, List.mem_append, List.mem_singleton] at ho
      rcases ho with ho | rfl
      · have h2 : ord o y < 0 := by
          have := h
          unfold AscG at this
          rw [List.concat_eq_append] at this
          exact (List.pairwise_append.1 this).2.2 o ho y (by simp)
        exact L.trans _ _ _ h2 h1
      · exact h1
theorem nodup_len{r:List α}:∀{cs:List α},r.Nodup->(∀c∈r,c∈cs)->r.length<=cs.length:=by
 induction r with
 |nil=>intro cs _ _;simp
 |cons a r ih=>
  intro cs hn hs;obtain⟨s,t,rfl⟩:=List.append_of_mem (hs a (by simp));have h1:=List.nodup_cons.1 hn;have:=ih (cs:=s++t) h1.2 (fun c hc=>by
   have h2:=hs c (by simp[hc])
   simp only[List.mem_append,List.mem_cons]at h2⊢
   rcases h2 with h2|rfl|h2
   ·exact .inl h2
   ·exact absurd hc h1.1
   exact .inr h2)
  simp only[List.length_append,List.length_cons]at this⊢;omega
theorem SelG.len(L:Lin ord){cs out:List α}(h:SelG ord cs out):out.length<=cs.length:=
 nodup_len (ascG_nodup L h.asc) h.sub
end
end Go.Proofs.YtddemlfepjkgoaaGreat
namespace Go.Proofs.YtddemlfepjkgoaaGreat
def ordI(a b:Int):Int:=if a<b then-1 else if b<a then 1 else 0
def ordL:List Int->List Int->Int
 |[],[]=>0
 |[],_::_=> -1
 |_::_,[]=>1
 |a::r,b::s=>if ordI a b=0 then ordL r s else ordI a b
def ordC(a b:C):Int:=if ordI a.arch b.arch≠0 then ordI a.arch b.arch else if ordI a.nr b.nr≠0 then ordI a.nr b.nr else ordL a.args b.args
theorem ordI_anti(a b:Int):ordI a b= -ordI b a:=by unfold ordI;split<;>split<;>(try split)<;>omega
theorem ordI_zero{a b:Int}(h:ordI a b=0):a=b:=by unfold ordI at h;split at h<;>(try split at h)<;>omega
theorem ordI_self(a:Int):ordI a a=0:=by unfold ordI;simp
theorem ordI_lt{a b:Int}:ordI a b<0↔a<b:=by unfold ordI;split<;>(try split)<;>omega
theorem ordI_bd(a b:Int):ordI a b= -1∨ordI a b=0∨ordI a b=1:=by unfold ordI;split<;>(try split)<;>omega
theorem ordL_zero{l m:List Int}(h:ordL l m=0):l=m:=by
 induction l generalizing m with
 |nil=>cases m with
  |nil=>rfl
  |cons=>simp[ordL]at h
 |cons a r ih=>cases m with
  |nil=>simp[ordL]at h
  |cons b s=>
   unfold ordL at h;split at h
   ·rename_i h0;rw[ordI_zero h0,ih h]
   exact absurd h (by assumption)
theorem ordL_anti(l m:List Int):ordL l m= -ordL m l:=by
 induction l generalizing m with
 |nil=>cases m<;>simp[ordL]
 |cons a r ih=>cases m with
  |nil=>simp[ordL]
  |cons b s=>
   unfold ordL;have:=ordI_anti a b;by_cases h:ordI a b=0
   ·rw[if_pos h,if_pos (by omega),ih s]
   rw[if_neg h,if_neg (by omega)];exact this
theorem ordL_trans{l m n:List Int}(h:ordL l m<0)(h':ordL m n<0):ordL l n<0:=by
 induction l generalizing m n with
 |nil=>cases m with
  |nil=>simp[ordL]at h
  |cons b s=>cases n with
   |nil=>simp[ordL]at h'
   |cons=>simp[ordL]
 |cons a r ih=>cases m with
  |nil=>simp[ordL]at h
  |cons b s=>cases n with
   |nil=>simp[ordL]at h'
   |cons c t=>
    unfold ordL at h h'⊢;by_cases e1:ordI a b=0
    ·rw[if_pos e1]at h;obtain rfl:=ordI_zero e1;by_cases e2:ordI a c=0
     ·rw[if_pos e2]at h'⊢;exact ih h h'
     rw[if_neg e2]at h'⊢;exact h'
    rw[if_neg e1]at h;by_cases e2:ordI b c=0
    ·obtain rfl:=ordI_zero e2;rw[if_neg e1];exact h
    rw[if_neg e2]at h';have h1:=ordI_lt.1 h;have h2:=ordI_lt.1 h';have h3:ordI a c<0:=ordI_lt.2 (by omega);rw[if_neg (by omega)];exact h3
theorem ordC_zero{a b:C}(h:ordC a b=0):a=b:=by
 unfold ordC at h;split at h
 ·contradiction
 rename_i h1;split at h
 ·contradiction
 rename_i h2;have e1:=ordI_zero (by omega:ordI a.arch b.arch=0);have e2:=ordI_zero (by omega:ordI a.nr b.nr=0);have e3:=ordL_zero h
 cases a;cases b;simp_all
theorem ordC_anti(a b:C):ordC a b= -ordC b a:=by
 unfold ordC
 have h1:=ordI_anti a.arch b.arch
 have h2:=ordI_anti a.nr b.nr
 have h3:=ordL_anti a.args b.args
 repeat' split
 all_goals omega
theorem ordC_trans{a b c:C}(h:ordC a b<0)(h':ordC b c<0):ordC a c<0:=by
 unfold ordC at h h'⊢;have i1:= @ordI_lt a.arch b.arch;have i2:= @ordI_lt b.arch c.arch;have i3:= @ordI_lt a.arch c.arch;have j1:= @ordI_lt a.nr b.nr;have j2:= @ordI_lt b.nr c.nr;have j3:= @ordI_lt a.nr c.nr;have z1:= @ordI_zero a.arch b.arch;have z2:= @ordI_zero b.arch c.arch;have z3:= @ordI_zero a.arch c.arch;have y1:= @ordI_zero a.nr b.nr;have y2:= @ordI_zero b.nr c.nr;have y3:= @ordI_zero a.nr c.nr;have t:= @ordL_trans a.args b.args c.args;have s1:=ordI_self a.arch;by_cases hA:ordI a.arch b.arch=0
 ·have eA:=z1 hA;rw[eA]at*;by_cases hB:ordI b.arch c.arch=0
  ·rw[if_neg (by omega)]at h h'⊢;by_cases hC:ordI a.nr b.nr=0
   ·have eC:=y1 hC;rw[eC]at*;by_cases hD:ordI b.nr c.nr=0
    ·rw[if_neg (by omega)]at h h'⊢;exact t h h'
    rw[if_pos hD]at h'⊢;exact h'
   rw[if_pos hC]at h;have k1:=j1.1 h;by_cases hD:ordI b.nr c.nr=0
   ·have eD:=y2 hD;rw[<-eD,if_pos hC];exact h
   rw[if_pos hD]at h';have k2:=j2.1 h';have k3:=j3.2 (by omega);rw[if_pos (by omega)];exact k3
  rw[if_pos hB]at h'⊢;exact h'
 rw[if_pos hA]at h;have k1:=i1.1 h;by_cases hB:ordI b.arch c.arch=0
 ·have eB:=z2 hB;rw[<-eB,if_pos hA];exact h
 rw[if_pos hB]at h';have k2:=i2.1 h';have k3:=i3.2 (by omega);rw[if_pos (by omega)];exact k3
theorem ordC_le_lt{a b c:C}(h:ordC a b<=0)(h':ordC b c<0):ordC a c<0:=by
 by_cases e:ordC a b=0
 ·rw[ordC_zero e];exact h'
 exact ordC_trans (by omega) h'
def Asc(r:List C):Prop:=r.Pairwise fun a b=>ordC a b<0
def IsDist(cs r:List C):Prop:=Asc r∧∀c,c∈r↔c∈cs
def pushD(out:List C)(c:C):List C:=if out=[]∨ordC (out.getLastD C.zero) c≠0 then out++[c]else out
theorem pushD_asc {out : List C} {c : C} (h : Asc out) (hc : ∀ o ∈ out, ordC o c <= 0) : Asc (pushD out c) ∧ (∀ d, d ∈ pushD out c ↔ d ∈ out ∨ d = c) := by
  rcases List.eq_nil_or_concat out with rfl | ⟨t, z, rfl⟩
  · simp [pushD, Asc]
  · have hz : (t.concat z).getLastD C.zero = z := by simp
    unfold pushD
    rw [hz]
    by_cases e : ordC z c = 0
    · obtain rfl := ordC_zero e
      rw [if_neg (by simp [e])]
      refine ⟨h, fun d => ⟨fun hd => .inl hd, fun hd => ?_⟩⟩
      rcases hd with hd | rfl
      · exact hd
      · simp
    · rw [if_pos (.inr e)]
      refine ⟨?_, fun d => by simp [or_assoc]⟩
      refine List.pairwise_append.2 ⟨h, by simp, fun a ha b hb => ?_⟩
      simp only [List.mem_singleton] at hb
      subst hb
      have hzc : ordC z b < 0 := by have := hc z (by simp); omega
      simp only [List.concat_eq_append, List.mem_append, List.mem_singleton] at ha
      rcases ha with ha | rfl
      · have h2 : ordC a z < 0 := by
          have := h
          unfold Asc at this
          rw [List.concat_eq_append] at this
          exact (List.pairwise_append.1 this).2.2 a ha z (by simp)
        exact ordC_trans h2 hzc
      · exact hzc
structure Mid(cs out x y:List C):Prop where
 ao:Asc out
 ax:Asc x
 ay:Asc y
 ox:∀a∈out,∀b∈x,ordC a b<=0
 oy:∀a∈out,∀b∈y,ordC a b<=0
 mem:∀c,c∈cs↔c∈out∨c∈x∨c∈y
theorem Mid.left{cs out x y:List C}{a:C}(h:Mid cs out (a::x) y)(ha:∀b∈y,ordC a b<=0):Mid cs (pushD out a) x y:=by
 obtain⟨p1,p2⟩:=pushD_asc h.ao (fun o ho=>h.ox o ho a (by simp));have hx:=List.pairwise_cons.1 h.ax;refine⟨p1,hx.2,h.ay,?_,?_,?_⟩
 ·intro c hc b hb;rcases(p2 c).1 hc with hc|rfl
  ·exact h.ox c hc b (by simp[hb])
  have:=hx.1 b hb;omega
 ·intro c hc b hb;rcases(p2 c).1 hc with hc|rfl
  ·exact h.oy c hc b hb
  exact ha b hb
 intro c;rw[h.mem c,p2 c];simp only[List.mem_cons];constructor
 ·rintro(g|(g|g)|g)
  ·exact .inl (.inl g)
  ·exact .inl (.inr g)
  ·exact .inr (.inl g)
  exact .inr (.inr g)
 rintro((g|g)|g|g)
 ·exact .inl g
 ·exact .inr (.inl (.inl g))
 ·exact .inr (.inl (.inr g))
 exact .inr (.inr g)
theorem Mid.swap{cs out x y:List C}(h:Mid cs out x y):Mid cs out y x:=
 ⟨h.ao,h.ay,h.ax,h.oy,h.ox,fun c=>by rw[h.mem c];constructor<;>(rintro(g|g|g)<;>simp[g])⟩
theorem Mid.done{cs out:List C}(h:Mid cs out [] []):IsDist cs out:=⟨h.ao,fun c=>by rw[h.mem c];simp⟩
theorem asc_head{y:List C}{a b:C}(hy:Asc (b::y))(h:ordC a b<=0):∀c∈b::y,ordC a c<=0:=by
 intro c hc;simp only[List.mem_cons]at hc;rcases hc with rfl|hc
 ·exact h
 have:=(List.pairwise_cons.1 hy).1 c hc;have:=ordC_le_lt h this;omega
theorem Mid.start{u v x y:List C}(hx:IsDist u x)(hy:IsDist v y):Mid (u++v) [] x y:=
 ⟨List.Pairwise.nil,hx.1,hy.1,by simp,by simp,fun c=>by simp[hx.2 c,hy.2 c]⟩
end Go.Proofs.YtddemlfepjkgoaaGreat
