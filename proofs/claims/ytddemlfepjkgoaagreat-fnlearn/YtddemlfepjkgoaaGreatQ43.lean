import Derived.OrdersHeld
import Derived.RegionTactic
import Derived.Test.YtddemlfepjkgoaaGreatQ12
set_option linter.all false
set_option maxRecDepth 200000
set_option maxHeartbeats 16000000
namespace Go.Proofs.YtddemlfepjkgoaaGreat
open Go.RowKit
section
variable{P:Program}{ops:Array Oper}{Q:Exit->Act->World->Prop}{S:World->Prop}{L:Nat}
def anyD(P:Program)(ops:Array Oper)(Q:Exit->Act->World->Prop)(S:World->Prop)(L:Nat):Nat->Array Bool->Act->World->Prop
 |0,d,a,w=>Region.ready .any ops d=[]∧Q .normal a w
 |n+1,d,a,w=>(Region.ready .any ops d=[]->Q .normal a w)∧∀j∈Region.ready .any ops d,wpOp P ops Q j (fun a' w'=>(j≠L->S w')∧anyD P ops Q S L n (d.setIfInBounds j true) a' w') a w
theorem anyD_any:∀(n:Nat)(d:Array Bool)(a:Act)(w:World),anyD P ops Q S L n d a w->wpAny P .any ops Q n d a w
 |0,_,_,_,h=>h
 |n+1,d,a,w,h=>⟨h.1,fun j hj=>wpOp_mono (fun a' w' h'=>anyD_any n _ a' w' h'.2) (h.2 j hj)⟩
theorem anyD_front{i:Nat}{oi:Oper}{v:Value}(hi:ops[i]? =some oi)(hsel:∀(j:Nat)(o:Oper)cs b,ops[j]? =some o->o.op≠.select cs b)(hQ:∀c a w,Q (.panic c) (a.put oi.dst v) w->Q (.panic c) a w)
 (hL:∀o,ops[L]? =some o->∃e∈o.after,Region.binds .any e=true∧e.on=i):∀(n:Nat)(d:Array Bool)(a:Act)(w:World),
  (∀j oj,ops[j]? =some oj->j≠i->d.getD j true=false->(∀e∈oj.after,Region.binds .any e=true->e.on≠i)->oi.apart ops oj=true)->
  i∈Region.ready .any ops d->YieldsIf P ops S oi v a->S w->anyD P ops Q S L n (d.setIfInBounds i true) (a.put oi.dst v) w->anyD P ops Q S L (n+1) d a w:=by
 intro n
 induction n with
 |zero=>
  intro d a w _ hr hy hS H
  refine⟨fun e=>absurd hr (by rw[e];exact List.not_mem_nil),fun j hj=> ?_⟩
  by_cases e:j=i
  ·subst e;exact hy.wpOp hi hS ⟨fun _=>hS,H⟩
  ·have:=ready_mono hj e
   rw[H.1]at this
   exact absurd this List.not_mem_nil
 |succ n ih=>
  intro d a w hap hr hy hS H
  refine⟨fun e=>absurd hr (by rw[e];exact List.not_mem_nil),fun j hj=> ?_⟩
  by_cases e:j=i
  ·subst e;exact hy.wpOp hi hS ⟨fun _=>hS,H⟩
  ·obtain⟨hun,oj,hoj,hall⟩:=mem_ready.1 hj
   have free:∀e∈oj.after,Region.binds .any e=true->e.on≠i:=fun ed he hb heq=>by
    have g1:=hall ed he hb
    have g0:=(mem_ready.1 hr).1
    rw[heq]at g1
    by_cases hlt:i<d.size
    ·simp[hlt]at g0 g1;rw[g0]at g1;cases g1
    ·simp[Array.getElem?_eq_none (Nat.le_of_not_lt hlt)]at g1
   have hjL:j≠L:=fun e'=>by
    subst e'
    obtain⟨ed,h1,h2,h3⟩:=hL oj hoj
    exact free ed h1 h2 h3
   refine wpOp_mono (fun a' w' h3=> ?_) (wpOp_putIf hoj (hap j oj hoj e hun free) (fun cs b=>hsel i oi cs b hi) (fun cs b=>hsel j oj cs b hoj) hQ hy (H.2 j (ready_mono hj e)))
   obtain⟨h4,h5,h6⟩:=h3
   refine⟨h5,ih (d.setIfInBounds j true) a' w' (fun k ok hk hki hu hno=>hap k ok hk hki ?_ hno) (ready_mono hr (Ne.symm e)) h4 (h5 hjL) ?_⟩
   ·by_cases hjk:j=k
    ·subst hjk;exact hun
    ·rwa [getD_set_ne true hjk]at hu
   ·rw[Array.setIfInBounds_comm _ _ e];exact h6
def waitsB(ops:Array Oper)(L i:Nat):Bool:=match ops[L]? with|some o=>o.after.any fun e=>Region.binds .any e&&e.on==i|none=>true
theorem waitsB_spec{i:Nat}(h:waitsB ops L i=true):∀o,ops[L]? =some o->∃e∈o.after,Region.binds .any e=true∧e.on=i:=fun o ho=>by
 unfold waitsB at h;rw[ho]at h;simp only[Array.any_eq_true]at h;obtain⟨k,hk,h⟩:=h;simp at h;exact⟨_,Array.getElem_mem hk,h.1,h.2⟩
theorem anyD_take(i:Nat){oi:Oper}{v:Value}{n:Nat}{d:Array Bool}{a:Act}{w:World}(hi:ops[i]? =some oi)(hs:Region.noSelect ops=true)(hf:Region.free .any ops d i=true)(hr:(Region.ready .any ops d).contains i=true)(hL:waitsB ops L i=true)
 (hQ:∀c a w,Q (.panic c) (a.put oi.dst v) w->Q (.panic c) a w)(hy:Region.wanted oi (yielded ops a.tmps)=true∧∀w,S w->(execOp a.eval oi).run P w=.ok (.value v) w)(hS:S w)
 (h:anyD P ops Q S L n (d.setIfInBounds i true) (a.put oi.dst v) w):anyD P ops Q S L (n+1) d a w:=
 anyD_front hi (Region.noSelect_spec hs) hQ (waitsB_spec hL) n d a w (Region.free_spec hi hf) (by simpa using hr) (.inl hy) hS h
theorem anyD_one(i:Nat){oi:Oper}{n:Nat}{d:Array Bool}{a:Act}{w:World}(hi:ops[i]? =some oi)(hr:Region.ready .any ops d=[i])
 (h:∀K':Act->World->Prop,Hid (∀a' w',(i≠L->S w')->anyD P ops Q S L n (d.setIfInBounds i true) a' w'->K' a' w')->if Region.wanted oi (yielded ops a.tmps)=true then Oper.wp P oi a w K' Q else K' (a.put oi.dst undef) w):anyD P ops Q S L (n+1) d a w:=by
 refine⟨fun e=>by rw[hr]at e;exact absurd e (by simp),fun j hj=> ?_⟩;rw[hr,List.mem_singleton]at hj;subst hj;exact wpOp_step hi fun K' hK=>h K' fun a' w' h1 h2=>hK a' w' ⟨h1,h2⟩
theorem anyD_done{n:Nat}{d:Array Bool}{a:Act}{w:World}(hr:Region.ready .any ops d=[])(h:Q .normal a w):anyD P ops Q S L n d a w:=by
 cases n with
 |zero=>exact⟨hr,h⟩
 |succ n=>exact⟨fun _=>h,fun j hj=>by rw[hr]at hj;exact absurd hj List.not_mem_nil⟩
theorem region_D(S:World->Prop)(L:Nat){id:Nat}{a:Act}{w:World}(hm:P.follows .mixedOrders=true)(h:anyD P ops Q S L ops.size (Array.replicate ops.size false) a w.drew):(Code.region id ops true).wp P Q a w:=
 wp_region_any hm (anyD_any _ _ _ _ h)
end
end Go.Proofs.YtddemlfepjkgoaaGreat
