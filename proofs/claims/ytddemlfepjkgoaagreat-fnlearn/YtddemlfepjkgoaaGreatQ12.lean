import Derived.Deep.Cut
import Derived.Test.YtddemlfepjkgoaaGreatQ11
set_option linter.all false
set_option maxRecDepth 200000
set_option maxHeartbeats 16000000
namespace Go.Proofs.YtddemlfepjkgoaaGreat
open Go.RowKit
def CutQ(A:Act)(R:World->Prop):Exit->Act->World->Prop
 |.normal,act,W=>act=A∧R W
 |_,_,_=>False
theorem CutQ.mk{A act:Act}{R:World->Prop}{W:World}(h1:act=A)(h2:R W):CutQ A R .normal act W:=⟨h1,h2⟩
theorem wp_cut{P:Program}{c:Code}{Q:Exit->Act->World->Prop}{a:Act}{w:World}{A:Act}{R:World->Prop}(h:c.wp P (CutQ A R) a w)(k:∀W',R W'->Q Exit.normal A W'):c.wp P Q a w:=
 Code.wp_mono (fun ex act W' h=>by
  cases ex with
  |normal=>obtain⟨h2,h3⟩:=h;subst h2;exact k W' h3
  |_=>exact False.elim h) h
def CutE3(A:Nat->Option Addr->Nat->Act)(R:Nat->Option Addr->Nat->World->Prop):Exit->Act->World->Prop
 |.normal,act,W=>∃x y z,act=A x y z∧R x y z W
 |_,_,_=>False
theorem CutE3.mk{A:Nat->Option Addr->Nat->Act}{act:Act}{R:Nat->Option Addr->Nat->World->Prop}{W:World}(x:Nat)(y:Option Addr)(z:Nat)(h1:act=A x y z)(h2:R x y z W):CutE3 A R .normal act W:=⟨x,y,z,h1,h2⟩
def CutE1(A:Nat->Act)(R:Nat->World->Prop):Exit->Act->World->Prop
 |.normal,act,W=>∃x,act=A x∧R x W
 |_,_,_=>False
theorem CutE1.mk{A:Nat->Act}{act:Act}{R:Nat->World->Prop}{W:World}(x:Nat)(h1:act=A x)(h2:R x W):CutE1 A R .normal act W:=⟨x,h1,h2⟩
def CutA(S:Act->World->Prop):Exit->Act->World->Prop
 |.normal,act,W=>S act W
 |_,_,_=>False
theorem CutA.mk{S:Act->World->Prop}{act:Act}{W:World}(h:S act W):CutA S .normal act W:=h
theorem wp_cutA{P:Program}{c:Code}{Q:Exit->Act->World->Prop}{a:Act}{w:World}(S:Act->World->Prop)(h:c.wp P (CutA S) a w)(k:∀act W',S act W'->Q Exit.normal act W'):c.wp P Q a w:=
 Code.wp_mono (fun ex act W' h=>by
  cases ex with
  |normal=>exact k act W' h
  |_=>exact False.elim h) h
end Go.Proofs.YtddemlfepjkgoaaGreat
namespace Go.Proofs.YtddemlfepjkgoaaGreat
def Cand(out:List Ru)(c:Ru):Prop:=∀o∈out,ordR o c<0
def BestU(l out:List Ru)(k:Nat)(best:Int):Prop:=
 (best= -1∧∀i,i<k->¬Cand out (at' l i))∨∃b:Nat,b<k∧best=b∧Cand out (at' l b)∧∀i,i<k->Cand out (at' l i)->ordR (at' l b) (at' l i)<=0
theorem BestU.zero(l out:List Ru):BestU l out 0 (-1):=.inl ⟨rfl,fun i hi=>by omega⟩
theorem BestU.skip{l out:List Ru}{k:Nat}{best:Int}(h:BestU l out k best)(hc:¬Cand out (at' l k)):BestU l out (k+1) best:=by
 rcases h with⟨h1,h2⟩|⟨b,h1,h2,h3,h4⟩
 ·refine .inl ⟨h1,fun i hi=> ?_⟩;by_cases e:i=k
  ·rw[e];exact hc
  exact h2 i (by omega)
 refine .inr ⟨b,by omega,h2,h3,fun i hi hi2=> ?_⟩;by_cases e:i=k
 ·rw[e]at hi2;exact absurd hi2 hc
 exact h4 i (by omega) hi2
theorem BestU.first{l out:List Ru}{k:Nat}(h:BestU l out k (-1))(hc:Cand out (at' l k)):BestU l out (k+1) k:=by
 rcases h with⟨h1,h2⟩|⟨b,h1,h2,h3,h4⟩
 ·refine .inr ⟨k,by omega,rfl,hc,fun i hi hi2=> ?_⟩;by_cases e:i=k
  ·rw[e,linR.self];exact Int.le_refl 0
  exact absurd hi2 (h2 i (by omega))
 omega
theorem BestU.less{l out:List Ru}{k b:Nat}(h:BestU l out k b)(hc:Cand out (at' l k))(ho:ordR (at' l k) (at' l b)<0):BestU l out (k+1) k:=by
 rcases h with⟨h1,h2⟩|⟨b',h1,h2,h3,h4⟩
 ·omega
 have:b=b':=by omega
 subst this;refine .inr ⟨k,by omega,rfl,hc,fun i hi hi2=> ?_⟩;by_cases e:i=k
 ·rw[e,linR.self];exact Int.le_refl 0
 have:=linR.lt_le ho (h4 i (by omega) hi2);omega
theorem BestU.same{l out:List Ru}{k b:Nat}(h:BestU l out k b)(ho:¬ordR (at' l k) (at' l b)<0):BestU l out (k+1) b:=by
 rcases h with⟨h1,h2⟩|⟨b',h1,h2,h3,h4⟩
 ·omega
 have:b=b':=by omega
 subst this;refine .inr ⟨b,by omega,rfl,h3,fun i hi hi2=> ?_⟩;by_cases e:i=k
 ·rw[e];have:=linR.anti (at' l b) (at' l k);omega
 exact h4 i (by omega) hi2
theorem BestU.lt{l out:List Ru}{k b:Nat}(h:BestU l out k b):b<k:=by
 rcases h with⟨h1,h2⟩|⟨b',h1,h2,h3,h4⟩<;>omega
theorem BestU.cases{l out:List Ru}{k:Nat}{best:Int}(h:BestU l out k best):best= -1∨∃b:Nat,best=b∧b<k:=by
 rcases h with⟨h1,h2⟩|⟨b',h1,h2,h3,h4⟩
 ·exact .inl h1
 exact .inr ⟨b',h2,h1⟩
theorem BestU.done{l out:List Ru}(h:BestU l out l.length (-1))(hs:SelG ordR l out):DistG ordR l out:=by
 rcases h with⟨h1,h2⟩|⟨b',h1,h2,h3,h4⟩
 ·refine hs.done fun c hc=> ?_
  obtain⟨i,hi,rfl⟩:=mem_at hc;exact h2 i hi
 omega
theorem BestU.next{l out:List Ru}{b:Nat}(h:BestU l out l.length b)(hs:SelG ordR l out):SelG ordR l (out++[at' l b]):=by
 rcases h with⟨h1,h2⟩|⟨b',h1,h2,h3,h4⟩
 ·omega
 have:b=b':=by omega
 subst this;refine hs.next linR (at_mem h1) h3 fun c hc hc2=> ?_
 obtain⟨i,hi,rfl⟩:=mem_at hc;exact h4 i hi hc2
end Go.Proofs.YtddemlfepjkgoaaGreat
namespace Go.Proofs.YtddemlfepjkgoaaGreat
open Go.RowKit
variable{L:Nat}
variable{L:Nat}
end Go.Proofs.YtddemlfepjkgoaaGreat
namespace Go.Proofs.YtddemlfepjkgoaaGreat
theorem ordC_id{a b:C}(h:ordC a b<0):ordP (idC a) (idC b)<0∨(idC a=idC b∧ordL a.args b.args<0):=by
 unfold ordC at h;unfold ordP thenO idC;simp only;by_cases h1:ordI a.arch b.arch=0
 ·rw[if_neg (by simpa using h1)]at h;rw[if_pos h1];by_cases h2:ordI a.nr b.nr=0
  ·rw[if_neg (by simpa using h2)]at h;exact .inr ⟨by rw[ordI_zero h1,ordI_zero h2],h⟩
  rw[if_pos (by simpa using h2)]at h;exact .inl h
 rw[if_pos (by simpa using h1)]at h;rw[if_neg h1];exact .inl h
def sameC(l:List C)(i:Id2):List C:=l.filter fun c=>decide (idC c=i)
theorem group_dist{l cs:List C}(h:IsDist cs l)(i:Id2):DistG ordL (groupOf cs i) (groupOf l i):=by
 refine⟨?_,fun a=> ?_⟩
 ·unfold AscG groupOf;rw[List.pairwise_map];refine(List.Pairwise.filter _ h.1).imp_of_mem ?_;intro a b ha hb hab;rcases ordC_id hab with g|⟨_,g⟩
  ·have e1:=of_decide_eq_true (List.mem_filter.1 ha).2;have e2:=of_decide_eq_true (List.mem_filter.1 hb).2;rw[e1,e2,linP.self]at g;omega
  exact g
 unfold groupOf;simp only[List.mem_map,List.mem_filter];constructor
 ·rintro⟨c,⟨h1,h2⟩,rfl⟩;exact⟨c,⟨(h.2 c).1 h1,h2⟩,rfl⟩
 rintro⟨c,⟨h1,h2⟩,rfl⟩;exact⟨c,⟨(h.2 c).2 h1,h2⟩,rfl⟩
def idE(e:E):Id2:=(e.arch,e.nr)
structure LrnI(l:List C)(ex sp f:Int)(i:Nat)(es:List E):Prop where
 asc:AscG ordP (es.map idE)
 mem:∀x,x∈es.map idE↔x∈(l.take i).map idC
 rul:∀e∈es,IsRules (groupOf l (idE e)) ex sp f e.rules
theorem LrnI.zero(l:List C)(ex sp f:Int):LrnI l ex sp f 0 []:=⟨List.Pairwise.nil,fun x=>by simp,fun e he=>by cases he⟩
theorem take_ids{l:List C}{i:Nat}(h:i<l.length):(l.take (i+1)).map idC=(l.take i).map idC++[idC (l.getD i C.zero)]:=by
 rw[List.take_add_one,List.map_append,List.getElem?_eq_getElem h,List.getD_eq_getElem?_getD,List.getElem?_eq_getElem h];rfl
theorem LrnI.skip{l:List C}{ex sp f:Int}{i:Nat}{es:List E}(h:LrnI l ex sp f (i+1) es)(hi:i+1<l.length)(hs:idC (l.getD (i+1) C.zero)=idC (l.getD i C.zero)):LrnI l ex sp f (i+1+1) es:=by
 refine⟨h.asc,fun x=> ?_,h.rul⟩;rw[take_ids hi,List.mem_append,h.mem x,List.mem_singleton];constructor
 ·exact .inl
 rintro(g|rfl)
 ·exact g
 rw[hs,take_ids (by omega)];simp
theorem getD_C{l:List C}{i:Nat}(h:i<l.length):l.getD i C.zero=l[i]:=by
 rw[List.getD_eq_getElem?_getD,List.getElem?_eq_getElem h];rfl
theorem LrnI.next {l : List C} {ex sp f : Int} {i : Nat} {es : List E} (hl : Asc l) (h : LrnI l ex sp f i es) (hi : i < l.length) (hs : i = 0 ∨ idC (l.getD i C.zero) ≠ idC (l.getD (i - 1) C.zero)) {rs : List Ru} (hr : IsRules (groupOf l (idC (l.getD i C.zero))) ex sp f rs) : LrnI l ex sp f (i + 1) (es ++ [⟨(l.getD i C.zero).arch, (l.getD i C.zero).nr, rs⟩]) := by
  have hlt : ∀ j, j < i -> ordP (idC (l.getD j C.zero)) (idC (l.getD i C.zero)) < 0 := fun j hj => by
    have key : ∀ a b, a < b -> b < l.length -> ordC (l.getD a C.zero) (l.getD b C.zero) < 0 := fun a b hab hb => by
      rw [getD_C hb, getD_C (by omega)]
      exact List.pairwise_iff_getElem.1 hl a b (by omega) hb hab
    rcases hs with hs | hs
    · omega
    · have h1 : ordP (idC (l.getD (i - 1) C.zero)) (idC (l.getD i C.zero)) < 0 := by
        rcases ordC_id (key (i - 1) i (by omega) hi) with g | ⟨g, _⟩
        · exact g
        · exact absurd g.symm hs
      by_cases e : j = i - 1
      · rw [e]; exact h1
      · rcases ordC_id (key j (i - 1) (by omega) (by omega)) with g | ⟨g, _⟩
        · exact linP.trans _ _ _ g h1
        · rw [g]; exact h1
  refine ⟨?_, fun x => ?_, fun e he => ?_⟩
  · rw [List.map_append]
    refine List.pairwise_append.2 ⟨h.asc, by simp, fun a ha b hb => ?_⟩
    simp only [List.map_cons, List.map_nil, List.mem_singleton] at hb
    subst hb
    obtain ⟨c, hc, rfl⟩ := List.mem_map.1 ((h.mem a).1 ha)
    obtain ⟨j, hj, rfl⟩ := List.getElem_of_mem hc
    have hj2 : j < i := by rw [List.length_take] at hj; omega
    rw [List.getElem_take, <- getD_C (by omega)]
    exact hlt j hj2
  · rw [take_ids hi, List.map_append, List.mem_append, List.mem_append, h.mem x]; rfl
  · rw [List.mem_append, List.mem_singleton] at he
    rcases he with he | rfl
    · exact h.rul e he
    · exact hr
theorem LrnI.done{cs l:List C}{ex sp f:Int}{es:List E}(hd:IsDist cs l)(h:LrnI l ex sp f l.length es):IsLearn cs ex sp f es:=by
 refine⟨es.map idE,⟨h.asc,fun x=> ?_⟩,by rw[List.length_map],fun i hi=> ?_⟩
 ·rw[h.mem x,List.take_length];simp only[List.mem_map];constructor
  ·rintro⟨c,h1,rfl⟩;exact⟨c,(hd.2 c).1 h1,rfl⟩
  rintro⟨c,h1,rfl⟩;exact⟨c,(hd.2 c).2 h1,rfl⟩
 rw[List.length_map]at hi;have e1:es.getD i E.zero=es[i]:=by rw[List.getD_eq_getElem?_getD,List.getElem?_eq_getElem hi];rfl
 have e2:(es.map idE).getD i (0,0)=idE es[i]:=by rw[List.getD_eq_getElem?_getD,List.getElem?_eq_getElem (by rw[List.length_map];exact hi)];simp
 rw[e1,e2];exact⟨rfl,_,group_dist hd _,h.rul _ (List.getElem_mem hi)⟩
end Go.Proofs.YtddemlfepjkgoaaGreat
namespace Go.Proofs.YtddemlfepjkgoaaGreat
open Go.RowKit Go.Deep
theorem infoAL:(Tryz.prog.info? 71).map (fun i=>(i.zero,i.size,i.bytes))=some (some (.agg #[.int .u64 0,.int .u64 0,.int .u64 0,.int .u64 0,.int .u64 0,.int .u64 0]),6,48):=by kernel_rfl
theorem run_arr(b o c:Nat)(w:World):(Instr.arrayAt 71 (.slice (some ⟨b,o,none⟩) 6 c)).run Tryz.prog w=.ok (.pointer (some ⟨b,o,none⟩)) w:=by
 simp[Instr.arrayAt,go_sem,run_underlying Tryz.underlying71]
def GatP(cs:List C)(w:World)(e:Ending)(w':World):Prop:=∃m os,e=.returned (.map (some m))∧w.heap.size<=m∧GrpS w' m os∧IsGrp cs (fun i=>i∈cs.map idC) (glG os)∧os.length<=cs.length∧Below w.heap.size w w'
theorem take_C{l:List C}{k:Nat}(h:k<l.length):l.take (k+1)=l.take k++[l.getD k C.zero]:=by
 rw[List.take_add_one,List.getElem?_eq_getElem h,<-getD_C h];rfl
theorem gatherCalls_any(cs:List C)(a:Option Addr)(cap:Nat)(w:World)(hs:CSrc w a cs)(hc:∀c∈cs,okLa c.args)(hn:cs.length<=1000):
 Calls Tryz.prog 23 #[.slice a cs.length cap] w (GatP cs w):=by
 obtain⟨i0,hi,hz0,hz1,hz2⟩:=info_parts infoAL;have HP:Hid (∀wr,Below w.heap.size w wr->∀i,i<cs.length->∃b o b' o' c',a=some ⟨b,o,none⟩∧wr.cell? ⟨b,o+i*3,none⟩=some (.int .u32 (cs.getD i C.zero).arch)∧wr.cell? ⟨b,o+i*3+1,none⟩=some (.int .u32 (cs.getD i C.zero).nr)∧wr.cell? ⟨b,o+i*3+2,none⟩=some (.slice (some ⟨b',o',none⟩) 6 c')∧USrc wr (some ⟨b',o',none⟩) (cs.getD i C.zero).args∧(cs.getD i C.zero).args.length=6):=fun wr hb i hi=>by
  obtain⟨b,o,b',o',c',h1,_,h2,h3,h4,h5,_⟩:=csrc_six (hs.below hb) hc hi;exact⟨b,o,b',o',c',h1,h2,h3,h4,h5,(hc _ (callL_mem hi)).1⟩
 have HT:Hid (∀k,k<cs.length->cs.take (k+1)=cs.take k++[cs.getD k C.zero]):=fun k hk=>take_C hk
 have HE:Hid (cs.take cs.length=cs):=List.take_length;obtain⟨fc,hfc⟩:∃fc:Nat->C,∀i,cs.getD i C.zero=fc i:=⟨_,fun _=>rfl⟩;obtain⟨n,hnl⟩:∃n,cs.length=n:=⟨_,rfl⟩;simp only[hfc,hnl]at HP HT HE hn⊢;have hmm:= @run_makeMap Tryz.prog;have hF:Hid (∀e w',(∃m os,e=.returned (.map (some m))∧w.heap.size<=m∧GrpS w' m os∧IsGrp cs (fun i=>i∈cs.map idC) (glG os)∧os.length<=n∧Below w.heap.size w w')->GatP cs w e w'):=fun e w' h=>by rw[<-hnl]at h;exact h
 clear hfc hs hnl;go_enter Tryz.func23,Tryz.ntmps23;have G0:GrpS (w.alloc (.map #[] 0)) w.heap.size []:=⟨heap_alloc_new w _,⟨by simp,by simp⟩⟩;have B0:Below w.heap.size w (w.alloc (.map #[] 0)):=(Below.refl _ _).alloc (Nat.le_refl _) _;go_wp2_with fail;generalize w.alloc (.map #[] 0)=W0 at*;go_loopw [10](fun i wr=>∃(k:Nat)(os:List GEl),k<=n∧i=.int .i64 k∧GrpS wr w.heap.size os∧os.length<=k∧Hid (IsGrp (cs.take k) (fun i=>i∈(cs.take k).map idC) (glG os))∧Below w.heap.size w wr)(fun i _=>n-(intOf i).toNat)
 case atStart=>exact⟨0,[],by omega,rfl,G0,by simp,IsGrp.start,B0⟩
 case round=>
  clear G0 B0;obtain⟨k,os,hk,rfl,hS,hol,HG,B⟩:=hrel;rename World=>wr
  by_cases hkn:k<n
  ·obtain⟨b,o,b',o',c',rfl,d0,d1,d2,hu,h6⟩:=HP.out wr B k hkn;have hkn':(k:Int)<(n:Int):=by omega
   have hbw:w.heap.size<wr.heap.size:=hS.lt;have B2:Below wr.heap.size wr ((wr.alloc (.cells #[.int .u32 (fc k).arch,.int .u32 (fc k).nr,.slice (some ⟨b',o',none⟩) 6 c'] 39)).alloc (.cells #[.int .u32 (fc k).arch,.int .u32 (fc k).nr] 61)):=((Below.refl _ _).alloc (Nat.le_refl _) _).alloc (by simp) _;have X3:=(Box3.new wr 39 (.int .u32 (fc k).arch) (.int .u32 (fc k).nr) (.slice (some ⟨b',o',none⟩) 6 c')).alloc (.cells #[.int .u32 (fc k).arch,.int .u32 (fc k).nr] 61);have hu':∀j,j<6->wr.cell? ⟨b',o'+j,none⟩=some (.int .u64 ((fc k).args.getD j 0)):=fun j hj=>by
    obtain⟨b2,o2,e,h⟩:=usrc_at hu (by omega)
    cases e;exact h j (by omega)
   have HE1:Hid _:=HT.out k hkn;have hx0:=hu' 0 (by omega);rw[Nat.add_zero]at hx0;have hx1:=hu' 1 (by omega);have hx2:=hu' 2 (by omega);have hx3:=hu' 3 (by omega);have hx4:=hu' 4 (by omega);have hx5:=hu' 5 (by omega);have HQ:Hid (((wr.alloc (.cells #[.int .u32 (fc k).arch,.int .u32 (fc k).nr,.slice (some ⟨b',o',none⟩) 6 c'] 39)).alloc (.cells #[.int .u32 (fc k).arch,.int .u32 (fc k).nr] 61)).cell? ⟨wr.heap.size+1,0,none⟩=some (.int .u32 (fc k).arch)∧((wr.alloc (.cells #[.int .u32 (fc k).arch,.int .u32 (fc k).nr,.slice (some ⟨b',o',none⟩) 6 c'] 39)).alloc (.cells #[.int .u32 (fc k).arch,.int .u32 (fc k).nr] 61)).cell? ⟨wr.heap.size+1,1,none⟩=some (.int .u32 (fc k).nr)):=by
    have e:=heap_alloc_new (wr.alloc (.cells #[.int .u32 (fc k).arch,.int .u32 (fc k).nr,.slice (some ⟨b',o',none⟩) 6 c'] 39)) (.cells #[.int .u32 (fc k).arch,.int .u32 (fc k).nr] 61);rw[show(wr.alloc (.cells #[.int .u32 (fc k).arch,.int .u32 (fc k).nr,.slice (some ⟨b',o',none⟩) 6 c'] 39)).heap.size=wr.heap.size+1 by simp]at e;exact⟨by rw[cell_of_row _ _ _ _ _ _ e];rfl,by rw[cell_of_row _ _ _ _ _ _ e];rfl⟩
   go_upto_region 6 with fail
   generalize(wr.alloc (.cells #[.int .u32 (fc k).arch,.int .u32 (fc k).nr,.slice (some ⟨b',o',none⟩) 6 c'] 39)).alloc (.cells #[.int .u32 (fc k).arch,.int .u32 (fc k).nr] 61)=W2 at*;obtain⟨q0,q1⟩:=HQ.out;replace hx0:=cell_step B2 hx0;replace hx1:=cell_step B2 hx1;replace hx2:=cell_step B2 hx2;replace hx3:=cell_step B2 hx3;replace hx4:=cell_step B2 hx4;replace hx5:=cell_step B2 hx5;have HEn:Hid (∃(q:Nat)(ls:List La)(v:Value)(w1:World),(Instr.mapEntry 54 (.map (some w.heap.size)) (.agg #[.int .u32 (fc k).arch,.int .u32 (fc k).nr])).run Tryz.prog (W2.alloc (.cells #[.int .u64 ((fc k).args.getD 0 0),.int .u64 ((fc k).args.getD 1 0),.int .u64 ((fc k).args.getD 2 0),.int .u64 ((fc k).args.getD 3 0),.int .u64 ((fc k).args.getD 4 0),.int .u64 ((fc k).args.getD 5 0)] 71)).drew=.ok (.tuple #[v,Value.int .i64 (q:Int)]) w1∧
    w1.ownsRow (w.heap.size+1) 71 6 v ls.length (ls.flatMap xs6)∧w1.heap[W2.heap.size]? =some (.cells #[.int .u64 ((fc k).args.getD 0 0),.int .u64 ((fc k).args.getD 1 0),.int .u64 ((fc k).args.getD 2 0),.int .u64 ((fc k).args.getD 3 0),.int .u64 ((fc k).args.getD 4 0),.int .u64 ((fc k).args.getD 5 0)] 71 (0,0))∧w1.heap.size=W2.heap.size+1∧w.heap.size+1<=w1.heap.size∧ls.length<=1000∧
    ∀gg cap w1',w1'.ownsRow (w.heap.size+1) 71 6 (.slice (some ⟨gg,0,none⟩) (ls.length+1) cap) (ls.length+1) (ls.flatMap xs6++[.int .u64 ((fc k).args.getD 0 0),.int .u64 ((fc k).args.getD 1 0),.int .u64 ((fc k).args.getD 2 0),.int .u64 ((fc k).args.getD 3 0),.int .u64 ((fc k).args.getD 4 0),.int .u64 ((fc k).args.getD 5 0)])->w1.grownBy w1' v.ownBlock->(v.ownBlock=some gg∨gg=W2.heap.size+1)->
     ∃(w2:World)(os':List GEl),(Instr.entryStore 54 (.map (some w.heap.size)) (.int .i64 (q:Int)) (.slice (some ⟨gg,0,none⟩) (ls.length+1) cap)).run Tryz.prog w1'=.ok () w2∧GrpS w2 w.heap.size os'∧os'.length<=k+1∧Hid (IsGrp (cs.take (k+1)) (fun i=>i∈(cs.take (k+1)).map idC) (glG os'))∧Below w.heap.size w w2):=by
    have hBd:=(below_step B2 B).drew;have hA:=hBd.alloc (by have:=hBd.size;simpa using this) (.cells #[.int .u64 ((fc k).args.getD 0 0),.int .u64 ((fc k).args.getD 1 0),.int .u64 ((fc k).args.getD 2 0),.int .u64 ((fc k).args.getD 3 0),.int .u64 ((fc k).args.getD 4 0),.int .u64 ((fc k).args.getD 5 0)] 71);have hG3:=(hS.keep B2.drew).keep ((Below.refl _ _).alloc (Nat.le_refl _) (.cells #[.int .u64 ((fc k).args.getD 0 0),.int .u64 ((fc k).args.getD 1 0),.int .u64 ((fc k).args.getD 2 0),.int .u64 ((fc k).args.getD 3 0),.int .u64 ((fc k).args.getD 4 0),.int .u64 ((fc k).args.getD 5 0)] 71));obtain⟨os1,q,ls,v,w1,r1,g1,g2,g3,g4,g5,g6,g7⟩:=hG3.entry HG.out (idC (fc k));have hown:=g1.rows.own (ls,v) (List.mem_map.2 ⟨_,List.mem_of_getElem? g2,rfl⟩);have hsz:=g5;simp at hsz;have hlt:=g1.lt;refine⟨q,ls,v,w1,r1,hown,?_,hsz,hlt,?_,?_⟩
    ·rw[g6 _ (by have:=B2.size;omega)];exact heap_alloc_new _ _
    ·have e:=g3.2.1 (idC (fc k),ls) (List.mem_map.2 ⟨_,List.mem_of_getElem? g2,rfl⟩);simp only at e;have h1:(groupOf (cs.take k) (idC (fc k))).length<=(cs.take k).length:=by unfold groupOf;rw[List.length_map];exact List.length_filter_le _ _
     rw[List.length_take]at h1;rw[e];omega
    intro gg cap' w1' ho hgr hat;obtain⟨w2,r2,k1,k2,k3⟩:=g1.store g3 g2 (Nat.le_refl _) (fun _ _=>rfl) hgr ho (hat.imp (fun e=>e.symm) fun e=>⟨gg,rfl,by omega⟩);refine⟨w2,_,r2,k1,by rw[List.length_set];omega,by rw[HE1.out];exact k2,?_⟩;exact((hA.trans (g7.mono (Nat.le_refl _))).grown hgr (by omega) (fun t e=>by have:=(hown.lt t e).1;omega)).trans k3
   obtain⟨q,ls,v,w1,hr1,ho1,hb1,hs1,hz1',hl1,HNx⟩:=HEn.out;have HNx':Hid _:=HNx;clear HEn HNx HQ HP HT HE hF d0 d1 d2 B2 hu hu' hS HG B HE1;obtain⟨_,e0,e1,e2,_,_,_⟩:=X3;generalize(fc k).arch=ar at*;generalize(fc k).nr=nr at*;generalize(fc k).args.getD 0 0=x0 at*;generalize(fc k).args.getD 1 0=x1 at*;generalize(fc k).args.getD 2 0=x2 at*;generalize(fc k).args.getD 3 0=x3 at*;generalize(fc k).args.getD 4 0=x4 at*;generalize(fc k).args.getD 5 0=x5 at*;have hbm:ls.length+1<=maxLen:=by unfold maxLen;omega
   have hbd:(ls.length+1)*48<=140737488355328:=by omega
   have hra:=run_arr b' o' c';have qa0:=cell_step ((Below.refl _ _).alloc (Nat.le_refl _) (.cells #[.int .u64 x0,.int .u64 x1,.int .u64 x2,.int .u64 x3,.int .u64 x4,.int .u64 x5] 71)) q0;have qa1:=cell_step ((Below.refl _ _).alloc (Nat.le_refl _) (.cells #[.int .u64 x0,.int .u64 x1,.int .u64 x2,.int .u64 x3,.int .u64 x4,.int .u64 x5] 71)) q1;go_region_law(refine step_append_lies _ (by rfl) _ _ _ (by rfl) (w.heap.size+1) 71 i0 _ 6 48 Tryz.underlying66 hi hz0 hz1 hz2 rfl (by omega) v ls.length (ls.flatMap xs6) (by rfl) ho1 ⟨W2.heap.size,0,none⟩ 1 1 [.int .u64 x0,.int .u64 x1,.int .u64 x2,.int .u64 x3,.int .u64 x4,.int .u64 x5] (by rfl) (by rfl) (World.news_of_block (t:=71) (fr:=(0,0)) hb1) (by simp[Value.oneCell']) (by omega) hbm hbd hz1' (W2.heap.size+1) hs1 ?_;intro gg cap2 w1' hown1 hgrow hat hlt2;obtain⟨w2,os',hr2,y1,y2,y3,y4⟩:=HNx'.out gg cap2 w1' hown1 hgrow hat);all_goals
    have HG9:Hid _:=y3;clear hr1 hr2 HNx' ho1 hown1 hgrow hat hlt2 hb1 hs1 hz1' y3 hx0 hx1 hx2 hx3 hx4 hx5 e0 e1 e2 q0 q1 qa0 qa1 hra hbm hbd;go_wp2;go_roundw
    case rel=>exact⟨k+1,os',by omega,by go_num,y1,y2,HG9.out,y4⟩
    case measure=>simp[intOf];omega
  have hk':k=n:=by omega
  subst hk';have hlt':¬(k:Int)<(k:Int):=by omega
  have HF:Hid (GatP cs w (.returned (.map (some w.heap.size))) wr):=hF.out _ _ ⟨_,os,rfl,Nat.le_refl _,hS,by have:=HG.out;rw[HE.out]at this;exact this,hol,B⟩;clear hS HG B HP HT HE hF;go_wp2;exact bodyPost_ret (v:=.map (some w.heap.size)) (by simp[results,Tryz.results23,go_sem]) rfl HF.out
end Go.Proofs.YtddemlfepjkgoaaGreat
