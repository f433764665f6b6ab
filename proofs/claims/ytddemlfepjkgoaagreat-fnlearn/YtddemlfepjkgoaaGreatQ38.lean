import Derived.Test.YtddemlfepjkgoaaGreatQ36
set_option linter.all false
set_option maxRecDepth 200000
set_option maxHeartbeats 16000000
namespace Go.Proofs.YtddemlfepjkgoaaGreat
open Go.RowKit
theorem kc_get(l:List K)(i:Nat)(h:i<l.length):(kCells l)[i*3]? =some (.int .i64 l[i].kind)∧(kCells l)[i*3+1]? =some (.int .u64 (l[i].a:Int))∧(kCells l)[i*3+2]? =some (.int .u64 (l[i].b:Int)):=by
 induction l generalizing i with
 |nil=>simp at h
 |cons x p ih=>
  have e:kCells (x::p)=[.int .i64 x.kind,.int .u64 (x.a:Int),.int .u64 (x.b:Int)]++kCells p:=by simp[kCells]
  rw[e];match i with
  |0=>simp
  |i+1=>
   have hi:i<p.length:=by simpa using h
   have:=ih i hi;rw[List.getElem?_append_right (by simp;omega),List.getElem?_append_right (by simp;omega),List.getElem?_append_right (by simp;omega)];simp only[List.length_cons,List.length_nil];rw[show(i+1)*3-(0+1+1+1)=i*3 by omega,show(i+1)*3+1-(0+1+1+1)=i*3+1 by omega,show(i+1)*3+2-(0+1+1+1)=i*3+2 by omega];simpa using this
theorem a3_apart{b o:Nat}:((a3 b o).map Prod.fst).Nodup:=by
 simp[a3]
theorem conA_nodup(b o:Nat):∀n,((conA b o n).map Prod.fst).Nodup
 |0=>by simp[conA]
 |n+1=>by
  rw[conA_succ,List.map_append,List.nodup_append];refine⟨conA_nodup b o n,a3_apart,fun x hx y hy=> ?_⟩;obtain⟨p,hp,rfl⟩:=List.mem_map.1 hx;have h1:=conA_mem hp;obtain⟨q,hq,rfl⟩:=List.mem_map.1 hy;intro e;simp only[a3,List.mem_cons,List.not_mem_nil,or_false]at hq;rw[e]at h1;rcases hq with rfl|rfl|rfl<;>simp only at h1<;>omega
theorem ownsK_sk{w:World}{B q:Nat}{v:Value}{l:List K}(h:ownsK w B v l)(hq:v.ownBlock=some q):∃cap,v=.slice (some ⟨q,0,none⟩) l.length cap∧SK w (some ⟨q,0,none⟩) l.length (conA q 0 l.length)∧LAt 3 PK w q 0 l∧q<w.heap.size:=by
 have h0:=h;have hlt:=h.lt q hq;obtain⟨_,h|⟨g,cap,cur,rfl,hb,hg,hr⟩⟩:=h
 ·rw[h.1]at hq;cases hq
 have:g=q:=by simpa[Value.ownBlock]using hq
 subst this;have key:=fun j(hj:j<l.length*3)=>World.ownsRow.cellAt h0 j hj
 have frz:=fun j=>World.ownsRow.frozenAt h0 j
 refine⟨cap,rfl,.inr ⟨g,0,rfl,rfl,fun x hx=> ?_⟩,fun i hi=> ?_,hlt.2⟩
 ·obtain⟨j,hj,hx⟩:=List.mem_flatMap.1 hx;have hj':=List.mem_range.1 hj;obtain⟨c0,c1,c2⟩:=kc_get l j hj';simp only[a3,List.mem_cons,List.not_mem_nil,or_false,Nat.zero_add]at hx;rcases hx with rfl|rfl|rfl
  ·exact⟨⟨_,(key _ (by omega)).trans c0⟩,frz _⟩
  ·exact⟨⟨_,(key _ (by omega)).trans c1⟩,frz _⟩
  exact⟨⟨_,(key _ (by omega)).trans c2⟩,frz _⟩
 obtain⟨c0,c1,c2⟩:=kc_get l i hi;rw[Nat.zero_add];exact⟨(key _ (by omega)).trans c0,(key _ (by omega)).trans c1,(key _ (by omega)).trans c2⟩
theorem nodup_flat{F:Nat->List AdK}{n:Nat}(h1:∀i,i<n->((F i).map Prod.fst).Nodup)(h2:∀i j,i<j->j<n->∀x∈F i,∀y∈F j,x.1≠y.1):(((List.range n).flatMap F).map Prod.fst).Nodup:=by
 induction n with
 |zero=>simp
 |succ n ih=>
  rw[flat_succ,List.map_append,List.nodup_append];refine⟨ih (fun i hi=>h1 i (by omega)) (fun i j hij hj=>h2 i j hij (by omega)),h1 n (by omega),fun x hx y hy=> ?_⟩;obtain⟨p,hp,rfl⟩:=List.mem_map.1 hx;obtain⟨q,hq,rfl⟩:=List.mem_map.1 hy;obtain⟨i,hi,hp⟩:=List.mem_flatMap.1 hp;exact h2 i n (List.mem_range.1 hi) (by omega) p hp q hq
theorem rsIn_sr {w : World} {lo hi : Nat} {v : Value} {l : List Ru} (h : RsIn w lo hi v l) (hn : l.length <= 1048576) (h6 : ∀ r ∈ l, r.length = 6) : ∃ a cap A, v = .slice a l.length cap ∧ SR w a l.length A ∧ (A.map Prod.fst).Nodup ∧ (∀ x ∈ A, lo <= x.1.block ∧ x.1.block < hi) ∧ A.length = l.length * 18 ∧ LSrc 1 PR w a l := by
  obtain ⟨vs, cb, gb, hO, hgb, hcb⟩ := h
  obtain ⟨cap, rfl⟩ := hO.form
  have hlt := hO.row.lt gb rfl
  have hc : ∀ i, i < l.length -> w.cell? ⟨gb, i, none⟩ = some (vs i) := fun i hi => by
    rw [World.ownsRow.cellAt hO.row i (by omega)]
    simp [hi]
  have h6' : ∀ i, i < l.length -> (l.getD i []).length = 6 := fun i hi => h6 _ (by rw [List.getD_eq_getElem?_getD, List.getElem?_eq_getElem hi]; exact List.getElem_mem hi)
  refine ⟨some ⟨gb, 0, none⟩, cap, (List.range l.length).flatMap fun i => conA (cb i) 0 6, rfl, ⟨hn, .inr ⟨gb, 0, rfl, _, rfl, fun i hi => ?_⟩⟩, nodup_flat (fun i hi => conA_nodup _ _ _) (fun i j hij hj x hx y hy e => ?_), fun x hx => ?_, ?_, .inr ⟨gb, 0, rfl, hlt.2, fun i hi => ?_⟩⟩
  · obtain ⟨cp, e, hsk, _⟩ := ownsK_sk (hO.own i hi).1 (hO.own i hi).2
    rw [h6' i hi] at e hsk
    exact ⟨_, 6, cp, by rw [Nat.zero_add, hc i hi, e], hsk⟩
  · have e1 := (conA_mem hx).1
    have e2 := (conA_mem hy).1
    rw [e, e2] at e1
    have := hO.inc i j hij hj
    omega
  · obtain ⟨i, hi, hx⟩ := List.mem_flatMap.1 hx
    have hi' := List.mem_range.1 hi
    rw [(conA_mem hx).1]
    exact ⟨((hO.own i hi').1.lt _ (hO.own i hi').2).1, hcb i hi'⟩
  · have : ∀ n, ((List.range n).flatMap fun i => conA (cb i) 0 6).length = n * 18 := by
      intro n
      induction n with
      | zero => rfl
      | succ n ih => rw [flat_succ, List.length_append, ih, conA_len]; omega
    exact this _
  · obtain ⟨cp, e, hsk, hlat, hq⟩ := ownsK_sk (hO.own i hi).1 (hO.own i hi).2
    have eg : l.getD i [] = l[i] := by rw [List.getD_eq_getElem?_getD, List.getElem?_eq_getElem hi]; rfl
    rw [eg] at e hlat
    exact ⟨_, cp, by rw [Nat.zero_add, Nat.mul_one, hc i hi, e], .inr ⟨_, 0, rfl, hq, hlat⟩⟩
theorem entCs_get(l:List E)(rv:Nat->Value)(i:Nat)(h:i<l.length):(entCs l rv)[i*3]? =some (.int .u32 (l.getD i E.zero).arch)∧(entCs l rv)[i*3+1]? =some (.int .u32 (l.getD i E.zero).nr)∧(entCs l rv)[i*3+2]? =some (rv i):=by
 have key:∀n,i<n->((List.range n).flatMap fun i=>entC (l.getD i E.zero) (rv i))[i*3]? =some (.int .u32 (l.getD i E.zero).arch)∧((List.range n).flatMap fun i=>entC (l.getD i E.zero) (rv i))[i*3+1]? =some (.int .u32 (l.getD i E.zero).nr)∧((List.range n).flatMap fun i=>entC (l.getD i E.zero) (rv i))[i*3+2]? =some (rv i):=by
  intro n;have hlen:∀n,((List.range n).flatMap fun i=>entC (l.getD i E.zero) (rv i)).length=n*3:=by
   intro n;induction n with
   |zero=>rfl
   |succ n ih=>rw[flat_succ,List.length_append,ih];simp[entC];omega
  induction n with
  |zero=>intro h;omega
  |succ n ih=>
   intro hn;rw[flat_succ];by_cases e:i=n
   ·subst e;rw[List.getElem?_append_right (by rw[hlen];omega),List.getElem?_append_right (by rw[hlen];omega),List.getElem?_append_right (by rw[hlen];omega),hlen];rw[show i*3-i*3=0 by omega,show i*3+1-i*3=1 by omega,show i*3+2-i*3=2 by omega];exact⟨rfl,rfl,rfl⟩
   rw[List.getElem?_append_left (by rw[hlen];omega),List.getElem?_append_left (by rw[hlen];omega),List.getElem?_append_left (by rw[hlen];omega)];exact ih (by omega)
 exact key _ h
theorem ownPs_se {w : World} {B C : Nat} {v : Value} {l : List E} {rv : Nat -> Value} {lo hi : Nat -> Nat} {gb : Nat} (h : OwnPs w B C v l rv lo hi gb) (hn : l.length <= 1000) (hm : ∀ e ∈ l, e.rules.length <= 200 ∧ ∀ r ∈ e.rules, r.length = 6) : ∃ a cap A, v = .slice a l.length cap ∧ SE w a l.length A ∧ (A.map Prod.fst).Nodup ∧ (∀ x ∈ A, x.1.block = gb ∨ ∃ i, i < l.length ∧ lo i <= x.1.block ∧ x.1.block < hi i) ∧ A.length <= 4000000 ∧ LSrc 3 PE w a l := by
  have hgb := h.row.lt gb h.ob
  obtain ⟨cap, rfl⟩ : ∃ cv, v = .slice (some ⟨gb, 0, none⟩) l.length cv := by
    have ho := h.ob
    obtain ⟨_, h | ⟨g, cap, cur, e, _⟩⟩ := h.row
    · rw [h.1] at ho; cases ho
    · have : g = gb := by rw [e] at ho; simpa [Value.ownBlock] using ho
      subst this
      exact ⟨cap, e⟩
  have key := fun j (hj : j < l.length * 3) => World.ownsRow.cellAt h.row j hj
  have frz := fun j => World.ownsRow.frozenAt h.row j
  have hmi : ∀ i, i < l.length -> (l.getD i E.zero).rules.length <= 200 ∧ ∀ r ∈ (l.getD i E.zero).rules, r.length = 6 := fun i hi => hm _ (by rw [List.getD_eq_getElem?_getD, List.getElem?_eq_getElem hi]; exact List.getElem_mem hi)
  have hch : ∀ i, ∃ A, i < l.length -> ∃ a' c', rv i = .slice a' (l.getD i E.zero).rules.length c' ∧ SR w a' (l.getD i E.zero).rules.length A ∧ (A.map Prod.fst).Nodup ∧ (∀ x ∈ A, lo i <= x.1.block ∧ x.1.block < hi i) ∧ A.length = (l.getD i E.zero).rules.length * 18 ∧ LSrc 1 PR w a' (l.getD i E.zero).rules := by
    intro i
    by_cases hi : i < l.length
    · obtain ⟨a', c', A, h1, h2, h3, h4, h5, h6⟩ := rsIn_sr (h.own i hi) (by have := (hmi i hi).1; omega) (hmi i hi).2
      exact ⟨A, fun _ => ⟨a', c', h1, h2, h3, h4, h5, h6⟩⟩
    · exact ⟨[], fun h => absurd h hi⟩
  obtain ⟨F, hF⟩ : ∃ F : Nat -> List AdK, ∀ i, i < l.length -> ∃ a' c', rv i = .slice a' (l.getD i E.zero).rules.length c' ∧ SR w a' (l.getD i E.zero).rules.length (F i) ∧ ((F i).map Prod.fst).Nodup ∧ (∀ x ∈ F i, lo i <= x.1.block ∧ x.1.block < hi i) ∧ (F i).length = (l.getD i E.zero).rules.length * 18 ∧ LSrc 1 PR w a' (l.getD i E.zero).rules := ⟨fun i => Classical.choose (hch i), fun i => Classical.choose_spec (hch i)⟩
  have hab : ∀ i, ∀ x ∈ a2 gb (0 + i * 3), x.1.block = gb ∧ i * 3 <= x.1.off ∧ x.1.off < i * 3 + 2 := fun i x hx => by
    simp only [a2, List.mem_cons, List.not_mem_nil, or_false, Nat.zero_add] at hx
    rcases hx with rfl | rfl <;> refine ⟨rfl, ?_, ?_⟩ <;> simp only <;> omega
  refine ⟨some ⟨gb, 0, none⟩, cap, entA gb 0 F l.length, rfl, ⟨by omega, .inr ⟨gb, 0, rfl, F, rfl, fun i hi => ?_⟩⟩, nodup_flat (fun i hi => ?_) (fun i j hij hj x hx y hy e => ?_), fun x hx => ?_, ?_, .inr ⟨gb, 0, rfl, hgb.2, fun i hi => ?_⟩⟩
  · obtain ⟨c0, c1, c2⟩ := entCs_get l rv i hi
    obtain ⟨a', c', e, hsr, _⟩ := hF i hi
    refine ⟨fun x hx => ?_, a', _, c', by rw [Nat.zero_add, key _ (by omega), c2, e], hsr⟩
    simp only [a2, List.mem_cons, List.not_mem_nil, or_false, Nat.zero_add] at hx
    rcases hx with rfl | rfl
    · exact ⟨⟨_, (key _ (by omega)).trans c0⟩, frz _⟩
    · exact ⟨⟨_, (key _ (by omega)).trans c1⟩, frz _⟩
  · obtain ⟨a', c', e, hsr, hnd, hbl, _⟩ := hF i hi
    rw [List.map_append, List.nodup_append]
    refine ⟨by simp [a2], hnd, fun x hx y hy => ?_⟩
    obtain ⟨p, hp, rfl⟩ := List.mem_map.1 hx
    obtain ⟨q, hq, rfl⟩ := List.mem_map.1 hy
    intro e
    have h1 := (hab i p hp).1
    rw [e] at h1
    have h2 := hbl q hq
    rcases h.out i hi with g | g <;> omega
  · have hi : i < l.length := by omega
    obtain ⟨_, _, _, _, _, hbi, _⟩ := hF i hi
    obtain ⟨_, _, _, _, _, hbj, _⟩ := hF j hj
    rw [List.mem_append] at hx hy
    rcases hx with hx | hx <;> rcases hy with hy | hy
    · have h1 := hab i x hx
      have h2 := hab j y hy
      rw [e] at h1
      omega
    · have h1 := hab i x hx
      have h2 := hbj y hy
      rw [e] at h1
      rcases h.out j hj with g | g <;> omega
    · have h1 := hbi x hx
      have h2 := hab j y hy
      rw [e] at h1
      rcases h.out i hi with g | g <;> omega
    · have h1 := hbi x hx
      have h2 := hbj y hy
      rw [e] at h1
      have := h.inc i j hij hj
      omega
  · obtain ⟨i, hi, hx⟩ := List.mem_flatMap.1 hx
    have hi' := List.mem_range.1 hi
    rw [List.mem_append] at hx
    rcases hx with hx | hx
    · exact .inl (hab i x hx).1
    · obtain ⟨_, _, _, _, _, hbi, _⟩ := hF i hi'
      exact .inr ⟨i, hi', hbi x hx⟩
  · have : ∀ n, n <= l.length -> (entA gb 0 F n).length <= n * 3602 := by
      intro n
      induction n with
      | zero => intro _; simp [entA]
      | succ n ih =>
        intro hn
        obtain ⟨_, _, _, _, _, _, hl, _⟩ := hF n (by omega)
        have h1 := ih (by omega)
        have h2 := (hmi n (by omega)).1
        rw [entA_succ, List.length_append, List.length_append, hl]
        simp only [a2, List.length_cons, List.length_nil]
        omega
    have := this l.length (Nat.le_refl _)
    omega
  · obtain ⟨c0, c1, c2⟩ := entCs_get l rv i hi
    obtain ⟨a', c', e, _, _, _, _, hls⟩ := hF i hi
    have eg : l.getD i E.zero = l[i] := by rw [List.getD_eq_getElem?_getD, List.getElem?_eq_getElem hi]; rfl
    rw [eg] at c0 c1 e hls
    rw [Nat.zero_add]
    exact ⟨(key _ (by omega)).trans c0, (key _ (by omega)).trans c1, a', c', by rw [key _ (by omega), c2, e], hls⟩
variable{L:Nat}
theorem OwnM.mono{w:World}{B B':Nat}{v:Value}{os:List (Ru×Value)}(h:OwnM L w B v os)(hB:B'<=B):OwnM L w B' v os:=⟨World.ownsRow.mono h.row hB,h.el⟩
def PEC(w:World)(b o:Nat)(e:E):Prop:=w.cell? ⟨b,o,none⟩=some (.int .u32 e.arch)∧w.cell? ⟨b,o+1,none⟩=some (.int .u32 e.nr)∧∃a cap,w.cell? ⟨b,o+2,none⟩=some (.slice a e.rules.length cap)∧e.rules.length<=cap∧LSrc 1 PR w a e.rules
theorem PEC.stays:Stays PEC:=fun w w' b o x hlt hb⟨h0,h1,a,cap,h2,h3,h4⟩=>⟨(hb.cell (p:=⟨b,_,none⟩) hlt).trans h0,(hb.cell (p:=⟨b,_,none⟩) hlt).trans h1,a,cap,(hb.cell (p:=⟨b,_,none⟩) hlt).trans h2,h3,h4.below PR.stays hb⟩
theorem PEC.plain{w:World}{b o:Nat}{e:E}(h:PEC w b o e):PE w b o e:=by
 obtain⟨h0,h1,a,cap,h2,_,h3⟩:=h;exact⟨h0,h1,a,cap,h2,h3⟩
def PRI(lo hi:Nat)(w:World)(b o:Nat)(r:List K):Prop:=∃a cap,w.cell? ⟨b,o,none⟩=some (.slice a r.length cap)∧(r=[]∨∃b2 o2,a=some ⟨b2,o2,none⟩∧lo<=b2∧b2<hi∧LAt 3 PK w b2 o2 r)
def RsI(lo hi:Nat)(w:World)(a:Option Addr)(l:List Ru):Prop:=l=[]∨∃b o,a=some ⟨b,o,none⟩∧lo<=b∧b<hi∧LAt 1 (PRI lo hi) w b o l
theorem RsI.far{lo hi:Nat}{w w':World}{a:Option Addr}{l:List Ru}(h:RsI lo hi w a l)(hb:∀q,lo<=q->q<hi->w'.heap[q]? =w.heap[q]?):RsI lo hi w' a l:=by
 rcases h with h|⟨b,o,h1,h2,h3,h4⟩
 ·exact .inl h
 refine .inr ⟨b,o,h1,h2,h3,fun i hi=> ?_⟩;obtain⟨a2,cap2,g1,g2⟩:=h4 i hi;refine⟨a2,cap2,by simp only[World.cell?,hb b h2 h3]at g1⊢;exact g1,?_⟩;rcases g2 with g2|⟨b2,o2,e1,e2,e3,e4⟩
 ·exact .inl g2
 exact .inr ⟨b2,o2,e1,e2,e3,e4.blk (hb b2 e2 e3)⟩
theorem RsI.plain{lo hi:Nat}{w:World}{a:Option Addr}{l:List Ru}(h:RsI lo hi w a l)(hs:hi<=w.heap.size):LSrc 1 PR w a l:=by
 rcases h with h|⟨b,o,h1,h2,h3,h4⟩
 ·exact .inl h
 refine .inr ⟨b,o,h1,by omega,fun i hi=> ?_⟩;obtain⟨a2,cap2,g1,g2⟩:=h4 i hi;refine⟨a2,cap2,g1,?_⟩;rcases g2 with g2|⟨b2,o2,e1,e2,e3,e4⟩
 ·exact .inl g2
 exact .inr ⟨b2,o2,e1,by omega,e4⟩
theorem OwnM.rsI{L:Nat}{w:World}{v:Value}{os:List (Ru×Value)}(h:OwnM L w L v os):∃a cap,v=.slice a os.length cap∧RsI L w.heap.size w a (os.map Prod.fst)∧os.length<=cap:=by
 obtain⟨a,cap,rfl,hcap,hs⟩:=h.src;refine⟨a,cap,rfl,?_,hcap⟩;rcases hs with hs|⟨b,o,rfl,h2,h3⟩
 ·exact .inl hs
 by_cases e:os=[]
 ·subst e;exact .inl rfl
 have hpos:0<os.length:=List.length_pos_iff.2 e;obtain⟨g,c,e2⟩:=own_pos h.row hpos;have hlt:=h.row.lt g (by rw[e2];rfl);injection e2 with e3 e4 e5
 injection e3 with e3
 injection e3 with e6 e7 e8
 subst e6;exact .inr ⟨b,o,rfl,hlt.1,h2,h3⟩
def goodE(G:Nat)(w:World)(v:Value)(p:E×Value):Prop:=∃lo hi a cap,p.2=.slice a p.1.rules.length cap∧RsI lo hi w a p.1.rules∧G<lo∧hi<=w.heap.size∧(∀q,v.ownBlock=some q->q<lo∨hi<=q)∧p.1.rules.length<=cap
theorem goodE.far{G:Nat}{w w':World}{v v':Value}{p:E×Value}(h:goodE G w v p)(hs:w.heap.size<=w'.heap.size)(hb:∀q,G<q->q<w.heap.size->v.ownBlock≠some q->w'.heap[q]? =w.heap[q]?)(hv:∀q,v'.ownBlock=some q->v.ownBlock=some q∨w.heap.size<=q):goodE G w' v' p:=by
 obtain⟨lo,hi,a,cap,h1,h2,h3,h4,h5,h6⟩:=h;refine⟨lo,hi,a,cap,h1,h2.far fun q hq hq2=>hb q (by omega) (by omega) fun e=> ?_,h3,by omega,fun q hq=> ?_,h6⟩
 ·rcases h5 q e with g|g<;>omega
 rcases hv q hq with g|g
 ·exact h5 q g
 right;omega
def entM(p:E×Value):List Value:=[.int .u32 p.1.arch,.int .u32 p.1.nr,p.2]
theorem em_next {G gg n cap : Nat} {w w9 w1 : World} {v : Value} {os : List (E × Value)} {p : E × Value} {o : Obj} {x : Value} (h : ∀ q ∈ os, goodE G w v q) (hb : Below w.heap.size w w9) (hp : goodE G w9 v p) (hg : (w9.alloc o).grownBy w1 v.ownBlock) (hat : v.ownBlock = some gg ∨ gg = w9.heap.size + 1) :
    ∀ q ∈ os ++ [p], goodE G (w1.setCell ⟨G, 0, none⟩ x) (.slice (some ⟨gg, 0, none⟩) n cap) q := by
  have key : ∀ q, goodE G w9 v q -> goodE G (w1.setCell ⟨G, 0, none⟩ x) (.slice (some ⟨gg, 0, none⟩) n cap) q := by
    intro q hq
    have hsz : (w9.alloc o).heap.size = w9.heap.size + 1 := by simp
    refine hq.far ?_ (fun q hG hq2 hne => ?_) (fun q hq2 => ?_)
    · have := hg.size
      simp only [World.setCell, Array.size_modify]; omega
    · have e1 : (w1.setCell ⟨G, 0, none⟩ x).heap[q]? = w1.heap[q]? := by
        simp only [World.setCell, Array.getElem?_modify]; rw [if_neg (by omega)]
      have e2 := hg.block q (by omega) (fun e => hne e.symm)
      have e3 : (w9.alloc o).heap[q]? = w9.heap[q]? := ((Below.refl w9.heap.size w9).alloc (Nat.le_refl _) o).block q hq2
      rw [e1, e2, e3]
    · have e : gg = q := by simpa [Value.ownBlock] using hq2
      subst e
      rcases hat with g | g
      · exact .inl g
      · right; omega
  intro q hq
  rw [List.mem_append, List.mem_singleton] at hq
  rcases hq with hq | rfl
  · exact key q ((h q hq).far hb.size (fun q _ hq2 _ => hb.block q hq2) (fun q hq => .inl hq))
  · exact key _ hp
theorem entM_get(os:List (E×Value))(i:Nat)(h:i<os.length):(os.flatMap entM)[i*3]? =some (.int .u32 os[i].1.arch)∧(os.flatMap entM)[i*3+1]? =some (.int .u32 os[i].1.nr)∧(os.flatMap entM)[i*3+2]? =some os[i].2:=by
 induction os generalizing i with
 |nil=>simp at h
 |cons x p ih=>
  have e:(x::p).flatMap entM=[.int .u32 x.1.arch,.int .u32 x.1.nr,x.2]++p.flatMap entM:=by simp[entM]
  rw[e];match i with
  |0=>simp
  |i+1=>
   have hi:i<p.length:=by simpa using h
   have:=ih i hi;rw[List.getElem?_append_right (by simp;omega),List.getElem?_append_right (by simp;omega),List.getElem?_append_right (by simp;omega)];simp only[List.length_cons,List.length_nil];rw[show(i+1)*3-(0+1+1+1)=i*3 by omega,show(i+1)*3+1-(0+1+1+1)=i*3+1 by omega,show(i+1)*3+2-(0+1+1+1)=i*3+2 by omega];simpa using this
theorem ents_src{G B n:Nat}{w:World}{v:Value}{os:List (E×Value)}(h:w.ownsRow B 78 3 v n (os.flatMap entM))(hn:n=os.length)(hg:∀p∈os,goodE G w v p):∃a cap,v=.slice a n cap∧LSrc 3 PEC w a (os.map Prod.fst)∧n<=cap:=by
 have h0:=h;obtain⟨_,⟨rfl,rfl⟩|⟨g,cap,cur,rfl,hb,hgc,hncap,hm⟩⟩:=h
 ·have:os=[]:=List.eq_nil_of_length_eq_zero hn.symm;subst this;exact⟨none,0,rfl,.inl rfl,Nat.le_refl _⟩
 refine⟨_,_,rfl,.inr ⟨g,0,rfl,(Array.getElem?_eq_some_iff.1 hgc).1,fun i hi=> ?_⟩,hncap⟩;have hi':i<os.length:=by simpa using hi
 obtain⟨c0,c1,c2⟩:=entM_get os i hi';have key:=fun j(hj:j<n*3)=>World.ownsRow.cellAt h0 j hj
 obtain⟨lo,hi2,a,cap2,e1,e2,e3,e4,e5,e6⟩:=hg _ (List.getElem_mem hi');have e:(os.map Prod.fst)[i]=os[i].1:=by simp
 rw[e,Nat.zero_add];refine⟨(key _ (by omega)).trans c0,(key _ (by omega)).trans c1,a,cap2,?_,e6,e2.plain e4⟩;rw[key _ (by omega),c2];exact congrArg some e1
def MnTo(p out:List E)(k:Nat):Prop:=out.length=k∧∀i,i<k->(out.getD i E.zero).arch=(p.getD i E.zero).arch∧(out.getD i E.zero).nr=(p.getD i E.zero).nr∧IsSmall (p.getD i E.zero).rules (out.getD i E.zero).rules
theorem MnTo.next {p out : List E} {k : Nat} {e : E} (h : MnTo p out k) (h1 : e.arch = (p.getD k E.zero).arch) (h2 : e.nr = (p.getD k E.zero).nr) (hs : IsSmall (p.getD k E.zero).rules e.rules) : MnTo p (out ++ [e]) (k + 1) := by
  refine ⟨by simp [h.1], fun i hi => ?_⟩
  by_cases g : i = k
  · subst g
    have e2 : (out ++ [e]).getD i E.zero = e := by
      rw [List.getD_eq_getElem?_getD, List.getElem?_append_right (by rw [h.1]; exact Nat.le_refl _), h.1]; simp
    rw [e2]; exact ⟨h1, h2, hs⟩
  · have e2 : (out ++ [e]).getD i E.zero = out.getD i E.zero := by
      rw [List.getD_eq_getElem?_getD, List.getElem?_append_left (by rw [h.1]; omega), List.getD_eq_getElem?_getD]
    rw [e2]; exact h.2 i (by omega)
def RelMin(p out:List E):Prop:=(validP p=true∧IsMin p out)∨(validP p=false∧out=[])
theorem RelMin.uniq{p out out':List E}(h:RelMin p out)(h':RelMin p out'):out=out':=by
 rcases h with⟨h1,h2⟩|⟨h1,h2⟩<;>rcases h' with⟨k1,k2⟩|⟨k1,k2⟩
 ·exact h2.uniq k2
 ·rw[h1]at k1;cases k1
 ·rw[h1]at k1;cases k1
 rw[h2,k2]
theorem len_total{p:List E}(h:∀i,i<p.length->1<=(p.getD i E.zero).rules.length):p.length<=totalR p:=by
 induction p with
 |nil=>simp[totalR]
 |cons e p ih=>
  have h0:=h 0 (by simp);have:=ih (fun i hi=>by have:=h (i+1) (by simpa using hi);simpa using this);simp only[List.length_cons,totalR];simp at h0;omega
theorem valid_len{p:List E}(h:validP p=true):p.length<=1000:=by
 have h1:=len_total (p:=p) fun i hi=>(validE_parts (validP_parts h hi).1).1
 unfold validP at h;simp only[Bool.and_eq_true,decide_eq_true_eq]at h;omega
theorem RelMin.bounds{p out:List E}(ho:okP p)(h:RelMin p out):out.length<=1000∧∀e∈out,e.rules.length<=200∧∀r∈e.rules,r.length=6:=by
 rcases h with⟨h1,h2⟩|⟨h1,rfl⟩
 ·have f:=h2.facts h1 ho;refine⟨valid_len f.valid,fun e he=> ?_⟩;obtain⟨i,hi,rfl⟩:=List.getElem_of_mem he;have e1:out.getD i E.zero=out[i]:=by rw[List.getD_eq_getElem?_getD,List.getElem?_eq_getElem hi];rfl
  have h1:=validE_parts (validP_parts f.valid hi).1;rw[e1]at h1;exact⟨h1.2.1,fun r hr=>(vr_of ((f.ok _ he).2.2 r hr) (h1.2.2 r hr)).1⟩
 exact⟨by simp,by simp⟩
def GOwn(D D':Nat)(w:World)(a:Option Addr)(c:Nat)(out:List E):Prop:=out=[]∨∃rv lo hi gb,OwnPs w D D (.slice a out.length c) out rv lo hi gb∧gb<D'∧∀i,i<out.length->hi i<=D'
theorem GOwn.far{D D':Nat}{w w1:World}{a:Option Addr}{c:Nat}{out:List E}(h:GOwn D D' w a c out)(hs:w.heap.size<=w1.heap.size)(hb:∀q,D<=q->q<D'->w1.heap[q]? =w.heap[q]?):GOwn D D' w1 a c out:=by
 rcases h with h|⟨rv,lo,hi,gb,h1,h2,h3⟩
 ·exact .inl h
 have hg:=h1.row.lt gb h1.ob;refine .inr ⟨rv,lo,hi,gb,⟨row_blockK h1.row (fun q hq=>by rw[h1.ob]at hq;cases hq;exact hb _ hg.1 h2),h1.ob,fun i hi'=>(h1.own i hi').far (fun k a b=>hb k (by have:=(h1.lt i hi').1;omega) (by have:=h3 i hi';omega)),fun i hi'=>⟨(h1.lt i hi').1,Nat.le_trans (h1.lt i hi').2 hs⟩,h1.out,h1.inc⟩,h2,h3⟩
theorem GOwn.keep{D D':Nat}{w w1:World}{a:Option Addr}{c:Nat}{out:List E}(h:GOwn D D' w a c out)(hD:D'<=w.heap.size)(hb:Below w.heap.size w w1):GOwn D D' w1 a c out:=h.far hb.size fun q _ hq=>hb.block q (by omega)
theorem GOwn.read{D D':Nat}{w:World}{a:Option Addr}{c:Nat}{out:List E}(h:GOwn D D' w a c out)(hn:out.length<=1000)(hm:∀e∈out,e.rules.length<=200∧∀r∈e.rules,r.length=6):LSrc 3 PE w a out∧∃A,SE w a out.length A∧(A.map Prod.fst).Nodup∧(∀x∈A,D<=x.1.block∧x.1.block<D')∧A.length<=4000000:=by
 rcases h with rfl|⟨rv,lo,hi,gb,h1,h2,h3⟩
 ·exact⟨.inl rfl,[],⟨by simp,.inl ⟨rfl,rfl⟩⟩,by simp,by simp,by simp⟩
 obtain⟨a',cap,A,e,g1,g2,g3,g4,g5⟩:=ownPs_se h1 hn hm
 cases e;refine⟨g5,A,g1,g2,fun x hx=> ?_,g4⟩;rcases g3 x hx with q|⟨i,q1,q2,q3⟩
 ·rw[q];exact⟨(h1.row.lt gb h1.ob).1,h2⟩
 have:=(h1.lt i q1).1;have:=h3 i q1;exact⟨by omega,by omega⟩
def ImplM(p:List E)(w:World)(e:Ending)(w':World):Prop:=∃a cap out,RelMin p out∧e=.returned (.agg #[.slice a out.length cap])∧GOwn w.heap.size w'.heap.size w' a cap out∧Below w.heap.size w w'
theorem implMin_no(p:List E)(a:Option Addr)(cap:Nat)(w:World)(hs:LSrc 3 PE w a p)(ho:okP p)(hv:validP p=false)(hn:p.length<=16777216)(hm:∀e∈p,e.rules.length<=16777216)(hm2:∀e∈p,∀r∈e.rules,r.length<=16777216):
 Calls Tryz.prog 8 #[.agg #[.slice a p.length cap]] w fun e w'=>e=.returned (.agg #[.slice none 0 0])∧Below w.heap.size w w':=by
 have HV:Hid (∀w1,Below w.heap.size w w1->Calls Tryz.prog 7 #[.agg #[.slice a p.length cap]] w1 fun e w'=>e=.returned (.bool false)∧Below w1.heap.size w1 w'):=fun w1 hb=>by
  have:=implValidP_any p a cap w1 (hs.below PE.stays hb) ho hn hm hm2;rw[hv]at this;exact this
 have B2:Below w.heap.size w ((w.alloc (.cells #[.slice a p.length cap] 30)).alloc (.cells #[.slice none 0 0] 30)):=((Below.refl _ _).alloc (Nat.le_refl _) _).alloc (by simp) _;have q0:=box1 (w.alloc (.cells #[.slice a p.length cap] 30)) 30 (.slice none 0 0);have q2:((w.alloc (.cells #[.slice a p.length cap] 30)).alloc (.cells #[.slice none 0 0] 30)).frozen? ⟨(w.alloc (.cells #[.slice a p.length cap] 30)).heap.size,0,none⟩=false:=by simp
 rw[show(w.alloc (.cells #[.slice a p.length cap] 30)).heap.size=w.heap.size+1 by simp]at q0 q2;have q1:((w.alloc (.cells #[.slice a p.length cap] 30)).alloc (.cells #[.slice none 0 0] 30)).cell? ⟨w.heap.size,0,none⟩=some (.slice a p.length cap):=cell_step ((Below.refl _ _).alloc (Nat.le_refl _) _) (box1 w 30 (.slice a p.length cap));clear hs ho hv hm hm2;generalize p.length=n at*;go_enter Tryz.func8,Tryz.ntmps8;go_wp2_with fail;generalize(w.alloc (.cells #[.slice a n cap] 30)).alloc (.cells #[.slice none 0 0] 30)=W2 at*;refine(HV.out W2 B2).mono ?_;rintro _ w1⟨rfl,hb1⟩;have B1:=below_step hb1 B2;have c0:=cell_step hb1 q0;have f0:w1.frozen? ⟨w.heap.size+1,0,none⟩=false:=(hb1.frozen (p:=⟨w.heap.size+1,0,none⟩) (cell_ltM q0)).trans q2;clear q0 q1 q2 hb1 B2 HV;go_wp2;exact bodyPost_ret (v:=.agg #[.slice none 0 0]) (by simp[results,Tryz.results8,go_sem,c0]) rfl ⟨rfl,B1.setCell (p:=⟨w.heap.size+1,0,none⟩) (show w.heap.size<=w.heap.size+1 by omega) _⟩
theorem implMin_any(p:List E)(a:Option Addr)(cap:Nat)(w:World)(hs:LSrc 3 PE w a p)(ho:okP p)(hn:p.length<=16777216)(hm:∀e∈p,e.rules.length<=16777216)(hm2:∀e∈p,∀r∈e.rules,r.length<=16777216):
 Calls Tryz.prog 8 #[.agg #[.slice a p.length cap]] w fun e w'=>ImplM p w e w':=by
 cases hv:validP p with
 |true=>
  refine(implMin_yes p a cap w hs ho hv (valid_len hv)).mono ?_;rintro e w'⟨v,out,rv,lo,hi,gb,h1,h2,h3,h4⟩;obtain⟨cv,rfl⟩:∃cv,v=.slice (some ⟨gb,0,none⟩) out.length cv:=by
   have ho:=h3.ob;obtain⟨_,h|⟨g,cap,cur,e,_⟩⟩:=h3.row
   ·rw[h.1]at ho;cases ho
   have:g=gb:=by rw[e]at ho;simpa[Value.ownBlock]using ho
   subst this;exact⟨cap,e⟩
  exact⟨_,cv,out,.inl ⟨hv,h1⟩,h2,.inr ⟨rv,lo,hi,gb,h3,(h3.row.lt gb h3.ob).2,fun i hi'=>(h3.lt i hi').2⟩,h4⟩
 |false=>exact(implMin_no p a cap w hs ho hv hn hm hm2).mono fun e w'⟨h1,h2⟩=>⟨none,0,[],.inr ⟨hv,rfl⟩,h1,.inl rfl,h2⟩
end Go.Proofs.YtddemlfepjkgoaaGreat
