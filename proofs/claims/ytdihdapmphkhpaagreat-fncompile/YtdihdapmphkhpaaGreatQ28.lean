import Derived.Test.YtdihdapmphkhpaaGreatQ11
import Derived.Test.YtdihdapmphkhpaaGreatQ27
set_option linter.all false
set_option maxRecDepth 200000
set_option maxHeartbeats 16000000
namespace Go.Proofs.YtdihdapmphkhpaaGreat
open Go.RowKit
variable{v:Value}{w:World}
theorem GH(l:List K)(i:Nat)(h:i<l.length):(kE l)[i*3]? =some (.int .i64 l[i].kind)∧(kE l)[i*3+1]? =some (.int .u64 (l[i].a:Int))∧(kE l)[i*3+2]? =some (.int .u64 (l[i].b:Int)):=by
 induction l generalizing i with
 |nil=>simp at h
 |cons x p ih=>
  have e:kE (x::p)=[.int .i64 x.kind,.int .u64 (x.a:Int),.int .u64 (x.b:Int)]++kE p:=by simp[kE]
  rw[e];match i with
  |0=>simp
  |i+1=>
   have hi:i<p.length:=by simpa using h
   have:=ih i hi;rw[aw (by simp;omega),aw (by simp;omega),aw (by simp;omega)];simp only[aq,aU];rw[show(i+1)*3-(0+1+1+1)=i*3 by omega,show(i+1)*3+1-(0+1+1+1)=i*3+1 by omega,show(i+1)*3+2-(0+1+1+1)=i*3+2 by omega];simpa using this
theorem EZ{b o:Nat}:((a3 b o).map Prod.fst).Nodup:=by
 simp[a3]
theorem vH(b o:Nat):∀n,((wG b o n).map Prod.fst).Nodup
 |0=>by simp[wG]
 |n+1=>by
  rw[xu,bL,List.nodup_append];refine⟨vH b o n,EZ,fun x hx y hy=> ?_⟩;obtain⟨p,hp,rfl⟩:=bT.1 hx;have h1:=rX hp;obtain⟨q,hq,rfl⟩:=bT.1 hy;intro e;simp only[a3,bF,cM,or_false]at hq;rw[e]at h1;rcases hq with rfl|rfl|rfl<;>simp only at h1<;>omega
theorem zb{B q:Nat}{l:List K}(h:oK w B v l)(hq:v.ownBlock=some q):∃cap,v=.slice (some ⟨q,0,none⟩) l.length cap∧SK w (some ⟨q,0,none⟩) l.length (wG q 0 l.length)∧LAt 3 PK w q 0 l∧q<w.heap.size:=by
 have h0:=h;have hlt:=h.lt q hq;obtain⟨_,h|⟨g,cap,cur,rfl,hb,hg,hr⟩⟩:=h
 ·rw[h.1]at hq;cases hq
 have:g=q:=by simpa[Value.ownBlock]using hq
 subst this;have key:=fun j(hj:j<l.length*3)=>bE h0 j hj
 have frz:=fun j=>dK h0 j
 refine⟨cap,rfl,.inr ⟨g,0,rfl,rfl,fun x hx=> ?_⟩,fun i hi=> ?_,hlt.2⟩
 ·obtain⟨j,hj,hx⟩:=cD.1 hx;have hj':=bD.1 hj;obtain⟨c0,c1,c2⟩:=GH l j hj';simp only[a3,bF,cM,or_false,aC]at hx;rcases hx with rfl|rfl|rfl
  ·exact⟨⟨_,(key _ (by omega)).trans c0⟩,frz _⟩
  ·exact⟨⟨_,(key _ (by omega)).trans c1⟩,frz _⟩
  exact⟨⟨_,(key _ (by omega)).trans c2⟩,frz _⟩
 obtain⟨c0,c1,c2⟩:=GH l i hi;rw[aC];exact⟨(key _ (by omega)).trans c0,(key _ (by omega)).trans c1,(key _ (by omega)).trans c2⟩
theorem vU{F:Nat->List AdK}{n:Nat}(h1:∀i,i<n->((F i).map Prod.fst).Nodup)(h2:∀i j,i<j->j<n->∀x∈F i,∀y∈F j,x.1≠y.1):(((List.range n).flatMap F).map Prod.fst).Nodup:=by
 induction n with
 |zero=>simp
 |succ n ih=>
  rw[lL,bL,List.nodup_append];refine⟨ih (fun i hi=>h1 i (by omega)) (fun i j hij hj=>h2 i j hij (by omega)),h1 n (by omega),fun x hx y hy=> ?_⟩;obtain⟨p,hp,rfl⟩:=bT.1 hx;obtain⟨q,hq,rfl⟩:=bT.1 hy;obtain⟨i,hi,hp⟩:=cD.1 hp;exact h2 i n (bD.1 hi) (by omega) p hp q hq
theorem Ix  {lo hi : Nat}  {l : List Ru} (h : AB w lo hi v l) (hn : l.length <= 1048576) (h6 : ∀ r ∈ l, r.length = 6) : ∃ a cap A, v = .slice a l.length cap ∧ SR w a l.length A ∧ (A.map Prod.fst).Nodup ∧ (∀ x ∈ A, lo <= x.1.block ∧ x.1.block < hi) ∧ A.length = l.length * 18 ∧ eS 1 PR w a l := by
  obtain ⟨vs, cb, gb, hO, hgb, hcb⟩ := h
  obtain ⟨cap, rfl⟩ := hO.form
  have hlt := hO.row.lt gb rfl
  have hc : ∀ i, i < l.length -> w.cell? ⟨gb, i, none⟩ = some (vs i) := fun i hi => by
    rw [bE hO.row i (by omega)]
    simp [hi]
  have h6' : ∀ i, i < l.length -> (l.getD i []).length = 6 := fun i hi => h6 _ (by rw [aa, ag hi]; exact aI hi)
  refine ⟨some ⟨gb, 0, none⟩, cap, (List.range l.length).flatMap fun i => wG (cb i) 0 6, rfl, ⟨hn, .inr ⟨gb, 0, rfl, _, rfl, fun i hi => ?_⟩⟩, vU (fun i hi => vH _ _ _) (fun i j hij hj x hx y hy e => ?_), fun x hx => ?_, ?_, .inr ⟨gb, 0, rfl, hlt.2, fun i hi => ?_⟩⟩
  · obtain ⟨cp, e, hsk, _⟩ := zb (hO.own i hi).1 (hO.own i hi).2
    rw [h6' i hi] at e hsk
    exact ⟨_, 6, cp, by rw [aC, hc i hi, e], hsk⟩
  · have e1 := (rX hx).1
    have e2 := (rX hy).1
    rw [e, e2] at e1
    have := hO.inc i j hij hj
    omega
  · obtain ⟨i, hi, hx⟩ := cD.1 hx
    have hi' := bD.1 hi
    rw [(rX hx).1]
    exact ⟨((hO.own i hi').1.lt _ (hO.own i hi').2).1, hcb i hi'⟩
  · have : ∀ n, ((List.range n).flatMap fun i => wG (cb i) 0 6).length = n * 18 := by
      intro n
      induction n with
      | zero => rfl
      | succ n ih => rw [lL, aj, ih, ze]; omega
    exact this _
  · obtain ⟨cp, e, hsk, hlat, hq⟩ := zb (hO.own i hi).1 (hO.own i hi).2
    have eg : l.getD i [] = l[i] := by rw [aa, ag hi]; rfl
    rw [eg] at e hlat
    exact ⟨_, cp, by rw [aC, bR, hc i hi, e], .inr ⟨_, 0, rfl, hq, hlat⟩⟩
theorem sR(l:List E)(rv:Nat->Value)(i:Nat)(h:i<l.length):(qG l rv)[i*3]? =some (.int .u32 (l.getD i E.zero).et)∧(qG l rv)[i*3+1]? =some (.int .u32 (l.getD i E.zero).nr)∧(qG l rv)[i*3+2]? =some (rv i):=by
 have key:∀n,i<n->((List.range n).flatMap fun i=>uV (l.getD i E.zero) (rv i))[i*3]? =some (.int .u32 (l.getD i E.zero).et)∧((List.range n).flatMap fun i=>uV (l.getD i E.zero) (rv i))[i*3+1]? =some (.int .u32 (l.getD i E.zero).nr)∧((List.range n).flatMap fun i=>uV (l.getD i E.zero) (rv i))[i*3+2]? =some (rv i):=by
  intro n;have hlen:∀n,((List.range n).flatMap fun i=>uV (l.getD i E.zero) (rv i)).length=n*3:=by
   intro n;induction n with
   |zero=>rfl
   |succ n ih=>rw[lL,aj,ih];simp[uV];omega
  induction n with
  |zero=>intro h;omega
  |succ n ih=>
   intro hn;rw[lL];by_cases e:i=n
   ·subst e;rw[aw (by rw[hlen];omega),aw (by rw[hlen];omega),aw (by rw[hlen];omega),hlen];rw[show i*3-i*3=0 by omega,show i*3+1-i*3=1 by omega,show i*3+2-i*3=2 by omega];exact⟨rfl,rfl,rfl⟩
   rw[aD (by rw[hlen];omega),aD (by rw[hlen];omega),aD (by rw[hlen];omega)];exact ih (by omega)
 exact key _ h
theorem Gm  {B C : Nat}  {l : List E} {rv : Nat -> Value} {lo hi : Nat -> Nat} {gb : Nat} (h : kT w B C v l rv lo hi gb) (hn : l.length <= 1000) (hm : ∀ e ∈ l, e.rules.length <= 200 ∧ ∀ r ∈ e.rules, r.length = 6) : ∃ a cap A, v = .slice a l.length cap ∧ SE w a l.length A ∧ (A.map Prod.fst).Nodup ∧ (∀ x ∈ A, x.1.block = gb ∨ ∃ i, i < l.length ∧ lo i <= x.1.block ∧ x.1.block < hi i) ∧ A.length <= 4000000 ∧ eS 3 PE w a l := by
  have hgb := h.row.lt gb h.ob
  obtain ⟨cap, rfl⟩ : ∃ cv, v = .slice (some ⟨gb, 0, none⟩) l.length cv := by
    have ho := h.ob
    obtain ⟨_, h | ⟨g, cap, cur, e, _⟩⟩ := h.row
    · rw [h.1] at ho; cases ho
    · have : g = gb := by rw [e] at ho; simpa [Value.ownBlock] using ho
      subst this
      exact ⟨cap, e⟩
  have key := fun j (hj : j < l.length * 3) => bE h.row j hj
  have frz := fun j => dK h.row j
  have hmi : ∀ i, i < l.length -> (l.getD i E.zero).rules.length <= 200 ∧ ∀ r ∈ (l.getD i E.zero).rules, r.length = 6 := fun i hi => hm _ (by rw [aa, ag hi]; exact aI hi)
  have hch : ∀ i, ∃ A, i < l.length -> ∃ a' c', rv i = .slice a' (l.getD i E.zero).rules.length c' ∧ SR w a' (l.getD i E.zero).rules.length A ∧ (A.map Prod.fst).Nodup ∧ (∀ x ∈ A, lo i <= x.1.block ∧ x.1.block < hi i) ∧ A.length = (l.getD i E.zero).rules.length * 18 ∧ eS 1 PR w a' (l.getD i E.zero).rules := by
    intro i
    by_cases hi : i < l.length
    · obtain ⟨a', c', A, h1, h2, h3, h4, h5, h6⟩ := Ix (h.own i hi) (by have := (hmi i hi).1; omega) (hmi i hi).2
      exact ⟨A, fun _ => ⟨a', c', h1, h2, h3, h4, h5, h6⟩⟩
    · exact ⟨[], fun h => absurd h hi⟩
  obtain ⟨F, hF⟩ : ∃ F : Nat -> List AdK, ∀ i, i < l.length -> ∃ a' c', rv i = .slice a' (l.getD i E.zero).rules.length c' ∧ SR w a' (l.getD i E.zero).rules.length (F i) ∧ ((F i).map Prod.fst).Nodup ∧ (∀ x ∈ F i, lo i <= x.1.block ∧ x.1.block < hi i) ∧ (F i).length = (l.getD i E.zero).rules.length * 18 ∧ eS 1 PR w a' (l.getD i E.zero).rules := ⟨fun i => Classical.choose (hch i), fun i => Classical.choose_spec (hch i)⟩
  have hab : ∀ i, ∀ x ∈ a2 gb (0 + i * 3), x.1.block = gb ∧ i * 3 <= x.1.off ∧ x.1.off < i * 3 + 2 := fun i x hx => by
    simp only [a2, bF, cM, or_false, aC] at hx
    rcases hx with rfl | rfl <;> refine ⟨rfl, ?_, ?_⟩ <;> simp only <;> omega
  refine ⟨some ⟨gb, 0, none⟩, cap, entA gb 0 F l.length, rfl, ⟨by omega, .inr ⟨gb, 0, rfl, F, rfl, fun i hi => ?_⟩⟩, vU (fun i hi => ?_) (fun i j hij hj x hx y hy e => ?_), fun x hx => ?_, ?_, .inr ⟨gb, 0, rfl, hgb.2, fun i hi => ?_⟩⟩
  · obtain ⟨c0, c1, c2⟩ := sR l rv i hi
    obtain ⟨a', c', e, hsr, _⟩ := hF i hi
    refine ⟨fun x hx => ?_, a', _, c', by rw [aC, key _ (by omega), c2, e], hsr⟩
    simp only [a2, bF, cM, or_false, aC] at hx
    rcases hx with rfl | rfl
    · exact ⟨⟨_, (key _ (by omega)).trans c0⟩, frz _⟩
    · exact ⟨⟨_, (key _ (by omega)).trans c1⟩, frz _⟩
  · obtain ⟨a', c', e, hsr, hnd, hbl, _⟩ := hF i hi
    rw [bL, List.nodup_append]
    refine ⟨by simp [a2], hnd, fun x hx y hy => ?_⟩
    obtain ⟨p, hp, rfl⟩ := bT.1 hx
    obtain ⟨q, hq, rfl⟩ := bT.1 hy
    intro e
    have h1 := (hab i p hp).1
    rw [e] at h1
    have h2 := hbl q hq
    rcases h.out i hi with g | g <;> omega
  · have hi : i < l.length := by omega
    obtain ⟨_, _, _, _, _, hbi, _⟩ := hF i hi
    obtain ⟨_, _, _, _, _, hbj, _⟩ := hF j hj
    rw [bj] at hx hy
    rcases hx with hx | hx <;> rcases hy with hy | hy
    · have h1 := hab i x hx
      have h2 := hab j y hy
      rw [e] at h1
      omega
    · have h1 := hab i x hx
      have h2 := hbj y hy
      rw [e] at h1
      rcases h.out j hj with g | g <;> omega
    · have h1 := hbi x hx
      have h2 := hab j y hy
      rw [e] at h1
      rcases h.out i hi with g | g <;> omega
    · have h1 := hbi x hx
      have h2 := hbj y hy
      rw [e] at h1
      have := h.inc i j hij hj
      omega
  · obtain ⟨i, hi, hx⟩ := cD.1 hx
    have hi' := bD.1 hi
    rw [bj] at hx
    rcases hx with hx | hx
    · exact .inl (hab i x hx).1
    · obtain ⟨_, _, _, _, _, hbi, _⟩ := hF i hi'
      exact .inr ⟨i, hi', hbi x hx⟩
  · have : ∀ n, n <= l.length -> (entA gb 0 F n).length <= n * 3602 := by
      intro n
      induction n with
      | zero => intro _; simp [entA]
      | succ n ih =>
        intro hn
        obtain ⟨_, _, _, _, _, _, hl, _⟩ := hF n (by omega)
        have h1 := ih (by omega)
        have h2 := (hmi n (by omega)).1
        rw [Ec, aj, aj, hl]
        simp only [a2, aq, aU]
        omega
    have := this l.length (ae _)
    omega
  · obtain ⟨c0, c1, c2⟩ := sR l rv i hi
    obtain ⟨a', c', e, _, _, _, _, hls⟩ := hF i hi
    have eg : l.getD i E.zero = l[i] := by rw [aa, ag hi]; rfl
    rw [eg] at c0 c1 e hls
    rw [aC]
    exact ⟨(key _ (by omega)).trans c0, (key _ (by omega)).trans c1, a', c', by rw [key _ (by omega), c2, e], hls⟩
end Go.Proofs.YtdihdapmphkhpaaGreat
namespace Go.Proofs.YtdihdapmphkhpaaGreat
open Go.RowKit
open srtR
theorem CT{w:World}{B t s n m c:Nat}{a:Option Addr}{v:Value}{xs:List Value}(h:w.ownsRow B t s v n xs)(e:v=.slice a m c):n<=c:=by
 obtain⟨_,⟨h1,h2⟩|⟨g,cap,cur,e1,hb,hg,hn,_⟩⟩:=h
 ·omega
 rw[e]at e1;simp only[bs]at e1;omega
theorem En{w:World}{B C:Nat}{v:Value}{l:List E}{rv:Nat->Value}{lo hi:Nat->Nat}{gb:Nat}(h:kT w B C v l rv lo hi gb)(hn:l.length<=1000)(hm:∀e∈l,e.rules.length<=200∧∀r∈e.rules,r.length=6):∃a cap,v=.slice a l.length cap∧eS 3 PEC w a l∧l.length<=cap:=by
 obtain⟨a,cap,_,e,_,_,_,_,hs⟩:=Gm h hn hm;refine⟨a,cap,e,?_,CT h.row e⟩;rcases hs with hs|⟨b,o,ha,hlt,hc⟩
 ·exact .inl hs
 refine .inr ⟨b,o,ha,hlt,fun i hi=> ?_⟩;obtain⟨c0,c1,a2,cap2,c2,h3⟩:=hc i hi;refine⟨c0,c1,a2,cap2,c2,?_,h3⟩;have hob:=h.ob;obtain⟨_,⟨h1,_⟩|⟨g,cp,cur,e1,_⟩⟩:=h.row
 ·rw[h1]at hob;cases hob
 have hg:g=gb:=by rw[e1]at hob;simpa[Value.ownBlock]using hob
 subst hg;have hr:=h.row;rw[e,ha]at e1 hr;simp only[bs,bz,Addr.mk.injEq]at e1;obtain⟨⟨rfl,rfl,_⟩,_⟩:=e1;have k:=bE hr (i*3+2) (by omega);rw[(sR l rv i hi).2.2,aC]at*;rw[c2]at k;obtain⟨vs,cb,gb',hO,_⟩:=h.own i hi;have e2:(l.getD i E.zero)=l[i]:=by rw[aa,ag hi];rfl
 have:=CT hO.row (Option.some.inj k).symm;rw[e2]at this;exact this
end Go.Proofs.YtdihdapmphkhpaaGreat
