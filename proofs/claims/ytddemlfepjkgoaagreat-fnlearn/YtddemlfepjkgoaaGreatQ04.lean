import Derived.Test.YtddemlfepjkgoaaGreatQ03
set_option linter.all false
set_option maxRecDepth 200000
set_option maxHeartbeats 16000000
namespace Go.Proofs.YtddemlfepjkgoaaGreat
structure E where
 arch:Int
 nr:Int
 rules:List (List K)
def E.zero:E:=⟨0,0,[]⟩
def okR(r:List K):Prop:=∀c∈r,c.ok
def okRs(l:List (List K)):Prop:=∀r∈l,okR r
def E.ok(e:E):Prop:=(0<=e.arch∧e.arch<=4294967295)∧(0<=e.nr∧e.nr<=4294967295)∧okRs e.rules
def okP(p:List E):Prop:=∀e∈p,e.ok
theorem E.zero_ok:E.zero.ok:=⟨⟨by decide,by decide⟩,⟨by decide,by decide⟩,fun r h=>by simp[E.zero]at h⟩
theorem okR_at{r:List K}(h:okR r)(i:Nat):(r.getD i K.zero).ok:=by
 by_cases hi:i<r.length
 ·rw[List.getD_eq_getElem?_getD,List.getElem?_eq_getElem hi];exact h _ (List.getElem_mem hi)
 rw[List.getD_eq_getElem?_getD,List.getElem?_eq_none (by omega)];exact K.zero_ok
theorem okRs_at{l:List (List K)}(h:okRs l)(i:Nat):okR (l.getD i []):=by
 by_cases hi:i<l.length
 ·rw[List.getD_eq_getElem?_getD,List.getElem?_eq_getElem hi];exact h _ (List.getElem_mem hi)
 rw[List.getD_eq_getElem?_getD,List.getElem?_eq_none (by omega)];intro c hc;simp at hc
theorem okP_at{p:List E}(h:okP p)(i:Nat):(p.getD i E.zero).ok:=by
 by_cases hi:i<p.length
 ·rw[List.getD_eq_getElem?_getD,List.getElem?_eq_getElem hi];exact h _ (List.getElem_mem hi)
 rw[List.getD_eq_getElem?_getD,List.getElem?_eq_none (by omega)];exact E.zero_ok
def validR(r:List K):Bool:=r.length==6&&r.all validK
def validE(e:E):Bool:=decide (1<=e.rules.length)&&decide (e.rules.length<=200)&&e.rules.all validR
def befE(a b:E):Bool:=decide (a.arch<b.arch)||(a.arch==b.arch&&decide (a.nr<b.nr))
def stepOk(p:List E)(i:Nat):Bool:=(i==0||befE (p.getD (i-1) E.zero) (p.getD i E.zero))&&validE (p.getD i E.zero)
def totalR:List E->Nat
 |[]=>0
 |e::p=>e.rules.length+totalR p
def validP(p:List E):Bool:=(List.range p.length).all (stepOk p)&&decide (totalR p<=1000)
theorem all_getD{α:Type}(d:α)(f:α->Bool)(l:List α):l.all f=true↔∀i,i<l.length->f (l.getD i d)=true:=by
 rw[List.all_eq_true];constructor
 ·intro h i hi;rw[List.getD_eq_getElem?_getD,List.getElem?_eq_getElem hi];exact h _ (List.getElem_mem hi)
 intro h x hx;obtain⟨i,hi,rfl⟩:=List.getElem_of_mem hx;have:=h i hi;rw[List.getD_eq_getElem?_getD,List.getElem?_eq_getElem hi]at this;exact this
theorem all_no{α:Type}{d:α}{f:α->Bool}{l:List α}{i:Nat}(hi:i<l.length)(h:f (l.getD i d)=false):l.all f=false:=by
 cases hc:l.all f with
 |false=>rfl
 |true=>rw[(all_getD d f l).1 hc i hi]at h;exact absurd h (by decide)
theorem any_getD{α:Type}(d:α)(f:α->Bool)(l:List α):l.any f=true↔∃i,i<l.length∧f (l.getD i d)=true:=by
 rw[List.any_eq_true];constructor
 ·rintro⟨x,hx,h⟩;obtain⟨i,hi,rfl⟩:=List.getElem_of_mem hx;exact⟨i,hi,by rw[List.getD_eq_getElem?_getD,List.getElem?_eq_getElem hi];exact h⟩
 rintro⟨i,hi,h⟩;rw[List.getD_eq_getElem?_getD,List.getElem?_eq_getElem hi]at h;exact⟨_,List.getElem_mem hi,h⟩
theorem any_no{α:Type}{d:α}{f:α->Bool}{l:List α}(h:∀i,i<l.length->f (l.getD i d)=false):l.any f=false:=by
 cases hc:l.any f with
 |false=>rfl
 |true=>
  obtain⟨i,hi,h1⟩:=(any_getD d f l).1 hc;rw[h i hi]at h1;exact absurd h1 (by decide)
theorem validP_no{p:List E}{i:Nat}(hi:i<p.length)(h:stepOk p i=false):validP p=false:=by
 have:(List.range p.length).all (stepOk p)=false:=by
  cases hc:(List.range p.length).all (stepOk p)with
  |false=>rfl
  |true=>
   rw[List.all_eq_true]at hc;rw[hc i (List.mem_range.2 hi)]at h;exact absurd h (by decide)
 rw[validP,this,Bool.false_and]
theorem validP_yes{p:List E}(h:∀i,i<p.length->stepOk p i=true):validP p=decide (totalR p<=1000):=by
 have:(List.range p.length).all (stepOk p)=true:=by
  rw[List.all_eq_true];intro i hi;exact h i (List.mem_range.1 hi)
 rw[validP,this,Bool.true_and]
theorem validP_step{p:List E}(h:validP p=true){i:Nat}(hi:i<p.length):stepOk p i=true:=by
 rw[validP,Bool.and_eq_true,List.all_eq_true]at h;exact h.1 i (List.mem_range.2 hi)
theorem totalR_append(p q:List E):totalR (p++q)=totalR p+totalR q:=by
 induction p with
 |nil=>simp[totalR]
 |cons e p ih=>simp only[List.cons_append,totalR,ih];omega
theorem totalR_take{p:List E}{k:Nat}(h:k<p.length):totalR (p.take (k+1))=totalR (p.take k)+(p.getD k E.zero).rules.length:=by
 have e:p.take (k+1)=p.take k++[p.getD k E.zero]:=by
  rw[List.take_add_one,List.getElem?_eq_getElem h,List.getD_eq_getElem?_getD,List.getElem?_eq_getElem h];rfl
 rw[e,totalR_append];simp[totalR]
theorem befE_trans{a b c:E}(h:befE a b=true)(h':befE b c=true):befE a c=true:=by
 simp only[befE,Bool.or_eq_true,Bool.and_eq_true,decide_eq_true_eq,beq_iff_eq]at*;omega
theorem befE_of_valid{p:List E}(h:validP p=true):∀{i j:Nat},i<j->j<p.length->befE (p.getD i E.zero) (p.getD j E.zero)=true:=by
 intro i j hij hj;obtain⟨m,rfl⟩:∃m,j=i+1+m:=⟨j-(i+1),by omega⟩;clear hij;have step:∀k,k+1<p.length->befE (p.getD k E.zero) (p.getD (k+1) E.zero)=true:=fun k hk=>by
  have:=validP_step h hk;rw[stepOk,Bool.and_eq_true,Bool.or_eq_true]at this;rcases this.1 with h1|h1
  ·simp at h1
  exact h1
 induction m with
 |zero=>exact step i hj
 |succ m ih=>
  exact befE_trans (ih (by omega)) (step (i+1+m) hj)
def ruleHolds(r:List K)(args:List Int):Bool:=(List.range 6).all fun i=>holdsK (r.getD i K.zero) (args.getD i 0).toNat
def meets(e:E)(c:C):Bool:=e.arch==c.arch&&e.nr==c.nr
def allowsP(p:List E)(c:C):Bool:=validP p&&(c.args.length==6)&&p.any fun e=>meets e c&&e.rules.any fun r=>ruleHolds r c.args
theorem meets_once{p:List E}{c:C}(h:validP p=true){i j:Nat}(hi:i<p.length)(hj:j<p.length)(m1:meets (p.getD i E.zero) c=true)(m2:meets (p.getD j E.zero) c=true):i=j:=by
 have key:∀{i j:Nat},i<j->j<p.length->meets (p.getD i E.zero) c=true->meets (p.getD j E.zero) c=true->False:=by
  intro i j hij hj m1 m2;have hb:=befE_of_valid h hij hj;simp only[befE,meets,Bool.or_eq_true,Bool.and_eq_true,decide_eq_true_eq,beq_iff_eq]at*;omega
 rcases Nat.lt_trichotomy i j with h1|h1|h1
 ·exact(key h1 hj m1 m2).elim
 ·exact h1
 exact(key h1 hi m2 m1).elim
theorem allows_first{p:List E}{c:C}(h:validP p=true){i:Nat}(hi:i<p.length)(hm:meets (p.getD i E.zero) c=true):
 (p.any fun e=>meets e c&&e.rules.any fun r=>ruleHolds r c.args)=(p.getD i E.zero).rules.any fun r=>ruleHolds r c.args:=by
 rw[Bool.eq_iff_iff,any_getD E.zero];constructor
 ·rintro⟨j,hj,h1⟩;rw[Bool.and_eq_true]at h1;have:=meets_once h hi hj hm h1.1;subst this;exact h1.2
 intro h1;exact⟨i,hi,by rw[hm,Bool.true_and];exact h1⟩
theorem ruleHolds_no{r:List K}{args:List Int}{i:Nat}(hi:i<6)(h:holdsK (r.getD i K.zero) (args.getD i 0).toNat=false):ruleHolds r args=false:=by
 cases hc:ruleHolds r args with
 |false=>rfl
 |true=>
  rw[ruleHolds,List.all_eq_true]at hc;rw[hc i (List.mem_range.2 hi)]at h;exact absurd h (by decide)
theorem ruleHolds_yes{r:List K}{args:List Int}(h:∀i,i<6->holdsK (r.getD i K.zero) (args.getD i 0).toNat=true):ruleHolds r args=true:=by
 rw[ruleHolds,List.all_eq_true];intro i hi;exact h i (List.mem_range.1 hi)
end Go.Proofs.YtddemlfepjkgoaaGreat
namespace Go.Proofs.YtddemlfepjkgoaaGreat
open Go.RowKit
def LAt{α:Type}(k:Nat)(P:World->Nat->Nat->α->Prop)(w:World)(b o:Nat)(l:List α):Prop:=∀i(h:i<l.length),P w b (o+i*k) l[i]
def LSrc{α:Type}(k:Nat)(P:World->Nat->Nat->α->Prop)(w:World)(a:Option Addr)(l:List α):Prop:=l=[]∨∃b o,a=some ⟨b,o,none⟩∧b<w.heap.size∧LAt k P w b o l
def Stays{α:Type}(P:World->Nat->Nat->α->Prop):Prop:=∀w w' b o x,b<w.heap.size->Below w.heap.size w w'->P w b o x->P w' b o x
theorem LSrc.below{α:Type}{k:Nat}{P:World->Nat->Nat->α->Prop}(hP:Stays P){w w':World}{a:Option Addr}{l:List α}(h:LSrc k P w a l)(hb:Below w.heap.size w w'):LSrc k P w' a l:=by
 rcases h with h|⟨b,o,ha,hlt,hc⟩
 ·exact .inl h
 exact .inr ⟨b,o,ha,Nat.lt_of_lt_of_le hlt hb.size,fun i hi=>hP _ _ _ _ _ hlt hb (hc i hi)⟩
def PK(w:World)(b o:Nat)(c:K):Prop:=w.cell? ⟨b,o,none⟩=some (.int .i64 c.kind)∧w.cell? ⟨b,o+1,none⟩=some (.int .u64 (c.a:Int))∧w.cell? ⟨b,o+2,none⟩=some (.int .u64 (c.b:Int))
def PR(w:World)(b o:Nat)(r:List K):Prop:=∃a cap,w.cell? ⟨b,o,none⟩=some (.slice a r.length cap)∧LSrc 3 PK w a r
def PE(w:World)(b o:Nat)(e:E):Prop:=w.cell? ⟨b,o,none⟩=some (.int .u32 e.arch)∧w.cell? ⟨b,o+1,none⟩=some (.int .u32 e.nr)∧∃a cap,w.cell? ⟨b,o+2,none⟩=some (.slice a e.rules.length cap)∧LSrc 1 PR w a e.rules
theorem PK.stays:Stays PK:=fun w w' b o x hlt hb⟨h0,h1,h2⟩=>⟨(hb.cell (p:=⟨b,_,none⟩) hlt).trans h0,(hb.cell (p:=⟨b,_,none⟩) hlt).trans h1,(hb.cell (p:=⟨b,_,none⟩) hlt).trans h2⟩
theorem PR.stays:Stays PR:=fun w w' b o x hlt hb⟨a,cap,h0,h1⟩=>⟨a,cap,(hb.cell (p:=⟨b,_,none⟩) hlt).trans h0,h1.below PK.stays hb⟩
theorem PE.stays:Stays PE:=fun w w' b o x hlt hb⟨h0,h1,a,cap,h2,h3⟩=>⟨(hb.cell (p:=⟨b,_,none⟩) hlt).trans h0,(hb.cell (p:=⟨b,_,none⟩) hlt).trans h1,a,cap,(hb.cell (p:=⟨b,_,none⟩) hlt).trans h2,h3.below PR.stays hb⟩
theorem LSrc.at{α:Type}{k:Nat}{P:World->Nat->Nat->α->Prop}{w:World}{a:Option Addr}{l:List α}(h:LSrc k P w a l){i:Nat}(hi:i<l.length)(d:α):∃b o,a=some ⟨b,o,none⟩∧b<w.heap.size∧P w b (o+i*k) (l.getD i d):=by
 rcases h with rfl|⟨b,o,h1,h2,h3⟩
 ·simp at hi
 refine⟨b,o,h1,h2,?_⟩;rw[List.getD_eq_getElem?_getD,List.getElem?_eq_getElem hi];exact h3 i hi
theorem LSrc.addr{α:Type}{k:Nat}{P:World->Nat->Nat->α->Prop}{w:World}{a:Option Addr}{l:List α}(h:LSrc k P w a l)(hn:l≠[]):∃b o,a=some ⟨b,o,none⟩∧b<w.heap.size∧LAt k P w b o l:=by
 rcases h with h|h
 ·exact absurd h hn
 exact h
theorem LAt.below{α:Type}{k:Nat}{P:World->Nat->Nat->α->Prop}(hP:Stays P){w w':World}{b o:Nat}{l:List α}(h:LAt k P w b o l)(hlt:b<w.heap.size)(hb:Below w.heap.size w w'):LAt k P w' b o l:=fun i hi=>hP _ _ _ _ _ hlt hb (h i hi)
theorem box1(w:World)(t:TypeId)(x:Value):(w.alloc (.cells #[x] t)).cell? ⟨w.heap.size,0,none⟩=some x:=by simp
def insF(p:List I)(j:Nat):Value:=
 if j%4=0 then .int .u16 (p.getD (j/4) I.zero).c
 else if j%4=1 then .int .u8 (p.getD (j/4) I.zero).jt
 else if j%4=2 then .int .u8 (p.getD (j/4) I.zero).jf
 else .int .u32 (p.getD (j/4) I.zero).k
def Src(w:World)(a:Option Addr)(p:List I):Prop:=p=[]∨∃b o,a=some ⟨b,o,none⟩∧b<w.heap.size∧InsAt w b o p
theorem Src.below{w w':World}{a:Option Addr}{p:List I}(h:Src w a p)(hb:Below w.heap.size w w'):Src w' a p:=by
 rcases h with h|⟨b,o,ha,hlt,hc⟩
 ·exact .inl h
 refine .inr ⟨b,o,ha,Nat.lt_of_lt_of_le hlt hb.size,fun i hi=> ?_⟩;obtain⟨c0,c1,c2,c3⟩:=hc i hi;exact⟨(hb.cell (p:=⟨b,_,none⟩) hlt).trans c0,(hb.cell (p:=⟨b,_,none⟩) hlt).trans c1,(hb.cell (p:=⟨b,_,none⟩) hlt).trans c2,(hb.cell (p:=⟨b,_,none⟩) hlt).trans c3⟩
def Upto(w:World)(D t n:Nat)(p:List I)(k:Nat):Prop:=∃f,w.rowIs D t (n*4) f∧∀j,j<k*4->f j=insF p j
theorem Upto.own{w:World}{D t n k:Nat}{p:List I}(h:Upto w D t n p k)(j:Nat)(hj:j<n*4):∃v,w.cell? ⟨D,j,none⟩=some v∧w.frozen? ⟨D,j,none⟩=false:=by
 obtain⟨f,hr,_⟩:=h;exact⟨_,hr.cell hj,hr.frozen j⟩
theorem Upto.done{w:World}{D t n:Nat}{p:List I}(h:Upto w D t n p n):w.rowIs D t (n*4) (insF p):=by
 obtain⟨f,hr,hf⟩:=h;exact hr.congr hf
theorem Upto.keep{w w':World}{D t n k:Nat}{p:List I}(h:Upto w D t n p k)(hb:Below w.heap.size w w'):Upto w' D t n p k:=by
 obtain⟨f,hr,hf⟩:=h;exact⟨f,hr.of_block (hb.block D hr.lt),hf⟩
def LSrcG{α:Type}(L k:Nat)(P:World->Nat->Nat->α->Prop)(w:World)(a:Option Addr)(l:List α):Prop:=l=[]∨∃b o,a=some ⟨b,o,none⟩∧L<=b∧b<w.heap.size∧LAt k P w b o l
def PKF(w:World)(b o:Nat)(c:K):Prop:=PK w b o c∧w.frozen? ⟨b,o,none⟩=false∧w.frozen? ⟨b,o+1,none⟩=false∧w.frozen? ⟨b,o+2,none⟩=false
theorem PKF.stays:Stays PKF:=fun w w' b o x hlt hb⟨h0,h1,h2,h3⟩=>⟨PK.stays _ _ _ _ _ hlt hb h0,(hb.frozen (p:=⟨b,_,none⟩) hlt).trans h1,(hb.frozen (p:=⟨b,_,none⟩) hlt).trans h2,(hb.frozen (p:=⟨b,_,none⟩) hlt).trans h3⟩
def PRG(L:Nat)(w:World)(b o:Nat)(r:List K):Prop:=∃a cap,w.cell? ⟨b,o,none⟩=some (.slice a r.length cap)∧LSrcG L 3 PKF w a r
def PEG(L:Nat)(w:World)(b o:Nat)(e:E):Prop:=w.cell? ⟨b,o,none⟩=some (.int .u32 e.arch)∧w.cell? ⟨b,o+1,none⟩=some (.int .u32 e.nr)∧(w.frozen? ⟨b,o,none⟩=false∧w.frozen? ⟨b,o+1,none⟩=false)∧∃a cap,w.cell? ⟨b,o+2,none⟩=some (.slice a e.rules.length cap)∧LSrcG L 1 (PRG L) w a e.rules∧e.rules.length<=cap
theorem LSrcG.plain{α:Type}{L k:Nat}{P Q:World->Nat->Nat->α->Prop}{w:World}{a:Option Addr}{l:List α}(h:LSrcG L k P w a l)(hPQ:∀b o x,P w b o x->Q w b o x):LSrc k Q w a l:=by
 rcases h with h|⟨b,o,h1,_,h2,h3⟩
 ·exact .inl h
 exact .inr ⟨b,o,h1,h2,fun i hi=>hPQ _ _ _ (h3 i hi)⟩
theorem PRG.plain{L:Nat}{w:World}{b o:Nat}{r:List K}(h:PRG L w b o r):PR w b o r:=by
 obtain⟨a,cap,h0,h1⟩:=h;exact⟨a,cap,h0,h1.plain fun _ _ _ h=>h.1⟩
theorem PEG.plain{L:Nat}{w:World}{b o:Nat}{e:E}(h:PEG L w b o e):PE w b o e:=by
 obtain⟨h0,h1,_,a,cap,h2,h3,_⟩:=h;exact⟨h0,h1,a,cap,h2,h3.plain fun _ _ _ h=>h.plain⟩
theorem LSrcG.below{α:Type}{L k:Nat}{P:World->Nat->Nat->α->Prop}(hP:Stays P){w w':World}{a:Option Addr}{l:List α}(h:LSrcG L k P w a l)(hb:Below w.heap.size w w'):LSrcG L k P w' a l:=by
 rcases h with h|⟨b,o,ha,hL,hlt,hc⟩
 ·exact .inl h
 exact .inr ⟨b,o,ha,hL,Nat.lt_of_lt_of_le hlt hb.size,fun i hi=>hP _ _ _ _ _ hlt hb (hc i hi)⟩
theorem PRG.stays(L:Nat):Stays (PRG L):=fun w w' b o x hlt hb⟨a,cap,h0,h1⟩=>⟨a,cap,(hb.cell (p:=⟨b,_,none⟩) hlt).trans h0,h1.below PKF.stays hb⟩
theorem PEG.stays(L:Nat):Stays (PEG L):=fun w w' b o x hlt hb⟨h0,h1,f,a,cap,h2,h3,h4⟩=>⟨(hb.cell (p:=⟨b,_,none⟩) hlt).trans h0,(hb.cell (p:=⟨b,_,none⟩) hlt).trans h1,⟨(hb.frozen (p:=⟨b,_,none⟩) hlt).trans f.1,(hb.frozen (p:=⟨b,_,none⟩) hlt).trans f.2⟩,a,cap,(hb.cell (p:=⟨b,_,none⟩) hlt).trans h2,h3.below (PRG.stays L) hb,h4⟩
theorem LSrcG.mono{α:Type}{L L' k:Nat}{P Q:World->Nat->Nat->α->Prop}{w:World}{a:Option Addr}{l:List α}(h:LSrcG L k P w a l)(hL:L'<=L)(hPQ:∀b o x,P w b o x->Q w b o x):LSrcG L' k Q w a l:=by
 rcases h with h|⟨b,o,h1,h4,h2,h3⟩
 ·exact .inl h
 exact .inr ⟨b,o,h1,Nat.le_trans hL h4,h2,fun i hi=>hPQ _ _ _ (h3 i hi)⟩
theorem PRG.mono{L L':Nat}{w:World}{b o:Nat}{r:List K}(h:PRG L w b o r)(hL:L'<=L):PRG L' w b o r:=by
 obtain⟨a,cap,h0,h1⟩:=h;exact⟨a,cap,h0,h1.mono hL fun _ _ _ h=>h⟩
theorem PEG.mono{L L':Nat}{w:World}{b o:Nat}{e:E}(h:PEG L w b o e)(hL:L'<=L):PEG L' w b o e:=by
 obtain⟨h0,h1,f,a,cap,h2,h3,h4⟩:=h;exact⟨h0,h1,f,a,cap,h2,h3.mono hL fun _ _ _ h=>h.mono hL,h4⟩
theorem cell_far{w:World}{D i b o:Nat}{v x:Value}(hne:D≠b)(h:w.cell? ⟨b,o,none⟩=some x):(w.setCell ⟨D,i,none⟩ v).cell? ⟨b,o,none⟩=some x:=by
 have e:(w.setCell ⟨D,i,none⟩ v).cell? ⟨b,o,none⟩=w.cell? ⟨b,o,none⟩:=by
  apply World.cell?_setCell_other;intro e;apply hne;injection e
 rw[e];exact h
theorem cell_near{w:World}{D i o:Nat}{v x:Value}(hne:i≠o)(h:w.cell? ⟨D,o,none⟩=some x):(w.setCell ⟨D,i,none⟩ v).cell? ⟨D,o,none⟩=some x:=by
 have e:(w.setCell ⟨D,i,none⟩ v).cell? ⟨D,o,none⟩=w.cell? ⟨D,o,none⟩:=by
  apply World.cell?_setCell_other;intro e;apply hne;injection e
 rw[e];exact h
theorem PK.far{w:World}{D i b o:Nat}{v:Value}{c:K}(hne:D≠b)(h:PK w b o c):PK (w.setCell ⟨D,i,none⟩ v) b o c:=⟨cell_far hne h.1,cell_far hne h.2.1,cell_far hne h.2.2⟩
theorem frz_set{w:World}{D i:Nat}{v:Value}{p:Addr}(h:w.frozen? p=false):(w.setCell ⟨D,i,none⟩ v).frozen? p=false:=by simp[h]
theorem PKF.far{w:World}{D i b o:Nat}{v:Value}{c:K}(hne:D≠b)(h:PKF w b o c):PKF (w.setCell ⟨D,i,none⟩ v) b o c:=⟨h.1.far hne,frz_set h.2.1,frz_set h.2.2.1,frz_set h.2.2.2⟩
theorem LSrcG.far{α:Type}{L k D i:Nat}{v:Value}{P:World->Nat->Nat->α->Prop}{w:World}{a:Option Addr}{l:List α}(h:LSrcG L k P w a l)(hP:∀b o x,L<=b->P w b o x->P (w.setCell ⟨D,i,none⟩ v) b o x):LSrcG L k P (w.setCell ⟨D,i,none⟩ v) a l:=by
 rcases h with h|⟨b,o,h1,h4,h2,h3⟩
 ·exact .inl h
 exact .inr ⟨b,o,h1,h4,by simp;exact h2,fun j hj=>hP _ _ _ h4 (h3 j hj)⟩
theorem PRG.far{L D i b o:Nat}{v:Value}{w:World}{r:List K}(hD:D<L)(hne:D≠b)(h:PRG L w b o r):PRG L (w.setCell ⟨D,i,none⟩ v) b o r:=by
 obtain⟨a,cap,h0,h1⟩:=h;exact⟨a,cap,cell_far hne h0,h1.far fun b o x hL hx=>hx.far (by omega)⟩
theorem PRG.rules_far{L D i:Nat}{v:Value}{w:World}{a:Option Addr}{l:List (List K)}(hD:D<L)(h:LSrcG L 1 (PRG L) w a l):LSrcG L 1 (PRG L) (w.setCell ⟨D,i,none⟩ v) a l:=h.far fun b o x hL hx=>hx.far hD (by omega)
def Apart{α:Type}(sz D:Nat)(P:World->Nat->Nat->α->Prop):Prop:=∀w o x c v,P w D o x->(c<o∨o+sz<=c)->P (w.setCell ⟨D,c,none⟩ v) D o x
theorem PK.apart(D:Nat):Apart 3 D PK:=fun w o x c v h hc=>⟨cell_near (by omega) h.1,cell_near (by omega) h.2.1,cell_near (by omega) h.2.2⟩
theorem PRG.apart(D:Nat):Apart 1 D (PRG (D+1)):=fun w o x c v h hc=>by
 obtain⟨a,cap,h0,h1⟩:=h;exact⟨a,cap,cell_near (by omega) h0,h1.far fun b o x hL hx=>hx.far (by omega)⟩
theorem PEG.apart(D:Nat):Apart 3 D (PEG (D+1)):=fun w o x c v h hc=>by
 obtain⟨h0,h1,f,a,cap,h2,h3,h4⟩:=h;exact⟨cell_near (by omega) h0,cell_near (by omega) h1,⟨frz_set f.1,frz_set f.2⟩,a,cap,cell_near (by omega) h2,PRG.rules_far (by omega) h3,h4⟩
structure Upt{α:Type}(sz:Nat)(P:World->Nat->Nat->α->Prop)(w:World)(D N:Nat)(l:List α)(d:α)(k:Nat):Prop where
 lt:D<w.heap.size
 own:∀c,c<N*sz->(∃v,w.cell? ⟨D,c,none⟩=some v)∧w.frozen? ⟨D,c,none⟩=false
 el:∀j,j<k->P w D (j*sz) (l.getD j d)
theorem Upt.keep{α:Type}{sz:Nat}{P:World->Nat->Nat->α->Prop}(hP:Stays P){w w':World}{D N:Nat}{l:List α}{d:α}{k:Nat}(h:Upt sz P w D N l d k)(hb:Below w.heap.size w w'):Upt sz P w' D N l d k:=
 ⟨Nat.lt_of_lt_of_le h.lt hb.size,fun c hc=>⟨by obtain⟨v,hv⟩:=(h.own c hc).1;exact⟨v,(hb.cell (p:=⟨D,c,none⟩) h.lt).trans hv⟩,(hb.frozen (p:=⟨D,c,none⟩) h.lt).trans (h.own c hc).2⟩,fun j hj=>hP _ _ _ _ _ h.lt hb (h.el j hj)⟩
theorem Upt.set{α:Type}{sz D:Nat}{P:World->Nat->Nat->α->Prop}(hA:Apart sz D P){w:World}{N:Nat}{l:List α}{d:α}{k c:Nat}(h:Upt sz P w D N l d k)(hc:k*sz<=c)(v:Value):Upt sz P (w.setCell ⟨D,c,none⟩ v) D N l d k:=by
 refine⟨by simp;exact h.lt,fun i hi=> ?_,fun j hj=>hA _ _ _ _ _ (h.el j hj) (.inr ?_)⟩
 ·obtain⟨⟨u,hu⟩,hf⟩:=h.own i hi;refine⟨?_,by simp[hf]⟩;by_cases e:c=i
  ·subst e;exact⟨v,World.cell?_setCell_same' w _ v (by rw[hu];rfl)⟩
  exact⟨u,cell_near e hu⟩
 have:(j+1)*sz<=k*sz:=Nat.mul_le_mul_right _ hj;rw[Nat.add_mul]at this;omega
theorem Upt.next{α:Type}{sz D:Nat}{P:World->Nat->Nat->α->Prop}{w:World}{N:Nat}{l:List α}{d:α}{k:Nat}(h:Upt sz P w D N l d k)(hk:P w D (k*sz) (l.getD k d)):Upt sz P w D N l d (k+1):=
 ⟨h.lt,h.own,fun j hj=>by
  by_cases e:j=k
  ·subst e;exact hk
  exact h.el j (by omega)⟩
theorem Upt.new{α:Type}{sz:Nat}{P:World->Nat->Nat->α->Prop}(w:World)(cs:Array Value)(t:TypeId)(N:Nat)(l:List α)(d:α)(hs:cs.size=N*sz):Upt sz P (w.alloc (.cells cs t)) w.heap.size N l d 0:=by
 have hr:=World.rowIs_alloc w cs t (fun i=>cs.getD i undef) (fun i h=>by simp[h]);rw[hs]at hr;exact⟨hr.lt,fun c hc=>⟨⟨_,hr.cell hc⟩,hr.frozen c⟩,fun j hj=>by omega⟩
theorem Upt.all{α:Type}{sz:Nat}{P:World->Nat->Nat->α->Prop}{w:World}{D:Nat}{l:List α}{d:α}{N:Nat}(h:Upt sz P w D N l d l.length):LAt sz P w D 0 l:=fun i hi=>by
 have:=h.el i hi;rw[List.getD_eq_getElem?_getD,List.getElem?_eq_getElem hi]at this;rw[Nat.zero_add];exact this
abbrev AdK:=Addr×IntKind
def after:List AdK->Int->(Addr->Option Value)->Addr->Option Value
 |[],_,f=>f
 |x::A,k,f=>after A (k+1) (fun q=>if q=x.1 then some (.int x.2 k)else f q)
theorem after_append(A B:List AdK)(k:Int)(f:Addr->Option Value):after (A++B) k f=after B (k+A.length) (after A k f):=by
 induction A generalizing k f with
 |nil=>simp[after]
 |cons x A ih=>
  simp only[List.cons_append,after,List.length_cons];rw[ih];congr 1;omega
def IntsAt(w:World)(A:List AdK):Prop:=∀x∈A,(∃n,w.cell? x.1=some (.int x.2 n))∧w.frozen? x.1=false
structure Sim(w w':World):Prop where
 ints:∀p t n,w.cell? p=some (.int t n)->∃m,w'.cell? p=some (.int t m)
 rows:∀p a n c,w.cell? p=some (.slice a n c)->w'.cell? p=some (.slice a n c)
 frozen:∀p,w'.frozen? p=w.frozen? p
theorem Sim.refl(w:World):Sim w w:=⟨fun p t n h=>⟨n,h⟩,fun p a n c h=>h,fun p=>rfl⟩
theorem IntsAt.sim{w w':World}{A:List AdK}(h:IntsAt w A)(s:Sim w w'):IntsAt w' A:=fun x hx=>by
 obtain⟨⟨n,h1⟩,h2⟩:=h x hx;exact⟨s.ints _ _ _ h1,(s.frozen _).trans h2⟩
structure Wrote(w w':World)(A:List AdK)(k:Int):Prop where
 cell:∀p,w'.cell? p=after A k w.cell? p
 sim:Sim w w'
 size:w'.heap.size=w.heap.size
 below:∀L,(∀x∈A,L<=x.1.block)->Below L w w'
 block:∀b,(∀x∈A,x.1.block≠b)->w'.heap[b]? =w.heap[b]?
theorem Wrote.refl(w:World)(k:Int):Wrote w w [] k:=⟨fun p=>rfl,Sim.refl w,rfl,fun L _=>Below.refl _ _,fun b _=>rfl⟩
theorem Wrote.drew{w w':World}{A:List AdK}{k:Int}(h:Wrote w w' A k):Wrote w w'.drew A k:=⟨h.cell,⟨h.sim.ints,h.sim.rows,h.sim.frozen⟩,h.size,fun L hL=>(h.below L hL).drew,h.block⟩
theorem Sim.set{w:World}{p:Addr}{t:IntKind}{n m:Int}(h:w.cell? p=some (.int t n)):Sim w (w.setCell p (.int t m)):=by
 refine⟨fun q t' n' h'=> ?_,fun q a n' c h'=> ?_,fun q=>by simp⟩
 ·by_cases e:p=q
  ·subst e;rw[h]at h'
   cases h';exact⟨m,World.cell?_setCell_same' _ _ _ (by rw[h];rfl)⟩
  exact⟨n',(World.cell?_setCell_other _ _ _ _ e).trans h'⟩
 have e:p≠q:=fun e=>by rw[<-e,h]at h';cases h'
 exact(World.cell?_setCell_other _ _ _ _ e).trans h'
theorem Sim.trans{a b c:World}(h:Sim a b)(h':Sim b c):Sim a c:=
 ⟨fun p t n e=>by obtain⟨m,e1⟩:=h.ints p t n e;exact h'.ints p t m e1,fun p x n cc e=>h'.rows _ _ _ _ (h.rows _ _ _ _ e),fun p=>(h'.frozen p).trans (h.frozen p)⟩
theorem Wrote.trans{a b c:World}{A B:List AdK}{k:Int}{k':Int}(h:Wrote a b A k)(h':Wrote b c B k')(hk:k'=k+A.length):Wrote a c (A++B) k:=by
 subst hk;refine⟨fun p=> ?_,h.sim.trans h'.sim,h'.size.trans h.size,fun L hL=> ?_,fun bk hb=> ?_⟩
 ·rw[h'.cell p,after_append];congr 1;funext q;exact h.cell q
 ·exact(h.below L fun x hx=>hL x (by simp[hx])).trans (h'.below L fun x hx=>hL x (by simp[hx]))
 exact(h'.block bk fun x hx=>hb x (by simp[hx])).trans (h.block bk fun x hx=>hb x (by simp[hx]))
theorem Wrote.one{w:World}{b o:Nat}{t:IntKind}{n k:Int}(h:w.cell? ⟨b,o,none⟩=some (.int t n)):Wrote w (w.setCell ⟨b,o,none⟩ (.int t k)) [(⟨b,o,none⟩,t)] k:=by
 refine⟨fun p=> ?_,Sim.set h,by simp,fun L hL=>(Below.refl _ _).setCell (p:=⟨b,o,none⟩) (hL (⟨b,o,none⟩,t) (by simp)) _,fun c hc=> ?_⟩
 ·simp only[after];by_cases e:p=⟨b,o,none⟩
  ·subst e;rw[if_pos rfl,World.cell?_setCell_same' _ _ _ (by rw[h];rfl)]
  rw[if_neg e];exact World.cell?_setCell_other _ _ _ _ (fun q=>e q.symm)
 have:=hc (⟨b,o,none⟩,t) (by simp);simp only[World.setCell,Array.getElem?_modify];rw[if_neg this]
def HeldA(w:World)(A:List AdK)(k:Int):Prop:=∀j(h:j<A.length),w.cell? A[j].1=some (.int A[j].2 (k+j))
theorem HeldA.below{w w':World}{A:List AdK}{k:Int}(h:HeldA w A k)(hb:Below w.heap.size w w'):HeldA w' A k:=fun j hj=>by
 have hc:=h j hj;have hl:A[j].1.block<w.heap.size:=by
  simp only[World.cell?]at hc;by_cases e:A[j].1.block<w.heap.size
  ·exact e
  rw[Array.getElem?_eq_none (by omega)]at hc;cases hc
 rw[hb.cell hl];exact hc
theorem HeldA.left{w:World}{A B:List AdK}{k:Int}(h:HeldA w (A++B) k):HeldA w A k:=fun j hj=>by
 have:=h j (by rw[List.length_append];omega);rw[List.getElem_append_left hj]at this;exact this
def a3(b o:Nat):List AdK:=[(⟨b,o,none⟩,.i64),(⟨b,o+1,none⟩,.u64),(⟨b,o+2,none⟩,.u64)]
def conA(b o:Nat)(n:Nat):List AdK:=(List.range n).flatMap fun j=>a3 b (o+j*3)
theorem flat_succ{α:Type}(f:Nat->List α)(n:Nat):(List.range (n+1)).flatMap f=(List.range n).flatMap f++f n:=by
 rw[List.range_succ,List.flatMap_append];simp
theorem conA_succ(b o n:Nat):conA b o (n+1)=conA b o n++a3 b (o+n*3):=flat_succ _ n
theorem conA_len(b o:Nat):∀n,(conA b o n).length=n*3
 |0=>rfl
 |n+1=>by rw[conA_succ,List.length_append,conA_len];simp[a3];omega
def SK(w:World)(a:Option Addr)(n:Nat)(A:List AdK):Prop:=(n=0∧A=[])∨∃b o,a=some ⟨b,o,none⟩∧A=conA b o n∧IntsAt w A
def SR(w:World)(a:Option Addr)(n:Nat)(A:List AdK):Prop:=n<=1048576∧((n=0∧A=[])∨∃b o,a=some ⟨b,o,none⟩∧∃F:Nat->List AdK,A=(List.range n).flatMap F∧∀i,i<n->∃a' n' c',w.cell? ⟨b,o+i,none⟩=some (.slice a' n' c')∧SK w a' n' (F i))
def a2(b o:Nat):List AdK:=[(⟨b,o,none⟩,.u32),(⟨b,o+1,none⟩,.u32)]
def SE(w:World)(a:Option Addr)(n:Nat)(A:List AdK):Prop:=n<=1048576∧((n=0∧A=[])∨∃b o,a=some ⟨b,o,none⟩∧∃F:Nat->List AdK,A=((List.range n).flatMap fun i=>a2 b (o+i*3)++F i)∧∀i,i<n->IntsAt w (a2 b (o+i*3))∧∃a' n' c',w.cell? ⟨b,o+i*3+2,none⟩=some (.slice a' n' c')∧SR w a' n' (F i))
theorem SK.sim{w w':World}{a:Option Addr}{n:Nat}{A:List AdK}(h:SK w a n A)(s:Sim w w'):SK w' a n A:=by
 rcases h with h|⟨b,o,h1,h2,h3⟩
 ·exact .inl h
 exact .inr ⟨b,o,h1,h2,h3.sim s⟩
theorem SR.sim{w w':World}{a:Option Addr}{n:Nat}{A:List AdK}(h:SR w a n A)(s:Sim w w'):SR w' a n A:=by
 obtain⟨hm,h⟩:=h;rcases h with h|⟨b,o,h1,F,h2,h3⟩
 ·exact⟨hm,.inl h⟩
 refine⟨hm,.inr ⟨b,o,h1,F,h2,fun i hi=> ?_⟩⟩;obtain⟨a',n',c',h4,h5⟩:=h3 i hi;exact⟨a',n',c',s.rows _ _ _ _ h4,h5.sim s⟩
theorem SE.sim{w w':World}{a:Option Addr}{n:Nat}{A:List AdK}(h:SE w a n A)(s:Sim w w'):SE w' a n A:=by
 obtain⟨hm,h⟩:=h;rcases h with h|⟨b,o,h1,F,h2,h3⟩
 ·exact⟨hm,.inl h⟩
 refine⟨hm,.inr ⟨b,o,h1,F,h2,fun i hi=> ?_⟩⟩;obtain⟨h6,a',n',c',h4,h5⟩:=h3 i hi;exact⟨h6.sim s,a',n',c',s.rows _ _ _ _ h4,h5.sim s⟩
def entA(b o:Nat)(F:Nat->List AdK)(j:Nat):List AdK:=(List.range j).flatMap fun i=>a2 b (o+i*3)++F i
theorem entA_succ(b o:Nat)(F:Nat->List AdK)(j:Nat):entA b o F (j+1)=entA b o F j++a2 b (o+j*3)++F j:=by
 rw[entA,flat_succ,<-List.append_assoc];rfl
end Go.Proofs.YtddemlfepjkgoaaGreat
