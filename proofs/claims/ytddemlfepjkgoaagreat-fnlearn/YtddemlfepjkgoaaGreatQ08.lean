import Derived.Deep.AppendLies
import Derived.Deep.Onto
import Derived.Deep.RegionLaw
import Derived.Test.YtddemlfepjkgoaaGreatQ07
set_option linter.all false
set_option maxRecDepth 200000
set_option maxHeartbeats 16000000
namespace Go.Proofs.YtddemlfepjkgoaaGreat
open Go.RowKit
variable{L:Nat}
def PRL(L:Nat)(w:World)(b o:Nat)(r:List K):Prop:=∃a cap,w.cell? ⟨b,o,none⟩=some (.slice a r.length cap)∧(r=[]∨∃b2 o2,a=some ⟨b2,o2,none⟩∧L<=b2∧b2<w.heap.size∧LAt 3 PK w b2 o2 r)
theorem PRL.stays(L:Nat):Stays (PRL L):=fun w w' b o x hlt hb⟨a,cap,h0,h1⟩=>⟨a,cap,(hb.cell (p:=⟨b,_,none⟩) hlt).trans h0,by
 rcases h1 with h1|⟨b2,o2,e,h2,h3,h4⟩
 ·exact .inl h1
 exact .inr ⟨b2,o2,e,h2,Nat.lt_of_lt_of_le h3 hb.size,h4.below PK.stays h3 hb⟩⟩
theorem PRL.plain{w:World}{b o:Nat}{r:List K}(h:PRL L w b o r):PR w b o r:=by
 obtain⟨a,cap,h0,h1⟩:=h;refine⟨a,cap,h0,?_⟩;rcases h1 with h1|⟨b2,o2,e,h2,h3,h4⟩
 ·exact .inl h1
 exact .inr ⟨b2,o2,e,h3,h4⟩
def goodN(L:Nat)(w:World)(v:Value)(p:Ru×Value):Prop:=∃b o cap,p.2=.slice (some ⟨b,o,none⟩) 6 cap∧p.1.length=6∧v.ownBlock≠some b∧b<w.heap.size∧LAt 3 PK w b o p.1∧L<=b
structure OwnM(L:Nat)(w:World)(B:Nat)(v:Value)(os:List (Ru×Value)):Prop where
 row:w.ownsRow B 116 1 v os.length (os.map Prod.snd)
 el:∀p∈os,goodN L w v p
theorem infoRuleM:(Tryz.prog.info? 116).map (fun i=>(i.zero,i.size,i.bytes))=some (some (.agg #[.slice none 0 0]),1,24):=by kernel_rfl
theorem OwnM.nil(w:World)(B:Nat):OwnM L w B (.slice none 0 0) []:=⟨World.ownsRow_nil _ _ _ _,by simp⟩
theorem goodN.below{w w1:World}{v:Value}{p:Ru×Value}(h:goodN L w v p)(hb:Below w.heap.size w w1):goodN L w1 v p:=by
 obtain⟨b,o,cap,h1,h2,h3,h4,h5⟩:=h;exact⟨b,o,cap,h1,h2,h3,Nat.lt_of_lt_of_le h4 hb.size,h5.1.below PK.stays h4 hb,h5.2⟩
theorem OwnM.below{w w1:World}{B:Nat}{v:Value}{os:List (Ru×Value)}(h:OwnM L w B v os)(hb:Below w.heap.size w w1):OwnM L w1 B v os:=
 ⟨World.ownsRow.kept (row:=none) h.row ⟨hb.os,hb.tape,hb.output,hb.size,fun k hk _=>hb.block k hk⟩ (by cases v.ownBlock<;>simp),fun p hp=>(h.el p hp).below hb⟩
theorem PK.blk{w w1:World}{b o:Nat}{c:K}(h:PK w b o c)(e:w1.heap[b]? =w.heap[b]?):PK w1 b o c:=by
 have key:∀i,w1.cell? ⟨b,i,none⟩=w.cell? ⟨b,i,none⟩:=fun i=>by simp only[World.cell?,e]
 exact⟨(key _).trans h.1,(key _).trans h.2.1,(key _).trans h.2.2⟩
theorem LAt.blk{w w1:World}{b o:Nat}{l:List K}(h:LAt 3 PK w b o l)(e:w1.heap[b]? =w.heap[b]?):LAt 3 PK w1 b o l:=fun i hi=>(h i hi).blk e
theorem OwnM.next{w w1:World}{B:Nat}{v:Value}{os:List (Ru×Value)}{p:Ru×Value}{gg cap n:Nat}{o:Obj}(h:OwnM L w B v os)(hp:goodN L w v p)(hn:n=os.length+1)
 (hown:w1.ownsRow B 116 1 (.slice (some ⟨gg,0,none⟩) n cap) n (os.map Prod.snd++[p.2]))(hg:(w.alloc o).grownBy w1 v.ownBlock)(hat:v.ownBlock=some gg∨gg=w.heap.size+1):
 OwnM L w1 B (.slice (some ⟨gg,0,none⟩) n cap) (os++[p]):=by
 subst hn
 have hsz:(w.alloc o).heap.size=w.heap.size+1:=by simp
 have key:∀q,goodN L w v q->goodN L w1 (.slice (some ⟨gg,0,none⟩) (os.length+1) cap) q:=by
  rintro q⟨b,o2,cap2,h1,h2,h3,h4,h5⟩
  have hb2:Below w.heap.size w (w.alloc o):=(Below.refl _ _).alloc (Nat.le_refl _) o
  have hlt:b<(w.alloc o).heap.size:=by omega
  refine⟨b,o2,cap2,h1,h2,?_,Nat.lt_of_lt_of_le hlt hg.size,(h5.1.below PK.stays h4 hb2).blk (hg.block b hlt (fun e=>h3 e.symm)),h5.2⟩
  intro e
  have e':gg=b:=by simpa[Value.ownBlock]using e
  rcases hat with q|q
  ·rw[e']at q;exact h3 q
  ·omega
 refine⟨by simpa using hown,fun q hq=> ?_⟩
 rw[List.mem_append,List.mem_singleton]at hq
 rcases hq with hq|rfl
 ·exact key q (h.el q hq)
 ·exact key _ hp
theorem OwnM.src{w:World}{B:Nat}{v:Value}{os:List (Ru×Value)}(h:OwnM L w B v os):∃a cap,v=.slice a os.length cap∧os.length<=cap∧LSrc 1 (PRL L) w a (os.map Prod.fst):=by
 obtain⟨hr,hg⟩:=h;have hr0:=hr;obtain⟨h0,h|⟨g,cap,cur,rfl,hb,hgc,hn,hm,hs,hx⟩⟩:=hr
 ·obtain⟨rfl,hl⟩:=h;have:os=[]:=List.eq_nil_of_length_eq_zero hl;subst this;exact⟨none,0,rfl,Nat.le_refl _,.inl rfl⟩
 refine⟨_,_,rfl,hn,.inr ⟨g,0,rfl,(Array.getElem?_eq_some_iff.1 hgc).1,fun i hi=> ?_⟩⟩;have hi':i<os.length:=by simpa using hi
 have c0:=World.ownsRow.cellAt hr0 i (by omega);rw[List.getElem?_map,List.getElem?_eq_getElem hi']at c0;obtain⟨b,o,cap2,h1,h2,h3,h4,h5⟩:=hg _ (List.getElem_mem hi');have e:(os.map Prod.fst)[i]=os[i].1:=by simp
 rw[e];refine⟨some ⟨b,o,none⟩,cap2,?_,.inr ⟨b,o,rfl,h5.2,h4,h5.1⟩⟩;rw[Nat.mul_one,Nat.zero_add,c0,h2];exact congrArg some h1
theorem OwnM.put{w:World}{B g n cap i:Nat}{os:List (Ru×Value)}{p:Ru×Value}(h:OwnM L w B (.slice (some ⟨g,0,none⟩) n cap) os)(hn:n=os.length)(hp:goodN L w (.slice (some ⟨g,0,none⟩) n cap) p):OwnM L (w.setCell ⟨g,i,none⟩ p.2) B (.slice (some ⟨g,0,none⟩) n cap) (os.set i p):=by
 subst hn;have h1:=(World.ownsRow.stored h.row i p.2).1;have key:∀q,goodN L w (.slice (some ⟨g,0,none⟩) os.length cap) q->goodN L (w.setCell ⟨g,i,none⟩ p.2) (.slice (some ⟨g,0,none⟩) os.length cap) q:=by
  rintro q⟨b,o2,cap2,h1,h2,h3,h4,h5⟩;refine⟨b,o2,cap2,h1,h2,h3,by simpa using h4,h5.1.blk ?_,h5.2⟩;have hne:g≠b:=fun e=>h3 (by rw[e];rfl)
  simp only[World.setCell,Array.getElem?_modify];rw[if_neg hne]
 refine⟨by rw[List.map_set,List.length_set];exact h1,fun q hq=> ?_⟩;rcases List.mem_or_eq_of_mem_set hq with hq|rfl
 ·exact key q (h.el q hq)
 exact key _ hp
end Go.Proofs.YtddemlfepjkgoaaGreat
namespace Go.Proofs.YtddemlfepjkgoaaGreat
def DiffU(r s:Ru)(k:Nat)(at0:Int):Prop:=
 (at0= -1∧∀j,j<k->r.getD j K.zero=s.getD j K.zero)∨∃p:Nat,p<k∧at0=p∧r.getD p K.zero≠s.getD p K.zero∧∀j,j<k->j≠p->r.getD j K.zero=s.getD j K.zero
theorem DiffU.zero(r s:Ru):DiffU r s 0 (-1):=.inl ⟨rfl,fun j hj=>by omega⟩
theorem DiffU.cases{r s:Ru}{k:Nat}{a:Int}(h:DiffU r s k a):a= -1∨∃p:Nat,a=p∧p<k:=by
 rcases h with⟨h,_⟩|⟨p,h1,h2,_⟩
 ·exact .inl h
 exact .inr ⟨p,h2,h1⟩
theorem DiffU.same{r s:Ru}{k:Nat}{a:Int}(h:DiffU r s k a)(e:r.getD k K.zero=s.getD k K.zero):DiffU r s (k+1) a:=by
 rcases h with⟨h1,h2⟩|⟨p,h1,h2,h3,h4⟩
 ·refine .inl ⟨h1,fun j hj=> ?_⟩;by_cases g:j=k
  ·rw[g];exact e
  exact h2 j (by omega)
 refine .inr ⟨p,by omega,h2,h3,fun j hj hne=> ?_⟩;by_cases g:j=k
 ·rw[g];exact e
 exact h4 j (by omega) hne
theorem DiffU.no{r s:Ru}{p:Nat}(h:DiffU r s 6 p)(e:joinK (r.getD p K.zero) (s.getD p K.zero)=none):NoJoin r s:=by
 rcases h with⟨h1,h2⟩|⟨p',h1,h2,h3,h4⟩
 ·omega
 have:p=p':=by omega
 subst this;rintro x⟨i,c,⟨g1,g2,g3,g4⟩,rfl⟩;by_cases q:i=p
 ·subst q;rw[e]at g4;cases g4
 exact g2 (h4 i g1 q)
theorem DiffU.yes{r s:Ru}{p:Nat}{c:K}(h:DiffU r s 6 p)(e:joinK (r.getD p K.zero) (s.getD p K.zero)=some c):JoinR r s (r.set p c):=by
 rcases h with⟨h1,h2⟩|⟨p',h1,h2,h3,h4⟩
 ·omega
 have:p=p':=by omega
 subst this;exact⟨p,c,⟨h1,h3,h4,e⟩,rfl⟩
end Go.Proofs.YtddemlfepjkgoaaGreat
namespace Go.Proofs.YtddemlfepjkgoaaGreat
open Go.RowKit
structure BR(t s:Nat)(w wr:World)(v:Value)(n:Nat)(xs:List Value):Prop where
 b:Below w.heap.size w wr
 c:wr.cell? ⟨w.heap.size,0,none⟩=some v
 f:wr.frozen? ⟨w.heap.size,0,none⟩=false
 own:wr.ownsRow (w.heap.size+1) t s v n xs
theorem cell_ltM{w:World}{p:Addr}{v:Value}(h:w.cell? p=some v):p.block<w.heap.size:=by
 by_cases e:p.block<w.heap.size
 ·exact e
 simp only[World.cell?]at h;rw[Array.getElem?_eq_none (by omega)]at h;cases h
theorem row_blockM{w w1:World}{base t s n:Nat}{v:Value}{xs:List Value}(h:w.ownsRow base t s v n xs)(e:∀q,v.ownBlock=some q->w1.heap[q]? =w.heap[q]?):w1.ownsRow base t s v n xs:=by
 obtain⟨h0,h|⟨g,cap,cur,rfl,hb,hg,hr⟩⟩:=h
 ·exact⟨h0,.inl h⟩
 exact⟨h0,.inr ⟨g,cap,cur,rfl,hb,(e g (by simp[Value.ownBlock])).trans hg,hr⟩⟩
theorem BR.keep{t s:Nat}{w wr w1:World}{v:Value}{n:Nat}{xs:List Value}(h:BR t s w wr v n xs)(hb:Below wr.heap.size wr w1):BR t s w w1 v n xs:=
 have h1:=cell_ltM h.c
 ⟨below_step hb h.b,cell_step hb h.c,(hb.frozen (p:=⟨w.heap.size,0,none⟩) h1).trans h.f,World.ownsRow.kept (row:=none) h.own ⟨hb.os,hb.tape,hb.output,hb.size,fun k hk _=>hb.block k hk⟩ (by cases v.ownBlock<;>simp)⟩
theorem BR.new(t s:Nat)(w:World)(T:Nat):BR t s w (w.alloc (.cells #[.slice none 0 0] T)) (.slice none 0 0) 0 []:=
 ⟨(Below.refl _ _).alloc (Nat.le_refl _) _,by simp,by simp,World.ownsRow_nil _ _ _ _⟩
theorem BR.next{t s:Nat}{w wr w1:World}{v:Value}{n m gg cap:Nat}{xs ys:List Value}(h:BR t s w wr v n xs)(hown:w1.ownsRow (w.heap.size+1) t s (.slice (some ⟨gg,0,none⟩) m cap) m ys)(hg:wr.grownBy w1 v.ownBlock):
 w1.cell? ⟨w.heap.size,0,none⟩=some v∧w1.frozen? ⟨w.heap.size,0,none⟩=false∧BR t s w (w1.setCell ⟨w.heap.size,0,none⟩ (.slice (some ⟨gg,0,none⟩) m cap)) (.slice (some ⟨gg,0,none⟩) m cap) m ys:=by
 have h1:=cell_ltM h.c;simp only at h1;have ne1:some w.heap.size≠v.ownBlock:=fun e=>by have:=(h.own.lt _ e.symm).1;omega
 have x1:=(hg.cell_far ⟨w.heap.size,0,none⟩ h1 ne1).trans h.c;have x2:=(hg.frozen_far ⟨w.heap.size,0,none⟩ h1 ne1).trans h.f;have hgg:=(hown.lt gg rfl).1;have hb1:Below w.heap.size w w1:=h.b.grown hg (by omega) (fun z hz=>by have:=(h.own.lt z hz).1;omega);refine⟨x1,x2,⟨hb1.setCell (p:=⟨w.heap.size,0,none⟩) (Nat.le_refl _) _,World.cell?_setCell_same _ _ _ x1,by simp[x2],?_⟩⟩;exact row_blockM hown (fun q hq=>by
  have:q=gg:=by simpa[Value.ownBlock]using hq.symm
  subst this
  simp only[World.setCell,Array.getElem?_modify];rw[if_neg (by omega)])
theorem own_form{w:World}{B t s n:Nat}{v:Value}{xs:List Value}(h:w.ownsRow B t s v n xs):∃a c,v=.slice a n c:=by
 obtain⟨_,⟨rfl,rfl⟩|⟨g,cap,cur,rfl,_⟩⟩:=h
 ·exact⟨none,0,rfl⟩
 exact⟨_,_,rfl⟩
theorem own_pos{w:World}{B t s n:Nat}{v:Value}{xs:List Value}(h:w.ownsRow B t s v n xs)(hn:0<n):∃g c,v=.slice (some ⟨g,0,none⟩) n c:=by
 obtain⟨_,h|⟨g,cap,cur,rfl,_⟩⟩:=h
 ·omega
 exact⟨_,_,rfl⟩
def kcs(l:List K):List Value:=l.flatMap fun c=>[.int .i64 c.kind,.int .u64 (c.a:Int),.int .u64 (c.b:Int)]
theorem kcs_snoc(l:List K)(c:K):kcs (l++[c])=kcs l++[.int .i64 c.kind,.int .u64 (c.a:Int),.int .u64 (c.b:Int)]:=by simp[kcs]
theorem kcs_get(l:List K)(i:Nat)(h:i<l.length):(kcs l)[i*3]? =some (.int .i64 l[i].kind)∧(kcs l)[i*3+1]? =some (.int .u64 (l[i].a:Int))∧(kcs l)[i*3+2]? =some (.int .u64 (l[i].b:Int)):=by
 induction l generalizing i with
 |nil=>simp at h
 |cons x p ih=>
  have e:kcs (x::p)=[.int .i64 x.kind,.int .u64 (x.a:Int),.int .u64 (x.b:Int)]++kcs p:=by simp[kcs]
  rw[e];match i with
  |0=>simp
  |i+1=>
   have hi:i<p.length:=by simpa using h
   have:=ih i hi;rw[List.getElem?_append_right (by simp;omega),List.getElem?_append_right (by simp;omega),List.getElem?_append_right (by simp;omega)];simp only[List.length_cons,List.length_nil];rw[show(i+1)*3-(0+1+1+1)=i*3 by omega,show(i+1)*3+1-(0+1+1+1)=i*3+1 by omega,show(i+1)*3+2-(0+1+1+1)=i*3+2 by omega];simpa using this
theorem own_lat{w:World}{B g cap n:Nat}{l:List K}(h:w.ownsRow B 94 3 (.slice (some ⟨g,0,none⟩) n cap) n (kcs l))(hn:l.length=n):LAt 3 PK w g 0 l:=fun i hi=>by
 obtain⟨c0,c1,c2⟩:=kcs_get l i hi;have key:=fun j(hj:j<n*3)=>World.ownsRow.cellAt h j hj
 rw[Nat.zero_add];exact⟨(key _ (by omega)).trans c0,(key _ (by omega)).trans c1,(key _ (by omega)).trans c2⟩
theorem infoConM:(Tryz.prog.info? 94).map (fun i=>(i.zero,i.size,i.bytes))=some (some (.agg #[.int .i64 0,.int .u64 0,.int .u64 0]),3,24):=by kernel_rfl
structure J3(w wr:World)(x y:Value):Prop where
 b:Below w.heap.size w wr
 x0:wr.cell? ⟨w.heap.size,0,none⟩=some x
 y0:wr.cell? ⟨w.heap.size+1,0,none⟩=some y
 z0:wr.cell? ⟨w.heap.size+1+1,0,none⟩=some (.slice none 0 0)
 zf:wr.frozen? ⟨w.heap.size+1+1,0,none⟩=false
theorem J3.keep{w wr w1:World}{x y:Value}(h:J3 w wr x y)(hb:Below wr.heap.size wr w1):J3 w w1 x y:=
 ⟨below_step hb h.b,cell_step hb h.x0,cell_step hb h.y0,cell_step hb h.z0,(hb.frozen (p:=⟨w.heap.size+1+1,0,none⟩) (cell_ltM h.z0)).trans h.zf⟩
theorem J3.new(w:World)(x y:Value):J3 w (((w.alloc (.cells #[x] 116)).alloc (.cells #[y] 116)).alloc (.cells #[.slice none 0 0] 116)) x y:=by
 refine⟨(((Below.refl _ _).alloc (Nat.le_refl _) _).alloc (by simp) _).alloc (by simp;omega) _,?_,?_,?_,?_⟩
 ·exact cell_step ((Below.refl _ _).alloc (Nat.le_refl _) _) (cell_step ((Below.refl _ _).alloc (Nat.le_refl _) _) (box1 w 116 x))
 ·have:=box1 (w.alloc (.cells #[x] 116)) 116 y;rw[show(w.alloc (.cells #[x] 116)).heap.size=w.heap.size+1 by simp]at this;exact cell_step ((Below.refl _ _).alloc (Nat.le_refl _) _) this
 ·have:=box1 ((w.alloc (.cells #[x] 116)).alloc (.cells #[y] 116)) 116 (.slice none 0 0);rw[show((w.alloc (.cells #[x] 116)).alloc (.cells #[y] 116)).heap.size=w.heap.size+1+1 by simp]at this;exact this
 have q:∀(u:World)(A:Nat),A=u.heap.size->(u.alloc (.cells #[.slice none 0 0] 116)).frozen? ⟨A,0,none⟩=false:=by intro u A h;subst h;simp
 exact q _ _ (by simp)
theorem add_at(b o m:Nat):(⟨b,o,none⟩:Addr).add m=⟨b,o+m,none⟩:=by
 unfold Addr.add;by_cases hm0:m=0
 ·subst hm0;simp
 simp[hm0]
def BytesAt(w:World)(b o:Nat)(l:List Int):Prop:=∀i,i<l.length->w.cell? ⟨b,o+i,none⟩=some (.int .u8 (l.getD i 0))
def BSrc(w:World)(a:Option Addr)(l:List Int):Prop:=l=[]∨∃b o,a=some ⟨b,o,none⟩∧b<w.heap.size∧BytesAt w b o l
theorem BSrc.below{w w':World}{a:Option Addr}{l:List Int}(h:BSrc w a l)(hb:Below w.heap.size w w'):BSrc w' a l:=by
 rcases h with h|⟨b,o,ha,hlt,hc⟩
 ·exact .inl h
 exact .inr ⟨b,o,ha,Nat.lt_of_lt_of_le hlt hb.size,fun i hi=>(hb.cell (p:=⟨b,_,none⟩) hlt).trans (hc i hi)⟩
abbrev owns(w:World)(base:Nat)(v:Value)(l:List Int):Prop:=w.ownsRow base 5 1 v l.length (l.map (Value.int .u8))
theorem grown_setCell{w wr:World}{D:Nat}(h:w.grownBy wr (some D))(j:Nat)(v:Value):w.grownBy (wr.setCell ⟨D,j,none⟩ v) (some D):=
 ⟨h.os,h.tape,h.output,by have:=h.size;simpa[World.setCell]using this,fun k hk hne=>(Below.heap_setCell wr ⟨D,j,none⟩ v k (fun e=>hne (by rw[e]))).trans (h.block k hk hne)⟩
def Marks(w:World)(D N:Nat)(k:Int)(j:Nat):Prop:=∃f,w.rowIs D 5 N f∧∀i,i<j->f i=.int .u8 (IntKind.u8.wrap (k+i))
theorem Marks.own{w:World}{D N j:Nat}{k:Int}(h:Marks w D N k j)(i:Nat)(hi:i<N):∃v,w.cell? ⟨D,i,none⟩=some v∧w.frozen? ⟨D,i,none⟩=false:=by
 obtain⟨f,hr,_⟩:=h;exact⟨_,hr.cell hi,hr.frozen i⟩
def UptoB(w:World)(D n:Nat)(l:List Int)(k:Nat):Prop:=∃f,w.rowIs D 5 n f∧∀j,j<k->f j=.int .u8 (l.getD j 0)
theorem UptoB.own{w:World}{D n k:Nat}{l:List Int}(h:UptoB w D n l k)(j:Nat)(hj:j<n):∃v,w.cell? ⟨D,j,none⟩=some v∧w.frozen? ⟨D,j,none⟩=false:=by
 obtain⟨f,hr,_⟩:=h;exact⟨_,hr.cell hj,hr.frozen j⟩
def UAt(w:World)(b o:Nat)(l:List Int):Prop:=∀i,i<l.length->w.cell? ⟨b,o+i,none⟩=some (.int .u64 (l.getD i 0))
def USrc(w:World)(a:Option Addr)(l:List Int):Prop:=l=[]∨∃b o,a=some ⟨b,o,none⟩∧b<w.heap.size∧UAt w b o l
theorem USrc.below{w w':World}{a:Option Addr}{l:List Int}(h:USrc w a l)(hb:Below w.heap.size w w'):USrc w' a l:=by
 rcases h with h|⟨b,o,ha,hlt,hc⟩
 ·exact .inl h
 exact .inr ⟨b,o,ha,Nat.lt_of_lt_of_le hlt hb.size,fun i hi=>(hb.cell (p:=⟨b,_,none⟩) hlt).trans (hc i hi)⟩
theorem info61:(Tryz.prog.info? 69).map (fun i=>(i.zero,i.size,i.bytes))=some (some (.int .u64 0),1,8):=by kernel_rfl
abbrev ownsU(w:World)(base:Nat)(v:Value)(l:List Int):Prop:=w.ownsRow base 69 1 v l.length (l.map (Value.int .u64))
theorem ownsU_src{w:World}{base:Nat}{v:Value}{l:List Int}(h:ownsU w base v l):∃a cap,v=.slice a l.length cap∧USrc w a l:=by
 obtain⟨_,h|⟨g,cap,cur,rfl,hb,hg,hn,hm,hs,hx⟩⟩:=h
 ·obtain⟨rfl,h0⟩:=h;have:l=[]:=List.eq_nil_of_length_eq_zero h0;subst this;exact⟨none,0,rfl,.inl rfl⟩
 refine⟨_,_,rfl,.inr ⟨g,0,rfl,(Array.getElem?_eq_some_iff.1 hg).1,fun i hi=> ?_⟩⟩;have e:(cur.toList.take (l.length*1))[i]? =some (Value.int .u64 (l.getD i 0)):=by
  rw[hx,List.getElem?_map,List.getElem?_eq_getElem hi,List.getD_eq_getElem?_getD,List.getElem?_eq_getElem hi];rfl
 rw[List.getElem?_take,if_pos (by omega)]at e;simp only[World.cell?,hg,Nat.zero_add];simpa using e
theorem ownsU_kept{w w':World}{B:Nat}{v:Value}{l:List Int}{row:Option Nat}(h:ownsU w B v l)(hg:w.grownBy w' row)(hne:∀q,v.ownBlock=some q->some q≠row):ownsU w' B v l:=by
 refine World.ownsRow.kept h hg ?_
 cases hv:v.ownBlock with
 |none=>exact .inl rfl
 |some q=>exact .inr (hne q hv)
def MarksU(w:World)(D N:Nat)(k:Int)(j:Nat):Prop:=∃f,w.rowIs D 69 N f∧∀i,i<j->f i=.int .u64 (k+i)
theorem MarksU.own{w:World}{D N j:Nat}{k:Int}(h:MarksU w D N k j)(i:Nat)(hi:i<N):∃v,w.cell? ⟨D,i,none⟩=some v∧w.frozen? ⟨D,i,none⟩=false:=by
 obtain⟨f,hr,_⟩:=h;exact⟨_,hr.cell hi,hr.frozen i⟩
def MarkedU(w:World)(v:Value)(n:Nat)(k:Int):Prop:=(v=.slice none 0 0∧n=0)∨∃g cap,v=.slice (some ⟨g,0,none⟩) n cap∧n<=cap∧MarksU w g cap k n
def UptoU(w:World)(D n:Nat)(l:List Int)(k:Nat):Prop:=∃f,w.rowIs D 69 n f∧∀j,j<k->f j=.int .u64 (l.getD j 0)
theorem UptoU.own{w:World}{D n k:Nat}{l:List Int}(h:UptoU w D n l k)(j:Nat)(hj:j<n):∃v,w.cell? ⟨D,j,none⟩=some v∧w.frozen? ⟨D,j,none⟩=false:=by
 obtain⟨f,hr,_⟩:=h;exact⟨_,hr.cell hj,hr.frozen j⟩
theorem UptoU.ownsU{w:World}{D:Nat}{l:List Int}(h:UptoU w D l.length l l.length)(hm:l.length<=maxLen):ownsU w D (.slice (some ⟨D,0,none⟩) l.length l.length) l:=by
 obtain⟨f,⟨c,hc,hs,hcf⟩,hf⟩:=h;refine⟨by simp,.inr ⟨D,l.length,c,rfl,Nat.le_refl _,hc,Nat.le_refl _,hm,by omega,?_⟩⟩;apply List.ext_getElem?;intro i;by_cases hi:i<l.length
 ·rw[List.getElem?_take,if_pos (by omega),Array.getElem?_toList,hcf i hi,hf i hi,List.getElem?_map,List.getElem?_eq_getElem hi,List.getD_eq_getElem?_getD,List.getElem?_eq_getElem hi];rfl
 rw[List.getElem?_take,if_neg (by omega),List.getElem?_map,List.getElem?_eq_none (by omega)];rfl
theorem ownsU_below{w w1:World}{base:Nat}{v:Value}{l:List Int}(h:ownsU w base v l)(hb:Below w.heap.size w w1):ownsU w1 base v l:=
 World.ownsRow.kept (row:=none) h ⟨hb.os,hb.tape,hb.output,hb.size,fun k hk _=>hb.block k hk⟩ (by cases v.ownBlock<;>simp)
theorem ownsU_at{w:World}{base:Nat}{v:Value}{l:List Int}(h:ownsU w base v l)(h0:0<l.length):
 ∃g cap,v=.slice (some ⟨g,0,none⟩) l.length cap∧base<=g∧∀j u,(l.map (Value.int .u64))[j]? =some u->w.cell? ((⟨g,0,none⟩:Addr).add j)=some u:=by
 have h':=h;obtain⟨_,h|⟨g,cap,cur,rfl,hb,hg,hn,hm,hs,hx⟩⟩:=h
 ·omega
 exact⟨g,cap,rfl,hb,h'.cells rfl⟩
abbrev callV(c:C)(v:Value):Value:=.agg #[.int .u32 c.arch,.int .u32 c.nr,v]
theorem ownsU_set{w:World}{B D j:Nat}{v x:Value}{l:List Int}(h:ownsU w B v l)(hne:∀q,v.ownBlock=some q->q≠D):ownsU (w.setCell ⟨D,j,none⟩ x) B v l:=
 ownsU_kept h (grown_setCell (World.grownBy.refl _ _) j x) (fun q hq e=>hne q hq (by simpa using e))
theorem ownsU_mono{w:World}{B B':Nat}{v:Value}{l:List Int}(h:ownsU w B v l)(hb:B'<=B):ownsU w B' v l:=by
 obtain⟨h0,h|⟨g,cap,cur,rfl,hb',hr⟩⟩:=h
 ·exact⟨h0,.inl h⟩
 exact⟨h0,.inr ⟨g,cap,cur,rfl,by omega,hr⟩⟩
structure Box3(w:World)(g:Nat)(x y z:Value):Prop where
 lt:g<w.heap.size
 c0:w.cell? ⟨g,0,none⟩=some x
 c1:w.cell? ⟨g,1,none⟩=some y
 c2:w.cell? ⟨g,2,none⟩=some z
 f0:w.frozen? ⟨g,0,none⟩=false
 f1:w.frozen? ⟨g,1,none⟩=false
 f2:w.frozen? ⟨g,2,none⟩=false
theorem Box3.keep{w w1:World}{g:Nat}{x y z:Value}(h:Box3 w g x y z)(hb:Below w.heap.size w w1):Box3 w1 g x y z:=
 ⟨Nat.lt_of_lt_of_le h.lt hb.size,(hb.cell (p:=⟨g,_,none⟩) h.lt).trans h.c0,(hb.cell (p:=⟨g,_,none⟩) h.lt).trans h.c1,(hb.cell (p:=⟨g,_,none⟩) h.lt).trans h.c2,
  (hb.frozen (p:=⟨g,_,none⟩) h.lt).trans h.f0,(hb.frozen (p:=⟨g,_,none⟩) h.lt).trans h.f1,(hb.frozen (p:=⟨g,_,none⟩) h.lt).trans h.f2⟩
theorem Box3.new(w:World)(t:TypeId)(x y z:Value):Box3 (w.alloc (.cells #[x,y,z] t)) w.heap.size x y z:=
 ⟨by simp,by simp,by simp,by simp,by simp,by simp,by simp⟩
theorem Box3.alloc{w:World}{g:Nat}{x y z:Value}(h:Box3 w g x y z)(o:Obj):Box3 (w.alloc o) g x y z:=h.keep ((Below.refl _ _).alloc (Nat.le_refl _) o)
def CAt(w:World)(b o:Nat)(cs:List C):Prop:=
 ∀i,i<cs.length->w.cell? ⟨b,o+i*3,none⟩=some (.int .u32 (cs.getD i C.zero).arch)∧w.cell? ⟨b,o+i*3+1,none⟩=some (.int .u32 (cs.getD i C.zero).nr)∧
  ∃a cap,w.cell? ⟨b,o+i*3+2,none⟩=some (.slice a (cs.getD i C.zero).args.length cap)∧USrc w a (cs.getD i C.zero).args
def CSrc(w:World)(a:Option Addr)(cs:List C):Prop:=cs=[]∨∃b o,a=some ⟨b,o,none⟩∧b<w.heap.size∧CAt w b o cs
theorem CAt.below{w w':World}{b o:Nat}{cs:List C}(h:CAt w b o cs)(hlt:b<w.heap.size)(hb:Below w.heap.size w w'):CAt w' b o cs:=by
 intro i hi;obtain⟨c0,c1,a,cap,c2,hs⟩:=h i hi;exact⟨(hb.cell (p:=⟨b,_,none⟩) hlt).trans c0,(hb.cell (p:=⟨b,_,none⟩) hlt).trans c1,a,cap,(hb.cell (p:=⟨b,_,none⟩) hlt).trans c2,hs.below hb⟩
theorem CSrc.below{w w':World}{a:Option Addr}{cs:List C}(h:CSrc w a cs)(hb:Below w.heap.size w w'):CSrc w' a cs:=by
 rcases h with h|⟨b,o,ha,hlt,hc⟩
 ·exact .inl h
 exact .inr ⟨b,o,ha,Nat.lt_of_lt_of_le hlt hb.size,hc.below hlt hb⟩
end Go.Proofs.YtddemlfepjkgoaaGreat
