import Derived.Test.YtdihdapmphkhpaaGreatQ30
set_option linter.all false
set_option maxRecDepth 200000
set_option maxHeartbeats 16000000
namespace Go.Proofs.YtdihdapmphkhpaaGreat
open Go.RowKit
variable{B n s t:Nat}{v:Value}{w w1 wr:World}{xs:List Value}
structure BR(t s:Nat)(w wr:World)(v:Value)(n:Nat)(xs:List Value):Prop where
 b:Below w.heap.size w wr
 c:wr.cell? ⟨w.heap.size,0,none⟩=some v
 f:wr.frozen? ⟨w.heap.size,0,none⟩=false
 own:wr.ownsRow (w.heap.size+1) t s v n xs
theorem ib{p:Addr}(h:w.cell? p=some v):p.block<w.heap.size:=by
 by_cases e:p.block<w.heap.size
 ·exact e
 simp only[World.cell?]at h;rw[cI (by omega)]at h;cases h
theorem vV{base:Nat}(h:w.ownsRow base t s v n xs)(e:∀q,v.ownBlock=some q->w1.heap[q]? =w.heap[q]?):w1.ownsRow base t s v n xs:=by
 obtain⟨h0,h|⟨g,cap,cur,rfl,hb,hg,hr⟩⟩:=h
 ·exact⟨h0,.inl h⟩
 exact⟨h0,.inr ⟨g,cap,cur,rfl,hb,(e g (by simp[Value.ownBlock])).trans hg,hr⟩⟩
theorem BR.ey(h:BR t s w wr v n xs)(hb:Below wr.heap.size wr w1):BR t s w w1 v n xs:=
 have h1:=ib h.c
 ⟨eo hb h.b,eh hb h.c,(hb.frozen (p:=⟨w.heap.size,0,none⟩) h1).trans h.f,aA (row:=none) h.own ⟨hb.os,hb.tape,hb.output,hb.size,fun k hk _=>hb.block k hk⟩ (by cases v.ownBlock<;>simp)⟩
theorem BR.new(t s:Nat)(w:World)(T:Nat):BR t s w (w.alloc (.cells #[.slice none 0 0] T)) (.slice none 0 0) 0 []:=
 ⟨(af _ _).alloc (ae _) _,by simp,by simp,aZ _ _ _ _⟩
theorem BR.next{m gg cap:Nat}{ys:List Value}(h:BR t s w wr v n xs)(hown:w1.ownsRow (w.heap.size+1) t s (.slice (some ⟨gg,0,none⟩) m cap) m ys)(hg:wr.grownBy w1 v.ownBlock):
 w1.cell? ⟨w.heap.size,0,none⟩=some v∧w1.frozen? ⟨w.heap.size,0,none⟩=false∧BR t s w (w1.setCell ⟨w.heap.size,0,none⟩ (.slice (some ⟨gg,0,none⟩) m cap)) (.slice (some ⟨gg,0,none⟩) m cap) m ys:=by
 have h1:=ib h.c;simp only at h1;have ne1:some w.heap.size≠v.ownBlock:=fun e=>by have:=(h.own.lt _ e.symm).1;omega
 have x1:=(hg.cell_far ⟨w.heap.size,0,none⟩ h1 ne1).trans h.c;have x2:=(hg.frozen_far ⟨w.heap.size,0,none⟩ h1 ne1).trans h.f;have hgg:=(hown.lt gg rfl).1;have hb1:Below w.heap.size w w1:=h.b.grown hg (by omega) (fun z hz=>by have:=(h.own.lt z hz).1;omega);refine⟨x1,x2,⟨hb1.setCell (p:=⟨w.heap.size,0,none⟩) (ae _) _,aG _ _ _ x1,by simp[x2],?_⟩⟩;exact vV hown (fun q hq=>by
  have:q=gg:=by simpa[Value.ownBlock]using hq.symm
  subst this
  simp only[World.setCell,aH];rw[if_neg (by omega)])
theorem rK(h:w.ownsRow B t s v n xs):∃a c,v=.slice a n c:=by
 obtain⟨_,⟨rfl,rfl⟩|⟨g,cap,cur,rfl,_⟩⟩:=h
 ·exact⟨none,0,rfl⟩
 exact⟨_,_,rfl⟩
theorem pS(h:w.ownsRow B t s v n xs)(hn:0<n):∃g c,v=.slice (some ⟨g,0,none⟩) n c:=by
 obtain⟨_,h|⟨g,cap,cur,rfl,_⟩⟩:=h
 ·omega
 exact⟨_,_,rfl⟩
def kcs(l:List K):List Value:=l.flatMap fun c=>[.int .i64 c.kind,.int .u64 (c.a:Int),.int .u64 (c.b:Int)]
theorem px(l:List K)(c:K):kcs (l++[c])=kcs l++[.int .i64 c.kind,.int .u64 (c.a:Int),.int .u64 (c.b:Int)]:=by simp[kcs]
theorem Ip(l:List K)(i:Nat)(h:i<l.length):(kcs l)[i*3]? =some (.int .i64 l[i].kind)∧(kcs l)[i*3+1]? =some (.int .u64 (l[i].a:Int))∧(kcs l)[i*3+2]? =some (.int .u64 (l[i].b:Int)):=by
 induction l generalizing i with
 |nil=>simp at h
 |cons x p ih=>
  have e:kcs (x::p)=[.int .i64 x.kind,.int .u64 (x.a:Int),.int .u64 (x.b:Int)]++kcs p:=by simp[kcs]
  rw[e];match i with
  |0=>simp
  |i+1=>
   have hi:i<p.length:=by simpa using h
   have:=ih i hi;rw[aw (by simp;omega),aw (by simp;omega),aw (by simp;omega)];simp only[aq,aU];rw[show(i+1)*3-(0+1+1+1)=i*3 by omega,show(i+1)*3+1-(0+1+1+1)=i*3+1 by omega,show(i+1)*3+2-(0+1+1+1)=i*3+2 by omega];simpa using this
theorem yo{g cap:Nat}{l:List K}(h:w.ownsRow B 84 3 (.slice (some ⟨g,0,none⟩) n cap) n (kcs l))(hn:l.length=n):LAt 3 PK w g 0 l:=fun i hi=>by
 obtain⟨c0,c1,c2⟩:=Ip l i hi;have key:=fun j(hj:j<n*3)=>bE h j hj
 rw[aC];exact⟨(key _ (by omega)).trans c0,(key _ (by omega)).trans c1,(key _ (by omega)).trans c2⟩
theorem Aa:(Tryz.prog.info? 84).map (fun i=>(i.zero,i.size,i.bytes))=some (some (.agg #[.int .i64 0,.int .u64 0,.int .u64 0]),3,24):=by kernel_rfl
def JrP(r s:Ru)(w:World)(e:Ending)(w':World):Prop:=((∃x b cap,jD r s x∧e=.returned (.tuple #[.agg #[.slice (some ⟨b,0,none⟩) 6 cap],.bool true])∧w.heap.size<=b∧b<w'.heap.size∧LAt 3 PK w' b 0 x)∨(gj r s∧e=.returned (.tuple #[.agg #[.slice none 0 0],.bool false])))∧Below w.heap.size w w'
structure J3(w wr:World)(x y:Value):Prop where
 b:Below w.heap.size w wr
 x0:wr.cell? ⟨w.heap.size,0,none⟩=some x
 y0:wr.cell? ⟨w.heap.size+1,0,none⟩=some y
 z0:wr.cell? ⟨w.heap.size+1+1,0,none⟩=some (.slice none 0 0)
 zf:wr.frozen? ⟨w.heap.size+1+1,0,none⟩=false
theorem J3.ey{x y:Value}(h:J3 w wr x y)(hb:Below wr.heap.size wr w1):J3 w w1 x y:=
 ⟨eo hb h.b,eh hb h.x0,eh hb h.y0,eh hb h.z0,(hb.frozen (p:=⟨w.heap.size+1+1,0,none⟩) (ib h.z0)).trans h.zf⟩
theorem J3.new(w:World)(x y:Value):J3 w (((w.alloc (.cells #[x] 57)).alloc (.cells #[y] 57)).alloc (.cells #[.slice none 0 0] 57)) x y:=by
 refine⟨(((af _ _).alloc (ae _) _).alloc (by simp) _).alloc (by simp;omega) _,?_,?_,?_,?_⟩
 ·exact eh ((af _ _).alloc (ae _) _) (eh ((af _ _).alloc (ae _) _) (nZ w 57 x))
 ·have:=nZ (w.alloc (.cells #[x] 57)) 57 y;rw[show(w.alloc (.cells #[x] 57)).heap.size=w.heap.size+1 by simp]at this;exact eh ((af _ _).alloc (ae _) _) this
 ·have:=nZ ((w.alloc (.cells #[x] 57)).alloc (.cells #[y] 57)) 57 (.slice none 0 0);rw[show((w.alloc (.cells #[x] 57)).alloc (.cells #[y] 57)).heap.size=w.heap.size+1+1 by simp]at this;exact this
 have q:∀(u:World)(A:Nat),A=u.heap.size->(u.alloc (.cells #[.slice none 0 0] 57)).frozen? ⟨A,0,none⟩=false:=by intro u A h;subst h;simp
 exact q _ _ (by simp)
theorem vQ(r s:Ru)(a a':Option Addr)(cap cap':Nat)(w:World)(hs:eS 3 PK w a r)(hs':eS 3 PK w a' s)(hr:NR r)(hr':NR s):
 Calls Tryz.prog 88 #[.agg #[.slice a 6 cap],.agg #[.slice a' 6 cap']] w fun e w'=>JrP r s w e w':=by
 obtain⟨i0,hi,hz0,hz1,hz2⟩:=info_parts Aa
 have HC:Hid (∀i,∀w,Calls Tryz.prog 119 #[fC (r.getD i K.zero),fC (s.getD i K.zero)] w fun e w'=>e=.returned (.int .i64 (l5 (r.getD i K.zero) (s.getD i K.zero)))∧Below w.heap.size w w'):=fun i w=>oJ _ _ w (hr.2 i) (hr'.2 i)
 have HJ:Hid (∀i,∀w,Calls Tryz.prog 121 #[fC (r.getD i K.zero),fC (s.getD i K.zero)] w fun e w'=>e=.returned (jV (gl (r.getD i K.zero) (s.getD i K.zero)))∧Below w.heap.size w w'):=fun i w=>wM _ _ w (hr.2 i) (hr'.2 i)
 have HZ:Hid (∀i,l5 (r.getD i K.zero) (s.getD i K.zero)=0↔r.getD i K.zero=s.getD i K.zero):=fun i=>by
  rw[(wY _ _).1]
  exact⟨fun h=>linK.zero _ _ h,fun h=>by rw[h];exact linK.self _⟩
 have HP:Hid (∀wr,Below w.heap.size w wr->∀i,i<6->∃b o,a=some ⟨b,o,none⟩∧b<wr.heap.size∧PK wr b (o+i*3) (r.getD i K.zero)):=fun wr hB i hi=>(hs.below PK.stays hB).at (by rw[hr.1];exact hi) K.zero
 have HU:Hid (∀wr,Below w.heap.size w wr->∀i,i<6->∃b o,a'=some ⟨b,o,none⟩∧b<wr.heap.size∧PK wr b (o+i*3) (s.getD i K.zero)):=fun wr hB i hi=>(hs'.below PK.stays hB).at (by rw[hr'.1];exact hi) K.zero
 have HTk:Hid (∀p c i,i<6->(r.set p c).take (i+1)=(r.set p c).take i++[if i=p then c else r.getD i K.zero]):=fun p c i hi=>Gj (by rw[hr.1];exact hi)
 have HTl:Hid (∀p c i,i<=6->((r.set p c).take i).length=i):=fun p c i hi=>by rw[bN,aK,hr.1];omega
 have HT6:Hid (∀p c,(r.set p c).take 6=r.set p c):=fun p c=>List.take_of_length_le (by rw[aK,hr.1];exact ae 6)
 clear hs hs' hr hr'
 have S0:=J3.new w (.slice a 6 cap) (.slice a' 6 cap')
 go_enter Tryz.func88,Tryz.ntmps88
 go_wp2_with fail
 generalize((w.alloc (.cells #[.slice a 6 cap] 57)).alloc (.cells #[.slice a' 6 cap'] 57)).alloc (.cells #[.slice none 0 0] 57)=W at*
 go_loopw [6,7](fun t i wr=>∃(k:Nat)(at0:Int),k<=6∧i=.int .i64 k∧t=.int .i64 at0∧Hid (jm r s k at0)∧J3 w wr (.slice a 6 cap) (.slice a' 6 cap'))(fun _ i _=>6-(intOf i).toNat)
 case atStart=>exact⟨0,-1,by omega,rfl,rfl,jm.zero _ _,S0⟩
 case round=>
  clear S0
  obtain⟨k,at0,hk,rfl,rfl,HD,hJ⟩:=hrel
  rename World=>W0
  by_cases hk6:k<6
  ·obtain⟨b,o,rfl,hlt,c0,c1,c2⟩:=HP.out W0 hJ.b k hk6
   obtain⟨b',o',rfl,hlt',d0,d1,d2⟩:=HU.out W0 hJ.b k hk6
   have HC1:=HC.out k
   have HZ1:Hid (l5 (r.getD k K.zero) (s.getD k K.zero)=0->jm r s (k+1) at0):=fun h=>HD.out.same ((HZ.out k).1 h)
   have HZ2:Hid (l5 (r.getD k K.zero) (s.getD k K.zero)≠0->at0= -1->jm r s (k+1) k):=fun h e=>by
    have hd:=HD.out
    rw[e]at hd
    exact hd.here (fun q=>h ((HZ.out k).2 q))
   have HZ3:Hid (l5 (r.getD k K.zero) (s.getD k K.zero)≠0->∀p:Nat,at0=p->gj r s):=fun h p e=>by
    have hd:=HD.out
    rw[e]at hd
    exact hd.twice hk6 (fun q=>h ((HZ.out k).2 q))
   have hk6':(k:Int)<6:=by omega
   clear HC HP HU HJ HZ HTk HTl HT6
   generalize l5 (r.getD k K.zero) (s.getD k K.zero)=Q at*
   generalize r.getD k K.zero=c at*
   generalize s.getD k K.zero=d at*
   obtain⟨ck,ca,cb⟩:=c
   obtain⟨dk,da,db⟩:=d
   simp only at c0 c1 c2 d0 d1 d2
   simp only[fC]at HC1
   have HC2:Hid (∀w,Calls Tryz.prog 119 #[.agg #[.int .i64 ck,.int .u64 (ca:Int),.int .u64 (cb:Int)],.agg #[.int .i64 dk,.int .u64 (da:Int),.int .u64 (db:Int)]] w fun e w'=>e=.returned (.int .i64 Q)∧Below w.heap.size w w'):=HC1
   clear HC1
   have SK:Hid (∀wa wb,Below wa.heap.size wa wb->(J3 w wa (.slice (some ⟨b,o,none⟩) 6 cap) (.slice (some ⟨b',o',none⟩) 6 cap')∧wa.cell? ⟨w.heap.size,0,none⟩=some (.slice (some ⟨b,o,none⟩) 6 cap)∧wa.cell? ⟨w.heap.size+1,0,none⟩=some (.slice (some ⟨b',o',none⟩) 6 cap')∧wa.cell? ⟨b,o+k*3,none⟩=some (.int .i64 ck)∧wa.cell? ⟨b,o+k*3+1,none⟩=some (.int .u64 (ca:Int))∧wa.cell? ⟨b,o+k*3+2,none⟩=some (.int .u64 (cb:Int))∧wa.cell? ⟨b',o'+k*3,none⟩=some (.int .i64 dk)∧wa.cell? ⟨b',o'+k*3+1,none⟩=some (.int .u64 (da:Int))∧wa.cell? ⟨b',o'+k*3+2,none⟩=some (.int .u64 (db:Int)))->(J3 w wb (.slice (some ⟨b,o,none⟩) 6 cap) (.slice (some ⟨b',o',none⟩) 6 cap')∧wb.cell? ⟨w.heap.size,0,none⟩=some (.slice (some ⟨b,o,none⟩) 6 cap)∧wb.cell? ⟨w.heap.size+1,0,none⟩=some (.slice (some ⟨b',o',none⟩) 6 cap')∧wb.cell? ⟨b,o+k*3,none⟩=some (.int .i64 ck)∧wb.cell? ⟨b,o+k*3+1,none⟩=some (.int .u64 (ca:Int))∧wb.cell? ⟨b,o+k*3+2,none⟩=some (.int .u64 (cb:Int))∧wb.cell? ⟨b',o'+k*3,none⟩=some (.int .i64 dk)∧wb.cell? ⟨b',o'+k*3+1,none⟩=some (.int .u64 (da:Int))∧wb.cell? ⟨b',o'+k*3+2,none⟩=some (.int .u64 (db:Int)))):=fun wa wb hb⟨s,x,y,e1,e2,e3,e4,e5,e6⟩=>⟨s.ey hb,eh hb x,eh hb y,eh hb e1,eh hb e2,eh hb e3,eh hb e4,eh hb e5,eh hb e6⟩
   have hS0:=SK.out W0 W0.drew ((af _ _).drew) ⟨hJ,hJ.x0,hJ.y0,c0,c1,c2,d0,d1,d2⟩
   clear c0 c1 c2 d0 d1 d2 hJ
   go_wp2_with fail
   go_region_held3(fun w'=>J3 w w' (.slice (some ⟨b,o,none⟩) 6 cap) (.slice (some ⟨b',o',none⟩) 6 cap')∧w'.cell? ⟨w.heap.size,0,none⟩=some (.slice (some ⟨b,o,none⟩) 6 cap)∧w'.cell? ⟨w.heap.size+1,0,none⟩=some (.slice (some ⟨b',o',none⟩) 6 cap')∧w'.cell? ⟨b,o+k*3,none⟩=some (.int .i64 ck)∧w'.cell? ⟨b,o+k*3+1,none⟩=some (.int .u64 (ca:Int))∧w'.cell? ⟨b,o+k*3+2,none⟩=some (.int .u64 (cb:Int))∧w'.cell? ⟨b',o'+k*3,none⟩=some (.int .i64 dk)∧w'.cell? ⟨b',o'+k*3+1,none⟩=some (.int .u64 (da:Int))∧w'.cell? ⟨b',o'+k*3+2,none⟩=some (.int .u64 (db:Int)))
    (assumption)
    (first|(go_at_call 119;refine(HC2.out _).mono ?_;rintro _ w9⟨rfl,hb9⟩;have hS9:=SK.out _ _ hb9 (by assumption)))
   all_goals
    obtain⟨J1,x1,y1,_,_,_,_,_,_⟩:=hS9
    clear hb9 hS0 SK HC2
    by_cases hQ:Q=0
    ·subst hQ
     have HR2:Hid (jm r s (k+1) at0):=HZ1.out (by first|rfl|trivial)
     clear HZ1 HZ2 HZ3
     go_wp2
     go_roundw
     case rel=>exact⟨k+1,at0,by omega,by go_num,rfl,HR2,J1⟩
     case measure=>simp[intOf];omega
    ·have hb:(Q !=0)=true:=by simpa using hQ
     rcases HD.out.cases with hneg|⟨p,hp,hpk⟩
     ·subst hneg
      have HR2:Hid (jm r s (k+1) k):=HZ2.out hQ (by first|rfl|trivial)
      clear HZ1 HZ2 HZ3 hQ HD
      go_wp2
      go_roundw
      case rel=>exact⟨k+1,k,by omega,by go_num,by go_num,HR2,J1⟩
      case measure=>simp[intOf];omega
     ·subst hp
      have HN:Hid (gj r s):=HZ3.out hQ p (by first|rfl|trivial)
      have g3:(0:Int)<=(p:Int):=by omega
      have B1:=J1.b
      have z1:=J1.z0
      have zf1:=J1.zf
      clear HZ1 HZ2 HZ3 hQ HD J1 x1 y1
      go_wp2
      exact bodyPost_ret (v:=.tuple #[.agg #[.slice none 0 0],.bool false]) (by simp[results,Tryz.results88,go_sem,z1]) rfl ⟨.inr ⟨HN.out,rfl⟩,B1.setCell (p:=⟨w.heap.size+1+1,0,none⟩) (show w.heap.size<=w.heap.size+1+1 by omega) _⟩
  ·have hk':k=6:=by omega
   subst hk'
   rcases HD.out.cases with hneg|⟨p,hp,hpk⟩
   ·subst hneg
    have HN:Hid (gj r s):=HD.out.never
    have B1:=hJ.b
    have z1:=hJ.z0
    have zf1:=hJ.zf
    clear HC HJ HZ HP HU HTk HTl HT6 HD hJ
    go_wp2
    exact bodyPost_ret (v:=.tuple #[.agg #[.slice none 0 0],.bool false]) (by simp[results,Tryz.results88,go_sem,z1]) rfl ⟨.inr ⟨HN.out,rfl⟩,B1.setCell (p:=⟨w.heap.size+1+1,0,none⟩) (show w.heap.size<=w.heap.size+1+1 by omega) _⟩
   ·subst hp
    obtain⟨b,o,rfl,hlt,c0,c1,c2⟩:=HP.out W0 hJ.b p hpk
    obtain⟨b',o',rfl,hlt',d0,d1,d2⟩:=HU.out W0 hJ.b p hpk
    have HJ1:=HJ.out p
    have HNo:Hid (gl (r.getD p K.zero) (s.getD p K.zero)=none->gj r s):=fun h=>HD.out.no h
    have HYe:Hid (∀c,gl (r.getD p K.zero) (s.getD p K.zero)=some c->jD r s (r.set p c)):=fun c h=>HD.out.yes h
    have hp6':(p:Int)<6:=by omega
    have g3:¬(p:Int)<0:=by omega
    clear HC HU HJ HZ HD
    generalize gl (r.getD p K.zero) (s.getD p K.zero)=J at*
    generalize r.getD p K.zero=c at HJ1 c0 c1 c2
    generalize s.getD p K.zero=d at HJ1 d0 d1 d2
    obtain⟨ck,ca,cb⟩:=c
    obtain⟨dk,da,db⟩:=d
    simp only at c0 c1 c2 d0 d1 d2
    simp only[fC]at HJ1
    have hW0:=hJ.b.size
    have hzl:=ib hJ.z0
    have SB:Hid (∀w',Below W0.heap.size W0 w'->(Below W0.heap.size W0 w'∧w'.cell? ⟨w.heap.size,0,none⟩=some (.slice (some ⟨b,o,none⟩) 6 cap)∧w'.cell? ⟨w.heap.size+1,0,none⟩=some (.slice (some ⟨b',o',none⟩) 6 cap')∧w'.cell? ⟨b,o+p*3,none⟩=some (.int .i64 ck)∧w'.cell? ⟨b,o+p*3+1,none⟩=some (.int .u64 (ca:Int))∧w'.cell? ⟨b,o+p*3+2,none⟩=some (.int .u64 (cb:Int))∧w'.cell? ⟨b',o'+p*3,none⟩=some (.int .i64 dk)∧w'.cell? ⟨b',o'+p*3+1,none⟩=some (.int .u64 (da:Int))∧w'.cell? ⟨b',o'+p*3+2,none⟩=some (.int .u64 (db:Int)))):=fun w' hb=>⟨hb,eh hb hJ.x0,eh hb hJ.y0,eh hb c0,eh hb c1,eh hb c2,eh hb d0,eh hb d1,eh hb d2⟩
    have SKa:Hid (∀wb,Below W0.drew.heap.size W0.drew wb->Below W0.heap.size W0 wb):=fun wb hb=>eo (wa:=W0.drew) hb ((af _ _).drew)
    have SKb:Hid (∀wb,Below (W0.alloc (.cells #[.int .i64 0,.int .u64 0,.int .u64 0] 84)).drew.heap.size (W0.alloc (.cells #[.int .i64 0,.int .u64 0,.int .u64 0] 84)).drew wb->Below W0.heap.size W0 wb∧W0.heap.size<wb.heap.size∧wb.cell? ⟨W0.heap.size,0,none⟩=some (.int .i64 0)∧wb.cell? ⟨W0.heap.size,1,none⟩=some (.int .u64 0)∧wb.cell? ⟨W0.heap.size,2,none⟩=some (.int .u64 0)∧wb.frozen? ⟨W0.heap.size,0,none⟩=false∧wb.frozen? ⟨W0.heap.size,1,none⟩=false∧wb.frozen? ⟨W0.heap.size,2,none⟩=false):=by
     intro wb hb
     have hz:W0.heap.size<(W0.alloc (.cells #[.int .i64 0,.int .u64 0,.int .u64 0] 84)).drew.heap.size:=by simp
     refine⟨eo hb ((af _ _).alloc (ae _) _).drew,an hz hb.size,(hb.cell (p:=⟨W0.heap.size,0,none⟩) hz).trans (by simp),(hb.cell (p:=⟨W0.heap.size,1,none⟩) hz).trans (by simp),(hb.cell (p:=⟨W0.heap.size,2,none⟩) hz).trans (by simp),(hb.frozen (p:=⟨W0.heap.size,0,none⟩) hz).trans (by simp),(hb.frozen (p:=⟨W0.heap.size,1,none⟩) hz).trans (by simp),(hb.frozen (p:=⟨W0.heap.size,2,none⟩) hz).trans (by simp)⟩
    have hS0:=SB.out W0.drew (af _ _).drew
    have hS1:=SB.out (W0.alloc (.cells #[.int .i64 0,.int .u64 0,.int .u64 0] 84)).drew ((af _ _).alloc (ae _) _).drew
    have hS2:=SB.out (W0.drew.alloc (.cells #[.int .i64 0,.int .u64 0,.int .u64 0] 84)) ((af _ _).drew.alloc (ae _) _)
    clear c0 c1 c2 d0 d1 d2
    have HF:Hid (∃nk na nb v9,jV J=.tuple #[.agg #[.int .i64 nk,.int .u64 na,.int .u64 nb],.bool v9]∧(v9=false->J=none)∧(v9=true->∃c:K,J=some c∧nk=c.kind∧na=(c.a:Int)∧nb=(c.b:Int))):=by
     cases J with
     |none=>exact⟨0,0,0,false,rfl,fun _=>rfl,fun h=>by cases h⟩
     |some c=>exact⟨c.kind,c.a,c.b,true,rfl,(fun h=>by cases h),(fun _=>⟨c,rfl,rfl,rfl,rfl⟩)⟩
    obtain⟨nk,na,nb,v9,hJV,hvn,hvy⟩:=HF.out
    rw[hJV]at HJ1
    have HVN:Hid (v9=false->gj r s):=fun h=>HNo.out (hvn h)
    have HVY:Hid (v9=true->∃c:K,jD r s (r.set p c)∧nk=c.kind∧na=(c.a:Int)∧nb=(c.b:Int)):=fun h=>by
     obtain⟨c,e,q⟩:=hvy h
     exact⟨c,HYe.out c e,q⟩
    have HJ2:Hid (∀w,Calls Tryz.prog 121 #[.agg #[.int .i64 ck,.int .u64 (ca:Int),.int .u64 (cb:Int)],.agg #[.int .i64 dk,.int .u64 (da:Int),.int .u64 (db:Int)]] w fun e w'=>e=.returned (.tuple #[.agg #[.int .i64 nk,.int .u64 na,.int .u64 nb],.bool v9])∧Below w.heap.size w w'):=HJ1
    clear HJ1 HF hJV hvn hvy HNo HYe
    clear J
    go_wp2_with fail
    go_region_held3(fun w'=>Below W0.heap.size W0 w'∧w'.cell? ⟨w.heap.size,0,none⟩=some (.slice (some ⟨b,o,none⟩) 6 cap)∧w'.cell? ⟨w.heap.size+1,0,none⟩=some (.slice (some ⟨b',o',none⟩) 6 cap')∧w'.cell? ⟨b,o+p*3,none⟩=some (.int .i64 ck)∧w'.cell? ⟨b,o+p*3+1,none⟩=some (.int .u64 (ca:Int))∧w'.cell? ⟨b,o+p*3+2,none⟩=some (.int .u64 (cb:Int))∧w'.cell? ⟨b',o'+p*3,none⟩=some (.int .i64 dk)∧w'.cell? ⟨b',o'+p*3+1,none⟩=some (.int .u64 (da:Int))∧w'.cell? ⟨b',o'+p*3+2,none⟩=some (.int .u64 (db:Int)))
     (first|(with_reducible assumption)|(with_reducible exact SB.out _ (eM (by assumption) (ae _) _ _ _))|(with_reducible exact SB.out _ (Below.alloc (by assumption) (Below.size (by assumption)) _)))
     (first|(go_at_call 121;refine(HJ2.out _).mono ?_;rintro _ w9⟨rfl,hb9⟩;first|(have hB9:Below W0.heap.size W0 w9:=(by with_reducible exact SKa.out _ hb9);have hS9:=SB.out w9 hB9)|(obtain⟨hB9,hz9,q0,q1,q2,f0,f1,f2⟩:=(by with_reducible exact SKb.out _ hb9:_∧_);have hS9:=SB.out w9 hB9)))
    ·have BV:Below W0.heap.size W0 (w9.alloc (.cells #[.int .i64 nk,.int .u64 na,.int .u64 nb] 84)):=hB9.alloc hB9.size _
     have ee:(w9.alloc (.cells #[.int .i64 nk,.int .u64 na,.int .u64 nb] 84)).cell? ⟨w9.heap.size,0,none⟩=some (.int .i64 nk)∧(w9.alloc (.cells #[.int .i64 nk,.int .u64 na,.int .u64 nb] 84)).cell? ⟨w9.heap.size,1,none⟩=some (.int .u64 na)∧(w9.alloc (.cells #[.int .i64 nk,.int .u64 na,.int .u64 nb] 84)).cell? ⟨w9.heap.size,2,none⟩=some (.int .u64 nb):=by refine⟨?_,?_,?_⟩<;>simp
     clear hb9 hS9 hB9
     clear SB SKa SKb hS0 hS1 hS2 HJ2
     obtain⟨V9,hV9⟩:∃V9,V9=(w9.alloc (.cells #[.int .i64 nk,.int .u64 na,.int .u64 nb] 84)):=⟨_,rfl⟩
     rw[<-hV9]at BV ee⊢
     clear hV9
     obtain⟨C9,hC9⟩:∃C9,C9=w9.heap.size:=⟨_,rfl⟩
     rw[<-hC9]at ee⊢
     clear hC9
     obtain⟨e0,e1,e2⟩:=ee
     have JV:=hJ.ey BV
     clear hJ BV hW0 hzl
     cases v9 with
     |false=>
      have HN:Hid (gj r s):=HVN.out (by first|rfl|trivial)
      have B1:=JV.b
      have z1:=JV.z0
      have zf1:=JV.zf
      clear HVN HVY HP HTk HTl HT6 JV e0 e1 e2
      go_wp2
      exact bodyPost_ret (v:=.tuple #[.agg #[.slice none 0 0],.bool false]) (by simp[results,Tryz.results88,go_sem,z1]) rfl ⟨.inr ⟨HN.out,rfl⟩,B1.setCell (p:=⟨w.heap.size+1+1,0,none⟩) (show w.heap.size<=w.heap.size+1+1 by omega) _⟩
     |true=>
      obtain⟨c,hJoin0,rfl,rfl,rfl⟩:=HVY.out (by first|rfl|trivial)
      have HJoin:Hid (jD r s (r.set p c)):=hJoin0
      clear hJoin0 HVN HVY
      have T0:=BR.new 84 3 V9 57
      go_wp2_with fail
      generalize V9.alloc (.cells #[.slice none 0 0] 57)=WB at*
      go_loopw [11](fun i wr=>∃(k:Nat)(v:Value),k<=6∧i=.int .i64 k∧BR 84 3 V9 wr v k (kcs ((r.set p c).take k)))(fun i _=>6-(intOf i).toNat)
      case atStart=>exact⟨0,_,by omega,rfl,T0⟩
      case round=>
       clear T0
       obtain⟨k,v,hk,rfl,hT⟩:=hrel
       rename World=>W1
       by_cases hk6:k<6
       ·have hk6':(k:Int)<6:=by omega
        obtain⟨av,cv,rfl⟩:=rK hT.own
        have hT1:=hT.ey (af _ _).drew
        have hc1:=hT.c
        have hbm:k+1<=maxLen:=by unfold maxLen;omega
        have hbd:(k+1)*24<=140737488355328:=by omega
        have hvl:V9.heap.size<W1.heap.size:=ib hT.c
        by_cases hkp:k=p
        ·subst hkp
         have e0':=eh hT.b e0
         have e1':=eh hT.b e1
         have e2':=eh hT.b e2
         have HK:Hid (kcs ((r.set k c).take (k+1))=kcs ((r.set k c).take k)++[.int .i64 c.kind,.int .u64 (c.a:Int),.int .u64 (c.b:Int)]):=by
          show _=_
          rw[HTk.out k c k hk6,px,if_pos rfl]
         have hb:((k:Int)==(k:Int))=true:=by simp
         have hbs:V9.heap.size+1<=(W1.alloc (.cells #[.int .i64 c.kind,.int .u64 (c.a:Int),.int .u64 (c.b:Int)] 84)).heap.size:=by simp;omega
         clear HP HTk HTl HT6 HJoin
         go_wp2_with(at_builtin;refine wpList_append_lies _ rfl (.tmp 60) (.tmp 62) 55 rfl (V9.heap.size+1) 84 i0 _ 3 24 Tryz.underlying55 hi hz0 hz1 hz2 rfl (by decide) (.slice av k cv) k (kcs ((r.set k c).take k)) rfl (hT.own.alloc _) ⟨W1.heap.size,0,none⟩ 1 1 [.int .i64 c.kind,.int .u64 (c.a:Int),.int .u64 (c.b:Int)] rfl rfl (World.news_of_block (t:=84) (fr:=(0,0)) (heap_alloc_new W1 _)) (by simp[Value.oneCell']) (by omega) hbm hbd hbs _ rfl ?_)
         intro gg cap2 w1 hown1 hgrow hat _
         obtain⟨x1,x2,x3⟩:=(hT.ey ((af _ _).alloc (ae _) _)).next hown1 hgrow
         rw[<-HK.out]at x3
         have HX3:Hid _:=x3
         clear x3 hown1 hgrow hat hT hT1 hc1 e0' e1' e2' HK
         go_wp2
         go_roundw
         case rel=>exact⟨k+1,_,by omega,by go_num,HX3.out⟩
         case measure=>simp[intOf];omega
        ·have hbW:=eo hT.b JV.b
         obtain⟨_,_,he,_,c0,c1,c2⟩:=HP.out W1 hbW k hk6
         cases he
         have xa:=eh hT.b JV.x0
         have HK:Hid (kcs ((r.set p c).take (k+1))=kcs ((r.set p c).take k)++[.int .i64 (r.getD k K.zero).kind,.int .u64 ((r.getD k K.zero).a:Int),.int .u64 ((r.getD k K.zero).b:Int)]):=by
          show _=_
          rw[HTk.out p c k hk6,px,if_neg hkp]
         have hb:((k:Int)==(p:Int))=false:=by simp;omega
         clear HP HTk HTl HT6 HJoin hbW hkp
         generalize r.getD k K.zero=cx at*
         obtain⟨ck',ca',cb'⟩:=cx
         simp only at c0 c1 c2 HK
         have c0d:W1.drew.cell? ⟨b,o+k*3,none⟩=some (.int .i64 ck'):=c0
         have c1d:W1.drew.cell? ⟨b,o+k*3+1,none⟩=some (.int .u64 (ca':Int)):=c1
         have c2d:W1.drew.cell? ⟨b,o+k*3+2,none⟩=some (.int .u64 (cb':Int)):=c2
         have xad:W1.drew.cell? ⟨w.heap.size,0,none⟩=some (.slice (some ⟨b,o,none⟩) 6 cap):=xa
         have hcd:W1.drew.cell? ⟨V9.heap.size,0,none⟩=some (.slice av k cv):=hc1
         have hca:∀ob,(W1.drew.alloc ob).cell? ⟨V9.heap.size,0,none⟩=some (.slice av k cv):=fun ob=>eh (wa:=W1.drew) ((af _ _).alloc (ae _) ob) hcd
         have hca2:(W1.alloc (.cells #[.int .i64 ck',.int .u64 (ca':Int),.int .u64 (cb':Int)] 84)).drew.cell? ⟨V9.heap.size,0,none⟩=some (.slice av k cv):=hca _
         have hca3:(W1.alloc (.cells #[.int .i64 ck',.int .u64 (ca':Int),.int .u64 (cb':Int)] 84)).cell? ⟨V9.heap.size,0,none⟩=some (.slice av k cv):=hca _
         have hbs:V9.heap.size+1<=(W1.drew.alloc (.cells #[.int .i64 ck',.int .u64 (ca':Int),.int .u64 (cb':Int)] 84)).heap.size:=by simp;omega
         clear hT hc1 c0 c1 c2 xa
         go_wp2_with fail
         go_region_law(first|(refine step_append_lies _ (by rfl) _ _ _ (by rfl) (V9.heap.size+1) 84 i0 _ 3 24 Tryz.underlying55 hi hz0 hz1 hz2 rfl (by omega) (.slice av k cv) k (kcs ((r.set p c).take k)) (by rfl) (hT1.own.alloc _) ⟨W1.heap.size,0,none⟩ 1 1 [.int .i64 ck',.int .u64 (ca':Int),.int .u64 (cb':Int)] (by rfl) (by rfl) (World.news_of_block (t:=84) (fr:=(0,0)) (heap_alloc_new W1.drew _)) (by simp[Value.oneCell']) (by omega) hbm hbd hbs _ rfl ?_;intro gg cap2 w1 hown1 hgrow hat hlt2;obtain⟨x1,x2,x3⟩:=(hT1.ey ((af _ _).alloc (ae _) _)).next hown1 hgrow))
         all_goals
          rw[<-HK.out]at x3
          have HX3:Hid _:=x3
          clear x1 x2 x3 hown1 hgrow hat hlt2 hT1 c0d c1d c2d xad hcd hca hca2 hca3 HK
          go_wp2
          go_roundw
          case rel=>exact⟨k+1,_,by omega,by go_num,HX3.out⟩
          case measure=>simp[intOf];omega
       ·have hk':k=6:=by omega
        subst hk'
        obtain⟨g,cg,rfl⟩:=pS hT.own (by omega)
        have hge:=(hT.own.lt g rfl)
        have hc1:=hT.c
        have z1:=eh hT.b JV.z0
        have zl:=ib JV.z0
        have zf1:W1.frozen? ⟨w.heap.size+1+1,0,none⟩=false:=(hT.b.frozen (p:=⟨w.heap.size+1+1,0,none⟩) zl).trans JV.zf
        have hbW:=eo hT.b JV.b
        have hVs:=JV.b.size
        simp only at zl
        have hL:LAt 3 PK W1 g 0 (r.set p c):=yo (by have h:=hT.own;rw[HT6.out p c]at h;exact h) (by have:=HTl.out p c 6 (by omega);rw[HT6.out p c]at this;exact this)
        have HPo:Hid (JrP r s w (.returned (.tuple #[.agg #[.slice (some ⟨g,0,none⟩) 6 cg],.bool true])) (W1.setCell ⟨w.heap.size+1+1,0,none⟩ (.slice (some ⟨g,0,none⟩) 6 cg))):=by
         refine⟨.inl ⟨r.set p c,g,cg,HJoin.out,rfl,by omega,by simp;exact hge.2,hL.blk ?_⟩,hbW.setCell (p:=⟨w.heap.size+1+1,0,none⟩) (show w.heap.size<=w.heap.size+1+1 by omega) _⟩
         simp only[World.setCell,aH];rw[if_neg (by omega)]
        clear HP HTk HTl HT6 HJoin hT hL hbW
        go_wp2
        exact bodyPost_ret (v:=.tuple #[.agg #[.slice (some ⟨g,0,none⟩) 6 cg],.bool true]) (by simp[results,Tryz.results88,go_sem,z1]) rfl HPo.out
    ·have BV:Below W0.heap.size W0 (((w9.setCell ⟨W0.heap.size,0,none⟩ (.int .i64 nk)).setCell ⟨W0.heap.size,1,none⟩ (.int .u64 na)).setCell ⟨W0.heap.size,2,none⟩ (.int .u64 nb)):=eM hB9 (ae _) _ _ _
     have ee:(((w9.setCell ⟨W0.heap.size,0,none⟩ (.int .i64 nk)).setCell ⟨W0.heap.size,1,none⟩ (.int .u64 na)).setCell ⟨W0.heap.size,2,none⟩ (.int .u64 nb)).cell? ⟨W0.heap.size,0,none⟩=some (.int .i64 nk)∧(((w9.setCell ⟨W0.heap.size,0,none⟩ (.int .i64 nk)).setCell ⟨W0.heap.size,1,none⟩ (.int .u64 na)).setCell ⟨W0.heap.size,2,none⟩ (.int .u64 nb)).cell? ⟨W0.heap.size,1,none⟩=some (.int .u64 na)∧(((w9.setCell ⟨W0.heap.size,0,none⟩ (.int .i64 nk)).setCell ⟨W0.heap.size,1,none⟩ (.int .u64 na)).setCell ⟨W0.heap.size,2,none⟩ (.int .u64 nb)).cell? ⟨W0.heap.size,2,none⟩=some (.int .u64 nb):=by refine⟨?_,?_,?_⟩<;>simp[go_sem,q0,q1,q2]
     clear hb9 hS9 hB9 q0 q1 q2 f0 f1 f2
     clear SB SKa SKb hS0 hS1 hS2 HJ2
     obtain⟨V9,hV9⟩:∃V9,V9=(((w9.setCell ⟨W0.heap.size,0,none⟩ (.int .i64 nk)).setCell ⟨W0.heap.size,1,none⟩ (.int .u64 na)).setCell ⟨W0.heap.size,2,none⟩ (.int .u64 nb)):=⟨_,rfl⟩
     rw[<-hV9]at BV ee⊢
     clear hV9
     obtain⟨C9,hC9⟩:∃C9,C9=W0.heap.size:=⟨_,rfl⟩
     rw[<-hC9]at ee⊢
     clear hC9
     obtain⟨e0,e1,e2⟩:=ee
     have JV:=hJ.ey BV
     clear hJ BV hW0 hzl
     cases v9 with
     |false=>
      have HN:Hid (gj r s):=HVN.out (by first|rfl|trivial)
      have B1:=JV.b
      have z1:=JV.z0
      have zf1:=JV.zf
      clear HVN HVY HP HTk HTl HT6 JV e0 e1 e2
      go_wp2
      exact bodyPost_ret (v:=.tuple #[.agg #[.slice none 0 0],.bool false]) (by simp[results,Tryz.results88,go_sem,z1]) rfl ⟨.inr ⟨HN.out,rfl⟩,B1.setCell (p:=⟨w.heap.size+1+1,0,none⟩) (show w.heap.size<=w.heap.size+1+1 by omega) _⟩
     |true=>
      obtain⟨c,hJoin0,rfl,rfl,rfl⟩:=HVY.out (by first|rfl|trivial)
      have HJoin:Hid (jD r s (r.set p c)):=hJoin0
      clear hJoin0 HVN HVY
      have T0:=BR.new 84 3 V9 57
      go_wp2_with fail
      generalize V9.alloc (.cells #[.slice none 0 0] 57)=WB at*
      go_loopw [11](fun i wr=>∃(k:Nat)(v:Value),k<=6∧i=.int .i64 k∧BR 84 3 V9 wr v k (kcs ((r.set p c).take k)))(fun i _=>6-(intOf i).toNat)
      case atStart=>exact⟨0,_,by omega,rfl,T0⟩
      case round=>
       clear T0
       obtain⟨k,v,hk,rfl,hT⟩:=hrel
       rename World=>W1
       by_cases hk6:k<6
       ·have hk6':(k:Int)<6:=by omega
        obtain⟨av,cv,rfl⟩:=rK hT.own
        have hT1:=hT.ey (af _ _).drew
        have hc1:=hT.c
        have hbm:k+1<=maxLen:=by unfold maxLen;omega
        have hbd:(k+1)*24<=140737488355328:=by omega
        have hvl:V9.heap.size<W1.heap.size:=ib hT.c
        by_cases hkp:k=p
        ·subst hkp
         have e0':=eh hT.b e0
         have e1':=eh hT.b e1
         have e2':=eh hT.b e2
         have HK:Hid (kcs ((r.set k c).take (k+1))=kcs ((r.set k c).take k)++[.int .i64 c.kind,.int .u64 (c.a:Int),.int .u64 (c.b:Int)]):=by
          show _=_
          rw[HTk.out k c k hk6,px,if_pos rfl]
         have hb:((k:Int)==(k:Int))=true:=by simp
         have hbs:V9.heap.size+1<=(W1.alloc (.cells #[.int .i64 c.kind,.int .u64 (c.a:Int),.int .u64 (c.b:Int)] 84)).heap.size:=by simp;omega
         clear HP HTk HTl HT6 HJoin
         go_wp2_with(at_builtin;refine wpList_append_lies _ rfl (.tmp 60) (.tmp 62) 55 rfl (V9.heap.size+1) 84 i0 _ 3 24 Tryz.underlying55 hi hz0 hz1 hz2 rfl (by decide) (.slice av k cv) k (kcs ((r.set k c).take k)) rfl (hT.own.alloc _) ⟨W1.heap.size,0,none⟩ 1 1 [.int .i64 c.kind,.int .u64 (c.a:Int),.int .u64 (c.b:Int)] rfl rfl (World.news_of_block (t:=84) (fr:=(0,0)) (heap_alloc_new W1 _)) (by simp[Value.oneCell']) (by omega) hbm hbd hbs _ rfl ?_)
         intro gg cap2 w1 hown1 hgrow hat _
         obtain⟨x1,x2,x3⟩:=(hT.ey ((af _ _).alloc (ae _) _)).next hown1 hgrow
         rw[<-HK.out]at x3
         have HX3:Hid _:=x3
         clear x3 hown1 hgrow hat hT hT1 hc1 e0' e1' e2' HK
         go_wp2
         go_roundw
         case rel=>exact⟨k+1,_,by omega,by go_num,HX3.out⟩
         case measure=>simp[intOf];omega
        ·have hbW:=eo hT.b JV.b
         obtain⟨_,_,he,_,c0,c1,c2⟩:=HP.out W1 hbW k hk6
         cases he
         have xa:=eh hT.b JV.x0
         have HK:Hid (kcs ((r.set p c).take (k+1))=kcs ((r.set p c).take k)++[.int .i64 (r.getD k K.zero).kind,.int .u64 ((r.getD k K.zero).a:Int),.int .u64 ((r.getD k K.zero).b:Int)]):=by
          show _=_
          rw[HTk.out p c k hk6,px,if_neg hkp]
         have hb:((k:Int)==(p:Int))=false:=by simp;omega
         clear HP HTk HTl HT6 HJoin hbW hkp
         generalize r.getD k K.zero=cx at*
         obtain⟨ck',ca',cb'⟩:=cx
         simp only at c0 c1 c2 HK
         have c0d:W1.drew.cell? ⟨b,o+k*3,none⟩=some (.int .i64 ck'):=c0
         have c1d:W1.drew.cell? ⟨b,o+k*3+1,none⟩=some (.int .u64 (ca':Int)):=c1
         have c2d:W1.drew.cell? ⟨b,o+k*3+2,none⟩=some (.int .u64 (cb':Int)):=c2
         have xad:W1.drew.cell? ⟨w.heap.size,0,none⟩=some (.slice (some ⟨b,o,none⟩) 6 cap):=xa
         have hcd:W1.drew.cell? ⟨V9.heap.size,0,none⟩=some (.slice av k cv):=hc1
         have hca:∀ob,(W1.drew.alloc ob).cell? ⟨V9.heap.size,0,none⟩=some (.slice av k cv):=fun ob=>eh (wa:=W1.drew) ((af _ _).alloc (ae _) ob) hcd
         have hca2:(W1.alloc (.cells #[.int .i64 ck',.int .u64 (ca':Int),.int .u64 (cb':Int)] 84)).drew.cell? ⟨V9.heap.size,0,none⟩=some (.slice av k cv):=hca _
         have hca3:(W1.alloc (.cells #[.int .i64 ck',.int .u64 (ca':Int),.int .u64 (cb':Int)] 84)).cell? ⟨V9.heap.size,0,none⟩=some (.slice av k cv):=hca _
         have hbs:V9.heap.size+1<=(W1.drew.alloc (.cells #[.int .i64 ck',.int .u64 (ca':Int),.int .u64 (cb':Int)] 84)).heap.size:=by simp;omega
         clear hT hc1 c0 c1 c2 xa
         go_wp2_with fail
         go_region_law(first|(refine step_append_lies _ (by rfl) _ _ _ (by rfl) (V9.heap.size+1) 84 i0 _ 3 24 Tryz.underlying55 hi hz0 hz1 hz2 rfl (by omega) (.slice av k cv) k (kcs ((r.set p c).take k)) (by rfl) (hT1.own.alloc _) ⟨W1.heap.size,0,none⟩ 1 1 [.int .i64 ck',.int .u64 (ca':Int),.int .u64 (cb':Int)] (by rfl) (by rfl) (World.news_of_block (t:=84) (fr:=(0,0)) (heap_alloc_new W1.drew _)) (by simp[Value.oneCell']) (by omega) hbm hbd hbs _ rfl ?_;intro gg cap2 w1 hown1 hgrow hat hlt2;obtain⟨x1,x2,x3⟩:=(hT1.ey ((af _ _).alloc (ae _) _)).next hown1 hgrow))
         all_goals
          rw[<-HK.out]at x3
          have HX3:Hid _:=x3
          clear x1 x2 x3 hown1 hgrow hat hlt2 hT1 c0d c1d c2d xad hcd hca hca2 hca3 HK
          go_wp2
          go_roundw
          case rel=>exact⟨k+1,_,by omega,by go_num,HX3.out⟩
          case measure=>simp[intOf];omega
       ·have hk':k=6:=by omega
        subst hk'
        obtain⟨g,cg,rfl⟩:=pS hT.own (by omega)
        have hge:=(hT.own.lt g rfl)
        have hc1:=hT.c
        have z1:=eh hT.b JV.z0
        have zl:=ib JV.z0
        have zf1:W1.frozen? ⟨w.heap.size+1+1,0,none⟩=false:=(hT.b.frozen (p:=⟨w.heap.size+1+1,0,none⟩) zl).trans JV.zf
        have hbW:=eo hT.b JV.b
        have hVs:=JV.b.size
        simp only at zl
        have hL:LAt 3 PK W1 g 0 (r.set p c):=yo (by have h:=hT.own;rw[HT6.out p c]at h;exact h) (by have:=HTl.out p c 6 (by omega);rw[HT6.out p c]at this;exact this)
        have HPo:Hid (JrP r s w (.returned (.tuple #[.agg #[.slice (some ⟨g,0,none⟩) 6 cg],.bool true])) (W1.setCell ⟨w.heap.size+1+1,0,none⟩ (.slice (some ⟨g,0,none⟩) 6 cg))):=by
         refine⟨.inl ⟨r.set p c,g,cg,HJoin.out,rfl,by omega,by simp;exact hge.2,hL.blk ?_⟩,hbW.setCell (p:=⟨w.heap.size+1+1,0,none⟩) (show w.heap.size<=w.heap.size+1+1 by omega) _⟩
         simp only[World.setCell,aH];rw[if_neg (by omega)]
        clear HP HTk HTl HT6 HJoin hT hL hbW
        go_wp2
        exact bodyPost_ret (v:=.tuple #[.agg #[.slice (some ⟨g,0,none⟩) 6 cg],.bool true]) (by simp[results,Tryz.results88,go_sem,z1]) rfl HPo.out
end Go.Proofs.YtdihdapmphkhpaaGreat
