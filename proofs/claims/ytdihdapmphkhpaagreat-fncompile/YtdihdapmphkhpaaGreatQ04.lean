import Derived.Deep.AppendLies
import Derived.Deep.RegionLaw
import Derived.OneCell
import Derived.Deep.Cut
import Derived.Test.YtdihdapmphkhpaaGreatQ03
set_option linter.all false
set_option maxRecDepth 200000
set_option maxHeartbeats 16000000
namespace Go.Proofs.YtdihdapmphkhpaaGreat
open Go.RowKit Go.Deep
theorem oL:(Tryz.prog.info? 84).map (fun i=>(i.zero,i.size,i.bytes))=some (some (.agg #[.int .i64 0,.int .u64 0,.int .u64 0]),3,24):=by kernel_rfl
def cKd(c:K):List Value:=[.int .i64 c.kind,.int .u64 (c.a:Int),.int .u64 (c.b:Int)]
def je(l:List K):List Value:=l.flatMap cKd
theorem zY(l:List K):(je l).length=l.length*3:=by
 induction l with
 |nil=>rfl
 |cons p l ih=>simp only[je,List.flatMap_cons,aj,aq]at*;simp only[cKd,aq,aU];omega
abbrev fO(w:World)(B:Nat)(v:Value)(l:List K):Prop:=w.ownsRow B 84 3 v l.length (je l)
def OkK(c:K):Prop:=(0<=c.kind∧c.kind<=2)∧c.a<=18446744073709551615∧c.b<=18446744073709551615
def KdF(l:List Int)(F:Nat->K×Nat):Prop:=
 ∀j,OkK (F j).1∧∀(R cap:Nat)(ad:Option Addr)(w:World),Rd w R ad cap l j->Calls Tryz.prog 137 #[.pointer (some ⟨R,0,none⟩)] w fun e w'=>e=.returned (.agg #[.int .i64 (F j).1.kind,.int .u64 ((F j).1.a:Int),.int .u64 ((F j).1.b:Int)])∧Rd w' R ad cap l (F j).2∧w.grownBy w' (some R)
theorem kdF_ex(l:List Int)(hl:eV l):∃F,KdF l F:=by
 have h:∀j,∃p:K×Nat,OkK p.1∧∀(R cap:Nat)(ad:Option Addr)(w:World),Rd w R ad cap l j->Calls Tryz.prog 137 #[.pointer (some ⟨R,0,none⟩)] w fun e w'=>e=.returned (.agg #[.int .i64 p.1.kind,.int .u64 (p.1.a:Int),.int .u64 (p.1.b:Int)])∧Rd w' R ad cap l p.2∧w.grownBy w' (some R):=fun j=>by
  obtain⟨k,a,b,J,h1,h2,⟨h3,h4⟩,⟨h5,h6⟩⟩:=yK l hl j;have ea:((a.toNat:Nat):Int)=a:=by omega
  have eb:((b.toNat:Nat):Int)=b:=by omega
  refine⟨(⟨k,a.toNat,b.toNat⟩,J),⟨h2,by show a.toNat<=_;omega,by show b.toNat<=_;omega⟩,fun R cap ad w hR=> ?_⟩;simp only[ea,eb];exact h1 R cap ad w hR
 exact Classical.axiomOfChoice h|>.elim fun F hF=>⟨F,hF⟩
structure RlS(w W:World)(R:Nat)(ad:Option Addr)(cap:Nat)(l:List Int)(j G:Nat)(v:Value)(ks:List K):Prop where
 rd:Rd W R ad cap l j
 gr:w.grownBy W (some R)
 lt:R<w.heap.size
 hb:w.heap.size<G
 hG:G<W.heap.size
 c:W.cell? ⟨G,0,none⟩=some v
 f:W.frozen? ⟨G,0,none⟩=false
 c0:W.cell? ⟨w.heap.size,0,none⟩=some (.slice none 0 0)
 f0:W.frozen? ⟨w.heap.size,0,none⟩=false
 own:fO W (G+1) v ks
section
variable{w W W1:World}{R cap j j1 G:Nat}{ad:Option Addr}{l:List Int}{v v1:Value}{ks ks1:List K}
theorem eB{g o:Nat}{row:Option Nat}(hg:W.grownBy W1 row)(hlt:g<W.heap.size)(hne:some g≠row):W1.cell? ⟨g,o,none⟩=W.cell? ⟨g,o,none⟩∧W1.frozen? ⟨g,o,none⟩=W.frozen? ⟨g,o,none⟩:=by
 have e:=hg.block g hlt hne;exact⟨aN (w:=W) e,by simp[World.frozen?,e]⟩
theorem RlS.grow{row:Option Nat}(h:RlS w W R ad cap l j G v ks)(hr:Rd W1 R ad cap l j1)(hg:W.grownBy W1 row)(hgr:w.grownBy W1 (some R))(h1:some G≠row)(h2:some w.heap.size≠row)(ho:fO W1 (G+1) v1 ks1)(hv:v1=v):RlS w W1 R ad cap l j1 G v ks1:=by
 subst hv;have hw:w.heap.size<W.heap.size:=dO h.hb h.hG;obtain⟨e1,e2⟩:=eB (o:=0) hg h.hG h1;obtain⟨e3,e4⟩:=eB (o:=0) hg hw h2;exact⟨hr,hgr,h.lt,h.hb,an h.hG hg.size,e1.trans h.c,e2.trans h.f,e3.trans h.c0,e4.trans h.f0,ho⟩
theorem RlS.draw(h:RlS w W R ad cap l j G v ks)(hr:Rd W1 R ad cap l j1)(hg:W.grownBy W1 (some R)):RlS w W1 R ad cap l j1 G v ks:=by
 have h1:=h.lt;have h2:=h.hb;refine h.grow hr hg (eU h.gr hg) (by simp;omega) (by simp;omega) (aA h.own hg ?_) rfl
 cases hv:v.ownBlock with
 |none=>exact .inl rfl
 |some q=>exact .inr (by have:=(h.own.lt q hv).1;simp;omega)
theorem RlS.below(h:RlS w W R ad cap l j G v ks)(hb:Below W.heap.size W W1):RlS w W1 R ad cap l j G v ks:=
 h.grow (row:=none) (h.rd.below hb) (fJ hb) (eU h.gr (fJ hb)) (by simp) (by simp) (aA (row:=none) h.own (fJ hb) (by cases v.ownBlock<;>simp)) rfl
theorem RlS.push(h:RlS w W R ad cap l j G v ks)(hg:W.grownBy W1 v.ownBlock)(ho:fO W1 (G+1) v1 ks1):RlS w (W1.setCell ⟨G,0,none⟩ v1) R ad cap l j G v1 ks1:=by
 have hge:∀k,v.ownBlock=some k->G+1<=k:=fun k hk=>(h.own.lt k hk).1
 have h1:=h.lt;have h2:=h.hb;have hw:w.heap.size<W.heap.size:=dO h.hb h.hG;obtain⟨e1,e2⟩:=eB (o:=0) hg h.hG (fun e=>by have:=hge G e.symm;omega);obtain⟨e3,e4⟩:=eB (o:=0) hg hw (fun e=>by have:=hge _ e.symm;omega);have hs:w.grownBy W1 (some R):=jx h.gr hg (fun k hk=>by have:=hge k hk;omega);have hset:=fG (ah W1 (some G)) 0 v1;have hG1:G<W1.heap.size:=an h.hG hg.size;obtain⟨e5,e6⟩:=eB (o:=0) hset (an hw hg.size) (by simp;omega:some w.heap.size≠some G);refine⟨(h.rd.grown hg (by omega:R<G+1) hge).ey (fun k hk=>aE W1 ⟨G,0,none⟩ v1 k (fun e=>by simp at e;omega)),jx hs hset (fun k hk=>by simp at hk;omega),h1,h2,by simpa[World.setCell]using hG1,aG _ _ _ (e1.trans h.c),?_,e5.trans (e3.trans h.c0),e6.trans (e4.trans h.f0),ownsRow_setCell_below ho (Nat.lt_succ_self _) _⟩;have hf:=e2.trans h.f;simpa using hf
end
end Go.Proofs.YtdihdapmphkhpaaGreat
namespace Go.Proofs.YtdihdapmphkhpaaGreat
open Go.RowKit Go.Deep
variable{B cp n:Nat}{W w:World}{ks:List K}{l:List Int}
def fQ:K:=⟨0,0,0⟩
def agR(F:Nat->K×Nat)(j:Nat):Nat->List K×Nat
 |0=>([],j)
 |n+1=>if 2<n then((agR F j n).1++[fQ],(agR F j n).2)else((agR F j n).1++[(F (agR F j n).2).1],(F (agR F j n).2).2)
theorem rP(F:Nat->K×Nat)(j n:Nat):agR F j (n+1)=if 2<n then((agR F j n).1++[fQ],(agR F j n).2)else((agR F j n).1++[(F (agR F j n).2).1],(F (agR F j n).2).2):=rfl
theorem xI(F:Nat->K×Nat)(j n:Nat):(agR F j n).1.length=n:=by
 induction n with
 |zero=>rfl
 |succ n ih=>rw[rP];split<;>simp[ih]
theorem E7{F:Nat->K×Nat}(hF:KdF l F)(j n:Nat):∀c∈(agR F j n).1,OkK c:=by
 induction n with
 |zero=>intro c hc;simp[agR]at hc
 |succ n ih=>
  rw[rP];split
  ·intro c hc;simp only[bj,aV]at hc;rcases hc with hc|rfl
   ·exact ih c hc
   exact⟨by decide,by decide,by decide⟩
  intro c hc;simp only[bj,aV]at hc;rcases hc with hc|rfl
  ·exact ih c hc
  exact(hF _).1
def kz(l:List Int)(F:Nat->K×Nat)(j:Nat):List K:=if l.getD (agR F j 6).2 0%6=1 then(agR F j 6).1.set 5 (F ((agR F j 6).2+1)).1 else(agR F j 6).1
def mG(l:List Int)(F:Nat->K×Nat)(j:Nat):Nat:=if l.getD (agR F j 6).2 0%6=1 then(F ((agR F j 6).2+1)).2 else(agR F j 6).2+1
theorem oZ{F:Nat->K×Nat}(hF:KdF l F)(j:Nat):(∀c∈kz l F j,OkK c)∧(kz l F j).length=6:=by
 unfold kz;split
 ·refine⟨fun c hc=> ?_,by rw[aK,xI]⟩;rcases cQ hc with h|rfl
  ·exact E7 hF j 6 c h
  exact(hF _).1
 exact⟨E7 hF j 6,xI F j 6⟩
theorem GW(ks:List K)(i:Nat)(c:K):je (ks.set i c)=(((je ks).set (i*3) (.int .i64 c.kind)).set (i*3+1) (.int .u64 (c.a:Int))).set (i*3+2) (.int .u64 (c.b:Int)):=by
 induction ks generalizing i with
 |nil=>simp[je]
 |cons p ks ih=>
  have e:je (p::ks)=cKd p++je ks:=by simp[je]
  match i with
  |0=>
   rw[e];simp[je,cKd]
  |i+1=>
   have e2:je ((p::ks).set (i+1) c)=cKd p++je (ks.set i c):=by simp[je]
   rw[e2,e,ih i,show(i+1)*3=i*3+1+1+1 by omega];simp[cKd]
theorem ur{g i:Nat}(c:K)(h:fO w B (.slice (some ⟨g,0,none⟩) n cp) ks):fO (((w.setCell ⟨g,i*3,none⟩ (.int .i64 c.kind)).setCell ⟨g,i*3+1,none⟩ (.int .u64 (c.a:Int))).setCell ⟨g,i*3+2,none⟩ (.int .u64 (c.b:Int))) B (.slice (some ⟨g,0,none⟩) n cp) (ks.set i c):=by
 obtain⟨h0,h|⟨g',cap,cur,e,hb,hg,hn,hm,hs,hx⟩⟩:=h
 ·cases h.1
 simp only[bs,bz,Addr.mk.injEq]at e;obtain⟨⟨rfl,_,_⟩,rfl,rfl⟩:=e;have g1:=heap_setCell_same w g (i*3) cur _ (.int .i64 c.kind) hg;have g2:=heap_setCell_same _ g (i*3+1) _ _ (.int .u64 (c.a:Int)) g1;have g3:=heap_setCell_same _ g (i*3+2) _ _ (.int .u64 (c.b:Int)) g2;refine⟨by rw[zY],.inr ⟨g,cp,_,by rw[aK],hb,g3,by rw[aK];exact hn,hm,by simpa using hs,?_⟩⟩;rw[aK,GW,<-hx];simp only[Array.toList_setIfInBounds,List.take_set]
theorem RlS.put{R cap j G g i:Nat}{ad:Option Addr}(h:RlS w W R ad cap l j G (.slice (some ⟨g,0,none⟩) n cp) ks)(c:K):RlS w (((W.setCell ⟨g,i*3,none⟩ (.int .i64 c.kind)).setCell ⟨g,i*3+1,none⟩ (.int .u64 (c.a:Int))).setCell ⟨g,i*3+2,none⟩ (.int .u64 (c.b:Int))) R ad cap l j G (.slice (some ⟨g,0,none⟩) n cp) (ks.set i c):=by
 have hge:=(h.own.lt g rfl).1;have h1:=h.lt;have h2:=h.hb;have hset:W.grownBy (((W.setCell ⟨g,i*3,none⟩ (.int .i64 c.kind)).setCell ⟨g,i*3+1,none⟩ (.int .u64 (c.a:Int))).setCell ⟨g,i*3+2,none⟩ (.int .u64 (c.b:Int))) (some g):=fG (fG (fG (ah _ _) _ _) _ _) _ _;exact h.grow (h.rd.grown hset (by omega:R<G+1) (fun k hk=>by simp at hk;omega)) hset (jx h.gr hset (fun k hk=>by simp at hk;omega)) (by simp;omega) (by simp;omega) (ur c h.own) rfl
theorem hU{B' t s:Nat}{v:Value}{xs:List Value}(h:w.ownsRow B t s v n xs)(hb:B'<=B):w.ownsRow B' t s v n xs:=by
 obtain⟨h0,h|⟨g,cap,cur,e,hb',r⟩⟩:=h
 ·exact⟨h0,.inl h⟩
 exact⟨h0,.inr ⟨g,cap,cur,e,by omega,r⟩⟩
theorem ye(l:List Int)(F:Nat->K×Nat)(hF:KdF l F)(R cap:Nat)(ad:Option Addr)(j:Nat)(w:World)(hR:Rd w R ad cap l j):
 Calls Tryz.prog 115 #[.pointer (some ⟨R,0,none⟩)] w fun e w'=>∃v,e=.returned (.agg #[v])∧fO w' w.heap.size v (kz l F j)∧Rd w' R ad cap l (mG l F j)∧w.grownBy w' (some R):=by
 obtain⟨i1,hi1,hy0,hy1,hy2⟩:=info_parts oL
 have HN:=nxH R cap ad l
 have HB:Hid (∀t,0<=l.getD t 0∧l.getD t 0<=255):=ez hR.bys
 obtain⟨A,hA⟩:∃A:Nat->List K,∀i,(agR F j i).1=A i:=⟨_,fun _=>rfl⟩
 obtain⟨J,hJ⟩:∃J:Nat->Nat,∀i,(agR F j i).2=J i:=⟨_,fun _=>rfl⟩
 have HC:Hid (∀t W,Rd W R ad cap l t->Calls Tryz.prog 137 #[.pointer (some ⟨R,0,none⟩)] W fun e w'=>e=.returned (.agg #[.int .i64 (F t).1.kind,.int .u64 ((F t).1.a:Int),.int .u64 ((F t).1.b:Int)])∧Rd w' R ad cap l (F t).2∧W.grownBy w' (some R)):=fun t W h=>(hF t).2 R cap ad W h
 have HS0:Hid (∀i,2<i->A (i+1)=A i++[fQ]∧J (i+1)=J i):=fun i h1=>by
  rw[<-hA (i+1),<-hJ (i+1),<-hA i,<-hJ i,rP,if_pos h1];exact⟨rfl,rfl⟩
 have HS1:Hid (∀i,¬2<i->A (i+1)=A i++[(F (J i)).1]∧J (i+1)=(F (J i)).2):=fun i h1=>by
  rw[<-hA (i+1),<-hJ (i+1),<-hA i,<-hJ i,rP,if_neg h1];exact⟨rfl,rfl⟩
 have HL:Hid (∀i,(A i).length=i):=fun i=>by rw[<-hA i];exact xI F j i
 have HJ0:Hid (J 0=j):=(hJ 0).symm
 have HA0:Hid (A 0=[]):=(hA 0).symm
 have hrd:kz l F j=if l.getD (J 6) 0%6=1 then(A 6).set 5 (F (J 6+1)).1 else A 6:=by unfold kz;rw[hA 6,hJ 6]
 have hrj:mG l F j=if l.getD (J 6) 0%6=1 then(F (J 6+1)).2 else J 6+1:=by unfold mG;rw[hJ 6]
 obtain⟨RD,hRD⟩:∃RD,kz l F j=RD:=⟨_,rfl⟩
 obtain⟨RJ,hRJ⟩:∃RJ,mG l F j=RJ:=⟨_,rfl⟩
 rw[hRD]at hrd⊢
 rw[hRJ]at hrj⊢
 have HRD:Hid (RD=if l.getD (J 6) 0%6=1 then(A 6).set 5 (F (J 6+1)).1 else A 6):=hrd
 have HRJ:Hid (RJ=if l.getD (J 6) 0%6=1 then(F (J 6+1)).2 else J 6+1):=hrj
 have hRw:=hR.lt
 have hb1:Below w.heap.size w (w.alloc (.cells #[.slice none 0 0] 57)):=(af _ _).alloc (ae _) _
 have e1:(w.alloc (.cells #[.slice none 0 0] 57)).heap.size=w.heap.size+1:=by simp
 have D0:RlS w ((w.alloc (.cells #[.slice none 0 0] 57)).alloc (.cells #[.slice none 0 0] 57)) R ad cap l j (w.heap.size+1) (.slice none 0 0) []:=by
  refine⟨(hR.alloc _).alloc _,fu (fu (ah _ _) _) _,hRw,by omega,by simp,?_,?_,?_,?_,aZ _ _ _ _⟩
  ·rw[<-e1];simp
  ·rw[<-e1];simp
  ·rw[dm _ _ _ (by simp)];simp
  ·simp
 rw[<-HJ0.out,<-HA0.out]at D0
 clear hA hJ hrd hrj hRD hRJ hb1 e1
 go_enter Tryz.func115,Tryz.ntmps115
 go_wp2_with fail
 generalize(w.alloc (.cells #[.slice none 0 0] 57)).alloc (.cells #[.slice none 0 0] 57)=W0 at*
 generalize hGg:w.heap.size+1=G at*
 go_loopw [4](fun i W=>∃(n:Nat)(v:Value),i=.int .i64 (n:Int)∧n<=6∧RlS w W R ad cap l (J n) G v (A n))(fun i _=>6-(intOf i).toNat)
 case atStart=>exact⟨0,_,rfl,by omega,D0⟩
 case round=>
  obtain⟨n,v,rfl,hn6,D⟩:=hrel
  clear D0
  obtain⟨av,cv,ev⟩:∃a c,v=.slice a n c:=by
   have hln:=HL.out n
   rcases D.own.2 with⟨h1,h2⟩|⟨g,cap',cur,h1,_⟩
   ·rw[hln]at h2;exact⟨none,0,by rw[h1,h2]⟩
   ·rw[hln]at h1;exact⟨_,_,h1⟩
  subst ev
  by_cases hlt:n<6
  ·have hbm:n+1<=maxLen:=by unfold maxLen;omega
   have hbd:(n+1)*24<=140737488355328:=by omega
   by_cases hz:2<n
   ·obtain⟨eA,eJ⟩:=HS0.out n hz
    have HeA:Hid _:=eA
    have HeJ:Hid _:=eJ
    have hz1:(2:Int)<(n:Int):=by omega
    clear eA eJ hz
    have DA:=D.below ((af wr.heap.size wr).alloc (ae _) (.cells #[.int .i64 0,.int .u64 0,.int .u64 0] 84))
    have ho:=DA.own
    rw[fO,HL.out n]at ho
    have hG:=DA.hG
    have c0:=D.c
    have f0:=D.f
    clear HC HS0 HS1 HN
    go_wp2_with(at_builtin;refine wpList_append_lies _ rfl (.tmp 12) (.tmp 14) 55 rfl (G+1) 84 i1 _ 3 24 Tryz.underlying55 hi1 hy0 hy1 hy2 rfl (by decide) _ n (je (A n)) rfl ho ⟨wr.heap.size,0,none⟩ 1 1 [.int .i64 0,.int .u64 0,.int .u64 0] rfl rfl (World.news_of_block (t:=84) (fr:=(0,0)) (heap_alloc_new wr _)) (by simp[Value.oneCell']) (by omega) hbm hbd (by omega) (wr.heap.size+1) (by simp) ?_)
    intro g' cp' w9 ow gr _ _
    have o9:fO w9 (G+1) (.slice (some ⟨g',0,none⟩) (n+1) cp') (A (n+1)):=by
     rw[HeA.out,fO,aj,HL.out n]
     simpa[je,cKd,fQ]using ow
    have D9:=DA.push gr o9
    rw[<-HeJ.out]at D9
    obtain⟨b1,b2⟩:=eB (o:=0) gr DA.hG (fun e=>by have:=(DA.own.lt G e.symm).1;omega)
    have b3:=b1.trans DA.c
    have b4:=b2.trans DA.f
    clear ow gr o9 DA D ho HeA HeJ c0 f0 b1 b2
    go_wp2
    go_roundw
    case rel=>exact⟨n+1,_,by go_num,by omega,D9⟩
    case measure=>simp[intOf];omega
   ·obtain⟨eA,eJ⟩:=HS1.out n hz
    have HeA:Hid _:=eA
    have HeJ:Hid _:=eJ
    have hz1:¬(2:Int)<(n:Int):=by omega
    clear eA eJ hz
    have HC2:Hid (∀W,Rd W R ad cap l (J n)->Calls Tryz.prog 137 #[.pointer (some ⟨R,0,none⟩)] W fun e w'=>e=.returned (.agg #[.int .i64 (F (J n)).1.kind,.int .u64 ((F (J n)).1.a:Int),.int .u64 ((F (J n)).1.b:Int)])∧Rd w' R ad cap l (F (J n)).2∧W.grownBy w' (some R)):=fun W h=>HC.out (J n) W h
    have hln:=HL.out n
    clear HC HS0 HS1 HN
    generalize F (J n)=cj at*
    obtain⟨⟨ck,ca,cb⟩,Jx⟩:=cj
    simp only at HC2
    have Dd:=D.below (af _ _).drew
    have c0:=Dd.c
    have f0:=Dd.f
    go_wp2_with fail
    go_region_law(first
     |(refine step_append_lies _ (by rfl) _ _ _ (by rfl) (G+1) 84 i1 _ 3 24 Tryz.underlying55 hi1 hy0 hy1 hy2 rfl (by decide) _ n (je (A n)) (by rfl) (by have h:=D8.own;rw[fO,hln]at h;exact h) ⟨w7.heap.size,0,none⟩ 1 1 [.int .i64 ck,.int .u64 (ca:Int),.int .u64 (cb:Int)] (by rfl) (by rfl) (World.news_of_block (t:=84) (fr:=(0,0)) (heap_alloc_new w7 _)) (by simp[Value.oneCell']) (by omega) hbm hbd (by have:=D8.hG;omega) (w7.heap.size+1) (by simp) ?_;intro g' cp' w9 ow gr _ _;obtain⟨b1,b2⟩:=eB (o:=0) gr D8.hG (fun e=>by have:=(D8.own.lt G e.symm).1;omega);have b3:=b1.trans D8.c;have b4:=b2.trans D8.f;clear b1 b2)
     |(go_simp;go_at_call 137;refine(HC2.out _ Dd.rd).mono ?_;rintro _ w7⟨rfl,hR7,hg7⟩;have D7:=Dd.draw hR7 hg7;have D8:=D7.below ((af w7.heap.size w7).alloc (ae _) (.cells #[.int .i64 ck,.int .u64 (ca:Int),.int .u64 (cb:Int)] 84));have c7:=D7.c;have c8:=D8.c;go_wp2_with fail))
    all_goals
     have o9:fO w9 (G+1) (.slice (some ⟨g',0,none⟩) (n+1) cp') (A (n+1)):=by
      rw[HeA.out,fO,aj,hln]
      simpa[je,cKd]using ow
     have D9:=D8.push gr o9
     have eJ:=HeJ.out
     try simp only at eJ
     rw[<-eJ]at D9
     clear ow gr o9 D8 D7 D Dd HeA HeJ c0 f0 b3 b4 c7 c8 hR7 hg7 HC2 eJ
     go_wp2
     go_roundw
     case rel=>exact⟨n+1,_,by go_num,by omega,D9⟩
     case measure=>simp[intOf];omega
  ·obtain rfl:n=6:=by omega
   obtain⟨g,cg,eg,hcg,hgg⟩:∃g c,Value.slice av 6 cv=.slice (some ⟨g,0,none⟩) 6 c∧6<=c∧G+1<=g:=by
    have hln:=HL.out 6
    rcases D.own.2 with⟨h1,h2⟩|⟨g,cap',cur,h1,hb',_,hn',_⟩
    ·rw[hln]at h2;omega
    ·rw[hln]at h1 hn';exact⟨g,cap',h1,hn',hb'⟩
   have eg1:av=some ⟨g,0,none⟩:=by simp only[bs]at eg;exact eg.1
   have eg2:cv=cg:=by simp only[bs]at eg;exact eg.2.2
   subst eg1 eg2
   clear eg
   have hy:=HB.out (J 6)
   have HN6:Hid (∀W,Rd W R ad cap l (J 6)->Calls Tryz.prog 18 #[.pointer (some ⟨R,0,none⟩)] W fun e w'=>e=.returned (.int .i64 (l.getD (J 6) 0))∧Rd w' R ad cap l (J 6+1)∧W.grownBy w' (some R)):=fun W h=>HN.out (J 6) W h
   have HC6:Hid (∀W,Rd W R ad cap l (J 6+1)->Calls Tryz.prog 137 #[.pointer (some ⟨R,0,none⟩)] W fun e w'=>e=.returned (.agg #[.int .i64 (F (J 6+1)).1.kind,.int .u64 ((F (J 6+1)).1.a:Int),.int .u64 ((F (J 6+1)).1.b:Int)])∧Rd w' R ad cap l (F (J 6+1)).2∧W.grownBy w' (some R)):=fun W h=>HC.out (J 6+1) W h
   clear HS0 HS1 HN HC HB
   generalize l.getD (J 6) 0=y at*
   obtain⟨hya,hyb⟩:=hy
   go_wp2_with fail
   refine(HN6.out _ D.rd).mono ?_
   rintro _ w2⟨rfl,r2,g2⟩
   have D2:=D.draw r2 g2
   have hgl2:=(D2.own.lt g rfl).2
   clear D r2 g2 HN6
   by_cases hy6:y%6=1
   case' pos=>
    have hRDe:RD=(A 6).set 5 (F (J 6+1)).1:=by rw[HRD.out,if_pos hy6]
    have hRJe:RJ=(F (J 6+1)).2:=by rw[HRJ.out,if_pos hy6]
    clear HRD HRJ
    have HRDe:Hid _:=hRDe
    have HRJe:Hid _:=hRJe
    clear hRDe hRJe
    generalize F (J 6+1)=cj at*
    obtain⟨⟨ck,ca,cb⟩,Jx⟩:=cj
    simp only at HC6
    have Dd:=D2.below (af _ _).drew
    have c0:=Dd.c
    have hcells:∀{W:World}{jj:Nat},RlS w W R ad cap l jj G (.slice (some ⟨g,0,none⟩) 6 cv) (A 6)->(∀o,o<18->(W.cell? ⟨g,o,none⟩).isSome=true∧W.frozen? ⟨g,o,none⟩=false):=fun{W jj}h o ho=>by
     obtain⟨_,h1|⟨g',cap',cur,e,_,hg',hn',_,hs',_⟩⟩:=h.own
     ·cases h1.1
     ·simp only[bs,bz,Addr.mk.injEq]at e
      rw[<-e.1.1]at hg'
      refine⟨?_,by simp[World.frozen?,hg']⟩
      have hc:cap'=cv:=e.2.2.symm
      simp[World.cell?,hg']
      omega
    have Hcells:Hid _:= @hcells
    clear hcells
    go_wp2_with fail
    go_region_law(first
     |(go_simp;go_at_call 137;refine(HC6.out _ Dd.rd).mono ?_;rintro _ w7⟨rfl,hR7,hg7⟩;have D7:=Dd.draw hR7 hg7;have c7:=D7.c;obtain⟨i15,f15⟩:=Hcells.out D7 15 (by omega);obtain⟨i16,f16⟩:=Hcells.out D7 16 (by omega);obtain⟨i17,f17⟩:=Hcells.out D7 17 (by omega);obtain⟨u15,v15⟩:=Option.isSome_iff_exists.1 i15;obtain⟨u16,v16⟩:=Option.isSome_iff_exists.1 i16;obtain⟨u17,v17⟩:=Option.isSome_iff_exists.1 i17;clear i15 i16 i17;go_wp2_with fail))
    all_goals
     have D9:RlS w (((w7.setCell ⟨g,15,none⟩ (.int .i64 ck)).setCell ⟨g,16,none⟩ (.int .u64 (ca:Int))).setCell ⟨g,17,none⟩ (.int .u64 (cb:Int))) R ad cap l Jx G (.slice (some ⟨g,0,none⟩) 6 cv) ((A 6).set 5 ⟨ck,ca,cb⟩):=RlS.put (i:=5) D7 ⟨ck,ca,cb⟩
     clear c0 c7 f15 f16 f17 v15 v16 v17 D7 Dd D2 Hcells HC6 hR7 hg7
     generalize((w7.setCell ⟨g,15,none⟩ (.int .i64 ck)).setCell ⟨g,16,none⟩ (.int .u64 (ca:Int))).setCell ⟨g,17,none⟩ (.int .u64 (cb:Int))=w9 at*
     have c0:=D9.c
     have f0:=D9.f
     have z0:=D9.c0
     have zf:=D9.f0
     have hlt2:=D9.lt
     have hb2:=D9.hb
     have oF:fO (w9.setCell ⟨w.heap.size,0,none⟩ (.slice (some ⟨g,0,none⟩) 6 cv)) w.heap.size (.slice (some ⟨g,0,none⟩) 6 cv) RD:=by
      rw[HRDe.out]
      exact hU (ownsRow_setCell_below D9.own (by show w.heap.size<G+1;omega) _) (by omega)
     have rF:Rd (w9.setCell ⟨w.heap.size,0,none⟩ (.slice (some ⟨g,0,none⟩) 6 cv)) R ad cap l RJ:=by
      rw[HRJe.out]
      exact D9.rd.ey (fun k hk=>aE w9 ⟨w.heap.size,0,none⟩ _ k (fun e=>by simp at e;omega))
     have gF:w.grownBy (w9.setCell ⟨w.heap.size,0,none⟩ (.slice (some ⟨g,0,none⟩) 6 cv)) (some R):=jx D9.gr (fG (ah _ (some w.heap.size)) 0 _) (fun k hk=>by simp at hk;omega)
     clear D9
     go_wp2
     refine bodyPost_ret (v:=.agg #[.slice (some ⟨g,0,none⟩) 6 cv]) (by simp[results,Tryz.results115,go_sem,z0]) rfl ?_
     exact⟨_,rfl,oF,rF,gF⟩
   case' neg=>
    have hRDe:RD=A 6:=by rw[HRD.out,if_neg hy6]
    have hRJe:RJ=J 6+1:=by rw[HRJ.out,if_neg hy6]
    subst hRDe hRJe
    clear HRD HRJ HC6
    have c0:=D2.c
    have f0:=D2.f
    have z0:=D2.c0
    have zf:=D2.f0
    have hlt2:=D2.lt
    have hb2:=D2.hb
    have oF:fO (w2.setCell ⟨w.heap.size,0,none⟩ (.slice (some ⟨g,0,none⟩) 6 cv)) w.heap.size (.slice (some ⟨g,0,none⟩) 6 cv) (A 6):=hU (ownsRow_setCell_below D2.own (by show w.heap.size<G+1;omega) _) (by omega)
    have rF:Rd (w2.setCell ⟨w.heap.size,0,none⟩ (.slice (some ⟨g,0,none⟩) 6 cv)) R ad cap l (J 6+1):=D2.rd.ey (fun k hk=>aE w2 ⟨w.heap.size,0,none⟩ _ k (fun e=>by simp at e;omega))
    have gF:w.grownBy (w2.setCell ⟨w.heap.size,0,none⟩ (.slice (some ⟨g,0,none⟩) 6 cv)) (some R):=jx D2.gr (fG (ah _ (some w.heap.size)) 0 _) (fun k hk=>by simp at hk;omega)
    clear D2
    go_wp2
    refine bodyPost_ret (v:=.agg #[.slice (some ⟨g,0,none⟩) 6 cv]) (by simp[results,Tryz.results115,go_sem,z0]) rfl ?_
    exact⟨_,rfl,oF,rF,gF⟩
def KsD(W:World)(b:Nat)(ks:List K):Prop:=∀j u,(je ks)[j]? =some u->W.cell? ((⟨b,0,none⟩:Addr).add j)=some u
theorem uZ{b:Nat}(h:fO W B (.slice (some ⟨b,0,none⟩) n cp) ks):KsD W b ks:=fun j u hu=>h.cells rfl j u hu
theorem KsD.below{W1:World}{b:Nat}(h:KsD W b ks)(hlt:b<W.heap.size)(hb:Below W.heap.size W W1):KsD W1 b ks:=fun j u hu=>by
 have:=h j u hu;rw[kn]at this⊢;exact(hb.cell (p:=⟨b,_,none⟩) hlt).trans this
theorem GS(ks:List K):∀u∈je ks,u.oneCell'=true:=by
 intro u hu;simp only[je,cD]at hu;obtain⟨c,_,hc⟩:=hu;simp only[cKd,bF,cM,or_false]at hc;rcases hc with rfl|rfl|rfl<;>rfl
theorem gw(u:World)(x:Value)(t A:Nat)(h:A=u.heap.size):(u.alloc (.cells #[x] t)).cell? ⟨A,0,none⟩=some x∧(u.alloc (.cells #[x] t)).frozen? ⟨A,0,none⟩=false:=by subst h;constructor<;>simp
theorem ym(b:Nat)(ca:Nat)(ks:List K)(h6:ks.length=6)(w:World)(hs:KsD w b ks)(hb:b<w.heap.size):
 Calls Tryz.prog 138 #[.agg #[.slice (some ⟨b,0,none⟩) 6 ca]] w fun e w'=>∃v,e=.returned (.agg #[v])∧fO w' w.heap.size v ks∧Below w.heap.size w w':=by
 obtain⟨i1,hi1,hy0,hy1,hy2⟩:=info_parts oL;obtain⟨W3,hW3⟩:∃W3,W3=((w.alloc (.cells #[.slice (some ⟨b,0,none⟩) 6 ca] 57)).alloc (.cells #[.slice none 0 0] 57)).alloc (.cells #[.slice none 0 0] 57):=⟨_,rfl⟩;have B3:Below w.heap.size w W3:=by
  rw[hW3];exact(((af _ _).alloc (ae _) _).alloc (by simp) _).alloc (by simp;omega) _
 have hz:W3.heap.size=w.heap.size+1+1+1:=by rw[hW3];simp
 have e1:(w.alloc (.cells #[.slice (some ⟨b,0,none⟩) 6 ca] 57)).heap.size=w.heap.size+1:=by simp
 have e2:((w.alloc (.cells #[.slice (some ⟨b,0,none⟩) 6 ca] 57)).alloc (.cells #[.slice none 0 0] 57)).heap.size=w.heap.size+1+1:=by simp
 have c1:W3.cell? ⟨w.heap.size,0,none⟩=some (.slice (some ⟨b,0,none⟩) 6 ca):=by
  rw[hW3,dm _ _ _ (by simp;omega),dm _ _ _ (by simp)];simp
 have c2:W3.cell? ⟨w.heap.size+1,0,none⟩=some (.slice none 0 0):=by
  rw[hW3,dm _ _ _ (by simp),<-e1];simp
 have c3:W3.cell? ⟨w.heap.size+1+1,0,none⟩=some (.slice none 0 0):=by rw[hW3];exact(gw _ _ _ _ e2.symm).1
 have f2:W3.frozen? ⟨w.heap.size+1,0,none⟩=false:=by rw[hW3];exact(((af _ _).alloc (ae _) _).frozen (p:=⟨w.heap.size+1,0,none⟩) (by simp)).trans (gw _ _ _ _ e1.symm).2
 have f3:W3.frozen? ⟨w.heap.size+1+1,0,none⟩=false:=by rw[hW3];exact(gw _ _ _ _ e2.symm).2
 have hs3:=hs.below hb B3;have Hs3:Hid _:=hs3;have HW3:Hid _:=hW3;have ho:World.ownsRow W3 (w.heap.size+1+1+1) 84 3 (.slice none 0 0) 0 []:=aZ _ _ _ _;have hcl:(je ks).length=6*3:=by rw[zY,h6]
 have Hcl:Hid _:=hcl;clear hs3 hW3 e1 e2 hs hcl;go_enter Tryz.func138,Tryz.ntmps138;go_upto_region 2 with fail
 rw[<-HW3.out];clear HW3;go_wp2_with(at_builtin;refine wpList_append_lies _ rfl (.tmp 5) (.tmp 7) 55 rfl (w.heap.size+1+1+1) 84 i1 _ 3 24 Tryz.underlying55 hi1 hy0 hy1 hy2 rfl (by decide) _ 0 [] rfl ho ⟨b,0,none⟩ 6 ca (je ks) rfl Hcl.out Hs3.out (GS ks) (by omega) (by unfold maxLen;omega) (by omega) (by omega) W3.heap.size rfl ?_);intro g' cp' w9 ow gr _ _;have o9:fO w9 (w.heap.size+1+1+1) (.slice (some ⟨g',0,none⟩) 6 cp') ks:=by rw[fO,h6];simpa using ow
 obtain⟨a1,a2⟩:=eB (g:=w.heap.size+1) (o:=0) gr (by omega) (by simp[Value.ownBlock]);obtain⟨a3,a4⟩:=eB (g:=w.heap.size+1+1) (o:=0) gr (by omega) (by simp[Value.ownBlock]);have d2:=a1.trans c2;have d3:=a3.trans c3;have k2:=a2.trans f2;have k3:=a4.trans f3;have B9:Below w.heap.size w w9:=B3.grown gr (by omega) (fun q hq=>by simp[Value.ownBlock]at hq);have oF:fO ((w9.setCell ⟨w.heap.size+1+1,0,none⟩ (.slice (some ⟨g',0,none⟩) 6 cp')).setCell ⟨w.heap.size+1,0,none⟩ (.slice (some ⟨g',0,none⟩) 6 cp')) w.heap.size (.slice (some ⟨g',0,none⟩) 6 cp') ks:=
  hU (ownsRow_setCell_below (ownsRow_setCell_below o9 (by show w.heap.size+1+1<w.heap.size+1+1+1;omega) _) (by show w.heap.size+1<w.heap.size+1+1+1;omega) _) (by omega)
 have BF:=(B9.setCell (p:=⟨w.heap.size+1+1,0,none⟩) (by show w.heap.size<=w.heap.size+1+1;omega) (.slice (some ⟨g',0,none⟩) 6 cp')).setCell (p:=⟨w.heap.size+1,0,none⟩) (by show w.heap.size<=w.heap.size+1;omega) (.slice (some ⟨g',0,none⟩) 6 cp');clear ow gr o9 B9 B3 a1 a2 a3 a4 c1 c2 c3 f2 f3 Hs3 Hcl ho;go_wp2;refine bodyPost_ret (v:=.agg #[.slice (some ⟨g',0,none⟩) 6 cp']) (by simp[results,Tryz.results138,go_sem,d2]) rfl ?_;exact⟨_,rfl,oF,BF⟩
end Go.Proofs.YtdihdapmphkhpaaGreat
namespace Go.Proofs.YtdihdapmphkhpaaGreat
open Go.RowKit Go.Deep
def qC(l:List Int)(F:Nat->K×Nat)(c:K)(k:Int)(t:Nat):K×Nat:=
 if k<4∧c.kind=1∧c.a≠0 then(if bits .and .u64 (c.a:Int) (2^(l.getD t 0%4).toNat)≠0 then⟨c.kind,c.a,(bits .xor .u64 (c.b:Int) (2^(l.getD t 0%4).toNat)).toNat⟩else c,t+1)
 else if k<6∧c.kind=2∧c.b<18446744073709551595 then(⟨2,c.b+(l.getD t 0%4).toNat,c.b+(l.getD t 0%4).toNat+(l.getD (t+1) 0%5).toNat⟩,t+2)
 else F t
def oE(l:List Int)(F:Nat->K×Nat)(ks:List K)(j:Nat):List K:=
 if l.getD (j+1) 0%8=7 then(ks.set (l.getD j 0%3).toNat (qC l F (ks.getD (l.getD j 0%3).toNat fQ) (l.getD (j+1) 0%8) (j+2)).1).set (((l.getD j 0%3).toNat+1)%3) fQ
 else ks.set (l.getD j 0%3).toNat (qC l F (ks.getD (l.getD j 0%3).toNat fQ) (l.getD (j+1) 0%8) (j+2)).1
def po(l:List Int)(F:Nat->K×Nat)(ks:List K)(j:Nat):Nat:=(qC l F (ks.getD (l.getD j 0%3).toNat fQ) (l.getD (j+1) 0%8) (j+2)).2
theorem E1{l:List Int}(hl:eV l){F:Nat->K×Nat}(hF:KdF l F){c:K}(hc:OkK c)(k:Int)(t:Nat):OkK (qC l F c k t).1:=by
 have h1:=ez hl t;have h2:=ez hl (t+1);unfold qC;split
 ·split
  ·have:=bits_hi_u64 .xor (c.b:Int) (2^(l.getD t 0%4).toNat);exact⟨hc.1,hc.2.1,by show(bits .xor .u64 _ _).toNat<=_;omega⟩
  exact hc
 split
 ·exact⟨by show(0:Int)<=2∧(2:Int)<=2;omega,by show c.b+_<=_;omega,by show c.b+_+_<=_;omega⟩
 exact(hF t).1
theorem zF{l:List Int}(hl:eV l){F:Nat->K×Nat}(hF:KdF l F){ks:List K}(hk:∀c∈ks,OkK c)(h6:ks.length=6)(j:Nat):(∀c∈oE l F ks j,OkK c)∧(oE l F ks j).length=6:=by
 have h1:=ez hl j;have hm:OkK (ks.getD (l.getD j 0%3).toNat fQ):=by
  have:(l.getD j 0%3).toNat<ks.length:=by omega
  rw[aa,ag this];exact hk _ (aI this)
 have hn:=E1 hl hF hm (l.getD (j+1) 0%8) (j+2);have hz:OkK fQ:=⟨by decide,by decide,by decide⟩;have hset:∀{xs:List K}{i:Nat}{c:K},(∀c∈xs,OkK c)->OkK c->∀d∈xs.set i c,OkK d:=fun h hc d hd=>by
  rcases cQ hd with h2|rfl
  ·exact h d h2
  exact hc
 unfold oE;split
 ·exact⟨hset (hset hk hn) hz,by rw[aK,aK];exact h6⟩
 exact⟨hset hk hn,by rw[aK];exact h6⟩
structure NrS(w W:World)(R:Nat)(ad:Option Addr)(cap:Nat)(l:List Int)(j G g cp H:Nat)(c:K)(ks:List K):Prop where
 rd:Rd W R ad cap l j
 gr:w.grownBy W (some R)
 lt:R<w.heap.size
 hG:w.heap.size+1<G
 hg:w.heap.size+1<g
 hH:w.heap.size+1<H
 n1:g≠G
 n2:H≠G
 n3:H≠g
 lG:G<W.heap.size
 cG:W.cell? ⟨G,0,none⟩=some (.slice (some ⟨g,0,none⟩) 6 cp)
 c0:W.cell? ⟨w.heap.size+1,0,none⟩=some (.slice none 0 0)
 f0:W.frozen? ⟨w.heap.size+1,0,none⟩=false
 bx:gu W H (.int .i64 c.kind) (.int .u64 (c.a:Int)) (.int .u64 (c.b:Int))
 own:fO W (w.heap.size+2) (.slice (some ⟨g,0,none⟩) 6 cp) ks
 len:ks.length=6
section
variable{w W W1:World}{R cap j j1 G g cp H:Nat}{ad:Option Addr}{l:List Int}{c:K}{ks ks1:List K}
theorem NrS.grow{row:Option Nat}(h:NrS w W R ad cap l j G g cp H c ks)(hr:Rd W1 R ad cap l j1)(hg:W.grownBy W1 row)(hgr:w.grownBy W1 (some R))(h1:some G≠row)(h2:some (w.heap.size+1)≠row)(h3:some H≠row)(ho:fO W1 (w.heap.size+2) (.slice (some ⟨g,0,none⟩) 6 cp) ks1)(hl:ks1.length=6):NrS w W1 R ad cap l j1 G g cp H c ks1:=by
 have hw:w.heap.size+1<W.heap.size:=dO h.hG h.lG;obtain⟨e1,_⟩:=eB (o:=0) hg h.lG h1;obtain⟨e3,e4⟩:=eB (o:=0) hg hw h2;exact⟨hr,hgr,h.lt,h.hG,h.hg,h.hH,h.n1,h.n2,h.n3,an h.lG hg.size,e1.trans h.cG,e3.trans h.c0,e4.trans h.f0,h.bx.grown hg h3,ho,hl⟩
theorem NrS.draw(h:NrS w W R ad cap l j G g cp H c ks)(hr:Rd W1 R ad cap l j1)(hg:W.grownBy W1 (some R)):NrS w W1 R ad cap l j1 G g cp H c ks:=by
 have h1:=h.lt;have h2:=h.hG;have h3:=h.hH;have h4:=h.hg;exact h.grow hr hg (eU h.gr hg) (by simp;omega) (by simp;omega) (by simp;omega) (aA h.own hg (.inr (by simp[Value.ownBlock];omega))) h.len
theorem NrS.put{i:Nat}(h:NrS w W R ad cap l j G g cp H c ks)(d:K):NrS w (((W.setCell ⟨g,i*3,none⟩ (.int .i64 d.kind)).setCell ⟨g,i*3+1,none⟩ (.int .u64 (d.a:Int))).setCell ⟨g,i*3+2,none⟩ (.int .u64 (d.b:Int))) R ad cap l j G g cp H c (ks.set i d):=by
 have h1:=h.lt;have h2:=h.hG;have h3:=h.n1;have h4:=h.n3;have h5:=h.hg;have hset:W.grownBy (((W.setCell ⟨g,i*3,none⟩ (.int .i64 d.kind)).setCell ⟨g,i*3+1,none⟩ (.int .u64 (d.a:Int))).setCell ⟨g,i*3+2,none⟩ (.int .u64 (d.b:Int))) (some g):=fG (fG (fG (ah _ _) _ _) _ _) _ _;exact h.grow (h.rd.grown hset (by omega:R<w.heap.size+1) (fun k hk=>by simp at hk;omega)) hset (jx h.gr hset (fun k hk=>by simp at hk;omega)) (fun e=>h3 (by simpa using e.symm)) (by simp;omega) (fun e=>h4 (by simpa using e)) (ur d h.own) (by rw[aK];exact h.len)
theorem NrS.box(h:NrS w W R ad cap l j G g cp H c ks)(hset:W.grownBy W1 (some H)){d:K}(hb:gu W1 H (.int .i64 d.kind) (.int .u64 (d.a:Int)) (.int .u64 (d.b:Int))):NrS w W1 R ad cap l j G g cp H d ks:=by
 have h1:=h.lt;have h2:=h.hH;have h3:=h.n2;have h4:=h.n3;have hw:w.heap.size+1<W.heap.size:=dO h.hG h.lG;obtain⟨e1,_⟩:=eB (o:=0) hset h.lG (fun e=>h3 (by simpa using e.symm));obtain⟨e3,e4⟩:=eB (o:=0) hset hw (by simp;omega:some (w.heap.size+1)≠some H);exact⟨h.rd.grown hset (by omega:R<w.heap.size+1) (fun k hk=>by simp at hk;omega),jx h.gr hset (fun k hk=>by simp at hk;omega),h1,h.hG,h.hg,h2,h.n1,h3,h4,an h.lG hset.size,e1.trans h.cG,e3.trans h.c0,e4.trans h.f0,hb,aA h.own hset (.inr (by simp[Value.ownBlock];omega)),h.len⟩
theorem NrS.cells(h:NrS w W R ad cap l j G g cp H c ks){i:Nat}(hi:i<6):W.cell? ⟨g,i*3,none⟩=some (.int .i64 (ks.getD i fQ).kind)∧W.cell? ⟨g,i*3+1,none⟩=some (.int .u64 ((ks.getD i fQ).a:Int))∧W.cell? ⟨g,i*3+2,none⟩=some (.int .u64 ((ks.getD i fQ).b:Int))∧(∀o,W.frozen? ⟨g,o,none⟩=false):=by
 have hget:∀(ks:List K)(i:Nat),i<ks.length->(je ks)[i*3]? =some (.int .i64 (ks.getD i fQ).kind)∧(je ks)[i*3+1]? =some (.int .u64 ((ks.getD i fQ).a:Int))∧(je ks)[i*3+2]? =some (.int .u64 ((ks.getD i fQ).b:Int)):=by
  intro ks;induction ks with
  |nil=>intro i hi;simp at hi
  |cons p ks ih=>
   intro i hi;have e:je (p::ks)=cKd p++je ks:=by simp[je]
   match i with
   |0=>simp[je,cKd]
   |i+1=>
    have:=ih i (by simpa using hi);rw[e,show(i+1)*3=i*3+1+1+1 by omega];simpa[cKd]using this
 obtain⟨g1,g2,g3⟩:=hget ks i (by rw[h.len];exact hi);have hc:=h.own.cells rfl;have k1:=hc _ _ g1;have k2:=hc _ _ g2;have k3:=hc _ _ g3;rw[kn,aC]at k1 k2 k3;refine⟨k1,k2,k3,fun o=> ?_⟩;obtain⟨_,h1|⟨g',cap',cur,e,_,hg',_⟩⟩:=h.own
 ·cases h1.1
 simp only[bs,bz,Addr.mk.injEq]at e;rw[<-e.1.1]at hg';simp[World.frozen?,hg']
end
end Go.Proofs.YtdihdapmphkhpaaGreat
