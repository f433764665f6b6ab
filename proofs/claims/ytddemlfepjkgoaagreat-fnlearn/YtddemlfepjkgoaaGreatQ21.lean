import Derived.Shelf.SlSortCmp.InsertionK
import Derived.Test.YtddemlfepjkgoaaGreatQ20
set_option linter.all false
set_option maxRecDepth 200000
set_option maxHeartbeats 16000000
namespace Go.Proofs.YtddemlfepjkgoaaGreat
open Go.Shelf Go.RowKit Go.Lib Go.Sort
def LB(w w':World):Prop:=Below w.heap.size w w'∧w.drawn<=w'.drawn
theorem LB.refl(w:World):LB w w:=⟨Below.refl _ _,Nat.le_refl _⟩
theorem LB.trans{a b c:World}(h:LB a b)(h':LB b c):LB a c:=⟨h.1.trans (h'.1.mono h.1.size),Nat.le_trans h.2 h'.2⟩
theorem LB.alloc{a b:World}(h:LB a b)(o:Obj):LB a (b.alloc o):=⟨h.1.alloc h.1.size o,h.2⟩
theorem LB.drew{a b:World}(h:LB a b):LB a b.drew:=⟨h.1.drew,Nat.le_succ_of_le h.2⟩
theorem LB.drewN{a b:World}(h:LB a b)(n:Nat):LB a (b.drewN n):=⟨below_drewN h.1 n,Nat.le_add_right_of_le h.2⟩
theorem drawn_setCell(w:World)(p:Addr)(v:Value):(w.setCell p v).drawn=w.drawn:=by
 unfold World.setCell;(first|rfl|(split<;>rfl)|(split<;>(try split)<;>rfl))
theorem LB.setCell{a b:World}(h:LB a b){p:Addr}(hp:a.heap.size<=p.block)(v:Value):LB a (b.setCell p v):=⟨h.1.setCell hp v,by rw[drawn_setCell];exact h.2⟩
theorem LB.lays{w w':World}(h:LB w w'):∃q os,w'=grow (w.drewN q) os:=by
 obtain⟨⟨h1,h2,h3,h4,h5⟩,h6⟩:=h;refine⟨w'.drawn-w.drawn,w'.heap.extract w.heap.size w'.heap.size,?_⟩;obtain⟨heap,tape,drawn,os,output⟩:=w;obtain⟨heap',tape',drawn',os',output'⟩:=w';simp only at h1 h2 h3 h4 h5 h6;subst h1;subst h2;subst h3;simp only[grow,World.drewN,World.mk.injEq,true_and,and_true];refine⟨?_,by omega⟩;apply Array.ext_getElem?;intro i;by_cases hi:i<heap.size
 ·rw[Array.getElem?_append_left hi];exact h5 i hi
 rw[Array.getElem?_append_right (by omega)];by_cases h2:i<heap'.size
 ·rw[Array.getElem?_extract];simp only[Nat.min_self];rw[if_pos (by omega)];congr 1;omega
 rw[Array.getElem?_eq_none (by omega),Array.getElem?_eq_none (by simp;omega)]
theorem conMask_lb(a b:Nat)(w:World):
 Calls Tryz.prog 206 #[.agg #[.int .u64 (a:Int),.int .u64 (b:Int)]] w fun e w'=>e=.returned (conV ⟨1,a,b⟩)∧LB w w':=by
 go_enter Tryz.func206,Tryz.ntmps206;go_wp2;refine bodyPost_ret (v:=conV ⟨1,a,b⟩) (by simp[results,Tryz.results206,go_sem]) rfl ⟨rfl,?_⟩;exact((LB.refl _).alloc _).alloc _
theorem conRange_lb(a b:Nat)(w:World):
 Calls Tryz.prog 196 #[.agg #[.int .u64 (a:Int),.int .u64 (b:Int)]] w fun e w'=>e=.returned (conV ⟨2,a,b⟩)∧LB w w':=by
 go_enter Tryz.func196,Tryz.ntmps196;go_wp2;refine bodyPost_ret (v:=conV ⟨2,a,b⟩) (by simp[results,Tryz.results196,go_sem]) rfl ⟨rfl,?_⟩;exact((LB.refl _).alloc _).alloc _
theorem conAny_lb(w:World):
 Calls Tryz.prog 201 #[.agg #[]] w fun e w'=>e=.returned (conV ⟨0,0,0⟩)∧LB w w':=by
 go_enter Tryz.func201,Tryz.ntmps201;go_wp2;refine bodyPost_ret (v:=conV ⟨0,0,0⟩) (by simp[results,Tryz.results201,go_sem]) rfl ⟨rfl,?_⟩;exact((LB.refl _).alloc _).alloc _
def MethC(c:K):Prop:=∃T P F,setV c=.iface T P∧(∀w,(method 349 T P "loop.example/s0039/impl.con").run Tryz.prog w=.ok (F,P) w)∧(∀(xs:Array Value)(w:World),(callFunc F xs).run Tryz.prog w=.ok (.enter F xs) w)∧(∀w,(nilAhead 349 T P "loop.example/s0039/impl.con").run Tryz.prog w=.ok (some false) w)∧
 ∀w,Calls Tryz.prog F #[P] w fun e w'=>e=.returned (conV c)∧LB w w'
theorem methC{c:K}(h:Normal c):MethC c:=by
 rcases h with rfl|⟨a,b,rfl,_⟩|⟨a,b,rfl,_⟩
 ·exact⟨_,_,201,rfl,fun _=>by kernel_rfl,fun _ _=>by kernel_rfl,fun _=>by kernel_rfl,conAny_lb⟩
 ·exact⟨_,_,206,rfl,fun _=>by kernel_rfl,fun _ _=>by kernel_rfl,fun _=>by kernel_rfl,conMask_lb a b⟩
 exact⟨_,_,196,rfl,fun _=>by kernel_rfl,fun _ _=>by kernel_rfl,fun _=>by kernel_rfl,conRange_lb a b⟩
theorem isNaNi_any(x:Int)(w:World):Calls Tryz.prog 165 #[.int .i64 x] w fun e w'=>e=.returned (.bool false)∧w'=w:=by
 go_enter Tryz.func165,Tryz.ntmps165;go_wp2;go_ret;exact⟨rfl,rfl⟩
theorem cmpI_any(x y:Int)(w:World):Calls Tryz.prog 136 #[.int .i64 x,.int .i64 y] w fun e w'=>e=.returned (.int .i64 (ordI x y))∧w'=w:=by
 rcases Int.lt_trichotomy x y with h|h|h
 ·rw[ordI_neg h];go_enter Tryz.func136,Tryz.ntmps136;go_wp2_with(go_at_call 165;refine(isNaNi_any _ _).mono ?_;rintro e w'⟨rfl,rfl⟩);go_ret;exact⟨rfl,rfl⟩
 ·rw[ordI_same h];subst h;go_enter Tryz.func136,Tryz.ntmps136;go_wp2_with(go_at_call 165;refine(isNaNi_any _ _).mono ?_;rintro e w'⟨rfl,rfl⟩);go_ret;exact⟨rfl,rfl⟩
 rw[ordI_pos h];go_enter Tryz.func136,Tryz.ntmps136;go_wp2_with(go_at_call 165;refine(isNaNi_any _ _).mono ?_;rintro e w'⟨rfl,rfl⟩);go_ret;exact⟨rfl,rfl⟩
theorem or3_then(x y z:Int):or3 x y z=thenO x (thenO y z):=by
 unfold or3 thenO;by_cases h:x=0
 ·rw[if_neg (by simpa using h),if_pos h];by_cases h2:y=0
  ·rw[if_neg (by simpa using h2),if_pos h2]
  rw[if_pos h2,if_neg h2]
 rw[if_pos h,if_neg h]
theorem natU{a:Nat}(h:a<18446744073709551616):isU64 (a:Int):=by unfold isU64;omega
theorem compareCons_any(c d:K)(w:World)(hc:c.ok)(hd:d.ok):
 Calls Tryz.prog 106 #[conV c,conV d] w fun e w'=>e=.returned (.int .i64 (ordK c d))∧LB w w':=by
 have e:ordK c d=or3 (ordI c.kind d.kind) (ordI c.a d.a) (ordI c.b d.b):=(or3_then _ _ _).symm
 rw[e]
 clear e
 have HI:Hid (∀w1 p q,Calls Tryz.prog 136 #[.int .i64 p,.int .i64 q] w1 fun e w'=>e=.returned (.int .i64 (ordI p q))∧w'=w1):=fun w1 p q=>cmpI_any p q w1
 have HA:Hid (∀w1 p q,isU64 p->isU64 q->Calls Tryz.prog 68 #[.int .u64 p,.int .u64 q] w1 fun e w'=>e=.returned (.int .i64 (ordI p q))∧w'=w1):=fun w1 p q h1 h2=>cmp64_any p q w1 h1 h2
 have u1:=natU hc.2.1
 have u2:=natU hc.2.2
 have u3:=natU hd.2.1
 have u4:=natU hd.2.2
 clear hc hd
 obtain⟨ck,ca,cb⟩:=c
 obtain⟨dk,da,db⟩:=d
 simp only[conV]at*
 obtain⟨x,hx⟩:∃x,ordI ck dk=x:=⟨_,rfl⟩
 obtain⟨y,hy⟩:∃y,ordI (ca:Int) (da:Int)=y:=⟨_,rfl⟩
 obtain⟨z,hz⟩:∃z,ordI (cb:Int) (db:Int)=z:=⟨_,rfl⟩
 have HX:Hid (ordI ck dk=x):=hx
 have HY:Hid (ordI (ca:Int) (da:Int)=y):=hy
 have HZ:Hid (ordI (cb:Int) (db:Int)=z):=hz
 clear hx hy hz
 rw[HX.out,HY.out,HZ.out]
 generalize(ca:Int)=a at*
 generalize(cb:Int)=b at*
 generalize(da:Int)=a' at*
 generalize(db:Int)=b' at*
 go_enter Tryz.func106,Tryz.ntmps106
 go_wp2_with fail
 have X:=(BoxK.new w 94 (.int .i64 ck) (.int .u64 a) (.int .u64 b)).alloc (.cells #[.int .i64 dk,.int .u64 a',.int .u64 b'] 94)
 have Y:=BoxK.new (w.alloc (.cells #[.int .i64 ck,.int .u64 a,.int .u64 b] 94)) 94 (.int .i64 dk) (.int .u64 a') (.int .u64 b')
 have hsz:(w.alloc (.cells #[.int .i64 ck,.int .u64 a,.int .u64 b] 94)).heap.size=w.heap.size+1:=by simp
 rw[hsz]at Y
 have HG:Hid (∀o,LB w (((w.alloc (.cells #[.int .i64 ck,.int .u64 a,.int .u64 b] 94)).alloc (.cells #[.int .i64 dk,.int .u64 a',.int .u64 b'] 94)).alloc o).drew):=fun o=>((((LB.refl w).alloc _).alloc _).alloc o).drew
 generalize(w.alloc (.cells #[.int .i64 ck,.int .u64 a,.int .u64 b] 94)).alloc (.cells #[.int .i64 dk,.int .u64 a',.int .u64 b'] 94)=W at*
 clear hsz
 obtain⟨_,x0,x1,x2,_,_,_⟩:=X
 obtain⟨_,y0,y1,y2,_,_,_⟩:=Y
 have HOr:Hid (∀w1:World,Calls Tryz.prog 58 #[.slice (some ⟨w1.heap.size,0,none⟩) 3 3] (w1.alloc (.cells #[.int .i64 (ordI ck dk),.int .i64 (ordI a a'),.int .i64 (ordI b b')] 3)).drew fun e w'=>e=.returned (.int .i64 (or3 x y z))∧w'=(w1.alloc (.cells #[.int .i64 (ordI ck dk),.int .i64 (ordI a a'),.int .i64 (ordI b b')] 3)).drew):=by
  intro w1
  rw[<-HX.out,<-HY.out,<-HZ.out]
  refine cmpOr_any w1.heap.size _ _ _ _ (fun j hj=> ?_)
  have:j=0∨j=1∨j=2:=by omega
  rcases this with rfl|rfl|rfl<;>simp[get3]
 go_region_held3(fun w'=>w'.cell? ⟨w.heap.size,0,none⟩=some (.int .i64 ck)∧w'.cell? ⟨w.heap.size,1,none⟩=some (.int .u64 a)∧w'.cell? ⟨w.heap.size,2,none⟩=some (.int .u64 b)∧w'.cell? ⟨w.heap.size+1,0,none⟩=some (.int .i64 dk)∧w'.cell? ⟨w.heap.size+1,1,none⟩=some (.int .u64 a')∧w'.cell? ⟨w.heap.size+1,2,none⟩=some (.int .u64 b'))
  (refine⟨?_,?_,?_,?_,?_,?_⟩<;>first|assumption|exact cell_alloc_some _ (by assumption)|(simp[*];done))
  (first
   |(go_at_call 136;refine(HI.out _ _ _).mono ?_;rintro e w'⟨rfl,rfl⟩)
   |(go_at_call 68;refine(HA.out _ _ _ (by assumption) (by assumption)).mono ?_;rintro e w'⟨rfl,rfl⟩)
   |(go_at_call 58;refine(HOr.out _).mono ?_;rintro e w'⟨rfl,rfl⟩))
 have B1:=HG.out (.cells #[.int .i64 (ordI ck dk),.int .i64 (ordI a a'),.int .i64 (ordI b b')] 3)
 clear HG
 go_wp2
 go_ret
 exact⟨rfl,B1⟩
def encR(r:Ru):List Value:=[setV (r.getD 0 K.zero),setV (r.getD 1 K.zero),setV (r.getD 2 K.zero),setV (r.getD 3 K.zero),setV (r.getD 4 K.zero),setV (r.getD 5 K.zero)]
theorem encR_at(r:Ru){i:Nat}(h:i<6):(encR r)[i]? =some (setV (r.getD i K.zero)):=by
 have:i=0∨i=1∨i=2∨i=3∨i=4∨i=5:=by omega
 rcases this with rfl|rfl|rfl|rfl|rfl|rfl<;>rfl
theorem lexO_at{α:Type}(d:α){ord:α->α->Int}:∀(a b:List α)(k:Nat),a.length=b.length->k<a.length->(∀j,j<k->ord (a.getD j d) (b.getD j d)=0)->ord (a.getD k d) (b.getD k d)≠0->lexO ord a b=ord (a.getD k d) (b.getD k d)
 |[],_,k,_,h,_,_=>by simp at h
 |a::r,[],k,h,_,_,_=>by simp at h
 |a::r,b::s,0,h,_,_,h1=>by
  simp at h1⊢;rw[lexO,if_neg h1]
 |a::r,b::s,k+1,h,hk,h0,h1=>by
  have z:=h0 0 (by omega);simp at z;rw[lexO,if_pos z];have:=lexO_at d r s k (by simpa using h) (by simpa using hk) (fun j hj=>by have:=h0 (j+1) (by omega);simpa using this) (by simpa using h1);simpa using this
theorem lexO_all{α:Type}(d:α){ord:α->α->Int}:∀(a b:List α),a.length=b.length->(∀j,j<a.length->ord (a.getD j d) (b.getD j d)=0)->lexO ord a b=0
 |[],[],_,_=>rfl
 |[],_::_,h,_=>by simp at h
 |a::r,[],h,_=>by simp at h
 |a::r,b::s,h,h0=>by
  have z:=h0 0 (by simp);simp at z;rw[lexO,if_pos z];exact lexO_all d r s (by simpa using h) (fun j hj=>by have:=h0 (j+1) (by simpa using hj);simpa using this)
theorem compareRules_any(a b:Ru)(w:World)(ha:NR a)(hb:NR b):
 Calls Tryz.prog 74 #[.agg (encR a).toArray,.agg (encR b).toArray] w fun e w'=>e=.returned (.int .i64 (ordR a b))∧LB w w':=by
 have HL:Hid (∀k,k<6->(∀j,j<k->ordK (a.getD j K.zero) (b.getD j K.zero)=0)->ordK (a.getD k K.zero) (b.getD k K.zero)≠0->ordR a b=ordK (a.getD k K.zero) (b.getD k K.zero)):=fun k hk h0 h1=>lexO_at K.zero a b k (by rw[ha.1,hb.1]) (by rw[ha.1];exact hk) h0 h1
 have HZ:Hid ((∀j,j<6->ordK (a.getD j K.zero) (b.getD j K.zero)=0)->ordR a b=0):=fun h=>lexO_all K.zero a b (by rw[ha.1,hb.1]) (by rw[ha.1];exact h)
 have HM:Hid (∀k,MethC (a.getD k K.zero)∧MethC (b.getD k K.zero)):=fun k=>⟨methC (ha.2 k),methC (hb.2 k)⟩
 have HC:Hid (∀k w,Calls Tryz.prog 106 #[conV (a.getD k K.zero),conV (b.getD k K.zero)] w fun e w'=>e=.returned (.int .i64 (ordK (a.getD k K.zero) (b.getD k K.zero)))∧LB w w'):=fun k w=>compareCons_any _ _ w (ha.2 k).ok (hb.2 k).ok
 clear ha hb
 have B0:LB w ((w.alloc (.cells (encR a).toArray 130)).alloc (.cells (encR b).toArray 130)):=((LB.refl w).alloc _).alloc _
 have HX:Hid (∀wr,LB ((w.alloc (.cells (encR a).toArray 130)).alloc (.cells (encR b).toArray 130)) wr->∀k,k<6->wr.cell? ⟨w.heap.size,k,none⟩=some (setV (a.getD k K.zero))∧wr.cell? ⟨w.heap.size+1,k,none⟩=some (setV (b.getD k K.zero))):=by
  intro wr h k hk
  have e1:=encR_at a hk
  have e2:=encR_at b hk
  refine⟨(h.1.cell (p:=⟨w.heap.size,k,none⟩) (by simp;omega)).trans ?_,(h.1.cell (p:=⟨w.heap.size+1,k,none⟩) (by simp)).trans ?_⟩
  ·refine(((Below.refl (w.alloc (.cells (encR a).toArray 130)).heap.size _).alloc (Nat.le_refl _) _).cell (p:=⟨w.heap.size,k,none⟩) (by simp)).trans ?_
   simp[e1]
  ·have e:w.heap.size+1=(w.alloc (.cells (encR a).toArray 130)).heap.size:=by simp
   rw[e];simp[e2]
 generalize ordR a b=R at*
 have ea:(encR a).toArray= #[setV (a.getD 0 K.zero),setV (a.getD 1 K.zero),setV (a.getD 2 K.zero),setV (a.getD 3 K.zero),setV (a.getD 4 K.zero),setV (a.getD 5 K.zero)]:=rfl
 have eb:(encR b).toArray= #[setV (b.getD 0 K.zero),setV (b.getD 1 K.zero),setV (b.getD 2 K.zero),setV (b.getD 3 K.zero),setV (b.getD 4 K.zero),setV (b.getD 5 K.zero)]:=rfl
 rw[ea,eb]at HX B0⊢
 clear ea eb
 generalize setV (a.getD 0 K.zero)=v0 at B0 HX⊢
 generalize setV (a.getD 1 K.zero)=v1 at B0 HX⊢
 generalize setV (a.getD 2 K.zero)=v2 at B0 HX⊢
 generalize setV (a.getD 3 K.zero)=v3 at B0 HX⊢
 generalize setV (a.getD 4 K.zero)=v4 at B0 HX⊢
 generalize setV (a.getD 5 K.zero)=v5 at B0 HX⊢
 generalize setV (b.getD 0 K.zero)=u0 at B0 HX⊢
 generalize setV (b.getD 1 K.zero)=u1 at B0 HX⊢
 generalize setV (b.getD 2 K.zero)=u2 at B0 HX⊢
 generalize setV (b.getD 3 K.zero)=u3 at B0 HX⊢
 generalize setV (b.getD 4 K.zero)=u4 at B0 HX⊢
 generalize setV (b.getD 5 K.zero)=u5 at B0 HX⊢
 go_enter Tryz.func74,Tryz.ntmps74
 go_wp2_with fail
 generalize(w.alloc (.cells #[v0,v1,v2,v3,v4,v5] 130)).alloc (.cells #[u0,u1,u2,u3,u4,u5] 130)=W at*
 go_loopw [7](fun i wr=>∃k:Nat,k<=6∧i=.int .i64 k∧Hid (∀j,j<k->ordK (a.getD j K.zero) (b.getD j K.zero)=0)∧LB W wr)(fun i _=>6-(intOf i).toNat)
 case atStart=>exact⟨0,by omega,rfl,fun j hj=>by omega,LB.refl W⟩
 case round=>
  obtain⟨k,hk,rfl,HJ,hLB⟩:=hrel
  rename World=>W0
  by_cases hk6:k<6
  ·obtain⟨c0,d0⟩:=HX.out W0 hLB k hk6
   obtain⟨⟨T,P,F,e1,e2,e4,e5,HF⟩,⟨T',P',F',e1',e2',e4',e5',HF'⟩⟩:=HM.out k
   have HFk:Hid (∀w,Calls Tryz.prog F #[P] w fun e w'=>e=.returned (conV (a.getD k K.zero))∧LB w w'):=HF
   have HFk':Hid (∀w,Calls Tryz.prog F' #[P'] w fun e w'=>e=.returned (conV (b.getD k K.zero))∧LB w w'):=HF'
   have HCk:Hid (∀w,Calls Tryz.prog 106 #[conV (a.getD k K.zero),conV (b.getD k K.zero)] w fun e w'=>e=.returned (.int .i64 (ordK (a.getD k K.zero) (b.getD k K.zero)))∧LB w w'):=HC.out k
   rw[e1]at c0
   rw[e1']at d0
   have hk6':(k:Int)<6:=by omega
   have HL1:Hid (ordK (a.getD k K.zero) (b.getD k K.zero)≠0->R=ordK (a.getD k K.zero) (b.getD k K.zero)):=fun h=>HL.out k hk6 HJ.out h
   have HJ1:Hid (ordK (a.getD k K.zero) (b.getD k K.zero)=0->∀j,j<k+1->ordK (a.getD j K.zero) (b.getD j K.zero)=0):=fun h j hj=>by
    by_cases hjk:j=k
    ·subst hjk;exact h
    ·exact HJ.out j (by omega)
   have SK:Hid (∀wa wb,LB wa wb->(LB W wa∧wa.cell? ⟨w.heap.size,k,none⟩=some (.iface T P)∧wa.cell? ⟨w.heap.size+1,k,none⟩=some (.iface T' P'))->(LB W wb∧wb.cell? ⟨w.heap.size,k,none⟩=some (.iface T P)∧wb.cell? ⟨w.heap.size+1,k,none⟩=some (.iface T' P'))):=fun wa wb hb⟨s,x,y⟩=>⟨s.trans hb,cell_step hb.1 x,cell_step hb.1 y⟩
   have hS0:=SK.out W0 W0.drew (LB.refl _).drew ⟨hLB,c0,d0⟩
   clear HF HF' HC HM HX HL HZ HJ e1 e1' c0 d0 hLB
   generalize ordK (a.getD k K.zero) (b.getD k K.zero)=Z at*
   generalize a.getD k K.zero=ca at*
   generalize b.getD k K.zero=cb at*
   obtain⟨ck,cx,cy⟩:=ca
   obtain⟨dk,dx,dy⟩:=cb
   simp only[conV]at HFk HFk' HCk
   go_wp2_with fail
   go_region_held3(fun w'=>LB W w'∧w'.cell? ⟨w.heap.size,k,none⟩=some (.iface T P)∧w'.cell? ⟨w.heap.size+1,k,none⟩=some (.iface T' P'))
    (assumption)
    (first
     |(go_at_call 106;refine(HCk.out _).mono ?_;rintro _ w9⟨rfl,hb9⟩;have hS9:=SK.out _ _ hb9 (by assumption))
     |(refine(HFk.out _).mono ?_;rintro _ w8⟨rfl,hb8⟩;have hS8:=SK.out _ _ hb8 (by assumption))
     |(refine(HFk'.out _).mono ?_;rintro _ w7⟨rfl,hb7⟩;have hS7:=SK.out _ _ hb7 (by assumption)))
   all_goals
    have B1:LB W w9:=hS9.1
    clear hS9 hb9
    by_cases hZ:Z=0
    ·subst hZ
     have HJ2:Hid (∀j,j<k+1->ordK (a.getD j K.zero) (b.getD j K.zero)=0):=HJ1.out rfl
     go_wp2
     go_roundw
     case rel=>exact⟨k+1,by omega,by go_num,HJ2,B1⟩
     case measure=>simp[intOf];omega
    ·have hR:R=Z:=HL1.out hZ
     subst hR
     have hZ':(R !=0)=true:=by simpa using hZ
     have hZ2:(R==0)=false:=by simpa using hZ
     clear hZ HL1 HJ1
     go_wp2
     go_ret
     exact⟨rfl,B0.trans B1⟩
  ·have hk':k=6:=by omega
   subst hk'
   have hR:R=0:=HZ.out HJ.out
   subst hR
   clear HZ HL HM HC HX HJ
   go_wp2
   go_ret
   exact⟨rfl,B0.trans hLB⟩
end Go.Proofs.YtddemlfepjkgoaaGreat
namespace Go.Proofs.YtddemlfepjkgoaaGreat
open Go.RowKit Go.Deep
def get2L(x y:Int)(j:Nat):Int:=if j=0 then x else y
theorem cmpOr2_lb (g : Nat) (x y : Int) (w : World) (c : ∀ j, j < 2 -> w.cell? ⟨g, j, none⟩ = some (.int .i64 (get2L x y j))) :
    Calls Tryz.prog 58 #[.slice (some ⟨g, 0, none⟩) 2 2] w fun e w' => e = .returned (.int .i64 (thenO x y)) ∧ w' = w := by
  have HC : Hid (∀ j, j < 2 -> w.cell? ⟨g, j, none⟩ = some (.int .i64 (get2L x y j))) := c
  have H1 : Hid (∀ j, j < 2 -> (∀ i, i < j -> get2L x y i = 0) -> get2L x y j ≠ 0 -> thenO x y = get2L x y j) := by
    intro j hj h0 h1
    have : j = 0 ∨ j = 1 := by omega
    rcases this with rfl | rfl
    · simp only [get2L, if_true] at h1 ⊢; unfold thenO; rw [if_neg h1]
    · have a0 := h0 0 (by omega)
      simp [get2L] at h1 a0 ⊢; unfold thenO; rw [if_pos a0]
  have H2 : Hid ((∀ i, i < 2 -> get2L x y i = 0) -> thenO x y = 0) := by
    intro h0
    have a0 := h0 0 (by omega)
    have a1 := h0 1 (by omega)
    simp [get2L] at a0 a1; unfold thenO; rw [if_pos a0, a1]
  generalize thenO x y = R at *
  generalize get2L x y = G at *
  clear c
  go_enter Tryz.func58, Tryz.ntmps58
  go_wp2_with fail
  go_loopw [8] (fun i wr => ∃ j : Nat, j <= 2 ∧ i = .int .i64 j ∧ wr = w ∧ Hid (∀ i, i < j -> G i = 0)) (fun i _ => 2 - (intOf i).toNat)
  case atStart => exact ⟨0, by omega, rfl, rfl, fun i hi => by omega⟩
  case round =>
    obtain ⟨j, hj, rfl, rfl, HJ⟩ := hrel
    by_cases hlt : j < 2
    · have c0 := HC.out j hlt
      by_cases hq : G j = 0
      · have HJ2 : Hid (∀ i, i < j + 1 -> G i = 0) := by
          intro i hi
          by_cases e : i = j
          · rw [e]; exact hq
          · exact HJ.out i (by omega)
        rw [hq] at c0
        clear HC H1 H2 HJ hq
        go_wp2
        go_roundw
        case rel => exact ⟨j + 1, by omega, by go_num, trivial, HJ2⟩
        case measure => simp [intOf]; omega
      · have E : Hid (R = G j) := H1.out j hlt HJ.out hq
        have hq' : (G j != 0) = true := by simpa using hq
        clear HC H1 H2 HJ
        generalize G j = q at *
        go_wp2
        go_ret
        exact ⟨ret_int E.out.symm, rfl⟩
    · have E : Hid (R = 0) := H2.out (fun i hi => HJ.out i (by omega))
      clear HC H1 H2 HJ
      go_wp2
      go_ret
      exact ⟨ret_int E.out.symm, rfl⟩
theorem compareIDs_any(p q:Id2)(w:World)(hp:(0<=p.1∧p.1<=4294967295)∧0<=p.2∧p.2<=4294967295)(hq:(0<=q.1∧q.1<=4294967295)∧0<=q.2∧q.2<=4294967295):
 Calls Tryz.prog 28 #[.agg #[.int .u32 p.1,.int .u32 p.2],.agg #[.int .u32 q.1,.int .u32 q.2]] w fun e w'=>e=.returned (.int .i64 (ordP p q))∧LB w w':=by
 have HA:Hid (∀w1 p q,0<=p->p<=4294967295->0<=q->q<=4294967295->Calls Tryz.prog 59 #[.int .u32 p,.int .u32 q] w1 fun e w'=>e=.returned (.int .i64 (ordI p q))∧w'=w1):=fun w1 p q h1 h2 h3 h4=>cmp32_any _ _ w1 ⟨h1,h2⟩ ⟨h3,h4⟩
 obtain⟨ar,nr⟩:=p
 obtain⟨ar',nr'⟩:=q
 simp only at*
 obtain⟨⟨p0,p1⟩,p2,p3⟩:=hp
 obtain⟨⟨r0,r1⟩,r2,r3⟩:=hq
 have HR:Hid (ordP (ar,nr) (ar',nr')=thenO (ordI ar ar') (ordI nr nr')):=rfl
 have HOr:Hid (∀w1:World,Calls Tryz.prog 58 #[.slice (some ⟨w1.heap.size,0,none⟩) 2 2] (w1.alloc (.cells #[.int .i64 (ordI ar ar'),.int .i64 (ordI nr nr')] 3)).drew fun e w'=>e=.returned (.int .i64 (ordP (ar,nr) (ar',nr')))∧w'=(w1.alloc (.cells #[.int .i64 (ordI ar ar'),.int .i64 (ordI nr nr')] 3)).drew):=by
  intro w1
  rw[HR.out]
  refine cmpOr2_lb w1.heap.size _ _ _ (fun j hj=> ?_)
  have:j=0∨j=1:=by omega
  rcases this with rfl|rfl<;>simp[get2L]
 clear HR
 generalize ordP (ar,nr) (ar',nr')=R at*
 have B0:Below w.heap.size w ((w.alloc (.cells #[.int .u32 ar,.int .u32 nr] 61)).alloc (.cells #[.int .u32 ar',.int .u32 nr'] 61)):=((Below.refl _ _).alloc (Nat.le_refl _) _).alloc (by simp) _
 have B0L:LB w ((w.alloc (.cells #[.int .u32 ar,.int .u32 nr] 61)).alloc (.cells #[.int .u32 ar',.int .u32 nr'] 61)):=((LB.refl _).alloc _).alloc _
 have x0:((w.alloc (.cells #[.int .u32 ar,.int .u32 nr] 61)).alloc (.cells #[.int .u32 ar',.int .u32 nr'] 61)).cell? ⟨w.heap.size,0,none⟩=some (.int .u32 ar):=cell_step ((Below.refl _ _).alloc (Nat.le_refl _) _) (by simp)
 have x1:((w.alloc (.cells #[.int .u32 ar,.int .u32 nr] 61)).alloc (.cells #[.int .u32 ar',.int .u32 nr'] 61)).cell? ⟨w.heap.size,1,none⟩=some (.int .u32 nr):=cell_step ((Below.refl _ _).alloc (Nat.le_refl _) _) (by simp)
 have hs1:(w.alloc (.cells #[.int .u32 ar,.int .u32 nr] 61)).heap.size=w.heap.size+1:=by simp
 have y0:((w.alloc (.cells #[.int .u32 ar,.int .u32 nr] 61)).alloc (.cells #[.int .u32 ar',.int .u32 nr'] 61)).cell? ⟨w.heap.size+1,0,none⟩=some (.int .u32 ar'):=by rw[<-hs1];simp
 have y1:((w.alloc (.cells #[.int .u32 ar,.int .u32 nr] 61)).alloc (.cells #[.int .u32 ar',.int .u32 nr'] 61)).cell? ⟨w.heap.size+1,1,none⟩=some (.int .u32 nr'):=by rw[<-hs1];simp
 clear hs1
 go_enter Tryz.func28,Tryz.ntmps28
 go_wp2_with fail
 generalize(w.alloc (.cells #[.int .u32 ar,.int .u32 nr] 61)).alloc (.cells #[.int .u32 ar',.int .u32 nr'] 61)=W at*
 have HS0:LB W W.drew:=(LB.refl _).drew
 go_region_held3(fun w'=>LB W w'∧w'.cell? ⟨w.heap.size,0,none⟩=some (.int .u32 ar)∧w'.cell? ⟨w.heap.size,1,none⟩=some (.int .u32 nr)∧w'.cell? ⟨w.heap.size+1,0,none⟩=some (.int .u32 ar')∧w'.cell? ⟨w.heap.size+1,1,none⟩=some (.int .u32 nr'))
  (refine⟨?_,?_,?_,?_,?_⟩<;>first|assumption|exact LB.alloc (by assumption) _|exact cell_alloc_some _ (by assumption)|(simp[*];done))
  (first
   |(go_at_call 59;refine(HA.out _ _ _ (by assumption) (by assumption) (by assumption) (by assumption)).mono ?_;rintro e w'⟨rfl,rfl⟩)
   |(go_at_call 58;refine(HOr.out _).mono ?_;rintro e w'⟨rfl,rfl⟩))
 have B1:LB w ((W.alloc (.cells #[.int .i64 (ordI ar ar'),.int .i64 (ordI nr nr')] 3)).drew):=(B0L.alloc _).drew
 go_wp2
 go_ret
 exact⟨rfl,B1⟩
def bxA(w:World)(x:La):World:=w.alloc (.cells #[xA x 0,xA x 1,xA x 2,xA x 3,xA x 4,xA x 5] 71)
theorem bxA_src(w:World){x:La}(h:okLa x):USrc (bxA w x) (some ⟨w.heap.size,0,none⟩) x:=.inr ⟨_,_,rfl,by simp[bxA],fun i hi=>by
 rw[h.1]at hi;rw[Nat.zero_add];exact six_cells w x _ hi⟩
theorem compareArgLists_any(x y:La)(w:World)(hx:okLa x)(hy:okLa y):
 Calls Tryz.prog 30 #[.agg #[xA x 0,xA x 1,xA x 2,xA x 3,xA x 4,xA x 5],.agg #[xA y 0,xA y 1,xA y 2,xA y 3,xA y 4,xA y 5]] w fun e w'=>e=.returned (.int .i64 (ordL x y))∧LB w w':=by
 have HC:Hid (∀w1,LB (bxA (bxA w x) y) w1->Calls Tryz.prog 63 #[.slice (some ⟨w.heap.size,0,none⟩) 6 6,.slice (some ⟨w.heap.size+1,0,none⟩) 6 6] w1 fun e w'=>e=.returned (.int .i64 (ordL x y))∧w'=w1):=by
  intro w1 hb
  have h1:=((bxA_src w hx).below (w':=bxA (bxA w x) y) ((Below.refl _ _).alloc (Nat.le_refl _) _)).below hb.1
  have h2:=(bxA_src (bxA w x) hy).below hb.1
  rw[show(bxA w x).heap.size=w.heap.size+1 by simp[bxA]]at h2
  have:=slicesCompare_any _ _ 6 6 x y w1 h1 h2 hx.2 hy.2 (by rw[hx.1];omega) (by rw[hy.1];omega)
  rw[hx.1,hy.1]at this
  exact this
 have B0:LB w (bxA (bxA w x) y):=((LB.refl w).alloc _).alloc _
 have hD:LB (bxA (bxA w x) y) (bxA (bxA w x) y).drew:=(LB.refl _).drew
 have B1:LB w (bxA (bxA w x) y).drew:=B0.drew
 unfold bxA at*
 generalize ordL x y=z at*
 generalize xA x 0=x0 at*
 generalize xA x 1=x1 at*
 generalize xA x 2=x2 at*
 generalize xA x 3=x3 at*
 generalize xA x 4=x4 at*
 generalize xA x 5=x5 at*
 generalize xA y 0=y0 at*
 generalize xA y 1=y1 at*
 generalize xA y 2=y2 at*
 generalize xA y 3=y3 at*
 generalize xA y 4=y4 at*
 generalize xA y 5=y5 at*
 go_enter Tryz.func30,Tryz.ntmps30
 go_wp2_with fail
 generalize(w.alloc (.cells #[x0,x1,x2,x3,x4,x5] 71)).alloc (.cells #[y0,y1,y2,y3,y4,y5] 71)=W at*
 go_region_held3(fun w'=>LB W w')
  (assumption)
  (first
   |(go_at_call 63;refine(HC.out _ (by assumption)).mono ?_;rintro e w'⟨rfl,rfl⟩))
 go_wp2
 go_ret
 exact⟨rfl,by assumption⟩
end Go.Proofs.YtddemlfepjkgoaaGreat
