import Derived.Shelf.Lay
import Derived.Ground.SlsfProg
import Derived.Laws.AppendOwnNone
import Derived.Test.YtddemlfepjkgoaaGreatQ21
import Derived.Test.YtddemlfepjkgoaaGreatQ22
set_option linter.all false
set_option maxRecDepth 200000
set_option maxHeartbeats 16000000
namespace Go.Proofs.YtddemlfepjkgoaaGreat.srtA
open Go.Shelf Go.RowKit Go.Lib Go.Sort
abbrev An:={x:La//okLa x}
theorem okA_zero:okLa [0,0,0,0,0,0]:=⟨rfl,by decide⟩
instance:Inhabited An:=⟨⟨_,okA_zero⟩⟩
def encA(p:An):List Value:=[Value.int .u64 ((p).val.getD 0 0),Value.int .u64 ((p).val.getD 1 0),Value.int .u64 ((p).val.getD 2 0),Value.int .u64 ((p).val.getD 3 0),Value.int .u64 ((p).val.getD 4 0),Value.int .u64 ((p).val.getD 5 0)]
def ordA(p q:An):Int:=ordL p.val q.val
theorem linA:Lin ordA:=⟨fun a=>linL.self _,fun a b h=>Subtype.ext (linL.zero _ _ h),fun a b=>linL.anti _ _,fun a b c h h'=>linL.trans _ _ _ h h'⟩
theorem encA_form(p:An):encA p=[Value.int .u64 ((p).val.getD 0 0),Value.int .u64 ((p).val.getD 1 0),Value.int .u64 ((p).val.getD 2 0),Value.int .u64 ((p).val.getD 3 0),Value.int .u64 ((p).val.getD 4 0),Value.int .u64 ((p).val.getD 5 0)]:=rfl
theorem encA_len(p:An):(encA p).length=6:=rfl
theorem encA_one(p:An):∀v∈encA p,v.oneCell'=true:=by
 intro v hv;simp only[encA,List.mem_cons,List.not_mem_nil,or_false]at hv;rcases hv with rfl|rfl|rfl|rfl|rfl|rfl<;>rfl
theorem cmp_lbA(p q:An)(w:World):Calls Tryz.prog 30 #[.agg (encA p).toArray,.agg (encA q).toArray] w fun e w'=>e=.returned (.int .i64 (ordA p q))∧LB w w':=compareArgLists_any p.val q.val w p.property q.property
shelf_lay_g SlLaysF0.n6 Slsf 6 at Tryz 60 as sortLaidA
abbrev RowA(w:World)(D N n:Nat)(g:Nat->An):Prop:=RowF 71 encA 6 w D N n g
theorem sort_anyA(B D N n cap:Nat)(g:Nat->An)(W w:World)(hBW:B<=W.heap.size)(hb:Below B W w)(hD:B<=D)(hr:RowA w D N n g)(hn:n<=16777216):
 Calls Tryz.prog 60 #[.slice (some ⟨D,0,none⟩) n cap,.func (.func 30) #[] #[]] w fun e w'=>e=.returned (.tuple #[])∧
  ∃g',RowA w' D N n g'∧(∀c,c∈lstF g' n↔c∈lstF g n)∧(lstF g' n).Pairwise (fun a b=>ordA a b<=0)∧Below B W w':=
 sort_of linA encA_len (by decide) B D N n cap g W w hBW hb hD hr (fun d hd hH hlt=>
  AnyQ.slices_SortFunc sortLaidA 6 (fun w=>by kernel_rfl) (fun w=>by kernel_rfl) encA encA_len encA_one ordA (swo_of linA) _ #[] D 0 cap d w (fun args w=>by kernel_rfl) (fun m os dk _ x y=>(cmp_lbA x y _).mono fun e w'⟨h1,h2⟩=>⟨h1,h2.lays⟩) hH hlt (by omega))
theorem same_anyA(p q:An)(bx:Nat)(w:World)(hx:w.cell? ⟨bx,0,none⟩=some (.func (.func 30) #[] #[])):
 Calls Tryz.prog 62 #[.agg #[Value.int .u64 ((p).val.getD 0 0),Value.int .u64 ((p).val.getD 1 0),Value.int .u64 ((p).val.getD 2 0),Value.int .u64 ((p).val.getD 3 0),Value.int .u64 ((p).val.getD 4 0),Value.int .u64 ((p).val.getD 5 0)],.agg #[Value.int .u64 ((q).val.getD 0 0),Value.int .u64 ((q).val.getD 1 0),Value.int .u64 ((q).val.getD 2 0),Value.int .u64 ((q).val.getD 3 0),Value.int .u64 ((q).val.getD 4 0),Value.int .u64 ((q).val.getD 5 0)],.pointer (some ⟨bx,0,none⟩)] w fun e w'=>e=.returned (.bool (ordA p q==0))∧Below w.heap.size w w':=by
 have HC:Hid (∀w,Calls Tryz.prog 30 #[.agg #[Value.int .u64 ((p).val.getD 0 0),Value.int .u64 ((p).val.getD 1 0),Value.int .u64 ((p).val.getD 2 0),Value.int .u64 ((p).val.getD 3 0),Value.int .u64 ((p).val.getD 4 0),Value.int .u64 ((p).val.getD 5 0)],.agg #[Value.int .u64 ((q).val.getD 0 0),Value.int .u64 ((q).val.getD 1 0),Value.int .u64 ((q).val.getD 2 0),Value.int .u64 ((q).val.getD 3 0),Value.int .u64 ((q).val.getD 4 0),Value.int .u64 ((q).val.getD 5 0)]] w fun e w'=>e=.returned (.int .i64 (ordA p q))∧LB w w'):=fun w=>by
  have:=cmp_lbA p q w;rw[encA_form,encA_form]at this;exact this
 have hlt:=cell_ltK hx;have B0:Below w.heap.size w ((w.alloc (.cells #[Value.int .u64 ((p).val.getD 0 0),Value.int .u64 ((p).val.getD 1 0),Value.int .u64 ((p).val.getD 2 0),Value.int .u64 ((p).val.getD 3 0),Value.int .u64 ((p).val.getD 4 0),Value.int .u64 ((p).val.getD 5 0)] 71)).alloc (.cells #[Value.int .u64 ((q).val.getD 0 0),Value.int .u64 ((q).val.getD 1 0),Value.int .u64 ((q).val.getD 2 0),Value.int .u64 ((q).val.getD 3 0),Value.int .u64 ((q).val.getD 4 0),Value.int .u64 ((q).val.getD 5 0)] 71)):=((Below.refl _ _).alloc (Nat.le_refl _) _).alloc (by simp) _;have hx2:((w.alloc (.cells #[Value.int .u64 ((p).val.getD 0 0),Value.int .u64 ((p).val.getD 1 0),Value.int .u64 ((p).val.getD 2 0),Value.int .u64 ((p).val.getD 3 0),Value.int .u64 ((p).val.getD 4 0),Value.int .u64 ((p).val.getD 5 0)] 71)).alloc (.cells #[Value.int .u64 ((q).val.getD 0 0),Value.int .u64 ((q).val.getD 1 0),Value.int .u64 ((q).val.getD 2 0),Value.int .u64 ((q).val.getD 3 0),Value.int .u64 ((q).val.getD 4 0),Value.int .u64 ((q).val.getD 5 0)] 71)).cell? ⟨bx,0,none⟩=some (.func (.func 30) #[] #[]):=(B0.cell (p:=⟨bx,0,none⟩) hlt).trans hx;clear hx;generalize ordA p q=Z at*;generalize Value.int .u64 ((p).val.getD 0 0)=p0 at HC B0 hx2⊢;generalize Value.int .u64 ((p).val.getD 1 0)=p1 at HC B0 hx2⊢;generalize Value.int .u64 ((p).val.getD 2 0)=p2 at HC B0 hx2⊢;generalize Value.int .u64 ((p).val.getD 3 0)=p3 at HC B0 hx2⊢;generalize Value.int .u64 ((p).val.getD 4 0)=p4 at HC B0 hx2⊢;generalize Value.int .u64 ((p).val.getD 5 0)=p5 at HC B0 hx2⊢;generalize Value.int .u64 ((q).val.getD 0 0)=q0 at HC B0 hx2⊢;generalize Value.int .u64 ((q).val.getD 1 0)=q1 at HC B0 hx2⊢;generalize Value.int .u64 ((q).val.getD 2 0)=q2 at HC B0 hx2⊢;generalize Value.int .u64 ((q).val.getD 3 0)=q3 at HC B0 hx2⊢;generalize Value.int .u64 ((q).val.getD 4 0)=q4 at HC B0 hx2⊢;generalize Value.int .u64 ((q).val.getD 5 0)=q5 at HC B0 hx2⊢;go_enter Tryz.func62,Tryz.ntmps62;go_wp2_with fail;refine(HC.out _).mono ?_;rintro e w1⟨rfl,hb,_⟩;have B1:=B0.trans (hb.mono B0.size);clear HC hx2 B0 hb;go_wp2;go_ret;exact⟨rfl,B1⟩
def zeroKA(n:Nat):List Value:=(Builtin.zeroCells #[.int .u64 0,.int .u64 0,.int .u64 0,.int .u64 0,.int .u64 0,.int .u64 0] n).toList
theorem zeroK_lenA(n:Nat):(zeroKA n).length=n*6:=by simp[zeroKA,Builtin.zeroCells]
theorem zeroK_oneA(n:Nat):∀v∈zeroKA n,v.oneCell'=true:=by
 intro v hv;simp only[zeroKA,Builtin.zeroCells,Array.toList_map,List.mem_map]at hv;obtain⟨i,_,rfl⟩:=hv;have:i%6=0∨i%6=1∨i%6=2∨i%6=3∨i%6=4∨i%6=5:=by omega
 rcases this with e|e|e|e|e|e<;>simp[e]<;>rfl
theorem run_clearKA(w:World)(D o n c ty:Nat)(hn:0<n)(hc:∀j,j<n*6->∃v,w.cell? ⟨D,o+j,none⟩=some v∧w.frozen? ⟨D,o+j,none⟩=false):
 (Builtin.clear_ #[66] ty #[.slice (some ⟨D,o,none⟩) n c]).run Tryz.prog w=.ok (.tuple #[]) (w.setCells D o (zeroKA n)):=by
 have hv:∀w,(zeroValue 71).run Tryz.prog w=.ok (.agg #[.int .u64 0,.int .u64 0,.int .u64 0,.int .u64 0,.int .u64 0,.int .u64 0]) w:=fun w=>by kernel_rfl
 have hst:=run_storeCells_cells (P:=Tryz.prog) D o (zeroKA n) 0 w (by intro j hj;rw[zeroK_lenA]at hj;obtain⟨v,h1,_⟩:=hc j hj;rw[Nat.add_zero,h1];rfl) (by intro j hj;rw[zeroK_lenA]at hj;obtain⟨v,_,h2⟩:=hc j hj;rw[Nat.add_zero];exact h2) (zeroK_oneA n);simp only[Nat.add_zero]at hst;obtain⟨m,rfl⟩:∃m,n=m+1:=⟨n-1,by omega⟩;have hz:(Builtin.zeroCells (Value.agg #[.int .u64 0,.int .u64 0,.int .u64 0,.int .u64 0,.int .u64 0,.int .u64 0]).cells (m+1)).toList=zeroKA (m+1):=rfl;simp[Builtin.clear_,run_underlying Tryz.underlying66,hv,hz,hst]
theorem RowA.cells{w:World}{D N n i:Nat}{g:Nat->An}(h:RowA w D N n g)(hi:i<n):w.cell? ⟨D,i*6,none⟩=some (Value.int .u64 ((g i).val.getD 0 0))∧w.cell? ⟨D,i*6+1,none⟩=some (Value.int .u64 ((g i).val.getD 1 0))∧w.cell? ⟨D,i*6+2,none⟩=some (Value.int .u64 ((g i).val.getD 2 0))∧w.cell? ⟨D,i*6+3,none⟩=some (Value.int .u64 ((g i).val.getD 3 0))∧w.cell? ⟨D,i*6+4,none⟩=some (Value.int .u64 ((g i).val.getD 4 0))∧w.cell? ⟨D,i*6+5,none⟩=some (Value.int .u64 ((g i).val.getD 5 0)):=by
 have key:∀r,r<6->w.cell? ⟨D,i*6+r,none⟩=some ((encA (g i)).getD r undef):=fun r hr=>h.cell hi hr
 rw[encA_form]at key;exact⟨key 0 (by decide),key 1 (by decide),key 2 (by decide),key 3 (by decide),key 4 (by decide),key 5 (by decide)⟩
theorem compact_anyA(bx B D N n cap:Nat)(g:Nat->An)(W w:World)(hBW:B<=W.heap.size)(hb:Below B W w)(hD:B<=D)(hbx:bx<B)(hxW:W.cell? ⟨bx,0,none⟩=some (.func (.func 30) #[] #[]))(hr:RowA w D N n g)(hn:n<=cap)(hN:n<=16777216):
 Calls Tryz.prog 61 #[.slice (some ⟨D,0,none⟩) n cap,.func (.func 62) #[] #[.pointer (some ⟨bx,0,none⟩)]] w fun e w'=>
  ∃m,e=.returned (.slice (some ⟨D,0,none⟩) m cap)∧∃g',RowA w' D N m g'∧lstF g' m=compG ordA (lstF g n) n∧Below B W w':=by
 have hnN:n<=N:=hr.1
 have HSame:Hid (∀wr p q,Below B W wr->Calls Tryz.prog 62 #[.agg #[Value.int .u64 ((p).val.getD 0 0),Value.int .u64 ((p).val.getD 1 0),Value.int .u64 ((p).val.getD 2 0),Value.int .u64 ((p).val.getD 3 0),Value.int .u64 ((p).val.getD 4 0),Value.int .u64 ((p).val.getD 5 0)],.agg #[Value.int .u64 ((q).val.getD 0 0),Value.int .u64 ((q).val.getD 1 0),Value.int .u64 ((q).val.getD 2 0),Value.int .u64 ((q).val.getD 3 0),Value.int .u64 ((q).val.getD 4 0),Value.int .u64 ((q).val.getD 5 0)],.pointer (some ⟨bx,0,none⟩)] wr fun e w'=>e=.returned (.bool (ordA p q==0))∧Below wr.heap.size wr w'):=by
  intro wr p q hB
  exact same_anyA p q bx wr ((hB.cell (p:=⟨bx,0,none⟩) hbx).trans hxW)
 clear hxW hbx
 by_cases h2:n<2
 ·have HE:Hid (lstF g n=compG ordA (lstF g n) n):=(compF_all linA g (Nat.le_refl _) (fun j h0 hj=>by omega)).symm
  have h2':(n:Int)<2:=by omega
  clear HSame
  go_enter Tryz.func61,Tryz.ntmps61
  go_wp2
  go_ret
  exact⟨n,rfl,g,hr,HE.out,hb⟩
 ·have h2':¬(n:Int)<2:=by omega
  go_enter Tryz.func61,Tryz.ntmps61
  go_wp2_with fail
  go_loopw [5](fun i wr=>∃q:Nat,q+1<=n∧i=.int .i64 ((q:Int)+1)∧RowA wr D N n g∧Below B W wr∧Hid (∀j,0<j->j<q+1->ordA (g j) (g (j-1))≠0))(fun i _=>n-(intOf i).toNat)
  case atStart=>exact⟨0,by omega,rfl,hr,hb,fun j h1 h2=>by omega⟩
  case round=>
   obtain⟨q,hq,rfl,hR,hB,HJ⟩:=hrel
   clear hr hb
   by_cases hlt:q+1<n
   ·obtain⟨c0,c1,c2,c3,c4,c5⟩:=hR.cells (i:=q) (by omega)
    obtain⟨d0,d1,d2,d3,d4,d5⟩:=hR.cells (i:=q+1) hlt
    have hlt':(q:Int)+1<(n:Int):=by omega
    have hq0:(q:Int)<(n:Int):=by omega
    have h00:(0:Int)<=(q:Int):=by omega
    have h01:(0:Int)<=(q:Int)+1:=by omega
    have hwq:IntKind.i64.wrap (q:Int)=(q:Int):=by rw[IntKind.wrap_i64];omega
    by_cases hx:ordA (g (q+1)) (g q)=0
    ·have hx':(ordA (g (q+1)) (g q)==0)=true:=by simpa using hx
     have HX:Hid (ordA (g (q+1)) (g q)=0):=hx
     have hcap:q+1<=cap:=by omega
     have HC:Hid (∀wy,(Below B W wy∧RowA wy D N n g∧wy.cell? ⟨D,(q+1)*6,none⟩=some (Value.int .u64 ((g (q+1)).val.getD 0 0))∧wy.cell? ⟨D,(q+1)*6+1,none⟩=some (Value.int .u64 ((g (q+1)).val.getD 1 0))∧wy.cell? ⟨D,(q+1)*6+2,none⟩=some (Value.int .u64 ((g (q+1)).val.getD 2 0))∧wy.cell? ⟨D,(q+1)*6+3,none⟩=some (Value.int .u64 ((g (q+1)).val.getD 3 0))∧wy.cell? ⟨D,(q+1)*6+4,none⟩=some (Value.int .u64 ((g (q+1)).val.getD 4 0))∧wy.cell? ⟨D,(q+1)*6+5,none⟩=some (Value.int .u64 ((g (q+1)).val.getD 5 0))∧wy.cell? ⟨D,q*6,none⟩=some (Value.int .u64 ((g q).val.getD 0 0))∧wy.cell? ⟨D,q*6+1,none⟩=some (Value.int .u64 ((g q).val.getD 1 0))∧wy.cell? ⟨D,q*6+2,none⟩=some (Value.int .u64 ((g q).val.getD 2 0))∧wy.cell? ⟨D,q*6+3,none⟩=some (Value.int .u64 ((g q).val.getD 3 0))∧wy.cell? ⟨D,q*6+4,none⟩=some (Value.int .u64 ((g q).val.getD 4 0))∧wy.cell? ⟨D,q*6+5,none⟩=some (Value.int .u64 ((g q).val.getD 5 0)))->Calls Tryz.prog 62 #[.agg #[Value.int .u64 ((g (q+1)).val.getD 0 0),Value.int .u64 ((g (q+1)).val.getD 1 0),Value.int .u64 ((g (q+1)).val.getD 2 0),Value.int .u64 ((g (q+1)).val.getD 3 0),Value.int .u64 ((g (q+1)).val.getD 4 0),Value.int .u64 ((g (q+1)).val.getD 5 0)],.agg #[Value.int .u64 ((g q).val.getD 0 0),Value.int .u64 ((g q).val.getD 1 0),Value.int .u64 ((g q).val.getD 2 0),Value.int .u64 ((g q).val.getD 3 0),Value.int .u64 ((g q).val.getD 4 0),Value.int .u64 ((g q).val.getD 5 0)],.pointer (some ⟨bx,0,none⟩)] wy fun e w'=>e=.returned (.bool true)∧Below wy.heap.size wy w'):=by
      intro wy hy
      have:=HSame.out wy (g (q+1)) (g q) hy.1
      rw[hx']at this
      exact this
     have SK:Hid (∀wa wb,Below wa.heap.size wa wb->(Below B W wa∧RowA wa D N n g∧wa.cell? ⟨D,(q+1)*6,none⟩=some (Value.int .u64 ((g (q+1)).val.getD 0 0))∧wa.cell? ⟨D,(q+1)*6+1,none⟩=some (Value.int .u64 ((g (q+1)).val.getD 1 0))∧wa.cell? ⟨D,(q+1)*6+2,none⟩=some (Value.int .u64 ((g (q+1)).val.getD 2 0))∧wa.cell? ⟨D,(q+1)*6+3,none⟩=some (Value.int .u64 ((g (q+1)).val.getD 3 0))∧wa.cell? ⟨D,(q+1)*6+4,none⟩=some (Value.int .u64 ((g (q+1)).val.getD 4 0))∧wa.cell? ⟨D,(q+1)*6+5,none⟩=some (Value.int .u64 ((g (q+1)).val.getD 5 0))∧wa.cell? ⟨D,q*6,none⟩=some (Value.int .u64 ((g q).val.getD 0 0))∧wa.cell? ⟨D,q*6+1,none⟩=some (Value.int .u64 ((g q).val.getD 1 0))∧wa.cell? ⟨D,q*6+2,none⟩=some (Value.int .u64 ((g q).val.getD 2 0))∧wa.cell? ⟨D,q*6+3,none⟩=some (Value.int .u64 ((g q).val.getD 3 0))∧wa.cell? ⟨D,q*6+4,none⟩=some (Value.int .u64 ((g q).val.getD 4 0))∧wa.cell? ⟨D,q*6+5,none⟩=some (Value.int .u64 ((g q).val.getD 5 0)))->(Below B W wb∧RowA wb D N n g∧wb.cell? ⟨D,(q+1)*6,none⟩=some (Value.int .u64 ((g (q+1)).val.getD 0 0))∧wb.cell? ⟨D,(q+1)*6+1,none⟩=some (Value.int .u64 ((g (q+1)).val.getD 1 0))∧wb.cell? ⟨D,(q+1)*6+2,none⟩=some (Value.int .u64 ((g (q+1)).val.getD 2 0))∧wb.cell? ⟨D,(q+1)*6+3,none⟩=some (Value.int .u64 ((g (q+1)).val.getD 3 0))∧wb.cell? ⟨D,(q+1)*6+4,none⟩=some (Value.int .u64 ((g (q+1)).val.getD 4 0))∧wb.cell? ⟨D,(q+1)*6+5,none⟩=some (Value.int .u64 ((g (q+1)).val.getD 5 0))∧wb.cell? ⟨D,q*6,none⟩=some (Value.int .u64 ((g q).val.getD 0 0))∧wb.cell? ⟨D,q*6+1,none⟩=some (Value.int .u64 ((g q).val.getD 1 0))∧wb.cell? ⟨D,q*6+2,none⟩=some (Value.int .u64 ((g q).val.getD 2 0))∧wb.cell? ⟨D,q*6+3,none⟩=some (Value.int .u64 ((g q).val.getD 3 0))∧wb.cell? ⟨D,q*6+4,none⟩=some (Value.int .u64 ((g q).val.getD 4 0))∧wb.cell? ⟨D,q*6+5,none⟩=some (Value.int .u64 ((g q).val.getD 5 0)))):=fun wa wb hb⟨s,r,x0,x1,x2,x3,x4,x5,x6,x7,x8,x9,x10,x11⟩=>⟨belowB_step' hBW hb s,r.keep hb,cell_step hb x0,cell_step hb x1,cell_step hb x2,cell_step hb x3,cell_step hb x4,cell_step hb x5,cell_step hb x6,cell_step hb x7,cell_step hb x8,cell_step hb x9,cell_step hb x10,cell_step hb x11⟩
     have hS0:=SK.out wr wr.drew ((Below.refl _ _).drew) ⟨hB,hR,d0,d1,d2,d3,d4,d5,c0,c1,c2,c3,c4,c5⟩
     clear c0 c1 c2 c3 c4 c5 d0 d1 d2 d3 d4 d5 hR hB hx' hx
     go_wp2_with fail
     go_region_held3(fun w'=>Below B W w'∧RowA w' D N n g∧w'.cell? ⟨D,(q+1)*6,none⟩=some (Value.int .u64 ((g (q+1)).val.getD 0 0))∧w'.cell? ⟨D,(q+1)*6+1,none⟩=some (Value.int .u64 ((g (q+1)).val.getD 1 0))∧w'.cell? ⟨D,(q+1)*6+2,none⟩=some (Value.int .u64 ((g (q+1)).val.getD 2 0))∧w'.cell? ⟨D,(q+1)*6+3,none⟩=some (Value.int .u64 ((g (q+1)).val.getD 3 0))∧w'.cell? ⟨D,(q+1)*6+4,none⟩=some (Value.int .u64 ((g (q+1)).val.getD 4 0))∧w'.cell? ⟨D,(q+1)*6+5,none⟩=some (Value.int .u64 ((g (q+1)).val.getD 5 0))∧w'.cell? ⟨D,q*6,none⟩=some (Value.int .u64 ((g q).val.getD 0 0))∧w'.cell? ⟨D,q*6+1,none⟩=some (Value.int .u64 ((g q).val.getD 1 0))∧w'.cell? ⟨D,q*6+2,none⟩=some (Value.int .u64 ((g q).val.getD 2 0))∧w'.cell? ⟨D,q*6+3,none⟩=some (Value.int .u64 ((g q).val.getD 3 0))∧w'.cell? ⟨D,q*6+4,none⟩=some (Value.int .u64 ((g q).val.getD 4 0))∧w'.cell? ⟨D,q*6+5,none⟩=some (Value.int .u64 ((g q).val.getD 5 0)))
      (assumption)
      (first|(go_at_call 62;refine(HC.out _ (by assumption)).mono ?_;rintro _ w9⟨rfl,hb9⟩;have hS9:=SK.out _ _ hb9 (by assumption)))
     all_goals
      have B1:Below B W w9:=hS9.1
      have R1:RowA w9 D N n g:=hS9.2.1
      clear hS9 hb9
      go_wp2_with fail
      clear SK HC hS0 h00 h01 hwq hq0
      have HL0:Hid (lstF g (q+1)=compG ordA (lstF g n) (q+1+0+1)):=by
       unfold Hid
       rw[Nat.add_zero,show q+1+1=q+2 by omega,compF_same linA g hlt HX.out]
       exact(compF_all linA g (by omega) HJ.out).symm
      have HSm:Hid (∀kk m,q+1+(kk+1)<n->ordA (g (q+1+(kk+1))) (g (q+1+kk))=0->∀g',lstF g' m=compG ordA (lstF g n) (q+1+kk+1)->lstF g' m=compG ordA (lstF g n) (q+1+(kk+1)+1)):=by
       intro kk m hk hx g' h
       rw[show q+1+(kk+1)+1=q+1+kk+2 by omega,compF_same linA g (n:=n) (q:=q+1+kk) (by omega) hx]
       exact h
      have HDf:Hid (∀kk m,q+1+(kk+1)<n->ordA (g (q+1+(kk+1))) (g (q+1+kk))≠0->∀g',lstF g' m=compG ordA (lstF g n) (q+1+kk+1)->lstF (fun j=>if j=m then g (q+1+(kk+1))else g' j) (m+1)=compG ordA (lstF g n) (q+1+(kk+1)+1)):=by
       intro kk m hk hx g' h
       rw[show q+1+(kk+1)+1=q+1+kk+2 by omega,compF_diff linA g (n:=n) (q:=q+1+kk) (by omega) hx,lstF_succ]
       rw[lstF_congr (g':=g') (fun i hi=>by rw[if_neg (by omega)]),h,if_pos rfl]
       rfl
      clear HJ HX
      obtain⟨L,hLd⟩:∃L,n-(q+1)=L:=⟨_,rfl⟩
      have hnL:n=q+1+L:=by omega
      have HnL:Hid (n=q+1+L):=hnL
      rw[hLd]
      have hL1:1<=L:=by omega
      have hLm:L<=16777216:=by omega
      have hnm:n<=16777216:=by omega
      clear hLd hnL
      go_loopw [5,7](fun i r wx=>∃(m kk:Nat)(g':Nat->An),kk+1<=L∧q+1<=m∧m<=q+1+kk∧i=.int .i64 m∧r=.int .i64 ((kk:Int)+1)∧RowA wx D N n g'∧Below B W wx∧Hid (∀j,q+1+kk<=j->j<n->g' j=g j)∧Hid (lstF g' m=compG ordA (lstF g n) (q+1+kk+1)))(fun _ r _=>L-(intOf r).toNat)
      case atStart=>exact⟨q+1,0,g,by omega,by omega,by omega,by simp,rfl,R1,B1,fun _ _ _=>rfl,HL0.out⟩
      case round=>
       obtain⟨m,kk,g',hk,hm0,hm1,rfl,rfl,hR,hB,HK,HLs⟩:=hrel
       clear R1 B1 HL0
       have hnL:=HnL.out
       by_cases hlt2:kk+1<L
       ·have ea:(q+1+(kk+1))*6=(q+1)*6+(kk+1)*6:=by omega
        have eb:(q+1+kk)*6=(q+1)*6+kk*6:=by omega
        obtain⟨c0,c1,c2,c3,c4,c5⟩:=hR.cells (i:=q+1+kk) (by omega)
        obtain⟨d0,d1,d2,d3,d4,d5⟩:=hR.cells (i:=q+1+(kk+1)) (by omega)
        rw[ea]at d0 d1 d2 d3 d4 d5
        rw[eb]at c0 c1 c2 c3 c4 c5
        rw[HK.out _ (by omega) (by omega)]at c0 c1 c2 c3 c4 c5 d0 d1 d2 d3 d4 d5
        have HSmk:Hid (ordA (g (q+1+(kk+1))) (g (q+1+kk))=0->lstF g' m=compG ordA (lstF g n) (q+1+(kk+1)+1)):=fun hx=>HSm.out kk m (by omega) hx g' HLs.out
        have HDfk:Hid (ordA (g (q+1+(kk+1))) (g (q+1+kk))≠0->lstF (fun j=>if j=m then g (q+1+(kk+1))else g' j) (m+1)=compG ordA (lstF g n) (q+1+(kk+1)+1)):=fun hx=>HDf.out kk m (by omega) hx g' HLs.out
        have HK2:Hid (∀j,q+1+(kk+1)<=j->j<n->g' j=g j):=fun j h1 h2=>HK.out j (by omega) h2
        clear ea eb HSm HDf HLs HK
        have hm3:m<N:=by omega
        generalize hp:g (q+1+(kk+1))=p at*
        generalize hp':g (q+1+kk)=p' at*
        clear hp hp'
        have hk1:(kk:Int)+1<(L:Int):=by omega
        have hk0:(kk:Int)<(L:Int):=by omega
        have h00:(0:Int)<=(kk:Int):=by omega
        have h01:(0:Int)<=(kk:Int)+1:=by omega
        have hwq:IntKind.i64.wrap (kk:Int)=(kk:Int):=by rw[IntKind.wrap_i64];omega
        have hmn:(m:Int)<(n:Int):=by omega
        have hmN:m*6+5<N*6:=by omega
        clear hnL
        by_cases hx:ordA p p'=0
        ·have hx':(ordA p p'==0)=true:=by simpa using hx
         have HLn:Hid (lstF g' m=compG ordA (lstF g n) (q+1+(kk+1)+1)):=HSmk.out hx
         clear HSmk HDfk
         have HC:Hid (∀wy,(Below B W wy∧RowA wy D N n g'∧wy.cell? ⟨D,(q+1)*6+(kk+1)*6,none⟩=some (Value.int .u64 ((p).val.getD 0 0))∧wy.cell? ⟨D,(q+1)*6+(kk+1)*6+1,none⟩=some (Value.int .u64 ((p).val.getD 1 0))∧wy.cell? ⟨D,(q+1)*6+(kk+1)*6+2,none⟩=some (Value.int .u64 ((p).val.getD 2 0))∧wy.cell? ⟨D,(q+1)*6+(kk+1)*6+3,none⟩=some (Value.int .u64 ((p).val.getD 3 0))∧wy.cell? ⟨D,(q+1)*6+(kk+1)*6+4,none⟩=some (Value.int .u64 ((p).val.getD 4 0))∧wy.cell? ⟨D,(q+1)*6+(kk+1)*6+5,none⟩=some (Value.int .u64 ((p).val.getD 5 0))∧wy.cell? ⟨D,(q+1)*6+kk*6,none⟩=some (Value.int .u64 ((p').val.getD 0 0))∧wy.cell? ⟨D,(q+1)*6+kk*6+1,none⟩=some (Value.int .u64 ((p').val.getD 1 0))∧wy.cell? ⟨D,(q+1)*6+kk*6+2,none⟩=some (Value.int .u64 ((p').val.getD 2 0))∧wy.cell? ⟨D,(q+1)*6+kk*6+3,none⟩=some (Value.int .u64 ((p').val.getD 3 0))∧wy.cell? ⟨D,(q+1)*6+kk*6+4,none⟩=some (Value.int .u64 ((p').val.getD 4 0))∧wy.cell? ⟨D,(q+1)*6+kk*6+5,none⟩=some (Value.int .u64 ((p').val.getD 5 0)))->Calls Tryz.prog 62 #[.agg #[Value.int .u64 ((p).val.getD 0 0),Value.int .u64 ((p).val.getD 1 0),Value.int .u64 ((p).val.getD 2 0),Value.int .u64 ((p).val.getD 3 0),Value.int .u64 ((p).val.getD 4 0),Value.int .u64 ((p).val.getD 5 0)],.agg #[Value.int .u64 ((p').val.getD 0 0),Value.int .u64 ((p').val.getD 1 0),Value.int .u64 ((p').val.getD 2 0),Value.int .u64 ((p').val.getD 3 0),Value.int .u64 ((p').val.getD 4 0),Value.int .u64 ((p').val.getD 5 0)],.pointer (some ⟨bx,0,none⟩)] wy fun e w'=>e=.returned (.bool true)∧Below wy.heap.size wy w'):=by
          intro wy hy
          have:=HSame.out wy (p) (p') hy.1
          rw[hx']at this
          exact this
         have SK:Hid (∀wa wb,Below wa.heap.size wa wb->(Below B W wa∧RowA wa D N n g'∧wa.cell? ⟨D,(q+1)*6+(kk+1)*6,none⟩=some (Value.int .u64 ((p).val.getD 0 0))∧wa.cell? ⟨D,(q+1)*6+(kk+1)*6+1,none⟩=some (Value.int .u64 ((p).val.getD 1 0))∧wa.cell? ⟨D,(q+1)*6+(kk+1)*6+2,none⟩=some (Value.int .u64 ((p).val.getD 2 0))∧wa.cell? ⟨D,(q+1)*6+(kk+1)*6+3,none⟩=some (Value.int .u64 ((p).val.getD 3 0))∧wa.cell? ⟨D,(q+1)*6+(kk+1)*6+4,none⟩=some (Value.int .u64 ((p).val.getD 4 0))∧wa.cell? ⟨D,(q+1)*6+(kk+1)*6+5,none⟩=some (Value.int .u64 ((p).val.getD 5 0))∧wa.cell? ⟨D,(q+1)*6+kk*6,none⟩=some (Value.int .u64 ((p').val.getD 0 0))∧wa.cell? ⟨D,(q+1)*6+kk*6+1,none⟩=some (Value.int .u64 ((p').val.getD 1 0))∧wa.cell? ⟨D,(q+1)*6+kk*6+2,none⟩=some (Value.int .u64 ((p').val.getD 2 0))∧wa.cell? ⟨D,(q+1)*6+kk*6+3,none⟩=some (Value.int .u64 ((p').val.getD 3 0))∧wa.cell? ⟨D,(q+1)*6+kk*6+4,none⟩=some (Value.int .u64 ((p').val.getD 4 0))∧wa.cell? ⟨D,(q+1)*6+kk*6+5,none⟩=some (Value.int .u64 ((p').val.getD 5 0)))->(Below B W wb∧RowA wb D N n g'∧wb.cell? ⟨D,(q+1)*6+(kk+1)*6,none⟩=some (Value.int .u64 ((p).val.getD 0 0))∧wb.cell? ⟨D,(q+1)*6+(kk+1)*6+1,none⟩=some (Value.int .u64 ((p).val.getD 1 0))∧wb.cell? ⟨D,(q+1)*6+(kk+1)*6+2,none⟩=some (Value.int .u64 ((p).val.getD 2 0))∧wb.cell? ⟨D,(q+1)*6+(kk+1)*6+3,none⟩=some (Value.int .u64 ((p).val.getD 3 0))∧wb.cell? ⟨D,(q+1)*6+(kk+1)*6+4,none⟩=some (Value.int .u64 ((p).val.getD 4 0))∧wb.cell? ⟨D,(q+1)*6+(kk+1)*6+5,none⟩=some (Value.int .u64 ((p).val.getD 5 0))∧wb.cell? ⟨D,(q+1)*6+kk*6,none⟩=some (Value.int .u64 ((p').val.getD 0 0))∧wb.cell? ⟨D,(q+1)*6+kk*6+1,none⟩=some (Value.int .u64 ((p').val.getD 1 0))∧wb.cell? ⟨D,(q+1)*6+kk*6+2,none⟩=some (Value.int .u64 ((p').val.getD 2 0))∧wb.cell? ⟨D,(q+1)*6+kk*6+3,none⟩=some (Value.int .u64 ((p').val.getD 3 0))∧wb.cell? ⟨D,(q+1)*6+kk*6+4,none⟩=some (Value.int .u64 ((p').val.getD 4 0))∧wb.cell? ⟨D,(q+1)*6+kk*6+5,none⟩=some (Value.int .u64 ((p').val.getD 5 0)))):=fun wa wb hb⟨s,r,x0,x1,x2,x3,x4,x5,x6,x7,x8,x9,x10,x11⟩=>⟨belowB_step' hBW hb s,r.keep hb,cell_step hb x0,cell_step hb x1,cell_step hb x2,cell_step hb x3,cell_step hb x4,cell_step hb x5,cell_step hb x6,cell_step hb x7,cell_step hb x8,cell_step hb x9,cell_step hb x10,cell_step hb x11⟩
         have hS0:=SK.out wr wr.drew ((Below.refl _ _).drew) ⟨hB,hR,d0,d1,d2,d3,d4,d5,c0,c1,c2,c3,c4,c5⟩
         clear c0 c1 c2 c3 c4 c5 d0 d1 d2 d3 d4 d5 hR hB hx' hx HSame
         go_wp2_with fail
         go_region_held3(fun w'=>Below B W w'∧RowA w' D N n g'∧w'.cell? ⟨D,(q+1)*6+(kk+1)*6,none⟩=some (Value.int .u64 ((p).val.getD 0 0))∧w'.cell? ⟨D,(q+1)*6+(kk+1)*6+1,none⟩=some (Value.int .u64 ((p).val.getD 1 0))∧w'.cell? ⟨D,(q+1)*6+(kk+1)*6+2,none⟩=some (Value.int .u64 ((p).val.getD 2 0))∧w'.cell? ⟨D,(q+1)*6+(kk+1)*6+3,none⟩=some (Value.int .u64 ((p).val.getD 3 0))∧w'.cell? ⟨D,(q+1)*6+(kk+1)*6+4,none⟩=some (Value.int .u64 ((p).val.getD 4 0))∧w'.cell? ⟨D,(q+1)*6+(kk+1)*6+5,none⟩=some (Value.int .u64 ((p).val.getD 5 0))∧w'.cell? ⟨D,(q+1)*6+kk*6,none⟩=some (Value.int .u64 ((p').val.getD 0 0))∧w'.cell? ⟨D,(q+1)*6+kk*6+1,none⟩=some (Value.int .u64 ((p').val.getD 1 0))∧w'.cell? ⟨D,(q+1)*6+kk*6+2,none⟩=some (Value.int .u64 ((p').val.getD 2 0))∧w'.cell? ⟨D,(q+1)*6+kk*6+3,none⟩=some (Value.int .u64 ((p').val.getD 3 0))∧w'.cell? ⟨D,(q+1)*6+kk*6+4,none⟩=some (Value.int .u64 ((p').val.getD 4 0))∧w'.cell? ⟨D,(q+1)*6+kk*6+5,none⟩=some (Value.int .u64 ((p').val.getD 5 0)))
          (assumption)
          (first|(go_at_call 62;refine(HC.out _ (by assumption)).mono ?_;rintro _ w9⟨rfl,hb9⟩;have hS9:=SK.out _ _ hb9 (by assumption)))
         all_goals
          have B1:Below B W w9:=hS9.1
          have R1:RowA w9 D N n g':=hS9.2.1
          clear hS9 hb9 SK HC hS0
          go_wp2
          go_roundw
          case rel=>exact⟨m,kk+1,g',by omega,by omega,by omega,rfl,by go_num,R1,B1,HK2,HLn⟩
          case measure=>simp[intOf];omega
        ·have hx':(ordA p p'==0)=false:=by simpa using hx
         have HLn:Hid (lstF (fun j=>if j=m then p else g' j) (m+1)=compG ordA (lstF g n) (q+1+(kk+1)+1)):=HDfk.out hx
         have HK3:Hid (∀j,q+1+(kk+1)<=j->j<n->(if j=m then p else g' j)=g j):=fun j h1 h2=>by rw[if_neg (by omega)];exact HK2.out j h1 h2
         clear HSmk HDfk HK2
         have HC:Hid (∀wy,(Below B W wy∧RowA wy D N n g'∧wy.cell? ⟨D,(q+1)*6+(kk+1)*6,none⟩=some (Value.int .u64 ((p).val.getD 0 0))∧wy.cell? ⟨D,(q+1)*6+(kk+1)*6+1,none⟩=some (Value.int .u64 ((p).val.getD 1 0))∧wy.cell? ⟨D,(q+1)*6+(kk+1)*6+2,none⟩=some (Value.int .u64 ((p).val.getD 2 0))∧wy.cell? ⟨D,(q+1)*6+(kk+1)*6+3,none⟩=some (Value.int .u64 ((p).val.getD 3 0))∧wy.cell? ⟨D,(q+1)*6+(kk+1)*6+4,none⟩=some (Value.int .u64 ((p).val.getD 4 0))∧wy.cell? ⟨D,(q+1)*6+(kk+1)*6+5,none⟩=some (Value.int .u64 ((p).val.getD 5 0))∧wy.cell? ⟨D,(q+1)*6+kk*6,none⟩=some (Value.int .u64 ((p').val.getD 0 0))∧wy.cell? ⟨D,(q+1)*6+kk*6+1,none⟩=some (Value.int .u64 ((p').val.getD 1 0))∧wy.cell? ⟨D,(q+1)*6+kk*6+2,none⟩=some (Value.int .u64 ((p').val.getD 2 0))∧wy.cell? ⟨D,(q+1)*6+kk*6+3,none⟩=some (Value.int .u64 ((p').val.getD 3 0))∧wy.cell? ⟨D,(q+1)*6+kk*6+4,none⟩=some (Value.int .u64 ((p').val.getD 4 0))∧wy.cell? ⟨D,(q+1)*6+kk*6+5,none⟩=some (Value.int .u64 ((p').val.getD 5 0)))->Calls Tryz.prog 62 #[.agg #[Value.int .u64 ((p).val.getD 0 0),Value.int .u64 ((p).val.getD 1 0),Value.int .u64 ((p).val.getD 2 0),Value.int .u64 ((p).val.getD 3 0),Value.int .u64 ((p).val.getD 4 0),Value.int .u64 ((p).val.getD 5 0)],.agg #[Value.int .u64 ((p').val.getD 0 0),Value.int .u64 ((p').val.getD 1 0),Value.int .u64 ((p').val.getD 2 0),Value.int .u64 ((p').val.getD 3 0),Value.int .u64 ((p').val.getD 4 0),Value.int .u64 ((p').val.getD 5 0)],.pointer (some ⟨bx,0,none⟩)] wy fun e w'=>e=.returned (.bool false)∧Below wy.heap.size wy w'):=by
          intro wy hy
          have:=HSame.out wy (p) (p') hy.1
          rw[hx']at this
          exact this
         have SK:Hid (∀wa wb,Below wa.heap.size wa wb->(Below B W wa∧RowA wa D N n g'∧wa.cell? ⟨D,(q+1)*6+(kk+1)*6,none⟩=some (Value.int .u64 ((p).val.getD 0 0))∧wa.cell? ⟨D,(q+1)*6+(kk+1)*6+1,none⟩=some (Value.int .u64 ((p).val.getD 1 0))∧wa.cell? ⟨D,(q+1)*6+(kk+1)*6+2,none⟩=some (Value.int .u64 ((p).val.getD 2 0))∧wa.cell? ⟨D,(q+1)*6+(kk+1)*6+3,none⟩=some (Value.int .u64 ((p).val.getD 3 0))∧wa.cell? ⟨D,(q+1)*6+(kk+1)*6+4,none⟩=some (Value.int .u64 ((p).val.getD 4 0))∧wa.cell? ⟨D,(q+1)*6+(kk+1)*6+5,none⟩=some (Value.int .u64 ((p).val.getD 5 0))∧wa.cell? ⟨D,(q+1)*6+kk*6,none⟩=some (Value.int .u64 ((p').val.getD 0 0))∧wa.cell? ⟨D,(q+1)*6+kk*6+1,none⟩=some (Value.int .u64 ((p').val.getD 1 0))∧wa.cell? ⟨D,(q+1)*6+kk*6+2,none⟩=some (Value.int .u64 ((p').val.getD 2 0))∧wa.cell? ⟨D,(q+1)*6+kk*6+3,none⟩=some (Value.int .u64 ((p').val.getD 3 0))∧wa.cell? ⟨D,(q+1)*6+kk*6+4,none⟩=some (Value.int .u64 ((p').val.getD 4 0))∧wa.cell? ⟨D,(q+1)*6+kk*6+5,none⟩=some (Value.int .u64 ((p').val.getD 5 0)))->(Below B W wb∧RowA wb D N n g'∧wb.cell? ⟨D,(q+1)*6+(kk+1)*6,none⟩=some (Value.int .u64 ((p).val.getD 0 0))∧wb.cell? ⟨D,(q+1)*6+(kk+1)*6+1,none⟩=some (Value.int .u64 ((p).val.getD 1 0))∧wb.cell? ⟨D,(q+1)*6+(kk+1)*6+2,none⟩=some (Value.int .u64 ((p).val.getD 2 0))∧wb.cell? ⟨D,(q+1)*6+(kk+1)*6+3,none⟩=some (Value.int .u64 ((p).val.getD 3 0))∧wb.cell? ⟨D,(q+1)*6+(kk+1)*6+4,none⟩=some (Value.int .u64 ((p).val.getD 4 0))∧wb.cell? ⟨D,(q+1)*6+(kk+1)*6+5,none⟩=some (Value.int .u64 ((p).val.getD 5 0))∧wb.cell? ⟨D,(q+1)*6+kk*6,none⟩=some (Value.int .u64 ((p').val.getD 0 0))∧wb.cell? ⟨D,(q+1)*6+kk*6+1,none⟩=some (Value.int .u64 ((p').val.getD 1 0))∧wb.cell? ⟨D,(q+1)*6+kk*6+2,none⟩=some (Value.int .u64 ((p').val.getD 2 0))∧wb.cell? ⟨D,(q+1)*6+kk*6+3,none⟩=some (Value.int .u64 ((p').val.getD 3 0))∧wb.cell? ⟨D,(q+1)*6+kk*6+4,none⟩=some (Value.int .u64 ((p').val.getD 4 0))∧wb.cell? ⟨D,(q+1)*6+kk*6+5,none⟩=some (Value.int .u64 ((p').val.getD 5 0)))):=fun wa wb hb⟨s,r,x0,x1,x2,x3,x4,x5,x6,x7,x8,x9,x10,x11⟩=>⟨belowB_step' hBW hb s,r.keep hb,cell_step hb x0,cell_step hb x1,cell_step hb x2,cell_step hb x3,cell_step hb x4,cell_step hb x5,cell_step hb x6,cell_step hb x7,cell_step hb x8,cell_step hb x9,cell_step hb x10,cell_step hb x11⟩
         have hS0:=SK.out wr wr.drew ((Below.refl _ _).drew) ⟨hB,hR,d0,d1,d2,d3,d4,d5,c0,c1,c2,c3,c4,c5⟩
         clear c0 c1 c2 c3 c4 c5 d0 d1 d2 d3 d4 d5 hR hB hx' hx HSame
         go_wp2_with fail
         go_region_held3(fun w'=>Below B W w'∧RowA w' D N n g'∧w'.cell? ⟨D,(q+1)*6+(kk+1)*6,none⟩=some (Value.int .u64 ((p).val.getD 0 0))∧w'.cell? ⟨D,(q+1)*6+(kk+1)*6+1,none⟩=some (Value.int .u64 ((p).val.getD 1 0))∧w'.cell? ⟨D,(q+1)*6+(kk+1)*6+2,none⟩=some (Value.int .u64 ((p).val.getD 2 0))∧w'.cell? ⟨D,(q+1)*6+(kk+1)*6+3,none⟩=some (Value.int .u64 ((p).val.getD 3 0))∧w'.cell? ⟨D,(q+1)*6+(kk+1)*6+4,none⟩=some (Value.int .u64 ((p).val.getD 4 0))∧w'.cell? ⟨D,(q+1)*6+(kk+1)*6+5,none⟩=some (Value.int .u64 ((p).val.getD 5 0))∧w'.cell? ⟨D,(q+1)*6+kk*6,none⟩=some (Value.int .u64 ((p').val.getD 0 0))∧w'.cell? ⟨D,(q+1)*6+kk*6+1,none⟩=some (Value.int .u64 ((p').val.getD 1 0))∧w'.cell? ⟨D,(q+1)*6+kk*6+2,none⟩=some (Value.int .u64 ((p').val.getD 2 0))∧w'.cell? ⟨D,(q+1)*6+kk*6+3,none⟩=some (Value.int .u64 ((p').val.getD 3 0))∧w'.cell? ⟨D,(q+1)*6+kk*6+4,none⟩=some (Value.int .u64 ((p').val.getD 4 0))∧w'.cell? ⟨D,(q+1)*6+kk*6+5,none⟩=some (Value.int .u64 ((p').val.getD 5 0)))
          (assumption)
          (first|(go_at_call 62;refine(HC.out _ (by assumption)).mono ?_;rintro _ w9⟨rfl,hb9⟩;have hS9:=SK.out _ _ hb9 (by assumption)))
         all_goals
          have B1:Below B W w9:=hS9.1
          have R1:RowA w9 D N n g':=hS9.2.1
          obtain⟨_,_,d0,d1,d2,d3,d4,d5,_⟩:=hS9
          obtain⟨o0,O0,F0⟩:=R1.open (m*6) (by omega)
          obtain⟨o1,O1,F1⟩:=R1.open (m*6+1) (by omega)
          obtain⟨o2,O2,F2⟩:=R1.open (m*6+2) (by omega)
          obtain⟨o3,O3,F3⟩:=R1.open (m*6+3) (by omega)
          obtain⟨o4,O4,F4⟩:=R1.open (m*6+4) (by omega)
          obtain⟨o5,O5,F5⟩:=R1.open (m*6+5) (by omega)
          have HR2:Hid (RowA ((((((w9.setCell ⟨D,m*6,none⟩ (Value.int .u64 ((p).val.getD 0 0))).setCell ⟨D,m*6+1,none⟩ (Value.int .u64 ((p).val.getD 1 0))).setCell ⟨D,m*6+2,none⟩ (Value.int .u64 ((p).val.getD 2 0))).setCell ⟨D,m*6+3,none⟩ (Value.int .u64 ((p).val.getD 3 0))).setCell ⟨D,m*6+4,none⟩ (Value.int .u64 ((p).val.getD 4 0))).setCell ⟨D,m*6+5,none⟩ (Value.int .u64 ((p).val.getD 5 0))) D N n (fun j=>if j=m then p else g' j)):=by
           have:=RowF.set R1 m p (encA_len p) (by decide)
           rw[encA_form]at this
           exact this
          have HB2:Hid (Below B W ((((((w9.setCell ⟨D,m*6,none⟩ (Value.int .u64 ((p).val.getD 0 0))).setCell ⟨D,m*6+1,none⟩ (Value.int .u64 ((p).val.getD 1 0))).setCell ⟨D,m*6+2,none⟩ (Value.int .u64 ((p).val.getD 2 0))).setCell ⟨D,m*6+3,none⟩ (Value.int .u64 ((p).val.getD 3 0))).setCell ⟨D,m*6+4,none⟩ (Value.int .u64 ((p).val.getD 4 0))).setCell ⟨D,m*6+5,none⟩ (Value.int .u64 ((p).val.getD 5 0)))):=((((((((((((B1).setCell (p:=⟨D,m*6,none⟩) hD _)).setCell (p:=⟨D,m*6+1,none⟩) hD _)).setCell (p:=⟨D,m*6+2,none⟩) hD _)).setCell (p:=⟨D,m*6+3,none⟩) hD _)).setCell (p:=⟨D,m*6+4,none⟩) hD _)).setCell (p:=⟨D,m*6+5,none⟩) hD _)
          clear hb9 SK HC hS0 R1 B1
          go_wp2
          go_roundw
          case rel=>exact⟨m+1,kk+1,_,by omega,by omega,by omega,by go_num,by go_num,HR2.out,HB2.out,HK3,HLn⟩
          case measure=>simp[intOf];omega
       ·have hkL:kk+1=L:=by omega
        have hlt3:¬(kk:Int)+1<(L:Int):=by omega
        have HLn:Hid (lstF g' m=compG ordA (lstF g n) n):=by have:=HLs.out;rw[show q+1+kk+1=n by omega]at this;exact this
        have HR2:Hid (RowA (wr.setCells D (m*6) (zeroKA (n-m))) D N m g'):=RowF.clear hR (by omega) _
        have HB2:Hid (Below B W (wr.setCells D (m*6) (zeroKA (n-m)))):=below_setCells' hD _ _ _ hB
        have hcl:∀ty,(Builtin.clear_ #[66] ty #[.slice (some ⟨D,m*6,none⟩) (n-m) (cap-m)]).run Tryz.prog wr=.ok (.tuple #[]) (wr.setCells D (m*6) (zeroKA (n-m))):=fun ty=>run_clearKA wr D (m*6) (n-m) (cap-m) ty (by omega) (fun j hj=>RowF.open hR (m*6+j) (by omega))
        have hmn:(m:Int)<=(n:Int):=by omega
        have hmc:(m:Int)<=(cap:Int):=by omega
        have hmc1:¬cap=m:=by omega
        have hmc2:¬m=cap:=by omega
        have hmc3:¬cap-m=0:=by omega
        have hmc4:m<cap:=by omega
        clear hR hB HSm HDf HLs HK hnL hkL HSame
        go_wp2_with(simp only[hcl])
        go_ret
        exact⟨m,rfl,g',HR2.out,HLn.out,HB2.out⟩
    ·have hx':(ordA (g (q+1)) (g q)==0)=false:=by simpa using hx
     have HJ':Hid (∀j,0<j->j<q+1+1->ordA (g j) (g (j-1))≠0):=by
      intro j h0 hj
      by_cases e:j=q+1
      ·subst e;exact hx
      ·exact HJ.out j h0 (by omega)
     clear HJ
     have HC:Hid (∀wy,(Below B W wy∧RowA wy D N n g∧wy.cell? ⟨D,(q+1)*6,none⟩=some (Value.int .u64 ((g (q+1)).val.getD 0 0))∧wy.cell? ⟨D,(q+1)*6+1,none⟩=some (Value.int .u64 ((g (q+1)).val.getD 1 0))∧wy.cell? ⟨D,(q+1)*6+2,none⟩=some (Value.int .u64 ((g (q+1)).val.getD 2 0))∧wy.cell? ⟨D,(q+1)*6+3,none⟩=some (Value.int .u64 ((g (q+1)).val.getD 3 0))∧wy.cell? ⟨D,(q+1)*6+4,none⟩=some (Value.int .u64 ((g (q+1)).val.getD 4 0))∧wy.cell? ⟨D,(q+1)*6+5,none⟩=some (Value.int .u64 ((g (q+1)).val.getD 5 0))∧wy.cell? ⟨D,q*6,none⟩=some (Value.int .u64 ((g q).val.getD 0 0))∧wy.cell? ⟨D,q*6+1,none⟩=some (Value.int .u64 ((g q).val.getD 1 0))∧wy.cell? ⟨D,q*6+2,none⟩=some (Value.int .u64 ((g q).val.getD 2 0))∧wy.cell? ⟨D,q*6+3,none⟩=some (Value.int .u64 ((g q).val.getD 3 0))∧wy.cell? ⟨D,q*6+4,none⟩=some (Value.int .u64 ((g q).val.getD 4 0))∧wy.cell? ⟨D,q*6+5,none⟩=some (Value.int .u64 ((g q).val.getD 5 0)))->Calls Tryz.prog 62 #[.agg #[Value.int .u64 ((g (q+1)).val.getD 0 0),Value.int .u64 ((g (q+1)).val.getD 1 0),Value.int .u64 ((g (q+1)).val.getD 2 0),Value.int .u64 ((g (q+1)).val.getD 3 0),Value.int .u64 ((g (q+1)).val.getD 4 0),Value.int .u64 ((g (q+1)).val.getD 5 0)],.agg #[Value.int .u64 ((g q).val.getD 0 0),Value.int .u64 ((g q).val.getD 1 0),Value.int .u64 ((g q).val.getD 2 0),Value.int .u64 ((g q).val.getD 3 0),Value.int .u64 ((g q).val.getD 4 0),Value.int .u64 ((g q).val.getD 5 0)],.pointer (some ⟨bx,0,none⟩)] wy fun e w'=>e=.returned (.bool false)∧Below wy.heap.size wy w'):=by
      intro wy hy
      have:=HSame.out wy (g (q+1)) (g q) hy.1
      rw[hx']at this
      exact this
     have SK:Hid (∀wa wb,Below wa.heap.size wa wb->(Below B W wa∧RowA wa D N n g∧wa.cell? ⟨D,(q+1)*6,none⟩=some (Value.int .u64 ((g (q+1)).val.getD 0 0))∧wa.cell? ⟨D,(q+1)*6+1,none⟩=some (Value.int .u64 ((g (q+1)).val.getD 1 0))∧wa.cell? ⟨D,(q+1)*6+2,none⟩=some (Value.int .u64 ((g (q+1)).val.getD 2 0))∧wa.cell? ⟨D,(q+1)*6+3,none⟩=some (Value.int .u64 ((g (q+1)).val.getD 3 0))∧wa.cell? ⟨D,(q+1)*6+4,none⟩=some (Value.int .u64 ((g (q+1)).val.getD 4 0))∧wa.cell? ⟨D,(q+1)*6+5,none⟩=some (Value.int .u64 ((g (q+1)).val.getD 5 0))∧wa.cell? ⟨D,q*6,none⟩=some (Value.int .u64 ((g q).val.getD 0 0))∧wa.cell? ⟨D,q*6+1,none⟩=some (Value.int .u64 ((g q).val.getD 1 0))∧wa.cell? ⟨D,q*6+2,none⟩=some (Value.int .u64 ((g q).val.getD 2 0))∧wa.cell? ⟨D,q*6+3,none⟩=some (Value.int .u64 ((g q).val.getD 3 0))∧wa.cell? ⟨D,q*6+4,none⟩=some (Value.int .u64 ((g q).val.getD 4 0))∧wa.cell? ⟨D,q*6+5,none⟩=some (Value.int .u64 ((g q).val.getD 5 0)))->(Below B W wb∧RowA wb D N n g∧wb.cell? ⟨D,(q+1)*6,none⟩=some (Value.int .u64 ((g (q+1)).val.getD 0 0))∧wb.cell? ⟨D,(q+1)*6+1,none⟩=some (Value.int .u64 ((g (q+1)).val.getD 1 0))∧wb.cell? ⟨D,(q+1)*6+2,none⟩=some (Value.int .u64 ((g (q+1)).val.getD 2 0))∧wb.cell? ⟨D,(q+1)*6+3,none⟩=some (Value.int .u64 ((g (q+1)).val.getD 3 0))∧wb.cell? ⟨D,(q+1)*6+4,none⟩=some (Value.int .u64 ((g (q+1)).val.getD 4 0))∧wb.cell? ⟨D,(q+1)*6+5,none⟩=some (Value.int .u64 ((g (q+1)).val.getD 5 0))∧wb.cell? ⟨D,q*6,none⟩=some (Value.int .u64 ((g q).val.getD 0 0))∧wb.cell? ⟨D,q*6+1,none⟩=some (Value.int .u64 ((g q).val.getD 1 0))∧wb.cell? ⟨D,q*6+2,none⟩=some (Value.int .u64 ((g q).val.getD 2 0))∧wb.cell? ⟨D,q*6+3,none⟩=some (Value.int .u64 ((g q).val.getD 3 0))∧wb.cell? ⟨D,q*6+4,none⟩=some (Value.int .u64 ((g q).val.getD 4 0))∧wb.cell? ⟨D,q*6+5,none⟩=some (Value.int .u64 ((g q).val.getD 5 0)))):=fun wa wb hb⟨s,r,x0,x1,x2,x3,x4,x5,x6,x7,x8,x9,x10,x11⟩=>⟨belowB_step' hBW hb s,r.keep hb,cell_step hb x0,cell_step hb x1,cell_step hb x2,cell_step hb x3,cell_step hb x4,cell_step hb x5,cell_step hb x6,cell_step hb x7,cell_step hb x8,cell_step hb x9,cell_step hb x10,cell_step hb x11⟩
     have hS0:=SK.out wr wr.drew ((Below.refl _ _).drew) ⟨hB,hR,d0,d1,d2,d3,d4,d5,c0,c1,c2,c3,c4,c5⟩
     clear c0 c1 c2 c3 c4 c5 d0 d1 d2 d3 d4 d5 hR hB hx' hx HSame
     go_wp2_with fail
     go_region_held3(fun w'=>Below B W w'∧RowA w' D N n g∧w'.cell? ⟨D,(q+1)*6,none⟩=some (Value.int .u64 ((g (q+1)).val.getD 0 0))∧w'.cell? ⟨D,(q+1)*6+1,none⟩=some (Value.int .u64 ((g (q+1)).val.getD 1 0))∧w'.cell? ⟨D,(q+1)*6+2,none⟩=some (Value.int .u64 ((g (q+1)).val.getD 2 0))∧w'.cell? ⟨D,(q+1)*6+3,none⟩=some (Value.int .u64 ((g (q+1)).val.getD 3 0))∧w'.cell? ⟨D,(q+1)*6+4,none⟩=some (Value.int .u64 ((g (q+1)).val.getD 4 0))∧w'.cell? ⟨D,(q+1)*6+5,none⟩=some (Value.int .u64 ((g (q+1)).val.getD 5 0))∧w'.cell? ⟨D,q*6,none⟩=some (Value.int .u64 ((g q).val.getD 0 0))∧w'.cell? ⟨D,q*6+1,none⟩=some (Value.int .u64 ((g q).val.getD 1 0))∧w'.cell? ⟨D,q*6+2,none⟩=some (Value.int .u64 ((g q).val.getD 2 0))∧w'.cell? ⟨D,q*6+3,none⟩=some (Value.int .u64 ((g q).val.getD 3 0))∧w'.cell? ⟨D,q*6+4,none⟩=some (Value.int .u64 ((g q).val.getD 4 0))∧w'.cell? ⟨D,q*6+5,none⟩=some (Value.int .u64 ((g q).val.getD 5 0)))
      (assumption)
      (first|(go_at_call 62;refine(HC.out _ (by assumption)).mono ?_;rintro _ w9⟨rfl,hb9⟩;have hS9:=SK.out _ _ hb9 (by assumption)))
     all_goals
      have B1:Below B W w9:=hS9.1
      have R1:RowA w9 D N n g:=hS9.2.1
      clear hS9 hb9 SK HC hS0
      go_wp2
      go_roundw
      case rel=>exact⟨q+1,by omega,by go_num,R1,B1,HJ'⟩
      case measure=>simp[intOf];omega
   ·have e:q+1=n:=by omega
    have HE:Hid (lstF g n=compG ordA (lstF g n) n):=(compF_all linA g (Nat.le_refl _) (by rw[<-e];exact HJ.out)).symm
    have hlt':¬(q:Int)+1<(n:Int):=by omega
    clear HSame HJ
    go_wp2
    go_ret
    exact⟨n,rfl,g,hR,HE.out,hB⟩
end Go.Proofs.YtddemlfepjkgoaaGreat.srtA
