import Derived.Shelf.SlSortCmp.Whole1
import Derived.Shelf.Lay
import Derived.Ground.SlsfProg
import Derived.Laws.AppendOwnNone
import Derived.Test.YtddemlfepjkgoaaGreatQ21
import Derived.Test.YtddemlfepjkgoaaGreatQ22
set_option linter.all false
set_option maxRecDepth 200000
set_option maxHeartbeats 16000000
namespace Go.Proofs.YtddemlfepjkgoaaGreat.srtU
open Go.Shelf Go.RowKit Go.Lib Go.Sort
abbrev Un:={x:Int//isU64 x}
instance:Inhabited Un:=⟨⟨0,by unfold isU64;decide⟩⟩
def vU(p:Un):Value:=.int .u64 p.val
def encU(p:Un):List Value:=[Value.int .u64 p.val]
def ordU(p q:Un):Int:=ordI p.val q.val
theorem linU:Lin ordU:=⟨fun a=>linI.self _,fun a b h=>Subtype.ext (linI.zero _ _ h),fun a b=>linI.anti _ _,fun a b c h h'=>linI.trans _ _ _ h h'⟩
theorem encU_form(p:Un):encU p=[Value.int .u64 p.val]:=rfl
theorem encU_len(p:Un):(encU p).length=1:=rfl
theorem encU_one(p:Un):∀v∈encU p,v.oneCell'=true:=by
 intro v hv;simp only[encU,List.mem_cons,List.not_mem_nil,or_false]at hv;rw[hv];rfl
theorem cmp_lbU(p q:Un)(w:World):Calls Tryz.prog 68 #[.int .u64 p.val,.int .u64 q.val] w fun e w'=>e=.returned (.int .i64 (ordU p q))∧LB w w':=(cmp64_any p.val q.val w p.property q.property).mono fun e w'⟨h1,h2⟩=>⟨h1,h2▸LB.refl _⟩
theorem put_one(off:Nat)(d:Array Un):putCells vU off d=putCells id off (flatK encU 1 d):=by
 funext c;unfold putCells;congr 1;funext k x;rw[size_flatK,Nat.mul_one];by_cases h:off<=k∧k<off+d.size
 ·rw[if_pos h,if_pos h,get_flatK _ _ _ _ (by omega),Nat.div_one,Nat.mod_one];rfl
 rw[if_neg h,if_neg h]
theorem sw_one(w:World)(D off m:Nat)(d:Array Un)(os:Array Obj):sortWorld vU w D off m d os=sortWorldK encU 1 w D off m d os:=by
 unfold sortWorld sortWorldK putRowK putRow;rw[put_one]
theorem holds_one{w:World}{D off:Nat}{d:Array Un}(h:HoldsK encU 1 w D off d):Holds vU w D off d:=by
 intro j hj;have:=h j (by rw[size_flatK];omega);rw[get_flatK _ _ _ _ (by omega),Nat.div_one,Nat.mod_one]at this;exact this
shelf_lay_g SlLaysF.n6 Slsf 6 at Tryz 95 as sortLaidU
abbrev RowU(w:World)(D N n:Nat)(g:Nat->Un):Prop:=RowF 69 encU 1 w D N n g
theorem sort_anyU(B D N n cap:Nat)(g:Nat->Un)(W w:World)(hBW:B<=W.heap.size)(hb:Below B W w)(hD:B<=D)(hr:RowU w D N n g)(hn:n<=16777216):
 Calls Tryz.prog 95 #[.slice (some ⟨D,0,none⟩) n cap,.func (.func 68) #[] #[]] w fun e w'=>e=.returned (.tuple #[])∧
  ∃g',RowU w' D N n g'∧(∀c,c∈lstF g' n↔c∈lstF g n)∧(lstF g' n).Pairwise (fun a b=>ordU a b<=0)∧Below B W w':=
 sort_of linU encU_len (by decide) B D N n cap g W w hBW hb hD hr (fun d hd hH hlt=>
  (Any.slices_SortFunc sortLaidU vU (fun _=>rfl) ordU (swo_of linU) _ #[] D 0 cap d w (fun args w=>by kernel_rfl) (fun m os dk _ x y=>(cmp_lbU x y _).mono fun e w'⟨h1,h2⟩=>⟨h1,h2.lays⟩) (holds_one hH) hlt (by omega)).mono fun e w'⟨h1,d',m,os,h2,h3,h4⟩=>⟨h1,d',m,os,h2,h3,h4.trans (sw_one _ _ _ _ _ _)⟩)
theorem same_anyU(p q:Un)(bx:Nat)(w:World)(hx:w.cell? ⟨bx,0,none⟩=some (.func (.func 68) #[] #[])):
 Calls Tryz.prog 97 #[Value.int .u64 (p).val,Value.int .u64 (q).val,.pointer (some ⟨bx,0,none⟩)] w fun e w'=>e=.returned (.bool (ordU p q==0))∧Below w.heap.size w w':=by
 have HC:Hid (∀w,Calls Tryz.prog 68 #[Value.int .u64 (p).val,Value.int .u64 (q).val] w fun e w'=>e=.returned (.int .i64 (ordU p q))∧LB w w'):=fun w=>by
  have:=cmp_lbU p q w;exact this
 have hlt:=cell_ltK hx;clear hlt;generalize ordU p q=Z at*;go_enter Tryz.func97,Tryz.ntmps97;go_wp2_with fail;refine(HC.out _).mono ?_;rintro e w1⟨rfl,hb,_⟩;clear HC hx;go_wp2;go_ret;exact⟨rfl,hb⟩
def zeroKU(n:Nat):List Value:=(Builtin.zeroCells #[.int .u64 0] n).toList
theorem zeroK_lenU(n:Nat):(zeroKU n).length=n*1:=by simp[zeroKU,Builtin.zeroCells]
theorem zeroK_oneU(n:Nat):∀v∈zeroKU n,v.oneCell'=true:=by
 intro v hv;simp only[zeroKU,Builtin.zeroCells,Array.toList_map,List.mem_map]at hv;obtain⟨i,_,rfl⟩:=hv;show(#[Value.int .u64 0][i%1]!).oneCell'=true;rw[Nat.mod_one];rfl
theorem run_clearKU(w:World)(D o n c ty:Nat)(hn:0<n)(hc:∀j,j<n*1->∃v,w.cell? ⟨D,o+j,none⟩=some v∧w.frozen? ⟨D,o+j,none⟩=false):
 (Builtin.clear_ #[37] ty #[.slice (some ⟨D,o,none⟩) n c]).run Tryz.prog w=.ok (.tuple #[]) (w.setCells D o (zeroKU n)):=by
 have hv:∀w,(zeroValue 69).run Tryz.prog w=.ok (.int .u64 0) w:=fun w=>by kernel_rfl
 have hst:=run_storeCells_cells (P:=Tryz.prog) D o (zeroKU n) 0 w (by intro j hj;rw[zeroK_lenU]at hj;obtain⟨v,h1,_⟩:=hc j hj;rw[Nat.add_zero,h1];rfl) (by intro j hj;rw[zeroK_lenU]at hj;obtain⟨v,_,h2⟩:=hc j hj;rw[Nat.add_zero];exact h2) (zeroK_oneU n);simp only[Nat.add_zero]at hst;obtain⟨m,rfl⟩:∃m,n=m+1:=⟨n-1,by omega⟩;have hz:(Builtin.zeroCells (Value.int .u64 0).cells (m+1)).toList=zeroKU (m+1):=rfl;simp[Builtin.clear_,run_underlying Tryz.underlying37,hv,hz,hst]
theorem RowU.cells{w:World}{D N n i:Nat}{g:Nat->Un}(h:RowU w D N n g)(hi:i<n):w.cell? ⟨D,i,none⟩=some (Value.int .u64 (g i).val):=by
 have key:=h.cell hi (r:=0) (by decide);rw[Nat.mul_one,Nat.add_zero]at key;exact key
theorem compact_anyU(bx B D N n cap:Nat)(g:Nat->Un)(W w:World)(hBW:B<=W.heap.size)(hb:Below B W w)(hD:B<=D)(hbx:bx<B)(hxW:W.cell? ⟨bx,0,none⟩=some (.func (.func 68) #[] #[]))(hr:RowU w D N n g)(hn:n<=cap)(hN:n<=16777216):
 Calls Tryz.prog 96 #[.slice (some ⟨D,0,none⟩) n cap,.func (.func 97) #[] #[.pointer (some ⟨bx,0,none⟩)]] w fun e w'=>
  ∃m,e=.returned (.slice (some ⟨D,0,none⟩) m cap)∧∃g',RowU w' D N m g'∧lstF g' m=compG ordU (lstF g n) n∧Below B W w':=by
 have hnN:n<=N:=hr.1
 have HSame:Hid (∀wr p q,Below B W wr->Calls Tryz.prog 97 #[Value.int .u64 (p).val,Value.int .u64 (q).val,.pointer (some ⟨bx,0,none⟩)] wr fun e w'=>e=.returned (.bool (ordU p q==0))∧Below wr.heap.size wr w'):=by
  intro wr p q hB
  exact same_anyU p q bx wr ((hB.cell (p:=⟨bx,0,none⟩) hbx).trans hxW)
 clear hxW hbx
 by_cases h2:n<2
 ·have HE:Hid (lstF g n=compG ordU (lstF g n) n):=(compF_all linU g (Nat.le_refl _) (fun j h0 hj=>by omega)).symm
  have h2':(n:Int)<2:=by omega
  clear HSame
  go_enter Tryz.func96,Tryz.ntmps96
  go_wp2
  go_ret
  exact⟨n,rfl,g,hr,HE.out,hb⟩
 ·have h2':¬(n:Int)<2:=by omega
  go_enter Tryz.func96,Tryz.ntmps96
  go_wp2_with fail
  go_loopw [5](fun i wr=>∃q:Nat,q+1<=n∧i=.int .i64 ((q:Int)+1)∧RowU wr D N n g∧Below B W wr∧Hid (∀j,0<j->j<q+1->ordU (g j) (g (j-1))≠0))(fun i _=>n-(intOf i).toNat)
  case atStart=>exact⟨0,by omega,rfl,hr,hb,fun j h1 h2=>by omega⟩
  case round=>
   obtain⟨q,hq,rfl,hR,hB,HJ⟩:=hrel
   clear hr hb
   by_cases hlt:q+1<n
   ·have c0:=hR.cells (i:=q) (by omega)
    have d0:=hR.cells (i:=q+1) hlt
    have hlt':(q:Int)+1<(n:Int):=by omega
    have hq0:(q:Int)<(n:Int):=by omega
    have h00:(0:Int)<=(q:Int):=by omega
    have h01:(0:Int)<=(q:Int)+1:=by omega
    have hwq:IntKind.i64.wrap (q:Int)=(q:Int):=by rw[IntKind.wrap_i64];omega
    by_cases hx:ordU (g (q+1)) (g q)=0
    ·have hx':(ordU (g (q+1)) (g q)==0)=true:=by simpa using hx
     have HX:Hid (ordU (g (q+1)) (g q)=0):=hx
     have hcap:q+1<=cap:=by omega
     have HC:Hid (∀wy,(Below B W wy∧RowU wy D N n g∧wy.cell? ⟨D,(q+1),none⟩=some (Value.int .u64 (g (q+1)).val)∧wy.cell? ⟨D,q,none⟩=some (Value.int .u64 (g q).val))->Calls Tryz.prog 97 #[Value.int .u64 (g (q+1)).val,Value.int .u64 (g q).val,.pointer (some ⟨bx,0,none⟩)] wy fun e w'=>e=.returned (.bool true)∧Below wy.heap.size wy w'):=by
      intro wy hy
      have:=HSame.out wy (g (q+1)) (g q) hy.1
      rw[hx']at this
      exact this
     have SK:Hid (∀wa wb,Below wa.heap.size wa wb->(Below B W wa∧RowU wa D N n g∧wa.cell? ⟨D,(q+1),none⟩=some (Value.int .u64 (g (q+1)).val)∧wa.cell? ⟨D,q,none⟩=some (Value.int .u64 (g q).val))->(Below B W wb∧RowU wb D N n g∧wb.cell? ⟨D,(q+1),none⟩=some (Value.int .u64 (g (q+1)).val)∧wb.cell? ⟨D,q,none⟩=some (Value.int .u64 (g q).val))):=fun wa wb hb⟨s,r,x0,x1⟩=>⟨belowB_step' hBW hb s,r.keep hb,cell_step hb x0,cell_step hb x1⟩
     have hS0:=SK.out wr wr.drew ((Below.refl _ _).drew) ⟨hB,hR,d0,c0⟩
     clear c0 d0 hR hB hx' hx
     go_wp2_with fail
     go_region_held3(fun w'=>Below B W w'∧RowU w' D N n g∧w'.cell? ⟨D,(q+1),none⟩=some (Value.int .u64 (g (q+1)).val)∧w'.cell? ⟨D,q,none⟩=some (Value.int .u64 (g q).val))
      (assumption)
      (first|(go_at_call 97;refine(HC.out _ (by assumption)).mono ?_;rintro _ w9⟨rfl,hb9⟩;have hS9:=SK.out _ _ hb9 (by assumption)))
     all_goals
      have B1:Below B W w9:=hS9.1
      have R1:RowU w9 D N n g:=hS9.2.1
      clear hS9 hb9
      go_wp2_with fail
      clear SK HC hS0 h00 h01 hwq hq0
      have HL0:Hid (lstF g (q+1)=compG ordU (lstF g n) (q+1+0+1)):=by
       unfold Hid
       rw[Nat.add_zero,show q+1+1=q+2 by omega,compF_same linU g hlt HX.out]
       exact(compF_all linU g (by omega) HJ.out).symm
      have HSm:Hid (∀kk m,q+1+(kk+1)<n->ordU (g (q+1+(kk+1))) (g (q+1+kk))=0->∀g',lstF g' m=compG ordU (lstF g n) (q+1+kk+1)->lstF g' m=compG ordU (lstF g n) (q+1+(kk+1)+1)):=by
       intro kk m hk hx g' h
       rw[show q+1+(kk+1)+1=q+1+kk+2 by omega,compF_same linU g (n:=n) (q:=q+1+kk) (by omega) hx]
       exact h
      have HDf:Hid (∀kk m,q+1+(kk+1)<n->ordU (g (q+1+(kk+1))) (g (q+1+kk))≠0->∀g',lstF g' m=compG ordU (lstF g n) (q+1+kk+1)->lstF (fun j=>if j=m then g (q+1+(kk+1))else g' j) (m+1)=compG ordU (lstF g n) (q+1+(kk+1)+1)):=by
       intro kk m hk hx g' h
       rw[show q+1+(kk+1)+1=q+1+kk+2 by omega,compF_diff linU g (n:=n) (q:=q+1+kk) (by omega) hx,lstF_succ]
       rw[lstF_congr (g':=g') (fun i hi=>by rw[if_neg (by omega)]),h,if_pos rfl]
       rfl
      clear HJ HX
      obtain⟨L,hLd⟩:∃L,n-(q+1)=L:=⟨_,rfl⟩
      have hnL:n=q+1+L:=by omega
      have HnL:Hid (n=q+1+L):=hnL
      rw[hLd]
      have hL1:1<=L:=by omega
      have hLm:L<=16777216:=by omega
      have hnm:n<=16777216:=by omega
      clear hLd hnL
      go_loopw [5,7](fun i r wx=>∃(m kk:Nat)(g':Nat->Un),kk+1<=L∧q+1<=m∧m<=q+1+kk∧i=.int .i64 m∧r=.int .i64 ((kk:Int)+1)∧RowU wx D N n g'∧Below B W wx∧Hid (∀j,q+1+kk<=j->j<n->g' j=g j)∧Hid (lstF g' m=compG ordU (lstF g n) (q+1+kk+1)))(fun _ r _=>L-(intOf r).toNat)
      case atStart=>exact⟨q+1,0,g,by omega,by omega,by omega,by simp,rfl,R1,B1,fun _ _ _=>rfl,HL0.out⟩
      case round=>
       obtain⟨m,kk,g',hk,hm0,hm1,rfl,rfl,hR,hB,HK,HLs⟩:=hrel
       clear R1 B1 HL0
       have hnL:=HnL.out
       by_cases hlt2:kk+1<L
       ·skip
        have c0:=hR.cells (i:=q+1+kk) (by omega)
        have d0:=hR.cells (i:=q+1+(kk+1)) (by omega)
        rw[HK.out _ (by omega) (by omega)]at c0 d0
        have HSmk:Hid (ordU (g (q+1+(kk+1))) (g (q+1+kk))=0->lstF g' m=compG ordU (lstF g n) (q+1+(kk+1)+1)):=fun hx=>HSm.out kk m (by omega) hx g' HLs.out
        have HDfk:Hid (ordU (g (q+1+(kk+1))) (g (q+1+kk))≠0->lstF (fun j=>if j=m then g (q+1+(kk+1))else g' j) (m+1)=compG ordU (lstF g n) (q+1+(kk+1)+1)):=fun hx=>HDf.out kk m (by omega) hx g' HLs.out
        have HK2:Hid (∀j,q+1+(kk+1)<=j->j<n->g' j=g j):=fun j h1 h2=>HK.out j (by omega) h2
        clear HSm HDf HLs HK
        have hm3:m<N:=by omega
        generalize hp:g (q+1+(kk+1))=p at*
        generalize hp':g (q+1+kk)=p' at*
        clear hp hp'
        have hk1:(kk:Int)+1<(L:Int):=by omega
        have hk0:(kk:Int)<(L:Int):=by omega
        have h00:(0:Int)<=(kk:Int):=by omega
        have h01:(0:Int)<=(kk:Int)+1:=by omega
        have hwq:IntKind.i64.wrap (kk:Int)=(kk:Int):=by rw[IntKind.wrap_i64];omega
        have hmn:(m:Int)<(n:Int):=by omega
        have hmN:m<N:=by omega
        clear hnL
        by_cases hx:ordU p p'=0
        ·have hx':(ordU p p'==0)=true:=by simpa using hx
         have HLn:Hid (lstF g' m=compG ordU (lstF g n) (q+1+(kk+1)+1)):=HSmk.out hx
         clear HSmk HDfk
         have HC:Hid (∀wy,(Below B W wy∧RowU wy D N n g'∧wy.cell? ⟨D,(q+1)+(kk+1),none⟩=some (Value.int .u64 (p).val)∧wy.cell? ⟨D,(q+1)+kk,none⟩=some (Value.int .u64 (p').val))->Calls Tryz.prog 97 #[Value.int .u64 (p).val,Value.int .u64 (p').val,.pointer (some ⟨bx,0,none⟩)] wy fun e w'=>e=.returned (.bool true)∧Below wy.heap.size wy w'):=by
          intro wy hy
          have:=HSame.out wy (p) (p') hy.1
          rw[hx']at this
          exact this
         have SK:Hid (∀wa wb,Below wa.heap.size wa wb->(Below B W wa∧RowU wa D N n g'∧wa.cell? ⟨D,(q+1)+(kk+1),none⟩=some (Value.int .u64 (p).val)∧wa.cell? ⟨D,(q+1)+kk,none⟩=some (Value.int .u64 (p').val))->(Below B W wb∧RowU wb D N n g'∧wb.cell? ⟨D,(q+1)+(kk+1),none⟩=some (Value.int .u64 (p).val)∧wb.cell? ⟨D,(q+1)+kk,none⟩=some (Value.int .u64 (p').val))):=fun wa wb hb⟨s,r,x0,x1⟩=>⟨belowB_step' hBW hb s,r.keep hb,cell_step hb x0,cell_step hb x1⟩
         have hS0:=SK.out wr wr.drew ((Below.refl _ _).drew) ⟨hB,hR,d0,c0⟩
         clear c0 d0 hR hB hx' hx HSame
         go_wp2_with fail
         go_region_held3(fun w'=>Below B W w'∧RowU w' D N n g'∧w'.cell? ⟨D,(q+1)+(kk+1),none⟩=some (Value.int .u64 (p).val)∧w'.cell? ⟨D,(q+1)+kk,none⟩=some (Value.int .u64 (p').val))
          (assumption)
          (first|(go_at_call 97;refine(HC.out _ (by assumption)).mono ?_;rintro _ w9⟨rfl,hb9⟩;have hS9:=SK.out _ _ hb9 (by assumption)))
         all_goals
          have B1:Below B W w9:=hS9.1
          have R1:RowU w9 D N n g':=hS9.2.1
          clear hS9 hb9 SK HC hS0
          go_wp2
          go_roundw
          case rel=>exact⟨m,kk+1,g',by omega,by omega,by omega,rfl,by go_num,R1,B1,HK2,HLn⟩
          case measure=>simp[intOf];omega
        ·have hx':(ordU p p'==0)=false:=by simpa using hx
         have HLn:Hid (lstF (fun j=>if j=m then p else g' j) (m+1)=compG ordU (lstF g n) (q+1+(kk+1)+1)):=HDfk.out hx
         have HK3:Hid (∀j,q+1+(kk+1)<=j->j<n->(if j=m then p else g' j)=g j):=fun j h1 h2=>by rw[if_neg (by omega)];exact HK2.out j h1 h2
         clear HSmk HDfk HK2
         have HC:Hid (∀wy,(Below B W wy∧RowU wy D N n g'∧wy.cell? ⟨D,(q+1)+(kk+1),none⟩=some (Value.int .u64 (p).val)∧wy.cell? ⟨D,(q+1)+kk,none⟩=some (Value.int .u64 (p').val))->Calls Tryz.prog 97 #[Value.int .u64 (p).val,Value.int .u64 (p').val,.pointer (some ⟨bx,0,none⟩)] wy fun e w'=>e=.returned (.bool false)∧Below wy.heap.size wy w'):=by
          intro wy hy
          have:=HSame.out wy (p) (p') hy.1
          rw[hx']at this
          exact this
         have SK:Hid (∀wa wb,Below wa.heap.size wa wb->(Below B W wa∧RowU wa D N n g'∧wa.cell? ⟨D,(q+1)+(kk+1),none⟩=some (Value.int .u64 (p).val)∧wa.cell? ⟨D,(q+1)+kk,none⟩=some (Value.int .u64 (p').val))->(Below B W wb∧RowU wb D N n g'∧wb.cell? ⟨D,(q+1)+(kk+1),none⟩=some (Value.int .u64 (p).val)∧wb.cell? ⟨D,(q+1)+kk,none⟩=some (Value.int .u64 (p').val))):=fun wa wb hb⟨s,r,x0,x1⟩=>⟨belowB_step' hBW hb s,r.keep hb,cell_step hb x0,cell_step hb x1⟩
         have hS0:=SK.out wr wr.drew ((Below.refl _ _).drew) ⟨hB,hR,d0,c0⟩
         clear c0 d0 hR hB hx' hx HSame
         go_wp2_with fail
         go_region_held3(fun w'=>Below B W w'∧RowU w' D N n g'∧w'.cell? ⟨D,(q+1)+(kk+1),none⟩=some (Value.int .u64 (p).val)∧w'.cell? ⟨D,(q+1)+kk,none⟩=some (Value.int .u64 (p').val))
          (assumption)
          (first|(go_at_call 97;refine(HC.out _ (by assumption)).mono ?_;rintro _ w9⟨rfl,hb9⟩;have hS9:=SK.out _ _ hb9 (by assumption)))
         all_goals
          have B1:Below B W w9:=hS9.1
          have R1:RowU w9 D N n g':=hS9.2.1
          obtain⟨_,_,d0,_⟩:=hS9
          obtain⟨o0,O0,F0⟩:=R1.open (m) (by omega)
          have HR2:Hid (RowU (w9.setCell ⟨D,m,none⟩ (Value.int .u64 (p).val)) D N n (fun j=>if j=m then p else g' j)):=by
           have:=RowF.set R1 m p (encU_len p) (by decide)
           rw[encU_form,Nat.mul_one]at this
           exact this
          have HB2:Hid (Below B W (w9.setCell ⟨D,m,none⟩ (Value.int .u64 (p).val))):=((B1).setCell (p:=⟨D,m,none⟩) hD _)
          clear hb9 SK HC hS0 R1 B1
          go_wp2
          go_roundw
          case rel=>exact⟨m+1,kk+1,_,by omega,by omega,by omega,by go_num,by go_num,HR2.out,HB2.out,HK3,HLn⟩
          case measure=>simp[intOf];omega
       ·have hkL:kk+1=L:=by omega
        have hlt3:¬(kk:Int)+1<(L:Int):=by omega
        have HLn:Hid (lstF g' m=compG ordU (lstF g n) n):=by have:=HLs.out;rw[show q+1+kk+1=n by omega]at this;exact this
        have HR2:Hid (RowU (wr.setCells D (m) (zeroKU (n-m))) D N m g'):=by have:=RowF.clear hR (show m<=n by omega) (zeroKU (n-m));rw[Nat.mul_one]at this;exact this
        have HB2:Hid (Below B W (wr.setCells D (m) (zeroKU (n-m)))):=below_setCells' hD _ _ _ hB
        have hcl:∀ty,(Builtin.clear_ #[37] ty #[.slice (some ⟨D,m,none⟩) (n-m) (cap-m)]).run Tryz.prog wr=.ok (.tuple #[]) (wr.setCells D (m) (zeroKU (n-m))):=fun ty=>run_clearKU wr D (m) (n-m) (cap-m) ty (by omega) (fun j hj=>RowF.open hR (m+j) (by omega))
        have hmn:(m:Int)<=(n:Int):=by omega
        have hmc:(m:Int)<=(cap:Int):=by omega
        have hmc1:¬cap=m:=by omega
        have hmc2:¬m=cap:=by omega
        have hmc3:¬cap-m=0:=by omega
        have hmc4:m<cap:=by omega
        clear hR hB HSm HDf HLs HK hnL hkL HSame
        go_wp2_with(simp only[hcl])
        go_ret
        exact⟨m,rfl,g',HR2.out,HLn.out,HB2.out⟩
    ·have hx':(ordU (g (q+1)) (g q)==0)=false:=by simpa using hx
     have HJ':Hid (∀j,0<j->j<q+1+1->ordU (g j) (g (j-1))≠0):=by
      intro j h0 hj
      by_cases e:j=q+1
      ·subst e;exact hx
      ·exact HJ.out j h0 (by omega)
     clear HJ
     have HC:Hid (∀wy,(Below B W wy∧RowU wy D N n g∧wy.cell? ⟨D,(q+1),none⟩=some (Value.int .u64 (g (q+1)).val)∧wy.cell? ⟨D,q,none⟩=some (Value.int .u64 (g q).val))->Calls Tryz.prog 97 #[Value.int .u64 (g (q+1)).val,Value.int .u64 (g q).val,.pointer (some ⟨bx,0,none⟩)] wy fun e w'=>e=.returned (.bool false)∧Below wy.heap.size wy w'):=by
      intro wy hy
      have:=HSame.out wy (g (q+1)) (g q) hy.1
      rw[hx']at this
      exact this
     have SK:Hid (∀wa wb,Below wa.heap.size wa wb->(Below B W wa∧RowU wa D N n g∧wa.cell? ⟨D,(q+1),none⟩=some (Value.int .u64 (g (q+1)).val)∧wa.cell? ⟨D,q,none⟩=some (Value.int .u64 (g q).val))->(Below B W wb∧RowU wb D N n g∧wb.cell? ⟨D,(q+1),none⟩=some (Value.int .u64 (g (q+1)).val)∧wb.cell? ⟨D,q,none⟩=some (Value.int .u64 (g q).val))):=fun wa wb hb⟨s,r,x0,x1⟩=>⟨belowB_step' hBW hb s,r.keep hb,cell_step hb x0,cell_step hb x1⟩
     have hS0:=SK.out wr wr.drew ((Below.refl _ _).drew) ⟨hB,hR,d0,c0⟩
     clear c0 d0 hR hB hx' hx HSame
     go_wp2_with fail
     go_region_held3(fun w'=>Below B W w'∧RowU w' D N n g∧w'.cell? ⟨D,(q+1),none⟩=some (Value.int .u64 (g (q+1)).val)∧w'.cell? ⟨D,q,none⟩=some (Value.int .u64 (g q).val))
      (assumption)
      (first|(go_at_call 97;refine(HC.out _ (by assumption)).mono ?_;rintro _ w9⟨rfl,hb9⟩;have hS9:=SK.out _ _ hb9 (by assumption)))
     all_goals
      have B1:Below B W w9:=hS9.1
      have R1:RowU w9 D N n g:=hS9.2.1
      clear hS9 hb9 SK HC hS0
      go_wp2
      go_roundw
      case rel=>exact⟨q+1,by omega,by go_num,R1,B1,HJ'⟩
      case measure=>simp[intOf];omega
   ·have e:q+1=n:=by omega
    have HE:Hid (lstF g n=compG ordU (lstF g n) n):=(compF_all linU g (Nat.le_refl _) (by rw[<-e];exact HJ.out)).symm
    have hlt':¬(q:Int)+1<(n:Int):=by omega
    clear HSame HJ
    go_wp2
    go_ret
    exact⟨n,rfl,g,hR,HE.out,hB⟩
end Go.Proofs.YtddemlfepjkgoaaGreat.srtU
