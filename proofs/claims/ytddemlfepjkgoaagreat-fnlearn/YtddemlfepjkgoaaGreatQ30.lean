import Derived.Laws.StructEq
import Derived.Test.YtddemlfepjkgoaaGreatQ29
set_option linter.all false
set_option maxRecDepth 200000
set_option maxHeartbeats 16000000
namespace Go.Proofs.YtddemlfepjkgoaaGreat
open Go.RowKit
open srtR
def RuAt(w:World)(D o:Nat)(r:Ru):Prop:=D<w.heap.size∧∀i,i<6->w.cell? ⟨D,o+i,none⟩=some (.iface (tyK (r.getD i K.zero)) (plK (r.getD i K.zero)))
theorem RuAt.below{w w1:World}{D o:Nat}{r:Ru}(h:RuAt w D o r)(hb:Below w.heap.size w w1):RuAt w1 D o r:=
 ⟨Nat.lt_of_lt_of_le h.1 hb.size,fun i hi=>(hb.cell (p:=⟨D,o+i,none⟩) h.1).trans (h.2 i hi)⟩
theorem Row.ruAt{w:World}{D N n i:Nat}{g:Nat->Rn}(h:Row w D N n g)(hi:i<n):RuAt w D (i*6) (g i).val:=by
 refine⟨RowF.lt h,fun j hj=> ?_⟩;obtain⟨c0,c1,c2,c3,c4,c5⟩:=Row.cells h hi;have:j=0∨j=1∨j=2∨j=3∨j=4∨j=5:=by omega
 rcases this with rfl|rfl|rfl|rfl|rfl|rfl
 ·exact c0
 ·exact c1
 ·exact c2
 ·exact c3
 ·exact c4
 exact c5
theorem withinP_any(a b:Ru)(D o D' o':Nat)(w:World)(ha:NR a)(hb:NR b)(h1:RuAt w D o a)(h2:RuAt w D' o' b):
 Calls Tryz.prog 107 #[.pointer (some ⟨D,o,none⟩),.pointer (some ⟨D',o',none⟩)] w fun e w'=>e=.returned (.bool (withinR a b))∧Below w.heap.size w w':=by
 have HC:Hid (∀k w,Calls Tryz.prog 137 #[.iface (tyK (a.getD k K.zero)) (plK (a.getD k K.zero)),.iface (tyK (b.getD k K.zero)) (plK (b.getD k K.zero))] w fun e w'=>e=.returned (.bool (withinI (a.getD k K.zero) (b.getD k K.zero)))∧Below w.heap.size w w'):=fun k w=>by
  have:=isWithin_any (a.getD k K.zero) (b.getD k K.zero) w (ha.2 k) (hb.2 k)
  rw[setV_form,setV_form]at this
  exact this
 have HX:Hid (∀wr,Below w.heap.size w wr->∀k,k<6->wr.cell? ⟨D,o+k,none⟩=some (.iface (tyK (a.getD k K.zero)) (plK (a.getD k K.zero)))∧wr.cell? ⟨D',o'+k,none⟩=some (.iface (tyK (b.getD k K.zero)) (plK (b.getD k K.zero)))):=fun wr h k hk=>⟨(h1.below h).2 k hk,(h2.below h).2 k hk⟩
 have HN:Hid (∀k,k<6->withinI (a.getD k K.zero) (b.getD k K.zero)=false->withinR a b=false):=fun k hk h=>withinR_no hk h
 have HY:Hid ((∀k,k<6->withinI (a.getD k K.zero) (b.getD k K.zero)=true)->withinR a b=true):=(withinR_iff a b).2
 clear h1 h2 ha hb
 generalize withinR a b=R at*
 go_enter Tryz.func107,Tryz.ntmps107
 go_wp2_with fail
 go_loopw [6](fun i wr=>∃k:Nat,k<=6∧i=.int .i64 k∧Hid (∀j,j<k->withinI (a.getD j K.zero) (b.getD j K.zero)=true)∧Below w.heap.size w wr)(fun i _=>6-(intOf i).toNat)
 case atStart=>exact⟨0,by omega,rfl,fun j hj=>by omega,Below.refl _ _⟩
 case round=>
  obtain⟨k,hk,rfl,HJ,B⟩:=hrel
  rename World=>W0
  by_cases hk6:k<6
  ·obtain⟨c0,d0⟩:=HX.out W0 B k hk6
   have HCk:Hid _:=HC.out k
   have HNk:Hid (withinI (a.getD k K.zero) (b.getD k K.zero)=false->R=false):=HN.out k hk6
   have HJ1:Hid (withinI (a.getD k K.zero) (b.getD k K.zero)=true->∀j,j<k+1->withinI (a.getD j K.zero) (b.getD j K.zero)=true):=fun h j hj=>by
    by_cases hjk:j=k
    ·subst hjk;exact h
    ·exact HJ.out j (by omega)
   have hk6':(k:Int)<6:=by omega
   clear HC HX HN HY HJ
   generalize withinI (a.getD k K.zero) (b.getD k K.zero)=Z at*
   generalize tyK (a.getD k K.zero)=T at*
   generalize plK (a.getD k K.zero)=P at*
   generalize tyK (b.getD k K.zero)=T' at*
   generalize plK (b.getD k K.zero)=P' at*
   have SK:Hid (∀wa wb,Below wa.heap.size wa wb->(Below w.heap.size w wa∧wa.cell? ⟨D,o+k,none⟩=some (.iface T P)∧wa.cell? ⟨D',o'+k,none⟩=some (.iface T' P'))->(Below w.heap.size w wb∧wb.cell? ⟨D,o+k,none⟩=some (.iface T P)∧wb.cell? ⟨D',o'+k,none⟩=some (.iface T' P'))):=fun wa wb hb⟨s,x,y⟩=>⟨below_step hb s,cell_step hb x,cell_step hb y⟩
   have hS0:=SK.out W0 W0.drew ((Below.refl _ _).drew) ⟨B,c0,d0⟩
   clear c0 d0 B
   go_wp2_with fail
   go_region_held3(fun w'=>Below w.heap.size w w'∧w'.cell? ⟨D,o+k,none⟩=some (.iface T P)∧w'.cell? ⟨D',o'+k,none⟩=some (.iface T' P'))
    (assumption)
    (first|(go_at_call 137;refine(HCk.out _).mono ?_;rintro _ w9⟨rfl,hb9⟩;have hS9:=SK.out _ _ hb9 (by assumption)))
   all_goals
    have B1:Below w.heap.size w w9:=hS9.1
    clear hS9 hb9 hS0
    cases Z with
    |false=>
     have hR:R=false:=HNk.out rfl
     subst hR
     go_wp2
     go_ret
     exact⟨rfl,B1⟩
    |true=>
     have HJ2:Hid (∀j,j<k+1->withinI (a.getD j K.zero) (b.getD j K.zero)=true):=HJ1.out rfl
     go_wp2
     go_roundw
     case rel=>exact⟨k+1,by omega,by go_num,HJ2,B1⟩
     case measure=>simp[intOf];omega
  ·have hk':k=6:=by omega
   subst hk'
   have hR:R=true:=HY.out HJ.out
   subst hR
   clear HC HX HN HY HJ
   go_wp2
   go_ret
   exact⟨rfl,B⟩
theorem eqIn_mask(a b a' b':Int)(w:World)(d:Nat):(Op.equalIn (d+2) 151 (.agg #[.int .u64 a,.int .u64 b]) (.agg #[.int .u64 a',.int .u64 b'])).run Tryz.prog w=.ok ((a==a')&&(b==b')) w:=by
 rw[run_equalIn_struct w (d+1) 151 _ _ (by kernel_rfl) (by kernel_rfl)];simp[Program.fieldsOf,Tryz.underlying151,Op.eqFields,go_sem]
 cases h1:(a==a')<;>cases h2:(b==b')<;>simp_all
theorem eqIn_range(a b a' b':Int)(w:World)(d:Nat):(Op.equalIn (d+2) 147 (.agg #[.int .u64 a,.int .u64 b]) (.agg #[.int .u64 a',.int .u64 b'])).run Tryz.prog w=.ok ((a==a')&&(b==b')) w:=by
 rw[run_equalIn_struct w (d+1) 147 _ _ (by kernel_rfl) (by kernel_rfl)];simp[Program.fieldsOf,Tryz.underlying147,Op.eqFields,go_sem]
 cases h1:(a==a')<;>cases h2:(b==b')<;>simp_all
theorem neq_same(T:TypeId)(v v':Value)(r:Bool)(w:World)(hc:(Tryz.prog.info? T).map (·.comparable)=some true)(h:∀d,(Op.equalIn (d+2) T v v').run Tryz.prog w=.ok r w):(binOp .neq 100 (.iface T v) (.iface T v')).run Tryz.prog w=.ok (.bool (!r)) w:=by
 cases hi:Tryz.prog.info? T with
 |none=>simp[hi]at hc
 |some i=>
  have hcc:i.comparable=true:=by simpa[hi]using hc
  have h2:∀d:Nat,(Op.equalIn (d+3) 100 (.iface T v) (.iface T v')).run Tryz.prog w=.ok r w:=fun d=>by
   rw[Op.equalIn];simp[run_underlying Tryz.underlying100,typeInfo,hi,hcc,h d]
  simp only[binOp];simp[Op.equal,Op.maxDepth,h2 9997]
theorem neq_other(T T':TypeId)(v v':Value)(w:World)(h:T≠T'):(binOp .neq 100 (.iface T v) (.iface T' v')).run Tryz.prog w=.ok (.bool true) w:=by
 have h2:∀d:Nat,(Op.equalIn (d+1) 100 (.iface T v) (.iface T' v')).run Tryz.prog w=.ok false w:=fun d=>by simp[Op.equalIn,run_underlying Tryz.underlying100,h]
 simp only[binOp];simp[Op.equal,Op.maxDepth,h2 9999]
theorem neq_iface{c d:K}(hc:Normal c)(hd:Normal d)(w:World):(binOp .neq 100 (.iface (tyK c) (plK c)) (.iface (tyK d) (plK d))).run Tryz.prog w=.ok (.bool (decide (c≠d))) w:=by
 have kN:∀x y:Nat,((x:Int)==(y:Int))=decide (x=y):=fun x y=>by rw[Bool.eq_iff_iff,beq_iff_eq,decide_eq_true_eq];omega
 rcases hc with rfl|⟨a,b,rfl,_⟩|⟨a,b,rfl,_⟩<;>rcases hd with rfl|⟨a',b',rfl,_⟩|⟨a',b',rfl,_⟩
 ·exact neq_same 149 (.agg #[]) (.agg #[]) true w (by kernel_rfl) (fun d=>by
  rw[run_equalIn_struct w (d+1) 149 _ _ (by kernel_rfl) (by kernel_rfl)]
  simp[Program.fieldsOf,Tryz.underlying149,Op.eqFields,go_sem])
 ·exact(neq_other _ _ _ _ w (by simp[tyK])).trans (by simp)
 ·exact(neq_other _ _ _ _ w (by simp[tyK])).trans (by simp)
 ·exact(neq_other _ _ _ _ w (by simp[tyK])).trans (by simp)
 ·refine(neq_same 151 _ _ _ w (by kernel_rfl) (fun d=>eqIn_mask _ _ _ _ w d)).trans ?_;rw[kN,kN];congr 2;rw[Bool.eq_iff_iff];simp
 ·exact(neq_other _ _ _ _ w (by simp[tyK])).trans (by simp)
 ·exact(neq_other _ _ _ _ w (by simp[tyK])).trans (by simp)
 ·exact(neq_other _ _ _ _ w (by simp[tyK])).trans (by simp)
 refine(neq_same 147 _ _ _ w (by kernel_rfl) (fun d=>eqIn_range _ _ _ _ w d)).trans ?_;rw[kN,kN];congr 2;rw[Bool.eq_iff_iff];simp
def cntD(a b:Ru):Nat->Nat
 |0=>0
 |k+1=>cntD a b k+if a.getD k K.zero≠b.getD k K.zero then 1 else 0
def lastD(a b:Ru):Nat->Nat
 |0=>0
 |k+1=>if a.getD k K.zero≠b.getD k K.zero then k else lastD a b k
theorem cntD_le(a b:Ru):∀k,cntD a b k<=k
 |0=>Nat.le_refl _
 |k+1=>by have:=cntD_le a b k;unfold cntD;split<;>omega
theorem lastD_lt(a b:Ru):∀k,lastD a b (k+1)<k+1
 |0=>by unfold lastD;split<;>simp[lastD]
 |k+1=>by have:=lastD_lt a b k;unfold lastD;split<;>omega
theorem lastD_6(a b:Ru):∀k,k<=6->lastD a b k<6
 |0,_=>by simp[lastD]
 |k+1,h=>by have:=lastD_lt a b k;omega
theorem cntD_0{a b:Ru}:∀k,cntD a b k=0->∀j,j<k->a.getD j K.zero=b.getD j K.zero
 |0,_,j,hj=>by omega
 |k+1,h,j,hj=>by
  unfold cntD at h;by_cases e:a.getD k K.zero=b.getD k K.zero
  ·rw[if_neg (by simpa using e)]at h;by_cases hjk:j=k
   ·subst hjk;exact e
   exact cntD_0 k (by omega) j (by omega)
  rw[if_pos e]at h;omega
theorem cntD_1{a b:Ru}:∀k,cntD a b k=1->lastD a b k<k∧a.getD (lastD a b k) K.zero≠b.getD (lastD a b k) K.zero∧∀j,j<k->j≠lastD a b k->a.getD j K.zero=b.getD j K.zero
 |0,h=>by simp[cntD]at h
 |k+1,h=>by
  unfold cntD at h;unfold lastD;by_cases e:a.getD k K.zero=b.getD k K.zero
  ·rw[if_neg (by simpa using e)]at h;rw[if_neg (by simpa using e)];obtain⟨h1,h2,h3⟩:=cntD_1 k (by omega);refine⟨by omega,h2,fun j hj hne=> ?_⟩;by_cases hjk:j=k
   ·subst hjk;exact e
   exact h3 j (by omega) hne
  rw[if_pos e]at h;rw[if_pos e];exact⟨by omega,e,fun j hj hne=>cntD_0 k (by omega) j (by omega)⟩
theorem cntD_one{a b:Ru}{i:Nat}(hi:a.getD i K.zero≠b.getD i K.zero):∀k,(∀j,j<k->j≠i->a.getD j K.zero=b.getD j K.zero)->cntD a b k=if i<k then 1 else 0
 |0,_=>by simp[cntD]
 |k+1,h=>by
  have ih:=cntD_one hi k (fun j hj hne=>h j (by omega) hne);unfold cntD;rw[ih];by_cases e:k=i
  ·subst e;rw[if_neg (by omega),if_pos hi,if_pos (by omega)]
  have hz:(if a.getD k K.zero≠b.getD k K.zero then 1 else 0)=0:=if_neg (fun hne=>hne (h k (by omega) e));rw[hz];by_cases hik:i<k
  ·rw[if_pos hik,if_pos (by omega)]
  rw[if_neg hik,if_neg (by omega)]
theorem noJoin_cnt{a b:Ru}(h:cntD a b 6≠1):NoJoin a b:=by
 rintro r⟨i,c,⟨h1,h2,h3,h4⟩,_⟩;apply h;rw[cntD_one h2 6 h3,if_pos h1]
theorem noJoin_none{a b:Ru}(h:cntD a b 6=1)(hn:joinK (a.getD (lastD a b 6) K.zero) (b.getD (lastD a b 6) K.zero)=none):NoJoin a b:=by
 rintro r⟨i,c,⟨h1,h2,h3,h4⟩,_⟩;obtain⟨k1,k2,k3⟩:=cntD_1 6 h;have:i=lastD a b 6:=by
  by_cases e:i=lastD a b 6
  ·exact e
  exact absurd (k3 i h1 e) h2
 rw[this,hn]at h4;cases h4
theorem join_some{a b:Ru}{c:K}(h:cntD a b 6=1)(hn:joinK (a.getD (lastD a b 6) K.zero) (b.getD (lastD a b 6) K.zero)=some c):JoinR a b (a.set (lastD a b 6) c):=by
 obtain⟨k1,k2,k3⟩:=cntD_1 6 h;exact⟨_,c,⟨k1,k2,k3,hn⟩,rfl⟩
def JoinPost(a b:Ru)(e:Ending):Prop:=(∃r,JoinR a b r∧e=.returned (.tuple #[.agg (encR r).toArray,.bool true]))∨(NoJoin a b∧e=.returned (.tuple #[.agg #[.nilIface,.nilIface,.nilIface,.nilIface,.nilIface,.nilIface],.bool false]))
theorem encR_set(a:Ru)(i:Nat)(c:K)(hl:a.length=6)(hi:i<6):(encR (a.set i c)).toArray=(encR a).toArray.set! i (.iface (tyK c) (plK c)):=by
 have:i=0∨i=1∨i=2∨i=3∨i=4∨i=5:=by omega
 rcases this with rfl|rfl|rfl|rfl|rfl|rfl<;>simp[encR,setV_form,hl]
theorem below_set6{n:Nat}{w w':World}{g:Nat}(h:Below n w w')(hg:n<=g)(x0 x1 x2 x3 x4 x5:Value):Below n w ((((((w'.setCell ⟨g,0,none⟩ x0).setCell ⟨g,1,none⟩ x1).setCell ⟨g,2,none⟩ x2).setCell ⟨g,3,none⟩ x3).setCell ⟨g,4,none⟩ x4).setCell ⟨g,5,none⟩ x5):=
 (((((h.setCell (p:=⟨g,0,none⟩) hg x0).setCell (p:=⟨g,1,none⟩) hg x1).setCell (p:=⟨g,2,none⟩) hg x2).setCell (p:=⟨g,3,none⟩) hg x3).setCell (p:=⟨g,4,none⟩) hg x4).setCell (p:=⟨g,5,none⟩) hg x5
theorem joinP_any(a b:Ru)(D o D' o':Nat)(w:World)(ha:NR a)(hb:NR b)(h1:RuAt w D o a)(h2:RuAt w D' o' b):
 Calls Tryz.prog 109 #[.pointer (some ⟨D,o,none⟩),.pointer (some ⟨D',o',none⟩)] w fun e w'=>JoinPost a b e∧Below w.heap.size w w':=by
 have HC:Hid (∀k w,Calls Tryz.prog 138 #[.iface (tyK (a.getD k K.zero)) (plK (a.getD k K.zero)),.iface (tyK (b.getD k K.zero)) (plK (b.getD k K.zero))] w fun e w'=>e=.returned (joinV (joinK (a.getD k K.zero) (b.getD k K.zero)))∧Below w.heap.size w w'):=fun k w=>by
  have:=joinConditions_any (a.getD k K.zero) (b.getD k K.zero) w (ha.2 k) (hb.2 k)
  rw[setV_form,setV_form]at this
  exact this
 have HNq:Hid (∀k w,(binOp .neq 100 (.iface (tyK (a.getD k K.zero)) (plK (a.getD k K.zero))) (.iface (tyK (b.getD k K.zero)) (plK (b.getD k K.zero)))).run Tryz.prog w=.ok (.bool (decide (a.getD k K.zero≠b.getD k K.zero))) w):=fun k w=>neq_iface (ha.2 k) (hb.2 k) w
 have HX:Hid (∀wr,Below w.heap.size w wr->∀k,k<6->wr.cell? ⟨D,o+k,none⟩=some (.iface (tyK (a.getD k K.zero)) (plK (a.getD k K.zero)))∧wr.cell? ⟨D',o'+k,none⟩=some (.iface (tyK (b.getD k K.zero)) (plK (b.getD k K.zero)))):=fun wr h k hk=>⟨(h1.below h).2 k hk,(h2.below h).2 k hk⟩
 have HCn:Hid (∀k,cntD a b (k+1)=cntD a b k+if a.getD k K.zero≠b.getD k K.zero then 1 else 0):=fun k=>rfl
 have HLa:Hid (∀k,lastD a b (k+1)=if a.getD k K.zero≠b.getD k K.zero then k else lastD a b k):=fun k=>rfl
 have HCl:Hid (∀k,cntD a b k<=k):=cntD_le a b
 have HL0:Hid (lastD a b 0=0):=rfl
 have HC0:Hid (cntD a b 0=0):=rfl
 have HL6:Hid (∀k,k<=6->lastD a b k<6):=lastD_6 a b
 have HP0:Hid (cntD a b 6≠1->JoinPost a b (.returned (.tuple #[.agg #[.nilIface,.nilIface,.nilIface,.nilIface,.nilIface,.nilIface],.bool false]))):=fun h=>.inr ⟨noJoin_cnt h,rfl⟩
 have HP1:Hid (cntD a b 6=1->joinK (a.getD (lastD a b 6) K.zero) (b.getD (lastD a b 6) K.zero)=none->JoinPost a b (.returned (.tuple #[.agg #[.nilIface,.nilIface,.nilIface,.nilIface,.nilIface,.nilIface],.bool false]))):=fun h hn=>.inr ⟨noJoin_none h hn,rfl⟩
 have HP2:Hid (cntD a b 6=1->∀c,joinK (a.getD (lastD a b 6) K.zero) (b.getD (lastD a b 6) K.zero)=some c->JoinPost a b (.returned (.tuple #[.agg ((encR a).toArray.set! (lastD a b 6) (.iface (tyK c) (plK c))),.bool true]))):=fun h c hn=>.inl ⟨_,join_some h hn,by rw[encR_set a _ c ha.1 (lastD_6 a b 6 (by omega))]⟩
 have HEn:Hid ((encR a).toArray= #[.iface (tyK (a.getD 0 K.zero)) (plK (a.getD 0 K.zero)),.iface (tyK (a.getD 1 K.zero)) (plK (a.getD 1 K.zero)),.iface (tyK (a.getD 2 K.zero)) (plK (a.getD 2 K.zero)),.iface (tyK (a.getD 3 K.zero)) (plK (a.getD 3 K.zero)),.iface (tyK (a.getD 4 K.zero)) (plK (a.getD 4 K.zero)),.iface (tyK (a.getD 5 K.zero)) (plK (a.getD 5 K.zero))]):=by unfold Hid;simp only[encR,setV_form]
 have hDl:=h1.1
 have hDl':=h2.1
 have B0:Below w.heap.size w (w.alloc (.cells #[.nilIface,.nilIface,.nilIface,.nilIface,.nilIface,.nilIface] 130)):=(Below.refl _ _).alloc (Nat.le_refl _) _
 have hr0:(w.alloc (.cells #[.nilIface,.nilIface,.nilIface,.nilIface,.nilIface,.nilIface] 130)).rowIs w.heap.size 130 6 (fun _=>.nilIface):=World.rowIs_alloc w #[.nilIface,.nilIface,.nilIface,.nilIface,.nilIface,.nilIface] 130 (fun _=>.nilIface) (fun i hi=>by
  have:i=0∨i=1∨i=2∨i=3∨i=4∨i=5:=by simp at hi;omega
  rcases this with rfl|rfl|rfl|rfl|rfl|rfl<;>rfl)
 clear h1 h2 ha hb
 generalize cntD a b=CN at*
 generalize lastD a b=LA at*
 go_enter Tryz.func109,Tryz.ntmps109
 go_wp2_with fail
 generalize w.alloc (.cells #[.nilIface,.nilIface,.nilIface,.nilIface,.nilIface,.nilIface] 130)=W at*
 go_loopw [6,7,12](fun t c i wr=>∃k:Nat,k<=6∧i=.int .i64 k∧t=.int .i64 (LA k:Nat)∧c=.int .i64 (CN k:Nat)∧Below w.heap.size w wr∧wr.rowIs w.heap.size 130 6 (fun _=>.nilIface))(fun _ _ i _=>6-(intOf i).toNat)
 case atStart=>exact⟨0,by omega,rfl,by rw[HL0.out];rfl,by rw[HC0.out];rfl,B0,hr0⟩
 case round=>
  clear B0 hr0
  obtain⟨k,hk,rfl,rfl,rfl,B,hr⟩:=hrel
  rename World=>W0
  by_cases hk6:k<6
  ·obtain⟨c0,d0⟩:=HX.out W0 B k hk6
   have hnq:=HNq.out k
   have hcn:=HCn.out k
   have hla:=HLa.out k
   have hcl:=HCl.out k
   have hk6':(k:Int)<6:=by omega
   have HR:Hid (W0.rowIs w.heap.size 130 6 (fun _=>.nilIface)):=hr
   have HBb:Hid (Below w.heap.size w W0):=B
   clear HC HNq HX HCn HLa HCl HL6 HP0 HP1 HP2 HEn HL0 HC0 hr B
   by_cases hz:a.getD k K.zero=b.getD k K.zero
   ·have e1:decide (a.getD k K.zero≠b.getD k K.zero)=false:=decide_eq_false (fun h=>h hz)
    rw[if_neg (fun h=>h hz)]at hcn hla
    rw[e1]at hnq
    have HCk:Hid (CN (k+1)=CN k):=hcn
    have HLk:Hid (LA (k+1)=LA k):=hla
    clear hcn hla hz e1
    generalize tyK (a.getD k K.zero)=T at*
    generalize plK (a.getD k K.zero)=P at*
    generalize tyK (b.getD k K.zero)=T' at*
    generalize plK (b.getD k K.zero)=P' at*
    go_wp2_with fail
    go_quiet(fail)
    have B1:=below_drewN HBb.out nq
    have R1:=HR.out.of_block (w':=W0.drewN nq) (by rfl)
    clear HBb HR
    generalize W0.drewN nq=W1 at*
    go_wp2
    go_roundw
    case rel=>exact⟨k+1,by omega,by go_num,by rw[HLk.out],by rw[HCk.out],B1,R1⟩
    case measure=>simp[intOf];omega
   ·have e1:decide (a.getD k K.zero≠b.getD k K.zero)=true:=decide_eq_true hz
    rw[if_pos hz]at hcn hla
    rw[e1]at hnq
    have HCk:Hid (CN (k+1)=CN k+1):=hcn
    have HLk:Hid (LA (k+1)=k):=hla
    clear hcn hla hz e1
    generalize tyK (a.getD k K.zero)=T at*
    generalize plK (a.getD k K.zero)=P at*
    generalize tyK (b.getD k K.zero)=T' at*
    generalize plK (b.getD k K.zero)=P' at*
    go_wp2_with fail
    go_quiet(fail)
    have B1:=below_drewN HBb.out nq
    have R1:=HR.out.of_block (w':=W0.drewN nq) (by rfl)
    clear HBb HR
    generalize W0.drewN nq=W1 at*
    go_wp2
    go_roundw
    case rel=>exact⟨k+1,by omega,by go_num,by rw[HLk.out],by rw[HCk.out];go_num,B1,R1⟩
    case measure=>simp[intOf];omega
  ·have hk':k=6:=by omega
   subst hk'
   have hla:=HL6.out 6 (by omega)
   have hcl:=HCl.out 6
   clear HCn HLa HCl HL6 HNq HL0 HC0
   generalize LA 6=L at*
   generalize CN 6=N at*
   have q0:=hr.cell (i:=0) (by omega)
   have q1:=hr.cell (i:=1) (by omega)
   have q2:=hr.cell (i:=2) (by omega)
   have q3:=hr.cell (i:=3) (by omega)
   have q4:=hr.cell (i:=4) (by omega)
   have q5:=hr.cell (i:=5) (by omega)
   have z0:=hr.frozen 0
   have z1:=hr.frozen 1
   have z2:=hr.frozen 2
   have z3:=hr.frozen 3
   have z4:=hr.frozen 4
   have z5:=hr.frozen 5
   by_cases hN:N=1
   ·subst hN
    obtain⟨c0,d0⟩:=HX.out W0 B L hla
    have HCL:Hid (∀w,Calls Tryz.prog 138 #[.iface (tyK (a.getD L K.zero)) (plK (a.getD L K.zero)),.iface (tyK (b.getD L K.zero)) (plK (b.getD L K.zero))] w fun e w'=>e=.returned (joinV (joinK (a.getD L K.zero) (b.getD L K.zero)))∧Below w.heap.size w w'):=HC.out L
    have HQ1:Hid (joinK (a.getD L K.zero) (b.getD L K.zero)=none->JoinPost a b (.returned (.tuple #[.agg #[.nilIface,.nilIface,.nilIface,.nilIface,.nilIface,.nilIface],.bool false]))):=HP1.out rfl
    have HQ2:Hid (∀c,joinK (a.getD L K.zero) (b.getD L K.zero)=some c->JoinPost a b (.returned (.tuple #[.agg ((encR a).toArray.set! L (.iface (tyK c) (plK c))),.bool true]))):=HP2.out rfl
    have HXa:Hid (∀wr,Below w.heap.size w wr->∀k,k<6->wr.cell? ⟨D,o+k,none⟩=some (.iface (tyK (a.getD k K.zero)) (plK (a.getD k K.zero)))):=fun wr h k hk=>(HX.out wr h k hk).1
    have HRow:Hid (∀w9,Below W0.heap.size W0 w9->w9.rowIs w.heap.size 130 6 (fun _=>.nilIface)∧Below w.heap.size w w9):=fun w9 h=>⟨hr.of_block (h.block _ hr.lt),B.trans (h.mono B.size)⟩
    have SK:Hid (∀wa wb,Below wa.heap.size wa wb->(Below W0.heap.size W0 wa∧wa.cell? ⟨D,o+L,none⟩=some (.iface (tyK (a.getD L K.zero)) (plK (a.getD L K.zero)))∧wa.cell? ⟨D',o'+L,none⟩=some (.iface (tyK (b.getD L K.zero)) (plK (b.getD L K.zero))))->(Below W0.heap.size W0 wb∧wb.cell? ⟨D,o+L,none⟩=some (.iface (tyK (a.getD L K.zero)) (plK (a.getD L K.zero)))∧wb.cell? ⟨D',o'+L,none⟩=some (.iface (tyK (b.getD L K.zero)) (plK (b.getD L K.zero))))):=fun wa wb hb⟨s,x,y⟩=>⟨below_step hb s,cell_step hb x,cell_step hb y⟩
    have hS0:=SK.out W0 W0.drew ((Below.refl _ _).drew) ⟨Below.refl _ _,c0,d0⟩
    have hLi:(L:Int)<6:=by omega
    clear HC HX HP0 HP1 HP2 hr B c0 d0 q0 z0 q1 z1 q2 z2 q3 z3 q4 z4 q5 z5
    generalize joinK (a.getD L K.zero) (b.getD L K.zero)=J at*
    generalize tyK (b.getD L K.zero)=T' at*
    generalize plK (b.getD L K.zero)=P' at*
    generalize tyK (a.getD L K.zero)=T at HCL SK hS0
    generalize plK (a.getD L K.zero)=P at HCL SK hS0
    go_wp2_with fail
    go_region_held3(fun w'=>Below W0.heap.size W0 w'∧w'.cell? ⟨D,o+L,none⟩=some (.iface T P)∧w'.cell? ⟨D',o'+L,none⟩=some (.iface T' P'))
     (assumption)
     (first|(go_at_call 138;refine(HCL.out _).mono ?_;rintro _ w9⟨rfl,hb9⟩;have hS9:=SK.out _ _ hb9 (by assumption)))
    all_goals
     obtain⟨R9,B9⟩:=HRow.out w9 hS9.1
     have hwl:w.heap.size<w9.heap.size:=R9.lt
     have q0:=R9.cell (i:=0) (by omega)
     have z0:=R9.frozen 0
     have q1:=R9.cell (i:=1) (by omega)
     have z1:=R9.frozen 1
     have q2:=R9.cell (i:=2) (by omega)
     have z2:=R9.frozen 2
     have q3:=R9.cell (i:=3) (by omega)
     have z3:=R9.frozen 3
     have q4:=R9.cell (i:=4) (by omega)
     have z4:=R9.frozen 4
     have q5:=R9.cell (i:=5) (by omega)
     have z5:=R9.frozen 5
     clear hS9 hb9 hS0 SK HCL HRow
     cases J with
     |none=>
      have HPo:=HQ1.out rfl
      clear HQ1 HQ2 HXa R9
      go_wp2
      exact bodyPost_ret (v:=.tuple #[.agg #[.nilIface,.nilIface,.nilIface,.nilIface,.nilIface,.nilIface],.bool false]) (by simp[results,Tryz.results109,go_sem,q0,q1,q2,q3,q4,q5]) rfl ⟨HPo,below_set6 B9 (Nat.le_refl _) _ _ _ _ _ _⟩
     |some c=>
      have HPo:Hid _:=HQ2.out c rfl
      have hjv:jVI (some c)=.iface (tyK c) (plK c):=setV_form c
      have x0:=HXa.out w9 B9 0 (by omega)
      have x1:=HXa.out w9 B9 1 (by omega)
      have x2:=HXa.out w9 B9 2 (by omega)
      have x3:=HXa.out w9 B9 3 (by omega)
      have x4:=HXa.out w9 B9 4 (by omega)
      have x5:=HXa.out w9 B9 5 (by omega)
      rw[Nat.add_zero]at x0
      rw[HEn.out]at HPo
      have hL6:L=0∨L=1∨L=2∨L=3∨L=4∨L=5:=by omega
      clear HQ1 HQ2 HXa HEn R9
      generalize tyK (a.getD 0 K.zero)=t0 at*
      generalize plK (a.getD 0 K.zero)=p0 at*
      generalize tyK (a.getD 1 K.zero)=t1 at*
      generalize plK (a.getD 1 K.zero)=p1 at*
      generalize tyK (a.getD 2 K.zero)=t2 at*
      generalize plK (a.getD 2 K.zero)=p2 at*
      generalize tyK (a.getD 3 K.zero)=t3 at*
      generalize plK (a.getD 3 K.zero)=p3 at*
      generalize tyK (a.getD 4 K.zero)=t4 at*
      generalize plK (a.getD 4 K.zero)=p4 at*
      generalize tyK (a.getD 5 K.zero)=t5 at*
      generalize plK (a.getD 5 K.zero)=p5 at*
      rcases hL6 with rfl|rfl|rfl|rfl|rfl|rfl
      ·have HPe:Hid (JoinPost a b (.returned (.tuple #[.agg #[.iface (tyK c) (plK c),.iface t1 p1,.iface t2 p2,.iface t3 p3,.iface t4 p4,.iface t5 p5],.bool true]))):=HPo.out
       clear HPo
       go_wp2
       refine bodyPost_ret (v:=.tuple #[.agg #[.iface (tyK c) (plK c),.iface t1 p1,.iface t2 p2,.iface t3 p3,.iface t4 p4,.iface t5 p5],.bool true]) (by simp[results,Tryz.results109,go_sem,q0,q1,q2,q3,q4,q5,hwl]) rfl ⟨HPe.out,?_⟩
       have Bq:=below_set6 B9 (Nat.le_refl _) (.iface (tyK c) (plK c)) (.iface t1 p1) (.iface t2 p2) (.iface t3 p3) (.iface t4 p4) (.iface t5 p5)
       exact Bq.alloc Bq.size _
      ·have HPe:Hid (JoinPost a b (.returned (.tuple #[.agg #[.iface t0 p0,.iface (tyK c) (plK c),.iface t2 p2,.iface t3 p3,.iface t4 p4,.iface t5 p5],.bool true]))):=HPo.out
       clear HPo
       go_wp2
       refine bodyPost_ret (v:=.tuple #[.agg #[.iface t0 p0,.iface (tyK c) (plK c),.iface t2 p2,.iface t3 p3,.iface t4 p4,.iface t5 p5],.bool true]) (by simp[results,Tryz.results109,go_sem,q0,q1,q2,q3,q4,q5,hwl]) rfl ⟨HPe.out,?_⟩
       have Bq:=below_set6 B9 (Nat.le_refl _) (.iface t0 p0) (.iface (tyK c) (plK c)) (.iface t2 p2) (.iface t3 p3) (.iface t4 p4) (.iface t5 p5)
       exact Bq.alloc Bq.size _
      ·have HPe:Hid (JoinPost a b (.returned (.tuple #[.agg #[.iface t0 p0,.iface t1 p1,.iface (tyK c) (plK c),.iface t3 p3,.iface t4 p4,.iface t5 p5],.bool true]))):=HPo.out
       clear HPo
       go_wp2
       refine bodyPost_ret (v:=.tuple #[.agg #[.iface t0 p0,.iface t1 p1,.iface (tyK c) (plK c),.iface t3 p3,.iface t4 p4,.iface t5 p5],.bool true]) (by simp[results,Tryz.results109,go_sem,q0,q1,q2,q3,q4,q5,hwl]) rfl ⟨HPe.out,?_⟩
       have Bq:=below_set6 B9 (Nat.le_refl _) (.iface t0 p0) (.iface t1 p1) (.iface (tyK c) (plK c)) (.iface t3 p3) (.iface t4 p4) (.iface t5 p5)
       exact Bq.alloc Bq.size _
      ·have HPe:Hid (JoinPost a b (.returned (.tuple #[.agg #[.iface t0 p0,.iface t1 p1,.iface t2 p2,.iface (tyK c) (plK c),.iface t4 p4,.iface t5 p5],.bool true]))):=HPo.out
       clear HPo
       go_wp2
       refine bodyPost_ret (v:=.tuple #[.agg #[.iface t0 p0,.iface t1 p1,.iface t2 p2,.iface (tyK c) (plK c),.iface t4 p4,.iface t5 p5],.bool true]) (by simp[results,Tryz.results109,go_sem,q0,q1,q2,q3,q4,q5,hwl]) rfl ⟨HPe.out,?_⟩
       have Bq:=below_set6 B9 (Nat.le_refl _) (.iface t0 p0) (.iface t1 p1) (.iface t2 p2) (.iface (tyK c) (plK c)) (.iface t4 p4) (.iface t5 p5)
       exact Bq.alloc Bq.size _
      ·have HPe:Hid (JoinPost a b (.returned (.tuple #[.agg #[.iface t0 p0,.iface t1 p1,.iface t2 p2,.iface t3 p3,.iface (tyK c) (plK c),.iface t5 p5],.bool true]))):=HPo.out
       clear HPo
       go_wp2
       refine bodyPost_ret (v:=.tuple #[.agg #[.iface t0 p0,.iface t1 p1,.iface t2 p2,.iface t3 p3,.iface (tyK c) (plK c),.iface t5 p5],.bool true]) (by simp[results,Tryz.results109,go_sem,q0,q1,q2,q3,q4,q5,hwl]) rfl ⟨HPe.out,?_⟩
       have Bq:=below_set6 B9 (Nat.le_refl _) (.iface t0 p0) (.iface t1 p1) (.iface t2 p2) (.iface t3 p3) (.iface (tyK c) (plK c)) (.iface t5 p5)
       exact Bq.alloc Bq.size _
      ·have HPe:Hid (JoinPost a b (.returned (.tuple #[.agg #[.iface t0 p0,.iface t1 p1,.iface t2 p2,.iface t3 p3,.iface t4 p4,.iface (tyK c) (plK c)],.bool true]))):=HPo.out
       clear HPo
       go_wp2
       refine bodyPost_ret (v:=.tuple #[.agg #[.iface t0 p0,.iface t1 p1,.iface t2 p2,.iface t3 p3,.iface t4 p4,.iface (tyK c) (plK c)],.bool true]) (by simp[results,Tryz.results109,go_sem,q0,q1,q2,q3,q4,q5,hwl]) rfl ⟨HPe.out,?_⟩
       have Bq:=below_set6 B9 (Nat.le_refl _) (.iface t0 p0) (.iface t1 p1) (.iface t2 p2) (.iface t3 p3) (.iface t4 p4) (.iface (tyK c) (plK c))
       exact Bq.alloc Bq.size _
   ·have HPo:=HP0.out hN
    have hN':¬(N:Int)=1:=by omega
    clear HC HX HP0 HP1 HP2 HEn hN hr
    go_wp2
    exact bodyPost_ret (v:=.tuple #[.agg #[.nilIface,.nilIface,.nilIface,.nilIface,.nilIface,.nilIface],.bool false]) (by simp[results,Tryz.results109,go_sem,q0,q1,q2,q3,q4,q5]) rfl ⟨HPo,below_set6 B (Nat.le_refl _) _ _ _ _ _ _⟩
end Go.Proofs.YtddemlfepjkgoaaGreat
