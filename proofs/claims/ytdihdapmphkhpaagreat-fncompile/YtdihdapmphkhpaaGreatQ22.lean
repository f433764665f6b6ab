import Derived.Laws.StructEq
import Derived.Shelf.RegionOpenPlain
import Derived.Lib.SliceRun
import Derived.Test.YtdihdapmphkhpaaGreatQ21
set_option linter.all false
set_option maxRecDepth 200000
set_option maxHeartbeats 16000000
namespace Go.Proofs.YtdihdapmphkhpaaGreat
open Go.RowKit
open srtR
variable{a b:Ru}{w:World}
def wH(w:World)(D o:Nat)(r:Ru):Prop:=D<w.heap.size∧∀i,i<6->w.cell? ⟨D,o+i,none⟩=some (.iface (tyK (r.getD i K.zero)) (plK (r.getD i K.zero)))
theorem wH.below{w1:World}{D o:Nat}{r:Ru}(h:wH w D o r)(hb:Below w.heap.size w w1):wH w1 D o r:=
 ⟨an h.1 hb.size,fun i hi=>(hb.cell (p:=⟨D,o+i,none⟩) h.1).trans (h.2 i hi)⟩
theorem Row.ruAt{D N n i:Nat}{g:Nat->Rn}(h:Row w D N n g)(hi:i<n):wH w D (i*6) (g i).val:=by
 refine⟨ic.lt h,fun j hj=> ?_⟩;obtain⟨c0,c1,c2,c3,c4,c5⟩:=Row.cells h hi;have:j=0∨j=1∨j=2∨j=3∨j=4∨j=5:=by omega
 rcases this with rfl|rfl|rfl|rfl|rfl|rfl
 ·exact c0
 ·exact c1
 ·exact c2
 ·exact c3
 ·exact c4
 exact c5
theorem zg(a b:Ru)(D o D' o':Nat)(w:World)(ha:NR a)(hb:NR b)(h1:wH w D o a)(h2:wH w D' o' b):
 Calls Tryz.prog 106 #[.pointer (some ⟨D,o,none⟩),.pointer (some ⟨D',o',none⟩)] w fun e w'=>e=.returned (.bool (fw a b))∧Below w.heap.size w w':=by
 have HC:Hid (∀k w,Calls Tryz.prog 134 #[.iface (tyK (a.getD k K.zero)) (plK (a.getD k K.zero)),.iface (tyK (b.getD k K.zero)) (plK (b.getD k K.zero))] w fun e w'=>e=.returned (.bool (fU (a.getD k K.zero) (b.getD k K.zero)))∧Below w.heap.size w w'):=fun k w=>by
  have:=yn (a.getD k K.zero) (b.getD k K.zero) w (ha.2 k) (hb.2 k)
  rw[iv,iv]at this
  exact this
 have HX:Hid (∀wr,Below w.heap.size w wr->∀k,k<6->wr.cell? ⟨D,o+k,none⟩=some (.iface (tyK (a.getD k K.zero)) (plK (a.getD k K.zero)))∧wr.cell? ⟨D',o'+k,none⟩=some (.iface (tyK (b.getD k K.zero)) (plK (b.getD k K.zero)))):=fun wr h k hk=>⟨(h1.below h).2 k hk,(h2.below h).2 k hk⟩
 have HN:Hid (∀k,k<6->fU (a.getD k K.zero) (b.getD k K.zero)=false->fw a b=false):=fun k hk h=>uh hk h
 have HY:Hid ((∀k,k<6->fU (a.getD k K.zero) (b.getD k K.zero)=true)->fw a b=true):=(kW a b).2
 clear h1 h2 ha hb
 generalize fw a b=R at*
 go_enter Tryz.func106,Tryz.ntmps106
 go_wp2_with fail
 go_loopw [6](fun i wr=>∃k:Nat,k<=6∧i=.int .i64 k∧Hid (∀j,j<k->fU (a.getD j K.zero) (b.getD j K.zero)=true)∧Below w.heap.size w wr)(fun i _=>6-(intOf i).toNat)
 case atStart=>exact⟨0,by omega,rfl,fun j hj=>by omega,af _ _⟩
 case round=>
  obtain⟨k,hk,rfl,HJ,B⟩:=hrel
  rename World=>W0
  by_cases hk6:k<6
  ·obtain⟨c0,d0⟩:=HX.out W0 B k hk6
   have HCk:Hid _:=HC.out k
   have HNk:Hid (fU (a.getD k K.zero) (b.getD k K.zero)=false->R=false):=HN.out k hk6
   have HJ1:Hid (fU (a.getD k K.zero) (b.getD k K.zero)=true->∀j,j<k+1->fU (a.getD j K.zero) (b.getD j K.zero)=true):=fun h j hj=>by
    by_cases hjk:j=k
    ·subst hjk;exact h
    ·exact HJ.out j (by omega)
   have hk6':(k:Int)<6:=by omega
   clear HC HX HN HY HJ
   generalize fU (a.getD k K.zero) (b.getD k K.zero)=Z at*
   generalize tyK (a.getD k K.zero)=T at*
   generalize plK (a.getD k K.zero)=P at*
   generalize tyK (b.getD k K.zero)=T' at*
   generalize plK (b.getD k K.zero)=P' at*
   have SK:Hid (∀wa wb,Below wa.heap.size wa wb->(Below w.heap.size w wa∧wa.cell? ⟨D,o+k,none⟩=some (.iface T P)∧wa.cell? ⟨D',o'+k,none⟩=some (.iface T' P'))->(Below w.heap.size w wb∧wb.cell? ⟨D,o+k,none⟩=some (.iface T P)∧wb.cell? ⟨D',o'+k,none⟩=some (.iface T' P'))):=fun wa wb hb⟨s,x,y⟩=>⟨eo hb s,eh hb x,eh hb y⟩
   have hS0:=SK.out W0 W0.drew ((af _ _).drew) ⟨B,c0,d0⟩
   clear c0 d0 B
   go_wp2_with fail
   go_region_held3(fun w'=>Below w.heap.size w w'∧w'.cell? ⟨D,o+k,none⟩=some (.iface T P)∧w'.cell? ⟨D',o'+k,none⟩=some (.iface T' P'))
    (assumption)
    (first|(go_at_call 134;refine(HCk.out _).mono ?_;rintro _ w9⟨rfl,hb9⟩;have hS9:=SK.out _ _ hb9 (by assumption)))
   all_goals
    have B1:Below w.heap.size w w9:=hS9.1
    clear hS9 hb9 hS0
    cases Z with
    |false=>
     have hR:R=false:=HNk.out rfl
     subst hR
     go_wp2
     go_ret
     exact⟨rfl,B1⟩
    |true=>
     have HJ2:Hid (∀j,j<k+1->fU (a.getD j K.zero) (b.getD j K.zero)=true):=HJ1.out rfl
     go_wp2
     go_roundw
     case rel=>exact⟨k+1,by omega,by go_num,HJ2,B1⟩
     case measure=>simp[intOf];omega
  ·have hk':k=6:=by omega
   subst hk'
   have hR:R=true:=HY.out HJ.out
   subst hR
   clear HC HX HN HY HJ
   go_wp2
   go_ret
   exact⟨rfl,B⟩
theorem Ez(a b a' b':Int)(w:World)(d:Nat):(Op.equalIn (d+2) 202 (.agg #[.int .u64 a,.int .u64 b]) (.agg #[.int .u64 a',.int .u64 b'])).run Tryz.prog w=.ok ((a==a')&&(b==b')) w:=by
 rw[run_equalIn_struct w (d+1) 202 _ _ (by kernel_rfl) (by kernel_rfl)];simp[Program.fieldsOf,Tryz.underlying202,Op.eqFields,go_sem]
 cases h1:(a==a')<;>cases h2:(b==b')<;>simp_all
theorem Cm(a b a' b':Int)(w:World)(d:Nat):(Op.equalIn (d+2) 205 (.agg #[.int .u64 a,.int .u64 b]) (.agg #[.int .u64 a',.int .u64 b'])).run Tryz.prog w=.ok ((a==a')&&(b==b')) w:=by
 rw[run_equalIn_struct w (d+1) 205 _ _ (by kernel_rfl) (by kernel_rfl)];simp[Program.fieldsOf,Tryz.underlying205,Op.eqFields,go_sem]
 cases h1:(a==a')<;>cases h2:(b==b')<;>simp_all
theorem uu(T:TypeId)(v v':Value)(r:Bool)(w:World)(hc:(Tryz.prog.info? T).map (·.comparable)=some true)(h:∀d,(Op.equalIn (d+2) T v v').run Tryz.prog w=.ok r w):(binOp .neq 115 (.iface T v) (.iface T v')).run Tryz.prog w=.ok (.bool (!r)) w:=by
 cases hi:Tryz.prog.info? T with
 |none=>simp[hi]at hc
 |some i=>
  have hcc:i.comparable=true:=by simpa[hi]using hc
  have h2:∀d:Nat,(Op.equalIn (d+3) 115 (.iface T v) (.iface T v')).run Tryz.prog w=.ok r w:=fun d=>by
   rw[Op.equalIn];simp[run_underlying Tryz.underlying115,typeInfo,hi,hcc,h d]
  simp only[binOp];simp[Op.equal,Op.maxDepth,h2 9997]
theorem lK(T T':TypeId)(v v':Value)(w:World)(h:T≠T'):(binOp .neq 115 (.iface T v) (.iface T' v')).run Tryz.prog w=.ok (.bool true) w:=by
 have h2:∀d:Nat,(Op.equalIn (d+1) 115 (.iface T v) (.iface T' v')).run Tryz.prog w=.ok false w:=fun d=>by simp[Op.equalIn,run_underlying Tryz.underlying115,h]
 simp only[binOp];simp[Op.equal,Op.maxDepth,h2 9999]
theorem Ey{c d:K}(hc:fZ c)(hd:fZ d)(w:World):(binOp .neq 115 (.iface (tyK c) (plK c)) (.iface (tyK d) (plK d))).run Tryz.prog w=.ok (.bool (decide (c≠d))) w:=by
 have kN:∀x y:Nat,((x:Int)==(y:Int))=decide (x=y):=fun x y=>by rw[cB,beq_iff_eq,decide_eq_true_eq];omega
 rcases hc with rfl|⟨a,b,rfl,_⟩|⟨a,b,rfl,_⟩<;>rcases hd with rfl|⟨a',b',rfl,_⟩|⟨a',b',rfl,_⟩
 ·exact uu 186 (.agg #[]) (.agg #[]) true w (by kernel_rfl) (fun d=>by
  rw[run_equalIn_struct w (d+1) 186 _ _ (by kernel_rfl) (by kernel_rfl)]
  simp[Program.fieldsOf,Tryz.underlying186,Op.eqFields,go_sem])
 ·exact(lK _ _ _ _ w (by simp[tyK])).trans (by simp)
 ·exact(lK _ _ _ _ w (by simp[tyK])).trans (by simp)
 ·exact(lK _ _ _ _ w (by simp[tyK])).trans (by simp)
 ·refine(uu 202 _ _ _ w (by kernel_rfl) (fun d=>Ez _ _ _ _ w d)).trans ?_;rw[kN,kN];congr 2;rw[cB];simp
 ·exact(lK _ _ _ _ w (by simp[tyK])).trans (by simp)
 ·exact(lK _ _ _ _ w (by simp[tyK])).trans (by simp)
 ·exact(lK _ _ _ _ w (by simp[tyK])).trans (by simp)
 refine(uu 205 _ _ _ w (by kernel_rfl) (fun d=>Cm _ _ _ _ w d)).trans ?_;rw[kN,kN];congr 2;rw[cB];simp
def mv(a b:Ru):Nat->Nat
 |0=>0
 |k+1=>mv a b k+if a.getD k K.zero≠b.getD k K.zero then 1 else 0
def iB(a b:Ru):Nat->Nat
 |0=>0
 |k+1=>if a.getD k K.zero≠b.getD k K.zero then k else iB a b k
theorem Di(a b:Ru):∀k,mv a b k<=k
 |0=>ae _
 |k+1=>by have:=Di a b k;unfold mv;split<;>omega
theorem zq(a b:Ru):∀k,iB a b (k+1)<k+1
 |0=>by unfold iB;split<;>simp[iB]
 |k+1=>by have:=zq a b k;unfold iB;split<;>omega
theorem C6(a b:Ru):∀k,k<=6->iB a b k<6
 |0,_=>by simp[iB]
 |k+1,h=>by have:=zq a b k;omega
theorem Ga{a b:Ru}:∀k,mv a b k=0->∀j,j<k->a.getD j K.zero=b.getD j K.zero
 |0,_,j,hj=>by omega
 |k+1,h,j,hj=>by
  unfold mv at h;by_cases e:a.getD k K.zero=b.getD k K.zero
  ·rw[if_neg (by simpa using e)]at h;by_cases hjk:j=k
   ·subst hjk;exact e
   exact Ga k (by omega) j (by omega)
  rw[if_pos e]at h;omega
theorem BG{a b:Ru}:∀k,mv a b k=1->iB a b k<k∧a.getD (iB a b k) K.zero≠b.getD (iB a b k) K.zero∧∀j,j<k->j≠iB a b k->a.getD j K.zero=b.getD j K.zero
 |0,h=>by simp[mv]at h
 |k+1,h=>by
  unfold mv at h;unfold iB;by_cases e:a.getD k K.zero=b.getD k K.zero
  ·rw[if_neg (by simpa using e)]at h;rw[if_neg (by simpa using e)];obtain⟨h1,h2,h3⟩:=BG k (by omega);refine⟨by omega,h2,fun j hj hne=> ?_⟩;by_cases hjk:j=k
   ·subst hjk;exact e
   exact h3 j (by omega) hne
  rw[if_pos e]at h;rw[if_pos e];exact⟨by omega,e,fun j hj hne=>Ga k (by omega) j (by omega)⟩
theorem yP{a b:Ru}{i:Nat}(hi:a.getD i K.zero≠b.getD i K.zero):∀k,(∀j,j<k->j≠i->a.getD j K.zero=b.getD j K.zero)->mv a b k=if i<k then 1 else 0
 |0,_=>by simp[mv]
 |k+1,h=>by
  have ih:=yP hi k (fun j hj hne=>h j (by omega) hne);unfold mv;rw[ih];by_cases e:k=i
  ·subst e;rw[if_neg (by omega),if_pos hi,if_pos (by omega)]
  have hz:(if a.getD k K.zero≠b.getD k K.zero then 1 else 0)=0:=if_neg (fun hne=>hne (h k (by omega) e));rw[hz];by_cases hik:i<k
  ·rw[if_pos hik,if_pos (by omega)]
  rw[if_neg hik,if_neg (by omega)]
theorem AW(h:mv a b 6≠1):gj a b:=by
 rintro r⟨i,c,⟨h1,h2,h3,h4⟩,_⟩;apply h;rw[yP h2 6 h3,if_pos h1]
theorem zK(h:mv a b 6=1)(hn:gl (a.getD (iB a b 6) K.zero) (b.getD (iB a b 6) K.zero)=none):gj a b:=by
 rintro r⟨i,c,⟨h1,h2,h3,h4⟩,_⟩;obtain⟨k1,k2,k3⟩:=BG 6 h;have:i=iB a b 6:=by
  by_cases e:i=iB a b 6
  ·exact e
  exact absurd (k3 i h1 e) h2
 rw[this,hn]at h4;cases h4
theorem join_some{c:K}(h:mv a b 6=1)(hn:gl (a.getD (iB a b 6) K.zero) (b.getD (iB a b 6) K.zero)=some c):jD a b (a.set (iB a b 6) c):=by
 obtain⟨k1,k2,k3⟩:=BG 6 h;exact⟨_,c,⟨k1,k2,k3,hn⟩,rfl⟩
def iz(a b:Ru)(e:Ending):Prop:=(∃r,jD a b r∧e=.returned (.tuple #[.agg (kY r).toArray,.bool true]))∨(gj a b∧e=.returned (.tuple #[.agg #[.nilIface,.nilIface,.nilIface,.nilIface,.nilIface,.nilIface],.bool false]))
theorem GJ(a:Ru)(i:Nat)(c:K)(hl:a.length=6)(hi:i<6):(kY (a.set i c)).toArray=(kY a).toArray.set! i (.iface (tyK c) (plK c)):=by
 have:i=0∨i=1∨i=2∨i=3∨i=4∨i=5:=by omega
 rcases this with rfl|rfl|rfl|rfl|rfl|rfl<;>simp[kY,iv,hl]
theorem gI{n:Nat}{w':World}{g:Nat}(h:Below n w w')(hg:n<=g)(x0 x1 x2 x3 x4 x5:Value):Below n w ((((((w'.setCell ⟨g,0,none⟩ x0).setCell ⟨g,1,none⟩ x1).setCell ⟨g,2,none⟩ x2).setCell ⟨g,3,none⟩ x3).setCell ⟨g,4,none⟩ x4).setCell ⟨g,5,none⟩ x5):=
 (((((h.setCell (p:=⟨g,0,none⟩) hg x0).setCell (p:=⟨g,1,none⟩) hg x1).setCell (p:=⟨g,2,none⟩) hg x2).setCell (p:=⟨g,3,none⟩) hg x3).setCell (p:=⟨g,4,none⟩) hg x4).setCell (p:=⟨g,5,none⟩) hg x5
theorem Dq(a b:Ru)(D o D' o':Nat)(w:World)(ha:NR a)(hb:NR b)(h1:wH w D o a)(h2:wH w D' o' b):
 Calls Tryz.prog 108 #[.pointer (some ⟨D,o,none⟩),.pointer (some ⟨D',o',none⟩)] w fun e w'=>iz a b e∧Below w.heap.size w w':=by
 have HC:Hid (∀k w,Calls Tryz.prog 135 #[.iface (tyK (a.getD k K.zero)) (plK (a.getD k K.zero)),.iface (tyK (b.getD k K.zero)) (plK (b.getD k K.zero))] w fun e w'=>e=.returned (xy (gl (a.getD k K.zero) (b.getD k K.zero)))∧Below w.heap.size w w'):=fun k w=>by
  have:=qR (a.getD k K.zero) (b.getD k K.zero) w (ha.2 k) (hb.2 k)
  rw[iv,iv]at this
  exact this
 have HNq:Hid (∀k w,(binOp .neq 115 (.iface (tyK (a.getD k K.zero)) (plK (a.getD k K.zero))) (.iface (tyK (b.getD k K.zero)) (plK (b.getD k K.zero)))).run Tryz.prog w=.ok (.bool (decide (a.getD k K.zero≠b.getD k K.zero))) w):=fun k w=>Ey (ha.2 k) (hb.2 k) w
 have HX:Hid (∀wr,Below w.heap.size w wr->∀k,k<6->wr.cell? ⟨D,o+k,none⟩=some (.iface (tyK (a.getD k K.zero)) (plK (a.getD k K.zero)))∧wr.cell? ⟨D',o'+k,none⟩=some (.iface (tyK (b.getD k K.zero)) (plK (b.getD k K.zero)))):=fun wr h k hk=>⟨(h1.below h).2 k hk,(h2.below h).2 k hk⟩
 have HCn:Hid (∀k,mv a b (k+1)=mv a b k+if a.getD k K.zero≠b.getD k K.zero then 1 else 0):=fun k=>rfl
 have HLa:Hid (∀k,iB a b (k+1)=if a.getD k K.zero≠b.getD k K.zero then k else iB a b k):=fun k=>rfl
 have HCl:Hid (∀k,mv a b k<=k):=Di a b
 have HL0:Hid (iB a b 0=0):=rfl
 have HC0:Hid (mv a b 0=0):=rfl
 have HL6:Hid (∀k,k<=6->iB a b k<6):=C6 a b
 have HP0:Hid (mv a b 6≠1->iz a b (.returned (.tuple #[.agg #[.nilIface,.nilIface,.nilIface,.nilIface,.nilIface,.nilIface],.bool false]))):=fun h=>.inr ⟨AW h,rfl⟩
 have HP1:Hid (mv a b 6=1->gl (a.getD (iB a b 6) K.zero) (b.getD (iB a b 6) K.zero)=none->iz a b (.returned (.tuple #[.agg #[.nilIface,.nilIface,.nilIface,.nilIface,.nilIface,.nilIface],.bool false]))):=fun h hn=>.inr ⟨zK h hn,rfl⟩
 have HP2:Hid (mv a b 6=1->∀c,gl (a.getD (iB a b 6) K.zero) (b.getD (iB a b 6) K.zero)=some c->iz a b (.returned (.tuple #[.agg ((kY a).toArray.set! (iB a b 6) (.iface (tyK c) (plK c))),.bool true]))):=fun h c hn=>.inl ⟨_,join_some h hn,by rw[GJ a _ c ha.1 (C6 a b 6 (by omega))]⟩
 have HEn:Hid ((kY a).toArray= #[.iface (tyK (a.getD 0 K.zero)) (plK (a.getD 0 K.zero)),.iface (tyK (a.getD 1 K.zero)) (plK (a.getD 1 K.zero)),.iface (tyK (a.getD 2 K.zero)) (plK (a.getD 2 K.zero)),.iface (tyK (a.getD 3 K.zero)) (plK (a.getD 3 K.zero)),.iface (tyK (a.getD 4 K.zero)) (plK (a.getD 4 K.zero)),.iface (tyK (a.getD 5 K.zero)) (plK (a.getD 5 K.zero))]):=by unfold Hid;simp only[kY,iv]
 have hDl:=h1.1
 have hDl':=h2.1
 have B0:Below w.heap.size w (w.alloc (.cells #[.nilIface,.nilIface,.nilIface,.nilIface,.nilIface,.nilIface] 117)):=(af _ _).alloc (ae _) _
 have hr0:(w.alloc (.cells #[.nilIface,.nilIface,.nilIface,.nilIface,.nilIface,.nilIface] 117)).rowIs w.heap.size 117 6 (fun _=>.nilIface):=dn w #[.nilIface,.nilIface,.nilIface,.nilIface,.nilIface,.nilIface] 117 (fun _=>.nilIface) (fun i hi=>by
  have:i=0∨i=1∨i=2∨i=3∨i=4∨i=5:=by simp at hi;omega
  rcases this with rfl|rfl|rfl|rfl|rfl|rfl<;>rfl)
 clear h1 h2 ha hb
 generalize mv a b=CN at*
 generalize iB a b=LA at*
 go_enter Tryz.func108,Tryz.ntmps108
 go_wp2_with fail
 generalize w.alloc (.cells #[.nilIface,.nilIface,.nilIface,.nilIface,.nilIface,.nilIface] 117)=W at*
 go_loopw [6,7,12](fun t c i wr=>∃k:Nat,k<=6∧i=.int .i64 k∧t=.int .i64 (LA k:Nat)∧c=.int .i64 (CN k:Nat)∧Below w.heap.size w wr∧wr.rowIs w.heap.size 117 6 (fun _=>.nilIface))(fun _ _ i _=>6-(intOf i).toNat)
 case atStart=>exact⟨0,by omega,rfl,by rw[HL0.out];rfl,by rw[HC0.out];rfl,B0,hr0⟩
 case round=>
  clear B0 hr0
  obtain⟨k,hk,rfl,rfl,rfl,B,hr⟩:=hrel
  rename World=>W0
  by_cases hk6:k<6
  ·obtain⟨c0,d0⟩:=HX.out W0 B k hk6
   have hnq:=HNq.out k
   have hcn:=HCn.out k
   have hla:=HLa.out k
   have hcl:=HCl.out k
   have hk6':(k:Int)<6:=by omega
   have HR:Hid (W0.rowIs w.heap.size 117 6 (fun _=>.nilIface)):=hr
   have HBb:Hid (Below w.heap.size w W0):=B
   clear HC HNq HX HCn HLa HCl HL6 HP0 HP1 HP2 HEn HL0 HC0 hr B
   by_cases hz:a.getD k K.zero=b.getD k K.zero
   ·have e1:decide (a.getD k K.zero≠b.getD k K.zero)=false:=decide_eq_false (fun h=>h hz)
    rw[if_neg (fun h=>h hz)]at hcn hla
    rw[e1]at hnq
    have HCk:Hid (CN (k+1)=CN k):=hcn
    have HLk:Hid (LA (k+1)=LA k):=hla
    clear hcn hla hz e1
    generalize tyK (a.getD k K.zero)=T at*
    generalize plK (a.getD k K.zero)=P at*
    generalize tyK (b.getD k K.zero)=T' at*
    generalize plK (b.getD k K.zero)=P' at*
    go_wp2_with fail
    go_quiet(fail)
    have B1:=below_drewN HBb.out nq
    have R1:=HR.out.of_block (w':=W0.drewN nq) (by rfl)
    clear HBb HR
    generalize W0.drewN nq=W1 at*
    go_wp2
    go_roundw
    case rel=>exact⟨k+1,by omega,by go_num,by rw[HLk.out],by rw[HCk.out],B1,R1⟩
    case measure=>simp[intOf];omega
   ·have e1:decide (a.getD k K.zero≠b.getD k K.zero)=true:=decide_eq_true hz
    rw[if_pos hz]at hcn hla
    rw[e1]at hnq
    have HCk:Hid (CN (k+1)=CN k+1):=hcn
    have HLk:Hid (LA (k+1)=k):=hla
    clear hcn hla hz e1
    generalize tyK (a.getD k K.zero)=T at*
    generalize plK (a.getD k K.zero)=P at*
    generalize tyK (b.getD k K.zero)=T' at*
    generalize plK (b.getD k K.zero)=P' at*
    go_wp2_with fail
    go_quiet(fail)
    have B1:=below_drewN HBb.out nq
    have R1:=HR.out.of_block (w':=W0.drewN nq) (by rfl)
    clear HBb HR
    generalize W0.drewN nq=W1 at*
    go_wp2
    go_roundw
    case rel=>exact⟨k+1,by omega,by go_num,by rw[HLk.out],by rw[HCk.out];go_num,B1,R1⟩
    case measure=>simp[intOf];omega
  ·have hk':k=6:=by omega
   subst hk'
   have hla:=HL6.out 6 (by omega)
   have hcl:=HCl.out 6
   clear HCn HLa HCl HL6 HNq HL0 HC0
   generalize LA 6=L at*
   generalize CN 6=N at*
   have q0:=hr.cell (i:=0) (by omega)
   have q1:=hr.cell (i:=1) (by omega)
   have q2:=hr.cell (i:=2) (by omega)
   have q3:=hr.cell (i:=3) (by omega)
   have q4:=hr.cell (i:=4) (by omega)
   have q5:=hr.cell (i:=5) (by omega)
   have z0:=hr.frozen 0
   have z1:=hr.frozen 1
   have z2:=hr.frozen 2
   have z3:=hr.frozen 3
   have z4:=hr.frozen 4
   have z5:=hr.frozen 5
   by_cases hN:N=1
   ·subst hN
    obtain⟨c0,d0⟩:=HX.out W0 B L hla
    have HCL:Hid (∀w,Calls Tryz.prog 135 #[.iface (tyK (a.getD L K.zero)) (plK (a.getD L K.zero)),.iface (tyK (b.getD L K.zero)) (plK (b.getD L K.zero))] w fun e w'=>e=.returned (xy (gl (a.getD L K.zero) (b.getD L K.zero)))∧Below w.heap.size w w'):=HC.out L
    have HQ1:Hid (gl (a.getD L K.zero) (b.getD L K.zero)=none->iz a b (.returned (.tuple #[.agg #[.nilIface,.nilIface,.nilIface,.nilIface,.nilIface,.nilIface],.bool false]))):=HP1.out rfl
    have HQ2:Hid (∀c,gl (a.getD L K.zero) (b.getD L K.zero)=some c->iz a b (.returned (.tuple #[.agg ((kY a).toArray.set! L (.iface (tyK c) (plK c))),.bool true]))):=HP2.out rfl
    have HXa:Hid (∀wr,Below w.heap.size w wr->∀k,k<6->wr.cell? ⟨D,o+k,none⟩=some (.iface (tyK (a.getD k K.zero)) (plK (a.getD k K.zero)))):=fun wr h k hk=>(HX.out wr h k hk).1
    have HRow:Hid (∀w9,Below W0.heap.size W0 w9->w9.rowIs w.heap.size 117 6 (fun _=>.nilIface)∧Below w.heap.size w w9):=fun w9 h=>⟨hr.of_block (h.block _ hr.lt),B.trans (h.mono B.size)⟩
    have SK:Hid (∀wa wb,Below wa.heap.size wa wb->(Below W0.heap.size W0 wa∧wa.cell? ⟨D,o+L,none⟩=some (.iface (tyK (a.getD L K.zero)) (plK (a.getD L K.zero)))∧wa.cell? ⟨D',o'+L,none⟩=some (.iface (tyK (b.getD L K.zero)) (plK (b.getD L K.zero))))->(Below W0.heap.size W0 wb∧wb.cell? ⟨D,o+L,none⟩=some (.iface (tyK (a.getD L K.zero)) (plK (a.getD L K.zero)))∧wb.cell? ⟨D',o'+L,none⟩=some (.iface (tyK (b.getD L K.zero)) (plK (b.getD L K.zero))))):=fun wa wb hb⟨s,x,y⟩=>⟨eo hb s,eh hb x,eh hb y⟩
    have hS0:=SK.out W0 W0.drew ((af _ _).drew) ⟨af _ _,c0,d0⟩
    have hLi:(L:Int)<6:=by omega
    clear HC HX HP0 HP1 HP2 hr B c0 d0 q0 z0 q1 z1 q2 z2 q3 z3 q4 z4 q5 z5
    generalize gl (a.getD L K.zero) (b.getD L K.zero)=J at*
    generalize tyK (b.getD L K.zero)=T' at*
    generalize plK (b.getD L K.zero)=P' at*
    generalize tyK (a.getD L K.zero)=T at HCL SK hS0
    generalize plK (a.getD L K.zero)=P at HCL SK hS0
    go_wp2_with fail
    go_region_held3(fun w'=>Below W0.heap.size W0 w'∧w'.cell? ⟨D,o+L,none⟩=some (.iface T P)∧w'.cell? ⟨D',o'+L,none⟩=some (.iface T' P'))
     (assumption)
     (first|(go_at_call 135;refine(HCL.out _).mono ?_;rintro _ w9⟨rfl,hb9⟩;have hS9:=SK.out _ _ hb9 (by assumption)))
    all_goals
     obtain⟨R9,B9⟩:=HRow.out w9 hS9.1
     have hwl:w.heap.size<w9.heap.size:=R9.lt
     have q0:=R9.cell (i:=0) (by omega)
     have z0:=R9.frozen 0
     have q1:=R9.cell (i:=1) (by omega)
     have z1:=R9.frozen 1
     have q2:=R9.cell (i:=2) (by omega)
     have z2:=R9.frozen 2
     have q3:=R9.cell (i:=3) (by omega)
     have z3:=R9.frozen 3
     have q4:=R9.cell (i:=4) (by omega)
     have z4:=R9.frozen 4
     have q5:=R9.cell (i:=5) (by omega)
     have z5:=R9.frozen 5
     clear hS9 hb9 hS0 SK HCL HRow
     cases J with
     |none=>
      have HPo:=HQ1.out rfl
      clear HQ1 HQ2 HXa R9
      go_wp2
      exact bodyPost_ret (v:=.tuple #[.agg #[.nilIface,.nilIface,.nilIface,.nilIface,.nilIface,.nilIface],.bool false]) (by simp[results,Tryz.results108,go_sem,q0,q1,q2,q3,q4,q5]) rfl ⟨HPo,gI B9 (ae _) _ _ _ _ _ _⟩
     |some c=>
      have HPo:Hid _:=HQ2.out c rfl
      have hjv:jVI (some c)=.iface (tyK c) (plK c):=iv c
      have x0:=HXa.out w9 B9 0 (by omega)
      have x1:=HXa.out w9 B9 1 (by omega)
      have x2:=HXa.out w9 B9 2 (by omega)
      have x3:=HXa.out w9 B9 3 (by omega)
      have x4:=HXa.out w9 B9 4 (by omega)
      have x5:=HXa.out w9 B9 5 (by omega)
      rw[cA]at x0
      rw[HEn.out]at HPo
      have hL6:L=0∨L=1∨L=2∨L=3∨L=4∨L=5:=by omega
      clear HQ1 HQ2 HXa HEn R9
      generalize tyK (a.getD 0 K.zero)=t0 at*
      generalize plK (a.getD 0 K.zero)=p0 at*
      generalize tyK (a.getD 1 K.zero)=t1 at*
      generalize plK (a.getD 1 K.zero)=p1 at*
      generalize tyK (a.getD 2 K.zero)=t2 at*
      generalize plK (a.getD 2 K.zero)=p2 at*
      generalize tyK (a.getD 3 K.zero)=t3 at*
      generalize plK (a.getD 3 K.zero)=p3 at*
      generalize tyK (a.getD 4 K.zero)=t4 at*
      generalize plK (a.getD 4 K.zero)=p4 at*
      generalize tyK (a.getD 5 K.zero)=t5 at*
      generalize plK (a.getD 5 K.zero)=p5 at*
      rcases hL6 with rfl|rfl|rfl|rfl|rfl|rfl
      ·have HPe:Hid (iz a b (.returned (.tuple #[.agg #[.iface (tyK c) (plK c),.iface t1 p1,.iface t2 p2,.iface t3 p3,.iface t4 p4,.iface t5 p5],.bool true]))):=HPo.out
       clear HPo
       go_wp2
       refine bodyPost_ret (v:=.tuple #[.agg #[.iface (tyK c) (plK c),.iface t1 p1,.iface t2 p2,.iface t3 p3,.iface t4 p4,.iface t5 p5],.bool true]) (by simp[results,Tryz.results108,go_sem,q0,q1,q2,q3,q4,q5,hwl]) rfl ⟨HPe.out,?_⟩
       have Bq:=gI B9 (ae _) (.iface (tyK c) (plK c)) (.iface t1 p1) (.iface t2 p2) (.iface t3 p3) (.iface t4 p4) (.iface t5 p5)
       exact Bq.alloc Bq.size _
      ·have HPe:Hid (iz a b (.returned (.tuple #[.agg #[.iface t0 p0,.iface (tyK c) (plK c),.iface t2 p2,.iface t3 p3,.iface t4 p4,.iface t5 p5],.bool true]))):=HPo.out
       clear HPo
       go_wp2
       refine bodyPost_ret (v:=.tuple #[.agg #[.iface t0 p0,.iface (tyK c) (plK c),.iface t2 p2,.iface t3 p3,.iface t4 p4,.iface t5 p5],.bool true]) (by simp[results,Tryz.results108,go_sem,q0,q1,q2,q3,q4,q5,hwl]) rfl ⟨HPe.out,?_⟩
       have Bq:=gI B9 (ae _) (.iface t0 p0) (.iface (tyK c) (plK c)) (.iface t2 p2) (.iface t3 p3) (.iface t4 p4) (.iface t5 p5)
       exact Bq.alloc Bq.size _
      ·have HPe:Hid (iz a b (.returned (.tuple #[.agg #[.iface t0 p0,.iface t1 p1,.iface (tyK c) (plK c),.iface t3 p3,.iface t4 p4,.iface t5 p5],.bool true]))):=HPo.out
       clear HPo
       go_wp2
       refine bodyPost_ret (v:=.tuple #[.agg #[.iface t0 p0,.iface t1 p1,.iface (tyK c) (plK c),.iface t3 p3,.iface t4 p4,.iface t5 p5],.bool true]) (by simp[results,Tryz.results108,go_sem,q0,q1,q2,q3,q4,q5,hwl]) rfl ⟨HPe.out,?_⟩
       have Bq:=gI B9 (ae _) (.iface t0 p0) (.iface t1 p1) (.iface (tyK c) (plK c)) (.iface t3 p3) (.iface t4 p4) (.iface t5 p5)
       exact Bq.alloc Bq.size _
      ·have HPe:Hid (iz a b (.returned (.tuple #[.agg #[.iface t0 p0,.iface t1 p1,.iface t2 p2,.iface (tyK c) (plK c),.iface t4 p4,.iface t5 p5],.bool true]))):=HPo.out
       clear HPo
       go_wp2
       refine bodyPost_ret (v:=.tuple #[.agg #[.iface t0 p0,.iface t1 p1,.iface t2 p2,.iface (tyK c) (plK c),.iface t4 p4,.iface t5 p5],.bool true]) (by simp[results,Tryz.results108,go_sem,q0,q1,q2,q3,q4,q5,hwl]) rfl ⟨HPe.out,?_⟩
       have Bq:=gI B9 (ae _) (.iface t0 p0) (.iface t1 p1) (.iface t2 p2) (.iface (tyK c) (plK c)) (.iface t4 p4) (.iface t5 p5)
       exact Bq.alloc Bq.size _
      ·have HPe:Hid (iz a b (.returned (.tuple #[.agg #[.iface t0 p0,.iface t1 p1,.iface t2 p2,.iface t3 p3,.iface (tyK c) (plK c),.iface t5 p5],.bool true]))):=HPo.out
       clear HPo
       go_wp2
       refine bodyPost_ret (v:=.tuple #[.agg #[.iface t0 p0,.iface t1 p1,.iface t2 p2,.iface t3 p3,.iface (tyK c) (plK c),.iface t5 p5],.bool true]) (by simp[results,Tryz.results108,go_sem,q0,q1,q2,q3,q4,q5,hwl]) rfl ⟨HPe.out,?_⟩
       have Bq:=gI B9 (ae _) (.iface t0 p0) (.iface t1 p1) (.iface t2 p2) (.iface t3 p3) (.iface (tyK c) (plK c)) (.iface t5 p5)
       exact Bq.alloc Bq.size _
      ·have HPe:Hid (iz a b (.returned (.tuple #[.agg #[.iface t0 p0,.iface t1 p1,.iface t2 p2,.iface t3 p3,.iface t4 p4,.iface (tyK c) (plK c)],.bool true]))):=HPo.out
       clear HPo
       go_wp2
       refine bodyPost_ret (v:=.tuple #[.agg #[.iface t0 p0,.iface t1 p1,.iface t2 p2,.iface t3 p3,.iface t4 p4,.iface (tyK c) (plK c)],.bool true]) (by simp[results,Tryz.results108,go_sem,q0,q1,q2,q3,q4,q5,hwl]) rfl ⟨HPe.out,?_⟩
       have Bq:=gI B9 (ae _) (.iface t0 p0) (.iface t1 p1) (.iface t2 p2) (.iface t3 p3) (.iface t4 p4) (.iface (tyK c) (plK c))
       exact Bq.alloc Bq.size _
   ·have HPo:=HP0.out hN
    have hN':¬(N:Int)=1:=by omega
    clear HC HX HP0 HP1 HP2 HEn hN hr
    go_wp2
    exact bodyPost_ret (v:=.tuple #[.agg #[.nilIface,.nilIface,.nilIface,.nilIface,.nilIface,.nilIface],.bool false]) (by simp[results,Tryz.results108,go_sem,q0,q1,q2,q3,q4,q5]) rfl ⟨HPo,gI B (ae _) _ _ _ _ _ _⟩
end Go.Proofs.YtdihdapmphkhpaaGreat
namespace Go.Proofs.YtdihdapmphkhpaaGreat.srtR
open Go.Shelf Go.RowKit Go.Lib Go.Sort
theorem AZ:(Tryz.prog.info? 117).map (fun i=>(i.zero,i.size,i.bytes))=some (some (.agg #[.nilIface,.nilIface,.nilIface,.nilIface,.nilIface,.nilIface]),6,96):=by kernel_rfl
theorem AA(b o n cap:Nat)(g:Nat->Rn)(w:World)(hs:SrcF ju 6 w b o n g)(h0:0<n)(hn:n<=1048576):
 Calls Tryz.prog 64 #[.slice (some ⟨b,o,none⟩) n cap,.func (.func 65) #[] #[]] w fun e w'=>∃v m g',e=.returned v∧m<=n∧GD 117 ju 6 w' w.heap.size v m g'∧jh ir (ft g n) (ft g' m)∧Below w.heap.size w w':=by
 obtain⟨i0,hi,hz0,hz1,hz2⟩:=info_parts AZ
 have hbx:w.heap.size<(w.alloc (.cells #[.func (.func 65) #[] #[]] 120)).heap.size:=by simp
 have hxW:(w.alloc (.cells #[.func (.func 65) #[] #[]] 120)).cell? ⟨w.heap.size,0,none⟩=some (.func (.func 65) #[] #[]):=by simp
 have B0:Below w.heap.size w (w.alloc (.cells #[.func (.func 65) #[] #[]] 120)):=(af _ _).alloc (ae _) _
 have hs1:=hs.below B0
 have HCe:Hid (∀j u,((ft g n).flatMap ju)[j]? =some u->(w.alloc (.cells #[.func (.func 65) #[] #[]] 120)).cell? ((⟨b,o,none⟩:Addr).add j)=some u):=by
  intro j u hj
  have hjl:j<n*6:=by
   have:=(cS.1 hj).1
   rw[kX iN]at this;exact this
  rw[oI iN g n j hjl]at hj
  rw[kn,hs1.2 j hjl];exact hj
 have HOne:Hid (∀u∈(ft g n).flatMap ju,u.oneCell'=true):=by
  intro u hu
  simp only[cD]at hu
  obtain⟨p,_,hp⟩:=hu
  exact vt p u hp
 have HLen:Hid (((ft g n).flatMap ju).length=n*6):=kX iN g n
 generalize hW:w.alloc (.cells #[.func (.func 65) #[] #[]] 120)=W at*
 have HRow:Hid (∀w1 v,w1.ownsRow W.heap.size 117 6 v n ((ft g n).flatMap ju)->∃D N,v=.slice (some ⟨D,0,none⟩) n N∧W.heap.size<=D∧n<=N∧Row w1 D N n g):=fun w1 v h=>zi iN h0 h
 have HSort:Hid (∀w1 D N,Below W.heap.size W w1->W.heap.size<=D->Row w1 D N n g->Calls Tryz.prog 102 #[.slice (some ⟨D,0,none⟩) n N,.func (.func 65) #[] #[]] w1 fun e w'=>e=.returned (.tuple #[])∧
  ∃g',Row w' D N n g'∧(∀c,c∈ft g' n↔c∈ft g n)∧(ft g' n).Pairwise (fun a b=>ir a b<=0)∧Below W.heap.size W w'):=
  fun w1 D N hB hD hr=>EV W.heap.size D N n N g W w1 (ae _) hB hD hr (by omega)
 have HComp:Hid (∀w1 D N g',Below W.heap.size W w1->W.heap.size<=D->n<=N->Row w1 D N n g'->Calls Tryz.prog 103 #[.slice (some ⟨D,0,none⟩) n N,.func (.func 104) #[] #[.pointer (some ⟨w.heap.size,0,none⟩)]] w1 fun e w'=>
  ∃m,e=.returned (.slice (some ⟨D,0,none⟩) m N)∧∃g3,Row w' D N m g3∧ft g3 m=gQ ir (ft g' n) n∧Below W.heap.size W w'):=
  fun w1 D N g' hB hD hN hr=>zk w.heap.size W.heap.size D N n N g' W w1 (ae _) hB hD hbx hxW hr hN (by omega)
 have HDist:Hid (∀g' g3 m,(∀c,c∈ft g' n↔c∈ft g n)->(ft g' n).Pairwise (fun a b=>ir a b<=0)->ft g3 m=gQ ir (ft g' n) n->jh ir (ft g n) (ft g3 m)∧m<=n):=by
  intro g' g3 m h1 h2 h3
  constructor
  ·rw[h3]
   have:=Cj xP h2
   rw[iK]at this
   exact AQ this h1
  ·have:=EH (ord:=ir) (ft g' n) n (by rw[iK];exact ae _)
   rw[<-h3,iK]at this
   exact this
 have HB:Hid (∀w1,Below W.heap.size W w1->Below w.heap.size w w1∧(∀w2,Below W.heap.size W w2->w1.cell? ⟨w.heap.size,0,none⟩=some (.func (.func 65) #[] #[]))):=fun w1 h=>⟨B0.trans (h.mono B0.size),fun _ _=>(h.cell (p:=⟨w.heap.size,0,none⟩) hbx).trans hxW⟩
 have hwW:w.heap.size<=W.heap.size:=B0.size
 clear hs hs1 hxW B0 hbx
 generalize(ft g n).flatMap ju=news at*
 go_enter Tryz.func64,Tryz.ntmps64
 go_wp2_with(at_builtin;refine wpList_append_own _ rfl (.const (.slice none 0 0)) (.tmp 6) 112 rfl W.heap.size 117 i0 _ 6 96 Tryz.underlying112 hi hz0 hz1 hz2 rfl (by decide) (.slice none 0 0) 0 [] rfl (aZ _ _ _ _) ⟨b,o,none⟩ n cap news rfl ?c0 HCe.out HOne.out ?c3 ?c4 ?c5 ?_)
 case c0=>exact HLen.out
 case c3=>unfold maxLen;omega
 case c4=>omega
 case c5=>exact ae _
 intro v1 w1 ow gr _
 have B1:Below W.heap.size W w1:=(af _ _).grown gr (ae _) (fun q hq=>by cases hq)
 obtain⟨D,N,rfl,hD,hnN,hR1⟩:=HRow.out w1 v1 ow
 have hx1:=(HB.out w1 B1).2 W (af _ _)
 clear ow gr HCe HOne HLen HRow hi hz0 hz1 hz2 hW
 go_wp2_with fail
 refine(HSort.out w1 D N B1 hD hR1).mono ?_
 rintro e w2⟨rfl,g2,hR2,hmem,hpw,B2⟩
 clear HSort hR1 B1 hx1
 go_wp2_with fail
 refine(HComp.out w2 D N g2 B2 hD hnN hR2).mono ?_
 rintro e w3⟨m,rfl,g3,hR3,hl3,B3⟩
 obtain⟨hds,hmn⟩:=HDist.out g2 g3 m hmem hpw hl3
 have B4:=(HB.out w3 B3).1
 have hmN:=hR3.1
 clear HComp HDist hR2 hmem hpw B2 hl3 B3 HB
 go_wp2
 go_ret
 exact⟨_,m,g3,rfl,hmn,⟨D,N,rfl,by omega,hmN,hR3⟩,hds,B4⟩
end Go.Proofs.YtdihdapmphkhpaaGreat.srtR
namespace Go.Proofs.YtdihdapmphkhpaaGreat
open Go.Shelf Go.RowKit Go.Lib Go.Sort
open srtR
variable{D:Nat}{w w':World}
def gW{α:Type}(g:Nat->α)(i:Nat)(j:Nat):α:=if j<i then g j else g (j+1)
theorem zL{α:Type}(g:Nat->α){n i:Nat}(hi:i<n):ft (gW g i) (n-1)=(ft g n).eraseIdx i:=by
 apply dz
 ·rw[iK,dq,iK,if_pos hi]
 intro j h1 h2;rw[iK]at h1;rw[jb _ h1,List.getElem_eraseIdx];unfold gW;split
 ·rw[jb _ (by omega)]
 rw[jb _ (by omega)]
structure jW(D:Nat)(w w':World):Prop where
 os:w'.os=w.os
 tape:w'.tape=w.tape
 output:w'.output=w.output
 size:w.heap.size<=w'.heap.size
 block:∀k,k≠D->k<w.heap.size->w'.heap[k]? =w.heap[k]?
theorem jW.refl(D:Nat)(w:World):jW D w w:=⟨rfl,rfl,rfl,ae _,fun _ _ _=>rfl⟩
theorem jW.trans{D:Nat}{a b c:World}(h:jW D a b)(h':jW D b c):jW D a c:=
 ⟨h'.os.trans h.os,h'.tape.trans h.tape,h'.output.trans h.output,aW h.size h'.size,fun k hk hl=>(h'.block k hk (an hl h.size)).trans (h.block k hk hl)⟩
theorem jW.drew{D:Nat}{a b:World}(h:jW D a b):jW D a b.drew:=h.trans ⟨rfl,rfl,rfl,ae _,fun _ _ _=>rfl⟩
theorem jW.setCell{D o:Nat}{a b:World}(h:jW D a b)(v:Value):jW D a (b.setCell ⟨D,o,none⟩ v):=
 h.trans ⟨rfl,rfl,rfl,by simp[World.setCell],fun k hk _=>by simp only[World.setCell,aH];rw[if_neg (fun e=>hk e.symm)]⟩
theorem jW.setCells{D:Nat}{a:World}:∀(vs:List Value)(o:Nat)(b:World),jW D a b->jW D a (b.setCells D o vs)
 |[],_,_,h=>h
 |v::r,o,b,h=>jW.setCells r (o+1) _ (h.setCell v)
theorem jW.below{B:Nat}{W:World}(hBW:B<=W.heap.size)(hb:Below B W w)(hD:B<=D)(h:jW D w w'):Below B W w':=
 hb.trans ⟨h.os,h.tape,h.output,h.size,fun k hk=>h.block k (by omega) (by have:=hb.size;omega)⟩
theorem jW.cell(h:jW D w w'){p:Addr}(hne:p.block≠D)(hl:p.block<w.heap.size):w'.cell? p=w.cell? p:=by
 unfold World.cell?;rw[h.block _ hne hl]
theorem jW.frozen(h:jW D w w'){p:Addr}(hne:p.block≠D)(hl:p.block<w.heap.size):w'.frozen? p=w.frozen? p:=by
 unfold World.frozen?;rw[h.block _ hne hl]
theorem zG{N n i:Nat}{g:Nat->Rn}(h:Row w D N n g)(hi:i<n):
 Row (w.setCells D (i*6) ((ft (fun j=>g (i+1+j)) (n-(i+1))).flatMap ju)) D N (n-1) (gW g i):=by
 obtain⟨hn,f,hr,hf⟩:=h;refine⟨by omega,_,kO _ (i*6) w f hr,fun j hj=> ?_⟩;rw[kX iN];obtain⟨q,r,hr',rfl⟩:∃q r,r<6∧j=q*6+r:=⟨j/6,j%6,Nat.mod_lt _ (by omega),by omega⟩;rw[j5 _ q hr'];by_cases hq:q<i
 ·rw[if_neg (by omega),hf _ (by omega),j5 _ q hr'];simp[gW,hq]
 rw[if_pos (by omega)];have e:q*6+r-i*6=(q-i)*6+r:=by omega
 rw[e,aa,oI iN _ _ _ (by omega),j5 _ _ hr'];simp only[Option.getD_some,gW];rw[if_neg hq,show i+1+(q-i)=q+1 by omega]
theorem uN(D N m cap i:Nat)(g:Nat->Rn)(w:World)(hr:Row w D N (m+1) g)(hi:i<m+1)(hc:m+1<=cap)(hm:m+1<=16777216)(hcN:cap<=N):
 Calls Tryz.prog 107 #[.slice (some ⟨D,0,none⟩) (m+1) cap,.int .i64 i,.int .i64 ((i:Int)+1)] w fun e w'=>e=.returned (.slice (some ⟨D,0,none⟩) m cap)∧Row w' D N m (gW g i)∧jW D w w':=by
 obtain⟨i0,hi0,hz0,hz1,hz2⟩:=info_parts AZ;obtain⟨news,hnews⟩:∃news,news=(ft (fun j=>g (i+1+j)) (m-i)).flatMap ju:=⟨_,rfl⟩;have hlen:news.length=(m-i)*6:=by rw[hnews];exact kX iN _ _
 have hnN:m+1<=N:=hr.1;have hget:∀t,t<(m-i)*6->w.drew.cell? ⟨D,(i+1)*6+t,none⟩=news[t]? :=by
  intro t ht;rw[hnews,oI iN _ _ _ ht];obtain⟨q,r,hr',rfl⟩:∃q r,r<6∧t=q*6+r:=⟨t/6,t%6,Nat.mod_lt _ (by omega),by omega⟩;have:=ic.cell hr (i:=i+1+q) (r:=r) (by omega) hr';rw[j5 _ _ hr'];show w.cell? _=_;rw[show(i+1)*6+(q*6+r)=(i+1+q)*6+r by omega];exact this
 obtain⟨A,hA,hsrc⟩:∃A:Addr,(if cap=i+1 then some (⟨D,0,none⟩:Addr)else some ⟨D,(i+1)*6,none⟩)=some A∧Hid (∀t u,news[t]? =some u->w.drew.cell? (A.add t)=some u):=by
  by_cases h:cap=i+1
  ·refine⟨⟨D,0,none⟩,by simp[h],fun t u hu=> ?_⟩;have h0:news.length=0:=by rw[hlen];omega
   rw[dG.1 h0]at hu;simp at hu
  refine⟨⟨D,(i+1)*6,none⟩,by simp[h],fun t u hu=> ?_⟩;have ht:t<(m-i)*6:=by
   have:=(cS.1 hu).1;rwa [hlen]at this
  rw[Addr.add_lit,hget t ht];exact hu
 have s1:Hid (news.length=(m-i)*6):=hlen;have s2:Hid (∀u∈news,u.oneCell'=true):=by
  intro u hu;rw[hnews]at hu;simp only[cD]at hu;obtain⟨p,_,hp⟩:=hu;exact vt p u hp
 have s3:Hid (∀t,t<news.length->(w.drew.cell? ⟨D,0+i*6+t,none⟩).isSome=true∧w.drew.frozen? ⟨D,0+i*6+t,none⟩=false):=by
  intro t ht;rw[hlen]at ht;obtain⟨v,h1,h2⟩:=ic.open hr (0+i*6+t) (by omega);exact⟨by show(w.cell? _).isSome=true;rw[h1];rfl,h2⟩
 obtain⟨W1,hW1⟩:∃W1,W1=w.drew.setCells D (0+i*6) news:=⟨_,rfl⟩;have hR1:Row W1 D N m (gW g i):=by
  rw[hW1,hnews,aC];have:=zG (ic.ey hr (af _ _).drew) hi;rw[show m+1-(i+1)=m-i by omega,show m+1-1=m by omega]at this;exact this
 have hB1:jW D w W1:=by
  rw[hW1];exact jW.setCells _ _ _ (jW.refl D w).drew
 have hop:∀j,j<N*6->∃v,W1.cell? ⟨D,j,none⟩=some v∧W1.frozen? ⟨D,j,none⟩=false:=fun j hj=>ic.open hR1 j hj
 have hcl:∀ty,(Builtin.clear_ #[113] ty #[.slice (some ⟨D,m*6,none⟩) 1 (cap-m)]).run Tryz.prog W1=.ok (.tuple #[]) (W1.setCells D (m*6) (srtR.fQ 1)):=fun ty=>by
  have h1:=vc W1 D (m*6) 1 (cap-m) ty (by omega) (fun j hj=>hop (m*6+j) (by omega));have e1:Tryz.prog.underlying 113=Tryz.prog.underlying 112:=by kernel_rfl
  have e2:(Builtin.clear_ #[113] ty #[.slice (some ⟨D,m*6,none⟩) 1 (cap-m)]).run Tryz.prog W1=(Builtin.clear_ #[112] ty #[.slice (some ⟨D,m*6,none⟩) 1 (cap-m)]).run Tryz.prog W1:=by
   simp[Builtin.clear_,run_underlying Tryz.underlying113,run_underlying Tryz.underlying112]
  rw[e2];exact h1
 have HR2:Hid (Row (W1.setCells D (m*6) (srtR.fQ 1)) D N m (gW g i)):=ic.clear hR1 (ae _) _;have HB2:Hid (jW D w (W1.setCells D (m*6) (srtR.fQ 1))):=jW.setCells _ _ _ hB1;have hW:Hid (W1=w.drew.setCells D (0+i*6) news):=hW1;have hic:i<=cap:=by omega
 have hl2:Hid (i+(m-i)=m):=by unfold Hid;omega
 have hcm:m<cap:=by omega
 have hcm1:¬cap=m:=by omega
 have hcm2:¬m=cap:=by omega
 have hcm3:((m:Int))<=(cap:Int):=by omega
 have hcm4:((m:Int)+1)<=(cap:Int):=by omega
 have hjc:i+1<=cap:=by omega
 have hij:¬(i:Int)=(i:Int)+1:=by omega
 have mixed:Tryz.prog.follows Departure.mixedOrders=true:=by kernel_rfl
 have hb0:(0:Int)<=(i:Int)+1:=by omega
 have hb1:(i:Int)+1<=((m:Int)+1):=by omega
 have hb2:(i:Int)<=((m:Int)+1):=by omega
 clear hW1 hR1 hB1 hget hnews hlen hop hr;go_enter Tryz.func107,Tryz.ntmps107;go_wp2_with fail;go_region_law_o(refine step_append_room rfl (.tmp 22) (.tmp 25) 113 rfl 117 i0 6 Tryz.underlying113 hi0 hz1 D 0 i cap (by simp[Act.eval,Act.put]) A (m-i) (cap-(i+1)) news (by simp[Act.eval,Act.put]) s1.out hsrc.out s2.out (by omega) s3.out ?_;rw[<-hW.out]);rw[hl2.out];go_wp2_with(simp only[hcl]);go_ret;exact⟨rfl,HR2.out,HB2.out⟩
end Go.Proofs.YtdihdapmphkhpaaGreat
namespace Go.Proofs.YtdihdapmphkhpaaGreat
open Go.RowKit
open srtR
variable{n:Nat}
structure St(w:World)(L D N n:Nat)(g:Nat->Rn):Prop where
 c:w.cell? ⟨L,0,none⟩=some (.slice (some ⟨D,0,none⟩) n N)
 f:w.frozen? ⟨L,0,none⟩=false
 row:Row w D N n g
 ne:L≠D
theorem St.ey{w w1:World}{L D N n:Nat}{g:Nat->Rn}(h:St w L D N n g)(hb:Below w.heap.size w w1):St w1 L D N n g:=by
 have hl:=fA h.c;exact⟨(hb.cell (p:=⟨L,0,none⟩) hl).trans h.c,(hb.frozen (p:=⟨L,0,none⟩) hl).trans h.f,ic.ey h.row hb,h.ne⟩
theorem ia(w:World)(p q:Addr)(v:Value):(w.setCell p v).frozen? q=w.frozen? q:=by simp
theorem St.put{w:World}{L D N m:Nat}{g':Nat->Rn}(hc:w.cell? ⟨L,0,none⟩=some (.slice (some ⟨D,0,none⟩) n N))(hf:w.frozen? ⟨L,0,none⟩=false)(hne:L≠D)(hr:Row w D N m g'):St (w.setCell ⟨L,0,none⟩ (.slice (some ⟨D,0,none⟩) m N)) L D N m g':=by
 refine⟨?_,by rw[ia];exact hf,?_,hne⟩
 ·exact aG _ _ _ hc
 obtain⟨hn,f,h1,h2⟩:=hr;exact⟨hn,f,h1.of_block (by simp only[World.setCell,aH];rw[if_neg hne]),h2⟩
def ls(g:Nat->Rn)(n:Nat):List Ru:=(ft g n).map Subtype.val
theorem iQ(g:Nat->Rn)(n:Nat):(ls g n).length=n:=by simp[ls,iK]
theorem qB(g:Nat->Rn){i:Nat}(h:i<n):at' (ls g n) i=(g i).val:=by
 simp[at',ls,ft,aa,h]
theorem map_eraseIdx{α β:Type}(f:α->β):∀(l:List α)(i:Nat),(l.eraseIdx i).map f=(l.map f).eraseIdx i
 |[],_=>by simp
 |a::l,0=>by simp
 |a::l,i+1=>by simp[map_eraseIdx f l i]
theorem uG(g:Nat->Rn){i:Nat}(h:i<n):ls (gW g i) (n-1)=(ls g n).eraseIdx i:=by
 rw[ls,zL g h,ls,map_eraseIdx]
def pD(B:Nat)(W:World)(L D N n:Nat)(g:Nat->Rn)(e:Ending)(w':World):Prop:=
 Below B W w'∧((NoW (ls g n)∧e=.returned (.bool false)∧St w' L D N n g)∨(∃i,mO (ls g n) i∧e=.returned (.bool true)∧St w' L D N (n-1) (gW g i)))
theorem ET(B L D N n:Nat)(g:Nat->Rn)(W w:World)(hBW:B<=W.heap.size)(hb:Below B W w)(hD:B<=D)(hL:B<=L)(hs:St w L D N n g)(hn:n<=16777216):
 Calls Tryz.prog 66 #[.pointer (some ⟨L,0,none⟩)] w fun e w'=>pD B W L D N n g e w':=by
 have HS:Hid (∀wr,Below w.heap.size w wr->St wr L D N n g∧Below B W wr):=fun wr h=>⟨hs.ey h,iy hBW h hb⟩
 have HW:Hid (∀wr p q,Below w.heap.size w wr->p<n->q<n->Calls Tryz.prog 106 #[.pointer (some ⟨D,p*6,none⟩),.pointer (some ⟨D,q*6,none⟩)] wr fun e w'=>e=.returned (.bool (fw (g p).val (g q).val))∧Below wr.heap.size wr w'):=
  fun wr p q h hp hq=>zg _ _ _ _ _ _ wr (g p).property (g q).property (Row.ruAt (hs.ey h).row hp) (Row.ruAt (hs.ey h).row hq)
 have HD:Hid (∀wr i,Below w.heap.size w wr->i<n->Calls Tryz.prog 107 #[.slice (some ⟨D,0,none⟩) n N,.int .i64 i,.int .i64 ((i:Int)+1)] wr fun e w'=>e=.returned (.slice (some ⟨D,0,none⟩) (n-1) N)∧Row w' D N (n-1) (gW g i)∧Below B W w'∧w'.cell? ⟨L,0,none⟩=some (.slice (some ⟨D,0,none⟩) n N)∧w'.frozen? ⟨L,0,none⟩=false):=by
  intro wr i h hi
  obtain⟨m,rfl⟩:∃m,n=m+1:=⟨n-1,by omega⟩
  have s:=hs.ey h
  have hl:=fA s.c
  refine(uN D N m N i g wr s.row hi s.row.1 hn (ae _)).mono ?_
  rintro e w'⟨rfl,hr,ho⟩
  exact⟨rfl,hr,ho.below hBW (iy hBW h hb) hD,(ho.cell (p:=⟨L,0,none⟩) s.ne hl).trans s.c,(ho.frozen (p:=⟨L,0,none⟩) s.ne hl).trans s.f⟩
 have HP0:Hid (ji (ls g n) n->NoW (ls g n)):=fun h=>by unfold NoW;rw[iQ];exact h
 have HUp:Hid (∀k,k<n->ji (ls g n) k->(∀q,q<n->k≠q->fw (g k).val (g q).val=false)->ji (ls g n) (k+1)):=by
  intro k hk h h1 p hp q hq hne
  rw[iQ]at hq
  by_cases e:p=k
  ·subst e
   rw[qB g hk,qB g hq];exact h1 q hq hne
  ·exact h p (by omega) q (by rw[iQ];exact hq) hne
 have HF:Hid (∀k q,k<n->q<n->k≠q->ji (ls g n) k->fw (g k).val (g q).val=true->mO (ls g n) k):=by
  intro k q hk hq hne h h1
  exact⟨by rw[iQ];exact hk,h,q,by rw[iQ];exact hq,hne,by rw[qB g hk,qB g hq];exact h1⟩
 have hc:=hs.c
 have hne:=hs.ne
 clear hs hb
 go_enter Tryz.func66,Tryz.ntmps66
 go_wp2_with fail
 clear hc
 go_loopw [11](fun i wr=>∃k:Nat,k<=n∧i=.int .i64 k∧Hid (ji (ls g n) k)∧Below w.heap.size w wr)(fun i _=>n-(intOf i).toNat)
 case atStart=>exact⟨0,by omega,rfl,fun p hp=>by omega,af _ _⟩
 case round=>
  obtain⟨k,hk,rfl,HJ,B1⟩:=hrel
  rename World=>W0
  by_cases hlt:k<n
  ·have hlt':(k:Int)<(n:Int):=by omega
   go_wp2_with fail
   go_loopw [16](fun i wr=>∃q:Nat,q<=n∧i=.int .i64 q∧Hid (∀j,j<q->k≠j->fw (g k).val (g j).val=false)∧Below w.heap.size w wr)(fun i _=>n-(intOf i).toNat)
   case atStart=>exact⟨0,by omega,rfl,fun p hp=>by omega,B1⟩
   case round=>
    obtain⟨q,hq,rfl,HQ,B2⟩:=hrel
    rename World=>W1
    by_cases hlq:q<n
    ·have hlq':(q:Int)<(n:Int):=by omega
     by_cases hkq:k=q
     ·subst hkq
      have HQ2:Hid (∀j,j<k+1->k≠j->fw (g k).val (g j).val=false):=fun j hj hne=>HQ.out j (by omega) hne
      have hg:((k:Int)!=(k:Int))=false:=by simp
      clear HS HW HD HP0 HUp HF HQ HJ
      go_wp2_with fail
      go_quiet(fail)
      have B3:=below_drewN B2 nq
      clear B2 B1
      generalize W1.drewN nq=W2 at*
      go_wp2
      go_roundw
      case rel=>exact⟨k+1,by omega,by go_num,HQ2,B3⟩
      case measure=>simp[intOf];omega
     ·have hg:((k:Int)!=(q:Int))=true:=by simp;omega
      have HWk:Hid (∀wr,Below w.heap.size w wr->Calls Tryz.prog 106 #[.pointer (some ⟨D,k*6,none⟩),.pointer (some ⟨D,q*6,none⟩)] wr fun e w'=>e=.returned (.bool (fw (g k).val (g q).val))∧Below wr.heap.size wr w'):=fun wr h=>HW.out wr k q h hlt hlq
      have HFk:Hid (fw (g k).val (g q).val=true->mO (ls g n) k):=HF.out k q hlt hlq hkq HJ.out
      have HQ2:Hid (fw (g k).val (g q).val=false->∀j,j<q+1->k≠j->fw (g k).val (g j).val=false):=fun h j hj hne=>by
       by_cases e:j=q
       ·subst e;exact h
       ·exact HQ.out j (by omega) hne
      have SK:Hid (∀wa wb,Below wa.heap.size wa wb->Below w.heap.size w wa->Below w.heap.size w wb):=fun wa wb hb s=>eo hb s
      have hS0:=SK.out W1 W1.drew ((af _ _).drew) B2
      have HDk:Hid (∀wr,Below w.heap.size w wr->Calls Tryz.prog 107 #[.slice (some ⟨D,0,none⟩) n N,.int .i64 k,.int .i64 ((k:Int)+1)] wr fun e w'=>e=.returned (.slice (some ⟨D,0,none⟩) (n-1) N)∧Row w' D N (n-1) (gW g k)∧Below B W w'∧w'.cell? ⟨L,0,none⟩=some (.slice (some ⟨D,0,none⟩) n N)∧w'.frozen? ⟨L,0,none⟩=false):=fun wr h=>HD.out wr k h hlt
      clear HS HW HD HP0 HUp HF HQ HJ B1 B2
      generalize fw (g k).val (g q).val=Z at*
      go_wp2_with fail
      go_region_held3(fun w'=>Below w.heap.size w w')
       (assumption)
       (first|(go_at_call 106;refine(HWk.out _ (by assumption)).mono ?_;rintro _ w9⟨rfl,hb9⟩;have hS9:=SK.out _ _ hb9 (by assumption)))
      all_goals
       have B9:Below w.heap.size w w9:=hS9
       clear hS9 hb9 hS0 SK HWk
       cases Z with
       |false=>
        have HQ3:Hid (∀j,j<q+1->k≠j->fw (g k).val (g j).val=false):=HQ2.out rfl
        clear HQ2 HFk HDk
        go_wp2
        go_roundw
        case rel=>exact⟨q+1,by omega,by go_num,HQ3,B9⟩
        case measure=>simp[intOf];omega
       |true=>
        have hF:Hid (mO (ls g n) k):=HFk.out rfl
        clear HQ2 HFk
        go_wp2_with fail
        refine(HDk.out _ B9).mono ?_
        rintro _ w10⟨rfl,hr10,hB10,hc10,hf10⟩
        have HP:Hid (pD B W L D N n g (.returned (.bool true)) (w10.setCell ⟨L,0,none⟩ (.slice (some ⟨D,0,none⟩) (n-1) N))):=⟨hB10.setCell (p:=⟨L,0,none⟩) hL _,.inr ⟨k,hF.out,rfl,St.put hc10 hf10 hne hr10⟩⟩
        clear HDk hr10 hB10 B9
        go_wp2
        go_ret
        exact HP.out
    ·have eq:q=n:=by omega
     have HU:Hid (ji (ls g n) (k+1)):=HUp.out k hlt HJ.out (fun j hj hne=>HQ.out j (by omega) hne)
     have hlq':¬(q:Int)<(n:Int):=by omega
     clear HS HW HD HP0 HUp HF HQ HJ
     go_wp2
     go_roundw
     case rel=>exact⟨k+1,by omega,by go_num,HU,B2⟩
     case measure=>simp[intOf];omega
  ·have hkn:k=n:=by omega
   subst hkn
   obtain⟨s,hB⟩:=HS.out W0 B1
   have HP:Hid (pD B W L D N k g (.returned (.bool false)) W0):=⟨hB,.inl ⟨HP0.out HJ.out,rfl,s⟩⟩
   clear HS HW HD HP0 HUp HF HJ s hB
   go_wp2
   go_ret
   exact HP.out
end Go.Proofs.YtdihdapmphkhpaaGreat
