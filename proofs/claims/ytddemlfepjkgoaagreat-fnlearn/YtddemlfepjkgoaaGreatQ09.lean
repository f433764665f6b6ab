import Derived.Deep.Cut
import Derived.Test.YtddemlfepjkgoaaGreatQ08
set_option linter.all false
set_option maxRecDepth 200000
set_option maxHeartbeats 16000000
namespace Go.Proofs.YtddemlfepjkgoaaGreat.fnLearn
open Go.RowKit Go.Deep
set_option linter.unusedSimpArgs false
theorem walkA(n cap nm cm nc:Nat)(a am:Option Addr)(ex sp f z:Int)(w:World)(Cs:World->Option Addr->Nat->Prop)(hn:n<=1048576)(hnm:nm<=1048576)(hnc:nc<=1001)(hbad:z=1∨z=0∧60<nc)
 (HD:Hid (∀w1,Below w.heap.size w w1->Calls Tryz.prog 4 #[.slice a n cap] w1 fun e w'=>∃a' c',e=.returned (.tuple #[.slice a' nc c',.agg #[.int .i64 ex,.int .i64 sp,.int .i64 f]])∧Cs w' a' c'∧Below w1.heap.size w1 w'))
 (HS:Hid (∀a' c' w1,Cs w1 a' c'->Calls Tryz.prog 5 #[.slice a' nc c',.agg #[.int .i64 ex,.int .i64 sp,.int .i64 f]] w1 fun e w'=>∃a3 n3 c3,e=.returned (.tuple #[.agg #[.slice a3 n3 c3],.int .i64 z])∧Below w1.heap.size w1 w'))
 (HCk:Hid (∀u u' a' c',Cs u a' c'->Below u.heap.size u u'->Cs u' a' c')):
 Calls Tryz.prog 3 #[.slice a n cap,.slice am nm cm] w fun e w'=>e=.returned (.bool true)∧Below w.heap.size w w':=by
 have h1:¬(1048576:Int)<(n:Int):=by omega
 have h2:¬(1048576:Int)<(nm:Int):=by omega
 go_enter Tryz.func3,Tryz.ntmps3
 go_wp2_with fail
 refine(HD.out w (Below.refl _ _)).mono ?_
 rintro _ w1⟨a1,c1,rfl,hC1,hb1⟩
 have hbA:Below w1.heap.size w1 (w1.alloc (.cells #[.int .i64 ex,.int .i64 sp,.int .i64 f] 25)):=(Below.refl _ _).alloc (Nat.le_refl _) _
 have hC2:=HCk.out _ _ _ _ hC1 hbA
 have B2:=below_step hbA hb1
 clear HD HCk hC1
 go_wp2_with fail
 refine(HS.out _ _ _ hC2).mono ?_
 rintro _ w3⟨a3,n3,c3,rfl,hb3⟩
 have B3:=below_step hb3 B2
 have B4:Below w.heap.size w (w3.alloc (.cells #[.slice a3 n3 c3] 30)):=B3.alloc B3.size _
 clear HS hC2 hbA hb1 hb3 B2
 rcases hbad with rfl|⟨rfl,h60⟩
 ·go_wp2
  go_ret
  exact⟨rfl,B4⟩
 ·have h60':(60:Int)<(nc:Int):=by omega
  go_wp2
  go_ret
  exact⟨rfl,B4⟩
theorem walkB(n cap nm cm nc np:Nat)(a am:Option Addr)(ex sp f:Int)(w:World)(Cs:World->Option Addr->Nat->Prop)(P:World->Option Addr->Prop)(M:World->Option Addr->Nat->Prop)(Q:C->World->Nat->Prop)(fa fn:Nat->Int)(al:C->Bool)(Sp:C->Prop)(hn:n<=1048576)(hnm:nm<=1048576)(hnc:nc<=60)
 (HD:Hid (∀w1,Below w.heap.size w w1->Calls Tryz.prog 4 #[.slice a n cap] w1 fun e w'=>∃a' c',e=.returned (.tuple #[.slice a' nc c',.agg #[.int .i64 ex,.int .i64 sp,.int .i64 f]])∧Cs w' a' c'∧Below w1.heap.size w1 w'))
 (HS:Hid (∀a' c' w1,Cs w1 a' c'->Calls Tryz.prog 5 #[.slice a' nc c',.agg #[.int .i64 ex,.int .i64 sp,.int .i64 f]] w1 fun e w'=>∃a3 n3 c3,e=.returned (.tuple #[.agg #[.slice a3 n3 c3],.int .i64 0])∧Below w1.heap.size w1 w'))
 (HI:Hid (∀a' c' w1,Cs w1 a' c'->Calls Tryz.prog 6 #[.slice a' nc c',.agg #[.int .i64 ex,.int .i64 sp,.int .i64 f]] w1 fun e w'=>∃a7 c7,e=.returned (.tuple #[.agg #[.slice a7 np c7],.int .i64 0])∧P w' a7∧Below w1.heap.size w1 w'))
 (HV:Hid (∀a7 c7 w1,P w1 a7->Calls Tryz.prog 7 #[.agg #[.slice a7 np c7]] w1 fun e w'=>e=.returned (.bool true)∧Below w1.heap.size w1 w'))
 (HM:Hid (∀a7 c7 w1,P w1 a7->Calls Tryz.prog 8 #[.agg #[.slice a7 np c7]] w1 fun e w'=>∃a8 n8 c8,e=.returned (.agg #[.slice a8 n8 c8])∧M w' a8 n8∧Below w1.heap.size w1 w'))
 (HL:Hid (∀wr a' c' a7 c7 a8 n8 c8,Cs wr a' c'->P wr a7->M wr a8 n8->∀i,i<nc->∃b o a5 c5,a'=some ⟨b,o,none⟩∧wr.cell? ⟨b,o+i*3,none⟩=some (.int .u32 (fa i))∧wr.cell? ⟨b,o+i*3+1,none⟩=some (.int .u32 (fn i))∧wr.cell? ⟨b,o+i*3+2,none⟩=some (.slice a5 6 c5)∧(∀W,Below wr.heap.size wr W->Calls Tryz.prog 9 #[.agg #[.slice a7 np c7],.agg #[.int .u32 (fa i),.int .u32 (fn i),.slice a5 6 c5]] W fun e w'=>e=.returned (.bool true)∧Below W.heap.size W w')∧(∀W,Below wr.heap.size wr W->Calls Tryz.prog 9 #[.agg #[.slice a8 n8 c8],.agg #[.int .u32 (fa i),.int .u32 (fn i),.slice a5 6 c5]] W fun e w'=>e=.returned (.bool true)∧Below W.heap.size W w')))
 (HO:Hid (∀wr a' c',Cs wr a' c'->Below w.heap.size w wr->Calls Tryz.prog 10 #[.slice a' nc c',.slice am nm cm] wr fun e w'=>∃(c:C)(g:Nat),e=.returned (.agg #[.int .u32 c.arch,.int .u32 c.nr,.slice (some ⟨g,0,none⟩) 6 6])∧Q c w' g∧Below wr.heap.size wr w'))
 (HSp:Hid (∀c wr a' c' g,Cs wr a' c'->Q c wr g->Calls Tryz.prog 11 #[.slice a' nc c',.agg #[.int .u32 c.arch,.int .u32 c.nr,.slice (some ⟨g,0,none⟩) 6 6]] wr fun e w'=>∃b,e=.returned (.bool b)∧(Sp c->b=true)∧Below wr.heap.size wr w'))
 (HAp:Hid (∀c wr a7 c7 g,P wr a7->Q c wr g->Calls Tryz.prog 9 #[.agg #[.slice a7 np c7],.agg #[.int .u32 c.arch,.int .u32 c.nr,.slice (some ⟨g,0,none⟩) 6 6]] wr fun e w'=>e=.returned (.bool (al c))∧Below wr.heap.size wr w'))
 (HAm:Hid (∀c wr a8 n8 c8 g,M wr a8 n8->Q c wr g->Calls Tryz.prog 9 #[.agg #[.slice a8 n8 c8],.agg #[.int .u32 c.arch,.int .u32 c.nr,.slice (some ⟨g,0,none⟩) 6 6]] wr fun e w'=>e=.returned (.bool (al c))∧Below wr.heap.size wr w'))
 (HSy:Hid (∀c wr g,Q c wr g->al c=true->Sp c))
 (HCk:Hid (∀u u' a' c',Cs u a' c'->Below u.heap.size u u'->Cs u' a' c'))(HPk:Hid (∀u u' a',P u a'->Below u.heap.size u u'->P u' a'))(HMk:Hid (∀u u' a' n',M u a' n'->Below u.heap.size u u'->M u' a' n'))(HQk:Hid (∀c u u' g,Q c u g->Below u.heap.size u u'->Q c u' g)):
 Calls Tryz.prog 3 #[.slice a n cap,.slice am nm cm] w fun e w'=>e=.returned (.bool true)∧Below w.heap.size w w':=by
 have h1:¬(1048576:Int)<(n:Int):=by omega
 have h2:¬(1048576:Int)<(nm:Int):=by omega
 have h3:¬(60:Int)<(nc:Int):=by omega
 go_enter Tryz.func3,Tryz.ntmps3
 go_wp2_with fail
 refine(HD.out w (Below.refl _ _)).mono ?_
 rintro _ w1⟨a1,c1,rfl,hC1,hb1⟩
 have hbA:Below w1.heap.size w1 (w1.alloc (.cells #[.int .i64 ex,.int .i64 sp,.int .i64 f] 25)):=(Below.refl _ _).alloc (Nat.le_refl _) _
 have hC2:=HCk.out _ _ _ _ hC1 hbA
 have B2:=below_step hbA hb1
 clear hC1
 go_wp2_with fail
 refine(HS.out _ _ _ hC2).mono ?_
 rintro _ w3⟨a3,n3,c3,rfl,hb3⟩
 have hbB:Below w3.heap.size w3 (w3.alloc (.cells #[.slice a3 n3 c3] 30)):=(Below.refl _ _).alloc (Nat.le_refl _) _
 have hC4:=HCk.out _ _ _ _ hC2 (below_step hbB hb3)
 have B4:=below_step hbB (below_step hb3 B2)
 clear HS hC2 hbA hb1 hb3 B2 hbB
 go_upto_region 7 with fail
 generalize w3.alloc (.cells #[.slice a3 n3 c3] 30)=W4 at*
 go_wp2_with fail
 refine(HD.out W4 B4).mono ?_
 rintro _ w5⟨a5,c5,rfl,hC5,hb5⟩
 have hC6:=HCk.out _ _ _ _ hC4 hb5
 have B5:=below_step hb5 B4
 have hbA:Below w5.heap.size w5 (w5.alloc (.cells #[.int .i64 ex,.int .i64 sp,.int .i64 f] 25)):=(Below.refl _ _).alloc (Nat.le_refl _) _
 have hC7:=HCk.out _ _ _ _ hC6 hbA
 have hD7:=HCk.out _ _ _ _ hC5 hbA
 have B7:=below_step hbA B5
 clear HD hC4 hC5 hC6 hb5 B4 B5
 go_wp2_with fail
 refine(HI.out _ _ _ hD7).mono ?_
 rintro _ w8⟨a7,c7,rfl,hP8,hb8⟩
 have hbB:Below w8.heap.size w8 (w8.alloc (.cells #[.slice a7 np c7] 30)):=(Below.refl _ _).alloc (Nat.le_refl _) _
 have hC9:=HCk.out _ _ _ _ hC7 (below_step hbB hb8)
 have hP9:=HPk.out _ _ _ hP8 hbB
 have B9:=below_step hbB (below_step hb8 B7)
 have t9:=box1 w8 30 (.slice a7 np c7)
 clear HI hC7 hD7 hb8 B7 hP8 hbA hbB
 go_upto_region 9 with fail
 generalize w8.alloc (.cells #[.slice a7 np c7] 30)=W9 at*
 generalize w8.heap.size=D9 at*
 go_wp2_with fail
 refine(HV.out _ _ _ hP9).mono ?_
 rintro _ w10⟨rfl,hb10⟩
 have hC10:=HCk.out _ _ _ _ hC9 hb10
 have hP10:=HPk.out _ _ _ hP9 hb10
 have B10:=below_step hb10 B9
 have t10:=cell_step hb10 t9
 clear HV hC9 hP9 B9 t9 hb10
 go_wp2_with fail
 refine(HM.out _ _ _ hP10).mono ?_
 rintro _ w11⟨a8,n8,c8,rfl,hM11,hb11⟩
 have hbB:Below w11.heap.size w11 (w11.alloc (.cells #[.slice a8 n8 c8] 30)):=(Below.refl _ _).alloc (Nat.le_refl _) _
 have hC12:=HCk.out _ _ _ _ hC10 (below_step hbB hb11)
 have hP12:=HPk.out _ _ _ hP10 (below_step hbB hb11)
 have hM12:=HMk.out _ _ _ _ hM11 hbB
 have B12:=below_step hbB (below_step hb11 B10)
 have t12:=cell_step (below_step hbB hb11) t10
 have m12:=box1 w11 30 (.slice a8 n8 c8)
 clear HM hC10 hP10 hM11 B10 t10 hb11 hbB
 go_upto_region 12 with fail
 generalize w11.alloc (.cells #[.slice a8 n8 c8] 30)=W12 at*
 generalize w11.heap.size=D12 at*
 go_wp2_with fail
 go_loopw [14](fun u wr=>∃i:Nat,i<=nc∧u=.int .i64 (i:Int)∧Below W12.heap.size W12 wr)(fun u _=>nc-(intOf u).toNat)
 case atStart=>exact⟨0,by omega,rfl,Below.refl _ _⟩
 case round=>
  obtain⟨i,hi,rfl,hB⟩:=hrel
  rename World=>wr
  have t13:=cell_step hB t12
  have m13:=cell_step hB m12
  by_cases hin:i<nc
  ·have hin':(i:Int)<(nc:Int):=by omega
   obtain⟨b,o,a9,c9,rfl,d0,d1,d2,hA1,hA2⟩:=HL.out wr _ _ _ c7 _ _ c8 (HCk.out _ _ _ _ hC12 hB) (HPk.out _ _ _ hP12 hB) (HMk.out _ _ _ _ hM12 hB) i hin
   have A1:Hid _:=hA1
   have A2:Hid _:=hA2
   have hbd:Below wr.heap.size wr wr.drew:=(Below.refl _ _).drew
   clear HL hA1 hA2 HO HSp HAp HAm HSy
   generalize fa i=far at*
   generalize fn i=fnr at*
   have SK:Hid (∀wa wb:World,Below wa.heap.size wa wb->(Below wr.heap.size wr wa∧wa.cell? ⟨D9,0,none⟩=some (.slice a7 np c7)∧wa.cell? ⟨D12,0,none⟩=some (.slice a8 n8 c8)∧wa.cell? ⟨b,o+i*3,none⟩=some (.int .u32 far)∧wa.cell? ⟨b,o+i*3+1,none⟩=some (.int .u32 fnr)∧wa.cell? ⟨b,o+i*3+2,none⟩=some (.slice a9 6 c9))->(Below wr.heap.size wr wb∧wb.cell? ⟨D9,0,none⟩=some (.slice a7 np c7)∧wb.cell? ⟨D12,0,none⟩=some (.slice a8 n8 c8)∧wb.cell? ⟨b,o+i*3,none⟩=some (.int .u32 far)∧wb.cell? ⟨b,o+i*3+1,none⟩=some (.int .u32 fnr)∧wb.cell? ⟨b,o+i*3+2,none⟩=some (.slice a9 6 c9))):=fun wa wb hb⟨g1,g2,g3,g4,g5,g6⟩=>⟨below_step hb g1,cell_step hb g2,cell_step hb g3,cell_step hb g4,cell_step hb g5,cell_step hb g6⟩
   have hS8:=SK.out wr wr.drew hbd ⟨Below.refl _ _,t13,m13,d0,d1,d2⟩
   clear t13 m13 d0 d1 d2
   go_wp2_with fail
   go_region_held3(fun w'=>Below wr.heap.size wr w'∧w'.cell? ⟨D9,0,none⟩=some (.slice a7 np c7)∧w'.cell? ⟨D12,0,none⟩=some (.slice a8 n8 c8)∧w'.cell? ⟨b,o+i*3,none⟩=some (.int .u32 far)∧w'.cell? ⟨b,o+i*3+1,none⟩=some (.int .u32 fnr)∧w'.cell? ⟨b,o+i*3+2,none⟩=some (.slice a9 6 c9))
    (assumption)
    (first
     |(go_at_call 9;with_reducible refine(A1.out _ (And.left (by with_reducible assumption))).mono ?_;rintro _ w14⟨rfl,hb14⟩;have hs14:=SK.out _ _ hb14 (by with_reducible assumption))
     |(go_at_call 9;with_reducible refine(A2.out _ hs14.1).mono ?_;rintro _ w15⟨rfl,hb15⟩;have hs15:=SK.out _ _ hb15 hs14))
   all_goals
    have B16:=below_step hs15.1 hB
    clear hs15 hs14 hb14 hb15 A1 A2 SK hS8
    go_wp2
    go_roundw
    case rel=>exact⟨i+1,by omega,by go_num,B16⟩
    case measure=>simp[intOf];omega
  ·obtain rfl:i=nc:=by omega
   have hlt':¬(i:Int)<(i:Int):=by omega
   have hC13:=HCk.out _ _ _ _ hC12 hB
   have hP13:=HPk.out _ _ _ hP12 hB
   have hM13:=HMk.out _ _ _ _ hM12 hB
   have B13:=below_step hB B12
   clear HL hC12 hP12 hM12 hB B12 t12 m12
   go_wp2_with fail
   refine(HO.out _ _ _ hC13 B13).mono ?_
   rintro _ w14⟨c,g,rfl,hQ14,hb14⟩
   have hbB:Below w14.heap.size w14 (w14.alloc (.cells #[.int .u32 c.arch,.int .u32 c.nr,.slice (some ⟨g,0,none⟩) 6 6] 39)):=(Below.refl _ _).alloc (Nat.le_refl _) _
   have hb15:=below_step hbB hb14
   have hC15:=HCk.out _ _ _ _ hC13 hb15
   have hP15:=HPk.out _ _ _ hP13 hb15
   have hM15:=HMk.out _ _ _ _ hM13 hb15
   have hQ15:=HQk.out _ _ _ _ hQ14 hbB
   have B15:=below_step hb15 B13
   have t15:=cell_step hb15 t13
   have m15:=cell_step hb15 m13
   have X15:=Box3.new w14 39 (.int .u32 c.arch) (.int .u32 c.nr) (.slice (some ⟨g,0,none⟩) 6 6)
   clear HO hC13 hP13 hM13 B13 t13 m13 hQ14 hb14 hbB hb15
   go_upto_region 18 with fail
   generalize w14.alloc (.cells #[.int .u32 c.arch,.int .u32 c.nr,.slice (some ⟨g,0,none⟩) 6 6] 39)=W15 at*
   generalize w14.heap.size=D15 at*
   obtain⟨_,x0,x1,x2,_,_,_⟩:=id X15
   go_wp2_with fail
   refine(HSp.out c _ _ _ g hC15 hQ15).mono ?_
   rintro _ w16⟨bs,rfl,hbs,hb16⟩
   have hP16:=HPk.out _ _ _ hP15 hb16
   have hM16:=HMk.out _ _ _ _ hM15 hb16
   have hQ16:=HQk.out _ _ _ _ hQ15 hb16
   have B16:=below_step hb16 B15
   have t16:=cell_step hb16 t15
   have m16:=cell_step hb16 m15
   have X16:=X15.keep hb16
   clear HSp hC15 hP15 hM15 hQ15 B15 t15 m15 X15 x0 x1 x2 hb16
   obtain⟨_,x0,x1,x2,_,_,_⟩:=id X16
   go_wp2_with fail
   refine(HAp.out c _ _ _ g hP16 hQ16).mono ?_
   rintro _ w17⟨rfl,hb17⟩
   have hM17:=HMk.out _ _ _ _ hM16 hb17
   have hQ17:=HQk.out _ _ _ _ hQ16 hb17
   have B17:=below_step hb17 B16
   have m17:=cell_step hb17 m16
   have X17:=X16.keep hb17
   have hSy:Hid (al c=true->bs=true):=fun h=>hbs (HSy.out c _ g hQ17 h)
   have HA9:Hid _:=HAm.out c _ _ _ c8 g hM17 hQ17
   clear HAp HAm hP16 hM16 hQ16 B16 t16 m16 X16 x0 x1 x2 hb17 hM17 hQ17 HSy hbs
   obtain⟨_,x0,x1,x2,_,_,_⟩:=id X17
   generalize al c=y at*
   cases y with
   |true=>
    obtain rfl:=hSy.out rfl
    go_wp2_with fail
    refine Calls.mono HA9.out ?_
    rintro _ w18⟨rfl,hb18⟩
    have B18:=below_step hb18 B17
    clear HA9 hb18 B17 m17 x0 x1 x2 X17
    go_wp2
    go_ret
    exact⟨by first|rfl|simp,B18⟩
   |false=>
    clear hSy
    go_wp2_with fail
    refine Calls.mono HA9.out ?_
    rintro _ w18⟨rfl,hb18⟩
    have B18:=below_step hb18 B17
    clear HA9 hb18 B17 m17 x0 x1 x2 X17
    go_wp2
    go_ret
    exact⟨by first|rfl|simp,B18⟩
end Go.Proofs.YtddemlfepjkgoaaGreat.fnLearn
