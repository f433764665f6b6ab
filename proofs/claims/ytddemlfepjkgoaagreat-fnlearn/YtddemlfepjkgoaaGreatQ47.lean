import Derived.Test.YtddemlfepjkgoaaGreatQ46
set_option linter.all false
set_option maxRecDepth 200000
set_option maxHeartbeats 16000000
namespace Go.Proofs.YtddemlfepjkgoaaGreat
open Go.RowKit
def argV(l:List Int)(j:Nat):Int:=
 if l.getD j 0<120 then l.getD j 0%12 else if l.getD j 0<150 then l.getD j 0%3*4294967296 else if l.getD j 0<170 then 18446744073709551615-l.getD j 0%3
 else if l.getD j 0<190 then 2^(l.getD j 0*7%64).toNat else if l.getD j 0<215 then 140733193392128+l.getD j 0%16*4096 else if l.getD j 0<225 then 4294967295+l.getD j 0%3
 else bits .xor .u64 (wordV l (j+1)*4294967297) (wordV l (wordJ l (j+1)))
def argJ(l:List Int)(j:Nat):Nat:=if l.getD j 0<225 then j+1 else wordJ l (wordJ l (j+1))
theorem pow_64:∀k:Nat,k<64->(2:Int)^k<=9223372036854775808∧(2:Int)^k%18446744073709551616=2^k∧0<=(2:Int)^k:=by decide
theorem argV_isU(l:List Int)(hl:isBytes l)(j:Nat):isU (argV l j):=by
 have hx:=isBytes_getD hl j;unfold argV;split
 ·unfold isU;omega
 split
 ·unfold isU;omega
 split
 ·unfold isU;omega
 split
 ·have:=pow_64 (l.getD j 0*7%64).toNat (by omega);unfold isU;omega
 split
 ·unfold isU;omega
 split
 ·unfold isU;omega
 exact isU_bits _ _ _
theorem arg_any(R cap:Nat)(a:Option Addr)(l:List Int)(j:Nat)(w:World)(hR:Rd w R a cap l j):
 Calls Tryz.prog 81 #[.pointer (some ⟨R,0,none⟩)] w fun e w'=>e=.returned (.int .u64 (argV l j))∧Rd w' R a cap l (argJ l j)∧w.grownBy w' (some R):=by
 have hx:=isBytes_getD hR.bys j;have HN1:=nx1 R cap a l j (j+1) rfl;have HW1:Hid (∀W,Rd W R a cap l (j+1)->Calls Tryz.prog 80 #[.pointer (some ⟨R,0,none⟩)] W fun e w'=>e=.returned (.int .u32 (wordV l (j+1)))∧Rd w' R a cap l (wordJ l (j+1))∧W.grownBy w' (some R)):=fun W h=>drawWord_any R cap a l (j+1) W h
 have HW2:Hid (∀W,Rd W R a cap l (wordJ l (j+1))->Calls Tryz.prog 80 #[.pointer (some ⟨R,0,none⟩)] W fun e w'=>e=.returned (.int .u32 (wordV l (wordJ l (j+1))))∧Rd w' R a cap l (wordJ l (wordJ l (j+1)))∧W.grownBy w' (some R)):=fun W h=>drawWord_any R cap a l (wordJ l (j+1)) W h
 obtain⟨ha0,ha1⟩:=wordV_range l hR.bys (j+1);obtain⟨hb0,hb1⟩:=wordV_range l hR.bys (wordJ l (j+1));obtain⟨V,hV⟩:∃V,argV l j=V:=⟨_,rfl⟩;obtain⟨J,hJ⟩:∃J,argJ l j=J:=⟨_,rfl⟩;rw[hV,hJ];unfold argV at hV;unfold argJ at hJ;generalize l.getD j 0=x at*;generalize wordV l (j+1)=y at*;generalize wordV l (wordJ l (j+1))=z at*;generalize wordJ l (wordJ l (j+1))=J3 at*;generalize wordJ l (j+1)=J2 at*;have HV:Hid _:=hV;have HJ:Hid _:=hJ;clear hV hJ;go_enter Tryz.func81,Tryz.ntmps81;go_wp2_with fail;refine(HN1.out _ hR).mono ?_;rintro _ w1⟨rfl,hR1,hg1⟩;by_cases c1:x<120
 ·have hV:V=x%12:=by rw[<-HV.out,if_pos c1]
  have hJ:J=j+1:=by rw[<-HJ.out,if_pos (by omega)]
  subst hV hJ;clear HV HJ HW1 HW2;go_wp2;go_ret;exact⟨rfl,hR1,hg1⟩
 by_cases c2:x<150
 ·have hV:V=x%3*4294967296:=by rw[<-HV.out,if_neg c1,if_pos c2]
  have hJ:J=j+1:=by rw[<-HJ.out,if_pos (by omega)]
  subst hV hJ;clear HV HJ HW1 HW2;go_wp2;go_ret;exact⟨rfl,hR1,hg1⟩
 by_cases c3:x<170
 ·have hV:V=18446744073709551615-x%3:=by rw[<-HV.out,if_neg c1,if_neg c2,if_pos c3]
  have hJ:J=j+1:=by rw[<-HJ.out,if_pos (by omega)]
  subst hV hJ;clear HV HJ HW1 HW2;go_wp2;go_ret;exact⟨rfl,hR1,hg1⟩
 by_cases c4:x<190
 ·have hV:V=2^(x*7%64).toNat:=by rw[<-HV.out,if_neg c1,if_neg c2,if_neg c3,if_pos c4]
  have hJ:J=j+1:=by rw[<-HJ.out,if_pos (by omega)]
  subst hV hJ;clear HV HJ HW1 HW2;go_wp2;go_ret;refine⟨ret_int ?_,hR1,hg1⟩;have hp:=(pow_64 (x*7%64).toNat (by omega)).2.1;first|exact hp|(rw[IntKind.wrap_u64];exact hp)
 by_cases c5:x<215
 ·have hV:V=140733193392128+x%16*4096:=by rw[<-HV.out,if_neg c1,if_neg c2,if_neg c3,if_neg c4,if_pos c5]
  have hJ:J=j+1:=by rw[<-HJ.out,if_pos (by omega)]
  subst hV hJ;clear HV HJ HW1 HW2;go_wp2;go_ret;exact⟨rfl,hR1,hg1⟩
 by_cases c6:x<225
 ·have hV:V=4294967295+x%3:=by rw[<-HV.out,if_neg c1,if_neg c2,if_neg c3,if_neg c4,if_neg c5,if_pos c6]
  have hJ:J=j+1:=by rw[<-HJ.out,if_pos c6]
  subst hV hJ;clear HV HJ HW1 HW2;go_wp2;go_ret;exact⟨rfl,hR1,hg1⟩
 have hV:V=bits .xor .u64 (y*4294967297) z:=by rw[<-HV.out,if_neg c1,if_neg c2,if_neg c3,if_neg c4,if_neg c5,if_neg c6]
 have hJ:J=J3:=by rw[<-HJ.out,if_neg c6]
 subst hV hJ;clear HV HJ;go_wp2_with fail;refine(HW1.out _ hR1).mono ?_;rintro _ w2⟨rfl,hR2,hg2⟩;go_wp2_with fail;refine(HW2.out _ hR2).mono ?_;rintro _ w3⟨rfl,hR3,hg3⟩;go_wp2;go_ret;exact⟨rfl,hR3,rb_trans hg1 (rb_trans hg2 hg3)⟩
def nearV(v:Int)(l:List Int)(j:Nat):Int:=
 if l.getD j 0%8<3 then v else if l.getD j 0%8=3 then(v+1)%18446744073709551616 else if l.getD j 0%8=4 then(v-1)%18446744073709551616
 else if l.getD j 0%8=5 then bits .xor .u64 v (2^(l.getD j 0/8%8).toNat)else if l.getD j 0%8=6 then bits .xor .u64 v (2^(l.getD j 0%64).toNat)else argV l (j+1)
def nearJ(l:List Int)(j:Nat):Nat:=if l.getD j 0%8<7 then j+1 else argJ l (j+1)
theorem nearV_isU{v:Int}(hv:isU v)(l:List Int)(hl:isBytes l)(j:Nat):isU (nearV v l j):=by
 unfold nearV;split
 ·exact hv
 split
 ·unfold isU;omega
 split
 ·unfold isU;omega
 split
 ·exact isU_bits _ _ _
 split
 ·exact isU_bits _ _ _
 exact argV_isU l hl _
theorem near_any(v:Int)(R cap:Nat)(a:Option Addr)(l:List Int)(j:Nat)(w:World)(hv:isU v)(hR:Rd w R a cap l j):
 Calls Tryz.prog 42 #[.int .u64 v,.pointer (some ⟨R,0,none⟩)] w fun e w'=>e=.returned (.int .u64 (nearV v l j))∧Rd w' R a cap l (nearJ l j)∧w.grownBy w' (some R):=by
 have hx:=isBytes_getD hR.bys j;have HN1:=nx1 R cap a l j (j+1) rfl;have HA:Hid (∀W,Rd W R a cap l (j+1)->Calls Tryz.prog 81 #[.pointer (some ⟨R,0,none⟩)] W fun e w'=>e=.returned (.int .u64 (argV l (j+1)))∧Rd w' R a cap l (argJ l (j+1))∧W.grownBy w' (some R)):=fun W h=>arg_any R cap a l (j+1) W h
 obtain⟨hv0,hv1⟩:=hv;obtain⟨V,hV⟩:∃V,nearV v l j=V:=⟨_,rfl⟩;obtain⟨J,hJ⟩:∃J,nearJ l j=J:=⟨_,rfl⟩;rw[hV,hJ];unfold nearV at hV;unfold nearJ at hJ;generalize l.getD j 0=x at*;generalize argV l (j+1)=y at*;generalize argJ l (j+1)=J2 at*;have HV:Hid _:=hV;have HJ:Hid _:=hJ;clear hV hJ;go_enter Tryz.func42,Tryz.ntmps42;go_wp2_with fail;refine(HN1.out _ hR).mono ?_;rintro _ w1⟨rfl,hR1,hg1⟩;by_cases c1:x%8<3
 ·have hV:V=v:=by rw[<-HV.out,if_pos c1]
  have hJ:J=j+1:=by rw[<-HJ.out,if_pos (by omega)]
  subst hV hJ;clear HV HJ HA;go_wp2;go_ret;exact⟨rfl,hR1,hg1⟩
 by_cases c2:x%8=3
 ·have hV:V=(v+1)%18446744073709551616:=by rw[<-HV.out,if_neg c1,if_pos c2]
  have hJ:J=j+1:=by rw[<-HJ.out,if_pos (by omega)]
  subst hV hJ;clear HV HJ HA;go_wp2;go_ret;refine⟨ret_int ?_,hR1,hg1⟩;first|rfl|(rw[IntKind.wrap_u64])
 by_cases c3:x%8=4
 ·have hV:V=(v-1)%18446744073709551616:=by rw[<-HV.out,if_neg c1,if_neg c2,if_pos c3]
  have hJ:J=j+1:=by rw[<-HJ.out,if_pos (by omega)]
  subst hV hJ;clear HV HJ HA;go_wp2;go_ret;refine⟨ret_int ?_,hR1,hg1⟩;first|rfl|(rw[IntKind.wrap_u64])
 by_cases c4:x%8=5
 ·have hV:V=bits .xor .u64 v (2^(x/8%8).toNat):=by rw[<-HV.out,if_neg c1,if_neg c2,if_neg c3,if_pos c4]
  have hJ:J=j+1:=by rw[<-HJ.out,if_pos (by omega)]
  have hp:IntKind.u64.wrap ((2:Int)^(x/8%8).toNat)=2^(x/8%8).toNat:=by rw[IntKind.wrap_u64];exact(pow_64 (x/8%8).toNat (by omega)).2.1
  subst hV hJ;clear HV HJ HA;go_wp2;go_ret;refine⟨ret_int ?_,hR1,hg1⟩;first|rfl|(rw[hp])
 by_cases c5:x%8=6
 ·have hV:V=bits .xor .u64 v (2^(x%64).toNat):=by rw[<-HV.out,if_neg c1,if_neg c2,if_neg c3,if_neg c4,if_pos c5]
  have hJ:J=j+1:=by rw[<-HJ.out,if_pos (by omega)]
  have hp:IntKind.u64.wrap ((2:Int)^(x%64).toNat)=2^(x%64).toNat:=by rw[IntKind.wrap_u64];exact(pow_64 (x%64).toNat (by omega)).2.1
  subst hV hJ;clear HV HJ HA;go_wp2;go_ret;refine⟨ret_int ?_,hR1,hg1⟩;first|rfl|(rw[hp])
 have hV:V=y:=by rw[<-HV.out,if_neg c1,if_neg c2,if_neg c3,if_neg c4,if_neg c5]
 have hJ:J=J2:=by rw[<-HJ.out,if_neg (by omega)]
 subst hV hJ;clear HV HJ;go_wp2_with fail;refine(HA.out _ hR1).mono ?_;rintro _ w2⟨rfl,hR2,hg2⟩;go_wp2;go_ret;exact⟨rfl,hR2,rb_trans hg1 hg2⟩
theorem Box3.set0{w:World}{g:Nat}{x y z:Value}(h:Box3 w g x y z)(x':Value):Box3 (w.setCell ⟨g,0,none⟩ x') g x' y z:=by
 obtain⟨hl,c0,c1,c2,f0,f1,f2⟩:=h;refine⟨by simpa[World.setCell]using hl,?_,?_,?_,?_,?_,?_⟩;all_goals simp[go_sem,c0,c1,c2,f0,f1,f2]
theorem Box3.set1{w:World}{g:Nat}{x y z:Value}(h:Box3 w g x y z)(x':Value):Box3 (w.setCell ⟨g,1,none⟩ x') g x x' z:=by
 obtain⟨hl,c0,c1,c2,f0,f1,f2⟩:=h;refine⟨by simpa[World.setCell]using hl,?_,?_,?_,?_,?_,?_⟩;all_goals simp[go_sem,c0,c1,c2,f0,f1,f2]
theorem Box3.set2{w:World}{g:Nat}{x y z:Value}(h:Box3 w g x y z)(x':Value):Box3 (w.setCell ⟨g,2,none⟩ x') g x y x':=by
 obtain⟨hl,c0,c1,c2,f0,f1,f2⟩:=h;refine⟨by simpa[World.setCell]using hl,?_,?_,?_,?_,?_,?_⟩;all_goals simp[go_sem,c0,c1,c2,f0,f1,f2]
theorem ownsU_setD{w:World}{D j:Nat}{v x:Value}{l:List Int}(h:ownsU w (D+1) v l):ownsU (w.setCell ⟨D,j,none⟩ x) (D+1) v l:=
 ownsU_set h (fun q hq=>by have:=(h.lt q hq).1;omega)
def archD(l:List Int)(j:Nat):Int:=if l.getD j 0%8<6 then 3221225534 else if l.getD j 0%8=6 then 1073741827 else 7
def nrD(l:List Int)(j:Nat):Int:=if 240<l.getD (j+1) 0 then wordV l (j+2)else l.getD (j+1) 0%6
def nrJ(l:List Int)(j:Nat):Nat:=if 240<l.getD (j+1) 0 then wordJ l (j+2)else j+2
def agD(l:List Int)(k:Int)(j:Nat):Nat->List Int×Nat
 |0=>([],j)
 |i+1=>if 2<i∧0<k%4 then((agD l k j i).1++[0],(agD l k j i).2)else((agD l k j i).1++[argV l (agD l k j i).2],argJ l (agD l k j i).2)
def callD(l:List Int)(j:Nat):C:=⟨archD l j,nrD l j,(agD l (l.getD (j+1) 0) (nrJ l j) 6).1⟩
def callJ(l:List Int)(j:Nat):Nat:=(agD l (l.getD (j+1) 0) (nrJ l j) 6).2
theorem agD_succ(l:List Int)(k:Int)(j i:Nat):agD l k j (i+1)=if 2<i∧0<k%4 then((agD l k j i).1++[0],(agD l k j i).2)else((agD l k j i).1++[argV l (agD l k j i).2],argJ l (agD l k j i).2):=rfl
theorem agD_len(l:List Int)(k:Int)(j i:Nat):(agD l k j i).1.length=i:=by
 induction i with
 |zero=>rfl
 |succ i ih=>
  unfold agD;split<;>simp[ih]
theorem agD_ok(l:List Int)(hl:isBytes l)(k:Int)(j i:Nat):∀x∈(agD l k j i).1,isU64 x:=by
 induction i with
 |zero=>intro x hx;simp[agD]at hx
 |succ i ih=>
  unfold agD;split
  ·intro x hx;simp only[List.mem_append,List.mem_singleton]at hx;rcases hx with hx|rfl
   ·exact ih x hx
   unfold isU64;omega
  intro x hx;simp only[List.mem_append,List.mem_singleton]at hx;rcases hx with hx|rfl
  ·exact ih x hx
  exact argV_isU l hl _
theorem callD_ok(l:List Int)(hl:isBytes l)(j:Nat):(callD l j).ok∧(callD l j).args.length=6:=by
 refine⟨⟨?_,?_,?_,?_,agD_ok l hl _ _ 6⟩,agD_len l _ _ 6⟩
 ·show 0<=archD l j;unfold archD;split<;>(try split)<;>omega
 ·show archD l j<=_;unfold archD;split<;>(try split)<;>omega
 ·show 0<=nrD l j
  have:=wordV_range l hl (j+2);unfold nrD;split<;>omega
 show nrD l j<=_
 have:=wordV_range l hl (j+2);unfold nrD;split<;>omega
theorem arch_any(R cap:Nat)(a:Option Addr)(l:List Int)(j:Nat)(w:World)(hR:Rd w R a cap l j):
 Calls Tryz.prog 79 #[.pointer (some ⟨R,0,none⟩)] w fun e w'=>e=.returned (.int .u32 (archD l j))∧Rd w' R a cap l (j+1)∧w.grownBy w' (some R):=by
 have hx:=isBytes_getD hR.bys j;have HN1:=nx1 R cap a l j (j+1) rfl;obtain⟨V,hV⟩:∃V,archD l j=V:=⟨_,rfl⟩;rw[hV];unfold archD at hV;generalize l.getD j 0=x at*;have HV:Hid _:=hV;clear hV;go_enter Tryz.func79,Tryz.ntmps79;go_wp2_with fail;refine(HN1.out _ hR).mono ?_;rintro _ w1⟨rfl,hR1,hg1⟩;by_cases c1:x%8<6
 ·have hV:V=3221225534:=by rw[<-HV.out,if_pos c1]
  subst hV;clear HV;go_wp2;go_ret;exact⟨rfl,hR1,hg1⟩
 by_cases c2:x%8=6
 ·have hV:V=1073741827:=by rw[<-HV.out,if_neg c1,if_pos c2]
  subst hV;clear HV;go_wp2;go_ret;exact⟨rfl,hR1,hg1⟩
 have hV:V=7:=by rw[<-HV.out,if_neg c1,if_neg c2]
 have c3:x%8=7:=by omega
 subst hV;clear HV;go_wp2;go_ret;refine⟨ret_int ?_,hR1,hg1⟩;rfl
theorem rb_setX{w wr:World}{R B:Nat}(h:w.grownBy wr (some R))(hB:w.heap.size<=B)(j:Nat)(v:Value):w.grownBy (wr.setCell ⟨B,j,none⟩ v) (some R):=
 ⟨h.os,h.tape,h.output,by have:=h.size;simpa[World.setCell]using this,fun k hk hne=>(Below.heap_setCell wr ⟨B,j,none⟩ v k (fun e=>by simp at e;omega)).trans (h.block k hk hne)⟩
theorem Rd.setX{w:World}{R cap j:Nat}{a:Option Addr}{l:List Int}(h:Rd w R a cap l j)(B i:Nat)(hB:R<B)(v:Value):Rd (w.setCell ⟨B,i,none⟩ v) R a cap l j:=
 h.keep (fun k hk=>Below.heap_setCell w ⟨B,i,none⟩ v k (fun e=>by simp at e;omega))
theorem Box3.grownX{w w1:World}{g:Nat}{x y z:Value}{row:Option Nat}(h:Box3 w g x y z)(hg:w.grownBy w1 row)(hne:some g≠row):Box3 w1 g x y z:=by
 have e:=hg.block g h.lt hne;have ec:∀o,w1.cell? ⟨g,o,none⟩=w.cell? ⟨g,o,none⟩:=fun o=>World.cell?_of_block (w:=w) e
 have ef:∀o,w1.frozen? ⟨g,o,none⟩=w.frozen? ⟨g,o,none⟩:=fun o=>by simp[World.frozen?,e]
 exact⟨Nat.lt_of_lt_of_le h.lt hg.size,(ec 0).trans h.c0,(ec 1).trans h.c1,(ec 2).trans h.c2,(ef 0).trans h.f0,(ef 1).trans h.f1,(ef 2).trans h.f2⟩
theorem ownsU_rdX{w w1:World}{B R:Nat}{v:Value}{l:List Int}(h:ownsU w B v l)(hg:w.grownBy w1 (some R))(hR:R<B):ownsU w1 B v l:=
 ownsU_kept h hg (fun q hq e=>by
  have h1:=(h.lt q hq).1
  have h2:q=R:=by simpa using e
  omega)
theorem Box3.setO{w:World}{g D i:Nat}{x y z u:Value}(h:Box3 w g x y z)(hne:g≠D):Box3 (w.setCell ⟨D,i,none⟩ u) g x y z:=
 h.grownX (rb_set (World.grownBy.refl w (some D)) i u) (fun e=>hne (by simpa using e))
structure DcS(w W:World)(R:Nat)(a:Option Addr)(cap:Nat)(l:List Int)(j G:Nat)(x y:Int)(v:Value)(xs:List Int):Prop where
 rd:Rd W R a cap l j
 box:Box3 W G (.int .u32 x) (.int .u32 y) v
 res:Box3 W w.heap.size (.int .u32 0) (.int .u32 0) (.slice none 0 0)
 own:ownsU W (G+1) v xs
 gr:w.grownBy W (some R)
 lt:R<w.heap.size
 hb:w.heap.size<G
theorem DcS.draw{w W W1:World}{R cap j j1 G:Nat}{a:Option Addr}{l xs:List Int}{x y:Int}{v:Value}(h:DcS w W R a cap l j G x y v xs)(hr:Rd W1 R a cap l j1)(hg:W.grownBy W1 (some R)):DcS w W1 R a cap l j1 G x y v xs:=
 have h1:=h.lt
 have h2:=h.hb
 ⟨hr,h.box.grownX hg (fun e=>by simp at e;omega),h.res.grownX hg (fun e=>by simp at e;omega),ownsU_rdX h.own hg (by omega),rb_trans h.gr hg,h1,h2⟩
theorem DcS.below{w W W1:World}{R cap j G:Nat}{a:Option Addr}{l xs:List Int}{x y:Int}{v:Value}(h:DcS w W R a cap l j G x y v xs)(hb:Below W.heap.size W W1):DcS w W1 R a cap l j G x y v xs:=
 ⟨h.rd.below hb,h.box.keep hb,h.res.keep hb,ownsU_below h.own hb,rb_trans h.gr (rb_below hb),h.lt,h.hb⟩
theorem DcS.alloc{w W:World}{R cap j G:Nat}{a:Option Addr}{l xs:List Int}{x y:Int}{v:Value}(h:DcS w W R a cap l j G x y v xs)(o:Obj):DcS w (W.alloc o) R a cap l j G x y v xs:=
 h.below ((Below.refl _ _).alloc (Nat.le_refl _) o)
theorem DcS.drew{w W:World}{R cap j G:Nat}{a:Option Addr}{l xs:List Int}{x y:Int}{v:Value}(h:DcS w W R a cap l j G x y v xs):DcS w W.drew R a cap l j G x y v xs:=
 h.below (Below.refl _ _).drew
theorem DcS.push{w W W1:World}{R cap j G:Nat}{a:Option Addr}{l xs ys:List Int}{x y:Int}{v v1:Value}(h:DcS w W R a cap l j G x y v xs)(hg:W.grownBy W1 v.ownBlock)(ho:ownsU W1 (G+1) v1 ys):DcS w (W1.setCell ⟨G,2,none⟩ v1) R a cap l j G x y v1 ys:=by
 have hge:∀k,v.ownBlock=some k->G+1<=k:=fun k hk=>(h.own.lt k hk).1
 have hlt:=h.lt;have hb:=h.hb;refine⟨(h.rd.grown hg (by omega:R<G+1) hge).setX G 2 (by omega) _,(h.box.grownX hg (fun e=>by have:=hge G e.symm;omega)).set2 _,(h.res.grownX hg (fun e=>by have:=hge _ e.symm;omega)).setO (by omega),ownsU_setD ho,rb_setX (rb_own h.gr hg (fun k hk=>by have:=hge k hk;omega)) (by omega) 2 _,hlt,hb⟩
theorem DcS.nr{w W:World}{R cap j G:Nat}{a:Option Addr}{l xs:List Int}{x y:Int}{v:Value}(h:DcS w W R a cap l j G x y v xs)(y1:Int):DcS w (W.setCell ⟨G,1,none⟩ (.int .u32 y1)) R a cap l j G x y1 v xs:=
 have h1:=h.lt
 have h2:=h.hb
 ⟨h.rd.setX G 1 (by omega) _,h.box.set1 _,h.res.setO (by omega),ownsU_setD h.own,rb_setX h.gr (by omega) 1 _,h1,h2⟩
end Go.Proofs.YtddemlfepjkgoaaGreat
namespace Go.Proofs.YtddemlfepjkgoaaGreat
open Go.RowKit Go.Deep
theorem drawCall_any(R cap:Nat)(a:Option Addr)(l:List Int)(j:Nat)(w:World)(hR:Rd w R a cap l j):
 Calls Tryz.prog 40 #[.pointer (some ⟨R,0,none⟩)] w fun e w'=>∃v,e=.returned (callV (callD l j) v)∧ownsU w' w.heap.size v (callD l j).args∧Rd w' R a cap l (callJ l j)∧w.grownBy w' (some R):=by
 obtain⟨i1,hi1,hy0,hy1,hy2⟩:=info_parts info61;have hx:=isBytes_getD hR.bys (j+1);have HAr:Hid (∀W,Rd W R a cap l j->Calls Tryz.prog 79 #[.pointer (some ⟨R,0,none⟩)] W fun e w'=>e=.returned (.int .u32 (archD l j))∧Rd w' R a cap l (j+1)∧W.grownBy w' (some R)):=fun W h=>arch_any R cap a l j W h
 have HN:=nx1 R cap a l (j+1) (j+2) rfl;have HW:Hid (∀W,Rd W R a cap l (j+2)->Calls Tryz.prog 80 #[.pointer (some ⟨R,0,none⟩)] W fun e w'=>e=.returned (.int .u32 (wordV l (j+2)))∧Rd w' R a cap l (wordJ l (j+2))∧W.grownBy w' (some R)):=fun W h=>drawWord_any R cap a l (j+2) W h
 obtain⟨k,hk⟩:∃k,l.getD (j+1) 0=k:=⟨_,rfl⟩;obtain⟨A,hA⟩:∃A:Nat->List Int,∀i,(agD l k (nrJ l j) i).1=A i:=⟨_,fun _=>rfl⟩;obtain⟨J,hJ⟩:∃J:Nat->Nat,∀i,(agD l k (nrJ l j) i).2=J i:=⟨_,fun _=>rfl⟩;have HA:Hid (∀i W,Rd W R a cap l (J i)->Calls Tryz.prog 81 #[.pointer (some ⟨R,0,none⟩)] W fun e w'=>e=.returned (.int .u64 (argV l (J i)))∧Rd w' R a cap l (argJ l (J i))∧W.grownBy w' (some R)):=fun i W h=>arg_any R cap a l (J i) W h
 have HS0:Hid (∀i,2<i->0<k%4->A (i+1)=A i++[0]∧J (i+1)=J i):=fun i h1 h2=>by
  rw[<-hA (i+1),<-hJ (i+1),<-hA i,<-hJ i,agD_succ,if_pos ⟨h1,h2⟩];exact⟨rfl,rfl⟩
 have HS1:Hid (∀i,¬(2<i∧0<k%4)->A (i+1)=A i++[argV l (J i)]∧J (i+1)=argJ l (J i)):=fun i h1=>by
  rw[<-hA (i+1),<-hJ (i+1),<-hA i,<-hJ i,agD_succ,if_neg h1];exact⟨rfl,rfl⟩
 have HL:Hid (∀i,(A i).length=i):=fun i=>by rw[<-hA i];exact agD_len l k _ i
 have hJ0:J 0=nrJ l j:=(hJ 0).symm;have hA0:A 0=[]:=(hA 0).symm;have hcd:callD l j=⟨archD l j,nrD l j,A 6⟩:=by unfold callD;rw[hk,hA 6]
 have hcj:callJ l j=J 6:=by unfold callJ;rw[hk,hJ 6]
 rw[hcd,hcj];have hnr:nrD l j=if 240<k then wordV l (j+2)else k%6:=by unfold nrD;rw[hk]
 have hnj:nrJ l j=if 240<k then wordJ l (j+2)else j+2:=by unfold nrJ;rw[hk]
 rw[hnj]at hJ0;obtain⟨NR,hNR⟩:∃NR:Int,(if 240<k then wordV l (j+2)else k%6)=NR:=⟨_,rfl⟩;rw[hnr,hNR];have HNR:Hid ((if 240<k then wordV l (j+2)else k%6)=NR):=hNR;rw[hk]at hx HN;clear hcd hcj hA hJ hnr hnj hk hNR;generalize archD l j=ar at*;have HJ0:Hid _:=hJ0;have HA0:Hid _:=hA0;clear hJ0 hA0;have hw0:=wordV_range l hR.bys (j+2);have hRw:=hR.lt;have b0:Below w.heap.size w (w.alloc (.cells #[.int .u32 0,.int .u32 0,.slice none 0 0] 39)):=(Below.refl _ _).alloc (Nat.le_refl _) _;have X0:=Box3.new w 39 (.int .u32 0) (.int .u32 0) (.slice none 0 0);go_enter Tryz.func40,Tryz.ntmps40;go_wp2_with fail;generalize w.alloc (.cells #[.int .u32 0,.int .u32 0,.slice none 0 0] 39)=w0 at*;refine(HAr.out _ (hR.below b0)).mono ?_;rintro _ w1⟨rfl,hR1,hg1⟩;have X1:=X0.grownX hg1 (fun e=>by simp at e;omega);have hlt1:=X1.lt;have D1:DcS w (w1.alloc (.cells #[.int .u32 ar,.int .u32 0,.slice none 0 0] 39)) R a cap l (j+1) w1.heap.size ar 0 (.slice none 0 0) []:=
  ⟨hR1.alloc _,Box3.new w1 _ _ _ _,X1.alloc _,World.ownsRow_nil _ _ _ _,rb_alloc (rb_trans (rb_below b0) hg1) _,hRw,hlt1⟩
 clear hg1 X0 X1 hR1 b0;go_wp2_with fail;generalize w1.alloc (.cells #[.int .u32 ar,.int .u32 0,.slice none 0 0] 39)=W1 at*;generalize w1.heap.size=G at*;refine(HN.out _ D1.rd).mono ?_;rintro _ w2⟨rfl,hR2,hg2⟩;have D2:=D1.draw hR2 hg2;have D3:=D2.nr (k%6);obtain⟨_,c0,c1,c2,f0,f1,f2⟩:=D2.box;clear D1 hR2 hg2;have hk6:IntKind.u32.wrap (k%6)=k%6:=by rw[IntKind.wrap_u32];omega
 by_cases hk:240<k
 case' pos=>
  have hkn:NR=wordV l (j+2):=by rw[<-HNR.out,if_pos hk]
  have hkj:Hid (J 0=wordJ l (j+2)):=by have:=HJ0.out;rw[if_pos hk]at this;exact this
  have HW2:Hid (∀W,Rd W R a cap l (j+2)->Calls Tryz.prog 80 #[.pointer (some ⟨R,0,none⟩)] W fun e w'=>e=.returned (.int .u32 NR)∧Rd w' R a cap l (wordJ l (j+2))∧W.grownBy w' (some R)):=by rw[hkn];exact HW
  clear HNR HJ0 HW hkn;go_wp2_with fail;generalize w2.setCell ⟨G,1,none⟩ (.int .u32 (k%6))=W3 at*;refine(HW2.out _ D3.rd).mono ?_;rintro _ w4⟨rfl,hR4,hg4⟩;have D4:=D3.draw hR4 hg4;have D5:=D4.nr NR;obtain⟨_,c0,c1,c2,f0,f1,f2⟩:=D4.box;rw[<-hkj.out]at D5;clear D2 D3 D4 hg4 hR4 HW2;go_wp2_with fail;generalize w4.setCell ⟨G,1,none⟩ (.int .u32 NR)=W5 at*
 case' neg=>
  have hkn:Hid (NR=k%6):=by unfold Hid;rw[<-HNR.out,if_neg hk]
  have hkj:Hid (J 0=j+2):=by have:=HJ0.out;rw[if_neg hk]at this;exact this
  clear HNR HJ0 HW;rw[<-hkj.out]at D3;have D5:=D3;clear D2 D3;go_wp2_with fail;rw[<-hkn.out];rw[<-hkn.out]at D5;generalize w2.setCell ⟨G,1,none⟩ (.int .u32 NR)=W5 at*
 all_goals
  rw[<-HA0.out]at D5;clear HAr HN hkj c0 c1 c2 f0 f1 f2;go_loopw [5](fun i W=>∃(n:Nat)(v:Value),i=.int .i64 (n:Int)∧n<=6∧DcS w W R a cap l (J n) G ar NR v (A n))(fun i _=>6-(intOf i).toNat)
  case atStart=>exact⟨0,_,rfl,by omega,D5⟩
  case round=>
   obtain⟨n,v,rfl,hn6,D⟩:=hrel;clear D5;obtain⟨av,cv,ev,_⟩:=ownsU_src D.own;rw[HL.out n]at ev;subst ev;by_cases hlt:n<6
   ·have hbm:n+1<=maxLen:=by unfold maxLen;omega
    have hbd:(n+1)*8<=140737488355328:=by omega
    by_cases hz:2<n∧0<k%4
    ·obtain⟨eA,eJ⟩:=HS0.out n hz.1 hz.2;have HeA:Hid _:=eA;have HeJ:Hid _:=eJ;have hz1:(2:Int)<(n:Int):=by omega
     have hz2:=hz.2;clear eA eJ hz;have DA:=D.alloc (.cells #[.int .u64 0] 69);have ho:=DA.own;rw[ownsU,HL.out n]at ho;have hG:=DA.box.lt;obtain⟨_,c0,c1,c2,f0,f1,f2⟩:=D.box;clear HA HS0 HS1;go_wp2_with(at_builtin;refine wpList_append_lies _ rfl (.tmp 32) (.tmp 33) 37 rfl (G+1) 69 i1 (.int .u64 0) 1 8 Tryz.underlying37 hi1 hy0 hy1 hy2 rfl (by decide) _ n ((A n).map (Value.int .u64)) rfl ho ⟨wr.heap.size,0,none⟩ 1 1 [.int .u64 0] rfl rfl (World.news_of_block (t:=69) (fr:=(0,0)) (heap_alloc_new wr _)) (by simp[Value.oneCell']) (by omega) hbm hbd (by omega) (wr.heap.size+1) (by simp) ?_);intro g' cp' w9 ow gr _ _;have o9:ownsU w9 (G+1) (.slice (some ⟨g',0,none⟩) (n+1) cp') (A (n+1)):=by
      rw[HeA.out,ownsU,List.length_append,HL.out n,List.map_append];exact ow
     have D9:=DA.push gr o9;rw[<-HeJ.out]at D9;obtain⟨_,b0,b1,b2,e0,e1,e2⟩:=DA.box.grownX gr (fun e=>by have:=(DA.own.lt G e.symm).1;omega);clear ow gr o9 DA D ho HeA HeJ c0 c1 c2 f0 f1 f2;go_wp2;go_roundw
     case rel=>exact⟨n+1,_,by go_num,by omega,D9⟩
     case measure=>simp[intOf];omega
    obtain⟨eA,eJ⟩:=HS1.out n hz;have HeA:Hid _:=eA;have HeJ:Hid _:=eJ;have hz':¬((2:Int)<(n:Int))∨((2:Int)<(n:Int)∧¬(0<k%4)):=by omega
    clear eA eJ hz;have HA':=HA.out n;have HA2:Hid (∀W,Rd W R a cap l (J n)->Calls Tryz.prog 81 #[.pointer (some ⟨R,0,none⟩)] W fun e w'=>e=.returned (.int .u64 (argV l (J n)))∧Rd w' R a cap l (argJ l (J n))∧W.grownBy w' (some R)):=HA';have hln:=HL.out n;clear HA HS0 HS1 HA';generalize argV l (J n)=x at*;generalize argJ l (J n)=Jx at*;generalize A n=An at*;generalize J n=Jn at*;obtain⟨_,c0,c1,c2,f0,f1,f2⟩:=D.drew.box;have Dd:=D.drew;rcases hz' with hz'|⟨hz',hz2⟩
    all_goals
     go_wp2_with fail;go_region_law(first
      |(refine step_append_lies _ (by rfl) _ _ _ (by rfl) (G+1) 69 i1 (.int .u64 0) 1 8 Tryz.underlying37 hi1 hy0 hy1 hy2 rfl (by decide) _ n (An.map (Value.int .u64)) (by rfl) (by have h:=D8.own;rw[ownsU,hln]at h;exact h) ⟨w7.heap.size,0,none⟩ 1 1 [.int .u64 x] (by rfl) (by rfl) (World.news_of_block (t:=69) (fr:=(0,0)) (heap_alloc_new w7 _)) (by simp[Value.oneCell']) (by omega) hbm hbd (by have:=D8.box.lt;omega) (w7.heap.size+1) (by simp) ?_;intro g' cp' w9 ow gr _ _;obtain⟨_,b0,b1,b2,e0,e1,e2⟩:=D8.box.grownX gr (fun e=>by have:=(D8.own.lt G e.symm).1;omega))
      |(go_simp;go_at_call 81;refine(HA2.out _ Dd.rd).mono ?_;rintro _ w7⟨rfl,hR7,hg7⟩;have D7:=Dd.draw hR7 hg7;have D8:=D7.alloc (.cells #[.int .u64 x] 69);have c7:=D7.box.c2;have c8:=D8.box.c2;go_wp2_with fail))
     all_goals
      have o9:ownsU w9 (G+1) (.slice (some ⟨g',0,none⟩) (n+1) cp') (A (n+1)):=by
       rw[HeA.out,ownsU,List.length_append,hln,List.map_append];exact ow
      have D9:=D8.push gr o9;rw[<-HeJ.out]at D9;clear ow gr o9 D8 D7 D Dd HeA HeJ c0 c1 c2 f0 f1 f2 b0 b1 b2 e0 e1 e2 c7 c8 hR7 hg7 HA2;go_wp2;go_roundw
      case rel=>exact⟨n+1,_,by go_num,by omega,D9⟩
      case measure=>simp[intOf];omega
   obtain rfl:n=6:=by omega
   have HLc:=HL.out 6;obtain⟨_,c0,c1,c2,f0,f1,f2⟩:=D.box;obtain⟨_,b0,b1,b2,e0,e1,e2⟩:=D.res;have hGw:=D.hb;have hRw':=D.lt;have o6:ownsU (((wr.setCell ⟨w.heap.size,0,none⟩ (.int .u32 ar)).setCell ⟨w.heap.size,1,none⟩ (.int .u32 NR)).setCell ⟨w.heap.size,2,none⟩ (.slice av 6 cv)) w.heap.size (.slice av 6 cv) (A 6):=by
    have hne:∀q,(Value.slice av 6 cv).ownBlock=some q->q≠w.heap.size:=fun q hq=>by have:=(D.own.lt q hq).1;omega
    exact ownsU_mono (ownsU_set (ownsU_set (ownsU_set D.own hne) hne) hne) (by omega)
   have r6:=((D.rd.setX w.heap.size 0 hRw' (.int .u32 ar)).setX w.heap.size 1 hRw' (.int .u32 NR)).setX w.heap.size 2 hRw' (.slice av 6 cv);have g6:=rb_setX (rb_setX (rb_setX D.gr (Nat.le_refl _) 0 (.int .u32 ar)) (Nat.le_refl _) 1 (.int .u32 NR)) (Nat.le_refl _) 2 (.slice av 6 cv);clear HA HS0 HS1 D;go_wp2;refine bodyPost_ret (v:=.agg #[.int .u32 ar,.int .u32 NR,.slice av 6 cv]) (by simp[results,Tryz.results40,go_sem,b0,b1,b2]) rfl ?_;exact⟨_,rfl,o6,r6,g6⟩
end Go.Proofs.YtddemlfepjkgoaaGreat
namespace Go.Proofs.YtddemlfepjkgoaaGreat
open Go.RowKit
theorem Box3.keepB{w w1:World}{g B:Nat}{x y z:Value}(h:Box3 w g x y z)(hb:Below B w w1)(hg:g<B):Box3 w1 g x y z:=
 ⟨Nat.lt_of_lt_of_le h.lt hb.size,(hb.cell (p:=⟨g,_,none⟩) hg).trans h.c0,(hb.cell (p:=⟨g,_,none⟩) hg).trans h.c1,(hb.cell (p:=⟨g,_,none⟩) hg).trans h.c2,
  (hb.frozen (p:=⟨g,_,none⟩) hg).trans h.f0,(hb.frozen (p:=⟨g,_,none⟩) hg).trans h.f1,(hb.frozen (p:=⟨g,_,none⟩) hg).trans h.f2⟩
end Go.Proofs.YtddemlfepjkgoaaGreat
namespace Go.Proofs.YtddemlfepjkgoaaGreat
def readF:Nat->Int->List Int->Option (Int×List Int)
 |_,_,[]=>none
 |k,v,b::r=>if 18446744073709551616<=b%128*128^k then none
  else if b<128 then(if b=0∧0<k then none else some (v+b%128*128^k,r))
  else readF (k+1) (v+b%128*128^k) r
def val:List Int->Int
 |[]=>0
 |b::r=>b%128+128*val r
def numsR:Nat->List Int->Option (List Int×List Int)
 |0,l=>some ([],l)
 |n+1,l=>(readF 0 0 l).bind fun q=>(numsR n q.2).map fun t=>(q.1::t.1,t.2)
def numsL(n:Nat)(l:List Int):Option (List Int):=(numsR n l).bind fun t=>if t.2=[]then some t.1 else none
end Go.Proofs.YtddemlfepjkgoaaGreat
