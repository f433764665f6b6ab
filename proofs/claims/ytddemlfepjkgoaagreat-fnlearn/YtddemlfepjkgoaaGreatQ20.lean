import Derived.Test.YtddemlfepjkgoaaGreatQ19
set_option linter.all false
set_option maxRecDepth 200000
set_option maxHeartbeats 16000000
namespace Go.Proofs.YtddemlfepjkgoaaGreat
open Go.RowKit
def or3(x y z:Int):Int:=if x≠0 then x else if y≠0 then y else z
def get3(x y z:Int)(j:Nat):Int:=if j=0 then x else if j=1 then y else z
theorem cmpOr_any (g : Nat) (x y z : Int) (w : World) (c : ∀ j, j < 3 -> w.cell? ⟨g, j, none⟩ = some (.int .i64 (get3 x y z j))) :
    Calls Tryz.prog 58 #[.slice (some ⟨g, 0, none⟩) 3 3] w fun e w' => e = .returned (.int .i64 (or3 x y z)) ∧ w' = w := by
  have HC : Hid (∀ j, j < 3 -> w.cell? ⟨g, j, none⟩ = some (.int .i64 (get3 x y z j))) := c
  have H1 : Hid (∀ j, j < 3 -> (∀ i, i < j -> get3 x y z i = 0) -> get3 x y z j ≠ 0 -> or3 x y z = get3 x y z j) := by
    intro j hj h0 h1
    have : j = 0 ∨ j = 1 ∨ j = 2 := by omega
    rcases this with rfl | rfl | rfl
    · simp only [get3, if_true] at h1 ⊢; unfold or3; rw [if_pos h1]
    · have a0 := h0 0 (by omega)
      simp [get3] at h1 a0 ⊢; unfold or3; rw [if_neg (by omega), if_pos h1]
    · have a0 := h0 0 (by omega)
      have a1 := h0 1 (by omega)
      simp [get3] at h1 a0 a1 ⊢; unfold or3; rw [if_neg (by omega), if_neg (by omega)]
  have H2 : Hid ((∀ i, i < 3 -> get3 x y z i = 0) -> or3 x y z = 0) := by
    intro h0
    have a0 := h0 0 (by omega)
    have a1 := h0 1 (by omega)
    have a2 := h0 2 (by omega)
    simp [get3] at a0 a1 a2; unfold or3; rw [if_neg (by omega), if_neg (by omega), a2]
  generalize or3 x y z = R at *
  generalize get3 x y z = G at *
  clear c
  go_enter Tryz.func58, Tryz.ntmps58
  go_wp2_with fail
  go_loopw [8] (fun i wr => ∃ j : Nat, j <= 3 ∧ i = .int .i64 j ∧ wr = w ∧ Hid (∀ i, i < j -> G i = 0)) (fun i _ => 3 - (intOf i).toNat)
  case atStart => exact ⟨0, by omega, rfl, rfl, fun i hi => by omega⟩
  case round =>
    obtain ⟨j, hj, rfl, rfl, HJ⟩ := hrel
    by_cases hlt : j < 3
    · have c0 := HC.out j hlt
      by_cases hq : G j = 0
      · have HJ2 : Hid (∀ i, i < j + 1 -> G i = 0) := by
          intro i hi
          by_cases e : i = j
          · rw [e]; exact hq
          · exact HJ.out i (by omega)
        rw [hq] at c0
        clear HC H1 H2 HJ hq
        go_wp2
        go_roundw
        case rel => exact ⟨j + 1, by omega, by go_num, trivial, HJ2⟩
        case measure => simp [intOf]; omega
      · have E : Hid (R = G j) := H1.out j hlt HJ.out hq
        have hq' : (G j != 0) = true := by simpa using hq
        clear HC H1 H2 HJ
        generalize G j = q at *
        go_wp2
        go_ret
        exact ⟨ret_int E.out.symm, rfl⟩
    · have E : Hid (R = 0) := H2.out (fun i hi => HJ.out i (by omega))
      clear HC H1 H2 HJ
      go_wp2
      go_ret
      exact ⟨ret_int E.out.symm, rfl⟩
theorem cell_alloc_some{W:World}{a:Addr}{v:Value}(o:Obj)(h:W.cell? a=some v):(W.alloc o).cell? a=some v:=by
 have hlt:a.block<W.heap.size:=by
  rcases Nat.lt_or_ge a.block W.heap.size with h'|h'
  ·exact h'
  simp[World.cell?,Array.getElem?_eq_none h']at h
 rw[World.cell?_alloc_lt _ _ _ hlt];exact h
def unbK(c:K):Bool:=if c.kind=1 then isLow (inv c.a)else true
theorem block_unb{c:K}(h:Normal c):blockK c=if unbK c=true then some (lowK c,highK c)else none:=by
 have ho:=h.ok;rcases h with rfl|⟨a,b,rfl,_,ha,hv⟩|⟨l,h,rfl,_⟩
 ·rfl
 ·have e1:blockK ⟨1,a,b⟩=if isLow (inv a)then some (b,b+inv a)else none:=rfl
  have e2:unbK ⟨1,a,b⟩=isLow (inv a):=rfl;have e3:lowK ⟨1,a,b⟩=b:=rfl;have e4:highK ⟨1,a,b⟩=b|||inv a:=rfl;rw[e1,e2,e3,e4];by_cases g:isLow (inv a)=true
  ·obtain⟨k,hk,e⟩:=(isLow_iff (inv_lt a)).1 g;have hz:=mask_free ha hv;rw[e]at hz;rw[if_pos g,if_pos g,e,(add_low hz).1]
  rw[if_neg g,if_neg g]
 rfl
theorem unbAny(w:World):Calls Tryz.prog 203 #[.agg #[]] w fun e w'=>e=.returned (.bool true)∧Below w.heap.size w w':=by
 go_enter Tryz.func203,Tryz.ntmps203;go_wp2;go_ret;exact⟨rfl,by first|exact Below.refl _ _|exact(Below.refl _ _).alloc (Nat.le_refl _) _⟩
theorem unbRange(a b:Nat)(w:World):Calls Tryz.prog 198 #[.agg #[.int .u64 (a:Int),.int .u64 (b:Int)]] w fun e w'=>e=.returned (.bool true)∧Below w.heap.size w w':=by
 go_enter Tryz.func198,Tryz.ntmps198;go_wp2;go_ret;exact⟨rfl,by first|exact Below.refl _ _|exact(Below.refl _ _).alloc (Nat.le_refl _) _⟩
theorem unbMask(a b:Nat)(w:World)(ha:a<18446744073709551616):Calls Tryz.prog 208 #[.agg #[.int .u64 (a:Int),.int .u64 (b:Int)]] w fun e w'=>e=.returned (.bool (isLow (inv a)))∧Below w.heap.size w w':=by
 have HN:Hid (bits .xor .u64 IntKind.u64.max (a:Int)=((inv a:Nat):Int)):=u64_not a ha;have HL:Hid (∀w,Calls Tryz.prog 88 #[.int .u64 ((inv a:Nat):Int)] w fun e w'=>e=.returned (.bool (isLow (inv a)))∧w'=w):=fun w=>isLowOnes_any (inv a) w (inv_lt a)
 generalize isLow (inv a)=R at*;go_enter Tryz.func208,Tryz.ntmps208;go_wp2_with fail;rw[HN.out];refine(HL.out _).mono ?_;rintro e w1⟨rfl,rfl⟩;go_wp2;go_ret;exact⟨rfl,(Below.refl _ _).alloc (Nat.le_refl _) _⟩
theorem meth_unb{c:K}(h:Normal c):Meth c "loop.example/s0039/impl.isUnbroken" #[] (.bool (unbK c)):=by
 have ho:=h.ok;rcases h with rfl|⟨a,b,rfl,_⟩|⟨a,b,rfl,_⟩
 ·exact⟨_,_,203,rfl,fun _=>by kernel_rfl,fun _ _=>by kernel_rfl,unbAny⟩
 ·exact⟨_,_,208,rfl,fun _=>by kernel_rfl,fun _ _=>by kernel_rfl,fun w=>unbMask a b w ho.2.1⟩
 exact⟨_,_,198,rfl,fun _=>by kernel_rfl,fun _ _=>by kernel_rfl,unbRange a b⟩
theorem reaches_any(h l:Nat)(w:World)(hh:h<18446744073709551616)(hl:l<18446744073709551616):
 Calls Tryz.prog 168 #[.int .u64 (h:Int),.int .u64 (l:Int)] w fun e w'=>e=.returned (.bool (decide (l<=h+1)))∧w'=w:=by
 obtain⟨R,hR⟩:∃R,decide (l<=h+1)=R:=⟨_,rfl⟩;have HR:Hid (decide (l<=h+1)=R):=hR;rw[hR];clear hR;by_cases l0:l=0
 ·subst l0;have e:R=true:=by rw[<-HR.out];simp
  subst e;clear HR;go_enter Tryz.func168,Tryz.ntmps168;go_wp2;go_ret;exact⟨rfl,rfl⟩
 have e0:((l:Int)==0)=false:=by rw[beq_eq_false_iff_ne];omega
 have e1:IntKind.u64.wrap ((l:Int)-1)=(l:Int)-1:=by rw[IntKind.wrap_u64,Int.emod_eq_of_lt (by omega) (by omega)]
 have hp:1<=(l:Int):=by omega
 clear l0;go_enter Tryz.func168,Tryz.ntmps168;go_wp2;go_ret;refine⟨?_,rfl⟩;rw[<-HR.out];congr 2;simp;try omega
theorem isBeside_any(a x b y:Nat)(w:World)(hx:x<18446744073709551616)(hy:y<18446744073709551616):
 Calls Tryz.prog 166 #[.agg #[.int .u64 (a:Int),.int .u64 (x:Int)],.agg #[.int .u64 (b:Int),.int .u64 (y:Int)]] w fun e w'=>e=.returned (.bool (decide (a=b∧popN (x^^^y) 64=1)))∧Below w.heap.size w w':=by
 have HX:Hid (bits .xor .u64 (x:Int) (y:Int)=((x^^^y:Nat):Int)):=u64_xor x y hx hy;have HO:Hid (∀w,Calls Tryz.prog 87 #[.int .u64 ((x^^^y:Nat):Int)] w fun e w'=>e=.returned (.int .i64 ((popN (x^^^y) 64:Nat):Int))∧w'=w):=fun w=>onesCount_any _ w (xor_lt hx hy)
 obtain⟨R,hR⟩:∃R,decide (a=b∧popN (x^^^y) 64=1)=R:=⟨_,rfl⟩;have HR:Hid (decide (a=b∧popN (x^^^y) 64=1)=R):=hR;rw[hR];clear hR;generalize popN (x^^^y) 64=Z at*;have B0:Below w.heap.size w ((w.alloc (.cells #[.int .u64 (a:Int),.int .u64 (x:Int)] 151)).alloc (.cells #[.int .u64 (b:Int),.int .u64 (y:Int)] 151)):=((Below.refl _ _).alloc (Nat.le_refl _) _).alloc (by simp) _;by_cases h1:a=b
 ·subst h1;have hR:R=decide (Z=1):=by rw[<-HR.out];simp
  subst hR;clear HR;go_enter Tryz.func166,Tryz.ntmps166;go_wp2_with fail;rw[HX.out];refine(HO.out _).mono ?_;rintro e w1⟨rfl,rfl⟩;clear HO HX;go_wp2;go_ret;have eZ:decide (Z=1)=((Z:Int)==1):=by rw[Bool.eq_iff_iff,beq_iff_eq,decide_eq_true_eq];omega
  exact⟨by rw[eZ];rfl,B0⟩
 have hR:R=false:=by rw[<-HR.out];simp[h1]
 have e1:((a:Int)==(b:Int))=false:=by rw[beq_eq_false_iff_ne];omega
 subst hR;clear HR h1 HO HX;go_enter Tryz.func166,Tryz.ntmps166;go_wp2;go_ret;exact⟨rfl,B0⟩
theorem without_any(a x z:Nat)(w:World)(ha:a<18446744073709551616)(hx:x<18446744073709551616)(hz:z<18446744073709551616):
 Calls Tryz.prog 167 #[.agg #[.int .u64 (a:Int),.int .u64 (x:Int)],.int .u64 (z:Int)] w fun e w'=>e=.returned (setV (newMask (a&&&inv z) (x&&&inv z)))∧Below w.heap.size w w':=by
 have H1:Hid (bits .andNot .u64 (a:Int) (z:Int)=((a&&&inv z:Nat):Int)):=u64_andNot a z ha hz;have H2:Hid (bits .andNot .u64 (x:Int) (z:Int)=((x&&&inv z:Nat):Int)):=u64_andNot x z hx hz;have HM:Hid (∀w,Calls Tryz.prog 52 #[.int .u64 ((a&&&inv z:Nat):Int),.int .u64 ((x&&&inv z:Nat):Int)] w fun e w'=>e=.returned (setV (newMask (a&&&inv z) (x&&&inv z)))∧w'=w):=fun w=>newMask_any _ _ w (and_lt ha) (and_lt hx)
 generalize setV (newMask (a&&&inv z) (x&&&inv z))=V at*;go_enter Tryz.func167,Tryz.ntmps167;go_wp2_with fail;rw[H1.out,H2.out];refine(HM.out _).mono ?_;rintro e w1⟨rfl,rfl⟩;clear HM H1 H2;go_wp2;go_ret;exact⟨rfl,(Below.refl _ _).alloc (Nat.le_refl _) _⟩
def jVI:Option K->Value
 |some c=>setV c
 |none=>.nilIface
abbrev joinV(j:Option K):Value:=.tuple #[jVI j,.bool j.isSome]
theorem join_rest(T T':TypeId)(P P':Value)(F1 F2 G1 G2:Nat)(l1 h1 l2 h2:Nat)(u1 u2 q1 q2:Bool)(J:Option K)(R:K)(w:World)
 (hk:(∀w,(Instr.typeAssert (.iface T P) 100 151 true).run Tryz.prog w=.ok (.tuple #[.agg #[.int .u64 0,.int .u64 0],.bool false]) w)∨(∃a x:Nat,T=151∧P=.agg #[.int .u64 (a:Int),.int .u64 (x:Int)]∧∀w,(Instr.typeAssert (.iface T' P') 100 151 true).run Tryz.prog w=.ok (.tuple #[.agg #[.int .u64 0,.int .u64 0],.bool false]) w)∨(∃a x b y:Nat,T=151∧P=.agg #[.int .u64 (a:Int),.int .u64 (x:Int)]∧T'=151∧P'=.agg #[.int .u64 (b:Int),.int .u64 (y:Int)]∧Hid (∀w,Calls Tryz.prog 166 #[.agg #[.int .u64 (a:Int),.int .u64 (x:Int)],.agg #[.int .u64 (b:Int),.int .u64 (y:Int)]] w fun e w'=>e=.returned (.bool false)∧Below w.heap.size w w')))
 (a1:∀w,(method 349 T P "loop.example/s0039/impl.bounds").run Tryz.prog w=.ok (F1,P) w)(a2:∀(xs:Array Value)(w:World),(callFunc F1 xs).run Tryz.prog w=.ok (.enter F1 xs) w)
 (b1:∀w,(method 349 T' P' "loop.example/s0039/impl.bounds").run Tryz.prog w=.ok (F2,P') w)(b2:∀(xs:Array Value)(w:World),(callFunc F2 xs).run Tryz.prog w=.ok (.enter F2 xs) w)
 (c1:∀w,(method 349 T P "loop.example/s0039/impl.isUnbroken").run Tryz.prog w=.ok (G1,P) w)(c2:∀(xs:Array Value)(w:World),(callFunc G1 xs).run Tryz.prog w=.ok (.enter G1 xs) w)
 (d1:∀w,(method 349 T' P' "loop.example/s0039/impl.isUnbroken").run Tryz.prog w=.ok (G2,P') w)(d2:∀(xs:Array Value)(w:World),(callFunc G2 xs).run Tryz.prog w=.ok (.enter G2 xs) w)
 (HB1:Hid (∀w,Calls Tryz.prog F1 #[P] w fun e w'=>e=.returned (two l1 h1)∧Below w.heap.size w w'))
 (HB2:Hid (∀w,Calls Tryz.prog F2 #[P'] w fun e w'=>e=.returned (two l2 h2)∧Below w.heap.size w w'))
 (HU1:Hid (∀w,Calls Tryz.prog G1 #[P] w fun e w'=>e=.returned (.bool u1)∧Below w.heap.size w w'))
 (HU2:Hid (∀w,Calls Tryz.prog G2 #[P'] w fun e w'=>e=.returned (.bool u2)∧Below w.heap.size w w'))
 (HQ1:Hid (∀w,Calls Tryz.prog 168 #[.int .u64 (h1:Int),.int .u64 (l2:Int)] w fun e w'=>e=.returned (.bool q1)∧w'=w))
 (HQ2:Hid (∀w,Calls Tryz.prog 168 #[.int .u64 (h2:Int),.int .u64 (l1:Int)] w fun e w'=>e=.returned (.bool q2)∧w'=w))
 (HR:Hid (∀w,Calls Tryz.prog 51 #[.int .u64 ((min l1 l2:Nat):Int),.int .u64 ((max h1 h2:Nat):Int)] w fun e w'=>e=.returned (setV R)∧w'=w))
 (HMin:Hid (min (l1:Int) (l2:Int)=((min l1 l2:Nat):Int)))
 (HMax:Hid (max (h1:Int) (h2:Int)=((max h1 h2:Nat):Int)))
 (HJ0:Hid ((u1&&u2&&q1&&q2)=false->J=none))(HJ1:Hid ((u1&&u2&&q1&&q2)=true->J=some R)):
 Calls Tryz.prog 138 #[.iface T P,.iface T' P'] w fun e w'=>e=.returned (joinV J)∧Below w.heap.size w w':=by
 rcases hk with ta|⟨a,x,rfl,rfl,ta⟩|⟨a,x,b,y,rfl,rfl,rfl,rfl,HBe⟩
 case' inl=>
  go_enter Tryz.func138,Tryz.ntmps138
  go_wp2_with fail
  have B:Below w.heap.size w w:=Below.refl _ _
 case' inr.inl=>
  have B:Below w.heap.size w ((w.alloc (.cells #[.int .u64 (a:Int),.int .u64 (x:Int)] 151)).alloc (.cells #[.int .u64 0,.int .u64 0] 151)):=((Below.refl _ _).alloc (Nat.le_refl _) _).alloc (by simp) _
  have ta1:=ta_mask (a:Int) (x:Int)
  go_enter Tryz.func138,Tryz.ntmps138
  go_wp2_with fail
  generalize(w.alloc (.cells #[.int .u64 (a:Int),.int .u64 (x:Int)] 151)).alloc (.cells #[.int .u64 0,.int .u64 0] 151)=W at*
 case' inr.inr=>
  have ta2:=ta_mask (b:Int) (y:Int)
  have B:Below w.heap.size w ((w.alloc (.cells #[.int .u64 (a:Int),.int .u64 (x:Int)] 151)).alloc (.cells #[.int .u64 (b:Int),.int .u64 (y:Int)] 151)):=((Below.refl _ _).alloc (Nat.le_refl _) _).alloc (by simp) _
  have ta1:=ta_mask (a:Int) (x:Int)
  go_enter Tryz.func138,Tryz.ntmps138
  go_wp2_with fail
  refine(HBe.out _).mono ?_
  rintro e w0⟨rfl,hb⟩
  replace B:=B.trans (hb.mono B.size)
  clear hb HBe
  go_wp2_with fail
 all_goals
  refine(HB1.out _).mono ?_
  rintro e w1⟨rfl,hb⟩
  have B1:=B.trans (hb.mono B.size)
  clear hb B HB1
  go_wp2_with fail
  refine(HB2.out _).mono ?_
  rintro e w2⟨rfl,hb⟩
  have B2:=B1.trans (hb.mono B1.size)
  clear hb B1 HB2
  go_wp2_with fail
  refine(HU1.out _).mono ?_
  rintro e w3⟨rfl,hb⟩
  have B3:=B2.trans (hb.mono B2.size)
  clear hb B2 HU1
  cases u1 with
  |false=>
   have hJ:J=none:=HJ0.out (by simp)
   subst hJ
   clear HJ0 HJ1
   go_wp2
   go_ret2
   exact⟨rfl,B3⟩
  |true=>
   go_wp2_with fail
   refine(HU2.out _).mono ?_
   rintro e w4⟨rfl,hb⟩
   have B4:=B3.trans (hb.mono B3.size)
   clear hb B3 HU2
   cases u2 with
   |false=>
    have hJ:J=none:=HJ0.out (by simp)
    subst hJ
    clear HJ0 HJ1
    go_wp2
    go_ret2
    exact⟨rfl,B4⟩
   |true=>
    go_wp2_with fail
    refine(HQ1.out _).mono ?_
    rintro e w5⟨rfl,rfl⟩
    clear HQ1
    cases q1 with
    |false=>
     have hJ:J=none:=HJ0.out (by simp)
     subst hJ
     clear HJ0 HJ1
     go_wp2
     go_ret2
     exact⟨rfl,B4⟩
    |true=>
     go_wp2_with fail
     refine(HQ2.out _).mono ?_
     rintro e w6⟨rfl,rfl⟩
     clear HQ2
     cases q2 with
     |false=>
      have hJ:J=none:=HJ0.out (by simp)
      subst hJ
      clear HJ0 HJ1
      go_wp2
      go_ret2
      exact⟨rfl,B4⟩
     |true=>
      have hJ:J=some R:=HJ1.out (by simp)
      subst hJ
      clear HJ0 HJ1
      go_wp2_with fail
      rw[HMin.out,HMax.out]
      refine(HR.out _).mono ?_
      rintro e w7⟨rfl,rfl⟩
      clear HR HMin HMax
      go_wp2
      go_ret2
      exact⟨rfl,B4⟩
theorem join_beside(a x b y:Nat)(Z:Nat)(V:Value)(w:World)
 (HBe:Hid (∀w,Calls Tryz.prog 166 #[.agg #[.int .u64 (a:Int),.int .u64 (x:Int)],.agg #[.int .u64 (b:Int),.int .u64 (y:Int)]] w fun e w'=>e=.returned (.bool true)∧Below w.heap.size w w'))
 (HX:Hid (bits .xor .u64 (x:Int) (y:Int)=(Z:Int)))
 (HW:Hid (∀w,Calls Tryz.prog 167 #[.agg #[.int .u64 (a:Int),.int .u64 (x:Int)],.int .u64 (Z:Int)] w fun e w'=>e=.returned V∧Below w.heap.size w w')):
 Calls Tryz.prog 138 #[.iface 151 (.agg #[.int .u64 (a:Int),.int .u64 (x:Int)]),.iface 151 (.agg #[.int .u64 (b:Int),.int .u64 (y:Int)])] w fun e w'=>e=.returned (.tuple #[V,.bool true])∧Below w.heap.size w w':=by
 have ta1:=ta_mask (a:Int) (x:Int)
 have ta2:=ta_mask (b:Int) (y:Int)
 have B:Below w.heap.size w ((w.alloc (.cells #[.int .u64 (a:Int),.int .u64 (x:Int)] 151)).alloc (.cells #[.int .u64 (b:Int),.int .u64 (y:Int)] 151)):=((Below.refl _ _).alloc (Nat.le_refl _) _).alloc (by simp) _
 have HX':Hid (∀w1,Below ((w.alloc (.cells #[.int .u64 (a:Int),.int .u64 (x:Int)] 151)).alloc (.cells #[.int .u64 (b:Int),.int .u64 (y:Int)] 151)).heap.size ((w.alloc (.cells #[.int .u64 (a:Int),.int .u64 (x:Int)] 151)).alloc (.cells #[.int .u64 (b:Int),.int .u64 (y:Int)] 151)) w1->
  w1.cell? ⟨w.heap.size,0,none⟩=some (.int .u64 (a:Int))∧w1.cell? ⟨w.heap.size,1,none⟩=some (.int .u64 (x:Int))∧w1.cell? ⟨w.heap.size+1,1,none⟩=some (.int .u64 (y:Int))):=by
  intro w1 hb
  refine⟨(hb.cell (p:=⟨w.heap.size,0,none⟩) (by simp;omega)).trans ?_,(hb.cell (p:=⟨w.heap.size,1,none⟩) (by simp;omega)).trans ?_,(hb.cell (p:=⟨w.heap.size+1,1,none⟩) (by simp)).trans ?_⟩
  ·exact(((Below.refl (w.alloc (.cells #[.int .u64 (a:Int),.int .u64 (x:Int)] 151)).heap.size _).alloc (Nat.le_refl _) _).cell (p:=⟨w.heap.size,0,none⟩) (by simp)).trans (by simp)
  ·exact(((Below.refl (w.alloc (.cells #[.int .u64 (a:Int),.int .u64 (x:Int)] 151)).heap.size _).alloc (Nat.le_refl _) _).cell (p:=⟨w.heap.size,1,none⟩) (by simp)).trans (by simp)
  ·have e:w.heap.size+1=(w.alloc (.cells #[.int .u64 (a:Int),.int .u64 (x:Int)] 151)).heap.size:=by simp
   rw[e];simp
 go_enter Tryz.func138,Tryz.ntmps138
 go_wp2_with fail
 refine(HBe.out _).mono ?_
 rintro e w0⟨rfl,hb⟩
 obtain⟨x0,x1,y1⟩:=HX'.out _ hb
 replace B:=B.trans (hb.mono B.size)
 clear hb HBe HX'
 go_wp2_with fail
 rw[HX.out]
 refine(HW.out _).mono ?_
 rintro e w1⟨rfl,hb⟩
 replace B:=B.trans (hb.mono B.size)
 clear hb HW HX x0 x1 y1
 go_wp2
 go_ret2
 exact⟨rfl,B⟩
theorem joinK_rest{c d:K}(hc:Normal c)(hd:Normal d)(h:¬(c.kind=1∧d.kind=1∧c.a=d.a∧popN (c.b^^^d.b) 64=1)):
 joinK c d=if(unbK c&&unbK d&&decide (lowK d<=highK c+1)&&decide (lowK c<=highK d+1))=true then some (newRange (min (lowK c) (lowK d)) (max (highK c) (highK d)))else none:=by
 unfold joinK;rw[if_neg h,block_unb hc,block_unb hd]
 cases unbK c<;>cases unbK d
 ·rfl
 ·rfl
 ·rfl
 simp
theorem joinConditions_any(c d:K)(w:World)(hc:Normal c)(hd:Normal d):
 Calls Tryz.prog 138 #[setV c,setV d] w fun e w'=>e=.returned (joinV (joinK c d))∧Below w.heap.size w w':=by
 have oc:=hc.ok;have od:=hd.ok;obtain⟨lc,hc1,_⟩:=bounds_of hc;obtain⟨ld,hd1,_⟩:=bounds_of hd;by_cases hb:c.kind=1∧d.kind=1∧c.a=d.a∧popN (c.b^^^d.b) 64=1
 ·obtain⟨ck,a,x⟩:=c;obtain⟨dk,b,y⟩:=d;obtain⟨h1,h2,h3,h4⟩:=hb;simp only at h1 h2 h3 h4;subst h1;subst h2;subst h3;have e:joinK ⟨1,a,x⟩ ⟨1,a,y⟩=some (newMask (a&&&inv (x^^^y)) (x&&&inv (x^^^y))):=by
   unfold joinK;rw[if_pos ⟨rfl,rfl,rfl,h4⟩]
  rw[e];refine join_beside a x a y (x^^^y) _ w ?_ (u64_xor x y oc.2.2 od.2.2) (fun w=>without_any a x (x^^^y) w oc.2.1 oc.2.2 (xor_lt oc.2.2 od.2.2));intro w;have:=isBeside_any a x a y w oc.2.2 od.2.2;rw[decide_eq_true ⟨rfl,h4⟩]at this;exact this
 have hJ:=joinK_rest hc hd hb;obtain⟨T,P,F1,e1,a1,a2,HB1⟩:=meth_bounds hc;obtain⟨T2,P2,G1,e2,c1,c2,HU1⟩:=meth_unb hc;obtain⟨T',P',F2,e1',b1,b2,HB2⟩:=meth_bounds hd;obtain⟨T2',P2',G2,e2',d1,d2,HU2⟩:=meth_unb hd;obtain⟨rfl,rfl⟩:T2=T∧P2=P:=by rw[e1]at e2;cases e2;exact⟨rfl,rfl⟩
 obtain⟨rfl,rfl⟩:T2'=T'∧P2'=P':=by rw[e1']at e2';cases e2';exact⟨rfl,rfl⟩
 rw[e1,e1'];have HQ1:∀w,Calls Tryz.prog 168 #[.int .u64 ((highK c:Nat):Int),.int .u64 ((lowK d:Nat):Int)] w fun e w'=>e=.returned (.bool (decide (lowK d<=highK c+1)))∧w'=w:=fun w=>reaches_any _ _ w hc1 ld
 have HQ2:∀w,Calls Tryz.prog 168 #[.int .u64 ((highK d:Nat):Int),.int .u64 ((lowK c:Nat):Int)] w fun e w'=>e=.returned (.bool (decide (lowK c<=highK d+1)))∧w'=w:=fun w=>reaches_any _ _ w hd1 lc
 have HR:∀w,Calls Tryz.prog 51 #[.int .u64 ((min (lowK c) (lowK d):Nat):Int),.int .u64 ((max (highK c) (highK d):Nat):Int)] w fun e w'=>e=.returned (setV (newRange (min (lowK c) (lowK d)) (max (highK c) (highK d))))∧w'=w:=fun w=>newRange_any _ _ w (by omega) (by omega)
 have HMin:min ((lowK c:Nat):Int) ((lowK d:Nat):Int)=((min (lowK c) (lowK d):Nat):Int):=by omega
 have HMax:max ((highK c:Nat):Int) ((highK d:Nat):Int)=((max (highK c) (highK d):Nat):Int):=by omega
 have HJ0:(unbK c&&unbK d&&decide (lowK d<=highK c+1)&&decide (lowK c<=highK d+1))=false->joinK c d=none:=fun h=>by rw[hJ,if_neg (by rw[h];decide)]
 have HJ1:(unbK c&&unbK d&&decide (lowK d<=highK c+1)&&decide (lowK c<=highK d+1))=true->joinK c d=some (newRange (min (lowK c) (lowK d)) (max (highK c) (highK d))):=fun h=>by rw[hJ,if_pos h]
 by_cases kc:c.kind=1
 ·obtain⟨ck,a,x⟩:=c;simp only at kc;subst kc;have eT:setV ⟨1,a,x⟩=.iface 151 (.agg #[.int .u64 (a:Int),.int .u64 (x:Int)]):=rfl;rw[e1]at eT;injection eT with hT hP
  by_cases kd:d.kind=1
  ·obtain⟨dk,b,y⟩:=d;simp only at kd;subst kd;have eT':setV ⟨1,b,y⟩=.iface 151 (.agg #[.int .u64 (b:Int),.int .u64 (y:Int)]):=rfl;rw[e1']at eT';injection eT' with hT' hP'
   refine join_rest _ _ _ _ F1 F2 G1 G2 _ _ _ _ _ _ _ _ _ _ w (.inr (.inr ⟨a,x,b,y,hT,hP,hT',hP',?_⟩)) a1 a2 b1 b2 c1 c2 d1 d2 HB1 HB2 HU1 HU2 HQ1 HQ2 HR HMin HMax HJ0 HJ1;intro w;have:=isBeside_any a x b y w oc.2.2 od.2.2;rw[decide_eq_false (fun h=>hb ⟨rfl,rfl,h.1,h.2⟩)]at this;exact this
  refine join_rest _ _ _ _ F1 F2 G1 G2 _ _ _ _ _ _ _ _ _ _ w (.inr (.inl ⟨a,x,hT,hP,?_⟩)) a1 a2 b1 b2 c1 c2 d1 d2 HB1 HB2 HU1 HU2 HQ1 HQ2 HR HMin HMax HJ0 HJ1;rw[<-e1'];rcases hd with rfl|⟨b,y,rfl,_⟩|⟨l,h,rfl,_⟩
  ·exact ta_any_mask
  ·exact absurd rfl kd
  exact ta_range_mask _ _
 refine join_rest _ _ _ _ F1 F2 G1 G2 _ _ _ _ _ _ _ _ _ _ w (.inl ?_) a1 a2 b1 b2 c1 c2 d1 d2 HB1 HB2 HU1 HU2 HQ1 HQ2 HR HMin HMax HJ0 HJ1;rw[<-e1];rcases hc with rfl|⟨b,y,rfl,_⟩|⟨l,h,rfl,_⟩
 ·exact ta_any_mask
 ·exact absurd rfl kc
 exact ta_range_mask _ _
end Go.Proofs.YtddemlfepjkgoaaGreat
