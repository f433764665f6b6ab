import Derived.Deep.OwnRows
import Derived.Deep.QuietTactic
import Derived.BigQuiet
import Derived.Deep.RegionWith
import Derived.Deep.RegionHeld3
import Derived.Lib.Strings
import Derived.Lib.Slices
import Derived.Lib.Small
import Derived.Lib.Walk
import Derived.Lib.BitFns
import Derived.Test.YtddemlfepjkgoaaGreatQ01
set_option linter.all false
set_option maxRecDepth 200000
set_option maxHeartbeats 16000000
namespace Go.Proofs.YtddemlfepjkgoaaGreat
open Go.RowKit
def blkV(c:K):Value:=match blockK c with|some (lo,hi)=>.tuple #[.int .u64 (lo:Int),.int .u64 (hi:Int),.bool true]|none=>.tuple #[.int .u64 0,.int .u64 0,.bool false]
structure BoxK(w:World)(g:Nat)(x y z:Value):Prop where
 lt:g<w.heap.size
 c0:w.cell? ⟨g,0,none⟩=some x
 c1:w.cell? ⟨g,1,none⟩=some y
 c2:w.cell? ⟨g,2,none⟩=some z
 f0:w.frozen? ⟨g,0,none⟩=false
 f1:w.frozen? ⟨g,1,none⟩=false
 f2:w.frozen? ⟨g,2,none⟩=false
theorem BoxK.keep{w w1:World}{g:Nat}{x y z:Value}(h:BoxK w g x y z)(hb:Below w.heap.size w w1):BoxK w1 g x y z:=
 ⟨Nat.lt_of_lt_of_le h.lt hb.size,(hb.cell (p:=⟨g,0,none⟩) h.lt).trans h.c0,(hb.cell (p:=⟨g,1,none⟩) h.lt).trans h.c1,(hb.cell (p:=⟨g,2,none⟩) h.lt).trans h.c2,
  (hb.frozen (p:=⟨g,0,none⟩) h.lt).trans h.f0,(hb.frozen (p:=⟨g,1,none⟩) h.lt).trans h.f1,(hb.frozen (p:=⟨g,2,none⟩) h.lt).trans h.f2⟩
theorem BoxK.new(w:World)(t:TypeId)(x y z:Value):BoxK (w.alloc (.cells #[x,y,z] t)) w.heap.size x y z:=
 ⟨by simp,by simp,by simp,by simp,by simp,by simp,by simp⟩
theorem BoxK.drew{w:World}{g:Nat}{x y z:Value}(h:BoxK w g x y z):BoxK w.drew g x y z:=h.keep (Below.refl _ _).drew
theorem BoxK.alloc{w:World}{g:Nat}{x y z:Value}(h:BoxK w g x y z)(o:Obj):BoxK (w.alloc o) g x y z:=h.keep ((Below.refl _ _).alloc (Nat.le_refl _) o)
theorem wrap_sub_ones{L:Nat}(h:L<=18446744073709551615):IntKind.u64.wrap (18446744073709551615-(L:Int))=18446744073709551615-(L:Int):=by
 rw[IntKind.wrap_u64];omega
theorem wrap_add_nat{a b:Nat}(h:a+b<18446744073709551616):IntKind.u64.wrap ((a:Int)+(b:Int))=((a+b:Nat):Int):=by
 rw[IntKind.wrap_u64];omega
theorem l3block_mask(a b:Nat)(w:World)(ha:a<18446744073709551616)(hb:b<18446744073709551616)(hv:a|||b=a):
 Calls Tryz.prog 139 #[conV ⟨1,a,b⟩] w fun e w'=>e=.returned (blkV ⟨1,a,b⟩)∧Below w.heap.size w w':=by
 simp only[conV]
 have HY:Hid (isLow (inv a)=true->b+inv a<18446744073709551616∧blkV ⟨1,a,b⟩=.tuple #[.int .u64 (b:Int),.int .u64 ((b+inv a:Nat):Int),.bool true]):=fun h=>⟨(mask_block ha hv h).2.1,by simp[blkV,blockK,h]⟩
 have HN:Hid (isLow (inv a)=false->blkV ⟨1,a,b⟩=.tuple #[.int .u64 0,.int .u64 0,.bool false]):=fun h=>by simp[blkV,blockK,h]
 have HI:Hid (isLow (inv a)=true↔∃k,k<=64∧inv a=low k):=isLow_iff (inv_lt a)
 generalize blkV ⟨1,a,b⟩=V at*
 clear hv
 go_enter Tryz.func139,Tryz.ntmps139
 go_wp2_with fail
 have X:=BoxK.new w 94 (.int .i64 1) (.int .u64 (a:Int)) (.int .u64 (b:Int))
 have B0:Below w.heap.size w (w.alloc (.cells #[.int .i64 1,.int .u64 (a:Int),.int .u64 (b:Int)] 94)):=(Below.refl _ _).alloc (Nat.le_refl _) _
 go_loopw [5](fun i wr=>∃k:Nat,k<=65∧i=.int .i64 k∧Hid (∀j,j<k->inv a≠low j)∧BoxK wr w.heap.size (.int .i64 1) (.int .u64 (a:Int)) (.int .u64 (b:Int))∧Below w.heap.size w wr)(fun i _=>65-(intOf i).toNat)
 case atStart=>exact⟨0,by omega,rfl,fun j hj=>by omega,X,B0⟩
 case round=>
  clear X B0
  obtain⟨k,hk,rfl,HJ,X,B⟩:=hrel
  by_cases hlt:k<=64
  ·have hl:=low_le hlt
   have HL:Hid (∀w,Calls Tryz.prog 140 #[.int .i64 (k:Int)] w fun e w'=>e=.returned (.int .u64 (low k:Nat))∧w'=w):=fun w=>l3low_any k w hlt
   obtain⟨_,x0,x1,x2,_,_,_⟩:=X.drew
   obtain⟨_,z0,z1,z2,_,_,_⟩:=X.drew.drew
   by_cases e:inv a=low k
   ·have e1:((a:Int)==18446744073709551615-((low k:Nat):Int))=true:=by unfold inv at e;rw[beq_iff_eq];omega
    obtain⟨y1,y2⟩:=HY.out (HI.out.2 ⟨k,hlt,e⟩)
    rw[e]at y1 y2
    have HV:Hid _:=y2
    clear y2 HY HN HI HJ e
    have hw:=wrap_sub_ones hl
    have hw2:=wrap_add_nat y1
    generalize low k=L at*
    go_wp2_with fail
    go_region_held3(fun w'=>w'.cell? ⟨w.heap.size,1,none⟩=some (.int .u64 (a:Int)))
     (first|assumption|(simp[*];done))
     ((go_at_call 140;refine(HL.out _).mono ?_;rintro e w1⟨rfl,rfl⟩))
    go_wp2_with fail
    go_region_held3(fun w'=>w'.cell? ⟨w.heap.size,2,none⟩=some (.int .u64 (b:Int)))
     (first|assumption|(simp[*];done))
     ((go_at_call 140;refine(HL.out _).mono ?_;rintro e w1⟨rfl,rfl⟩))
    go_wp2
    rw[HV.out]
    exact bodyPost_ret (v:=.tuple #[.int .u64 (b:Int),.int .u64 ((b+L:Nat):Int),.bool true]) (by simp[results,Tryz.results139,go_sem]) rfl ⟨rfl,B.drew.drew⟩
   ·have e1:((a:Int)==18446744073709551615-((low k:Nat):Int))=false:=by unfold inv at e;rw[beq_eq_false_iff_ne];omega
    have HJ':Hid (∀j,j<k+1->inv a≠low j):=fun j hj=>by
     by_cases hjk:j=k
     ·subst hjk;exact e
     ·exact HJ.out j (by omega)
    clear HY HN HI HJ e
    have hw:=wrap_sub_ones hl
    generalize low k=L at*
    go_wp2_with fail
    go_region_held3(fun w'=>w'.cell? ⟨w.heap.size,1,none⟩=some (.int .u64 (a:Int)))
     (first|assumption|(simp[*];done))
     ((go_at_call 140;refine(HL.out _).mono ?_;rintro e w1⟨rfl,rfl⟩))
    go_wp2
    go_roundw
    case rel=>exact⟨k+1,by omega,by go_num,HJ',X.drew,B.drew⟩
    case measure=>simp[intOf];omega
  ·have hk':k=65:=by omega
   subst hk'
   have HV:Hid (V=.tuple #[.int .u64 0,.int .u64 0,.bool false]):=HN.out (by
    cases hc:isLow (inv a)with
    |false=>rfl
    |true=>
     obtain⟨k,h1,h2⟩:=HI.out.1 hc
     exact absurd h2 (HJ.out k (by omega)))
   go_wp2
   rw[HV.out]
   exact bodyPost_ret (v:=.tuple #[.int .u64 0,.int .u64 0,.bool false]) (by simp[results,Tryz.results139,go_sem]) rfl ⟨rfl,B⟩
theorem l3block_any(c:K)(w:World)(ho:c.ok)(hv:validK c=true):
 Calls Tryz.prog 139 #[conV c] w fun e w'=>e=.returned (blkV c)∧Below w.heap.size w w':=by
 rcases K.valid_cases hv with rfl|⟨a,b,rfl,h⟩|⟨a,b,rfl,h⟩
 ·have B:Below w.heap.size w (w.alloc (.cells #[.int .i64 0,.int .u64 0,.int .u64 0] 94)):=(Below.refl _ _).alloc (Nat.le_refl _) _;clear ho hv;go_enter Tryz.func139,Tryz.ntmps139;go_wp2;exact bodyPost_ret (v:=.tuple #[.int .u64 0,.int .u64 18446744073709551615,.bool true]) (by simp[results,Tryz.results139,go_sem]) rfl ⟨rfl,B⟩
 ·exact l3block_mask a b w ho.2.1 ho.2.2 h
 have B:Below w.heap.size w (w.alloc (.cells #[.int .i64 2,.int .u64 (a:Int),.int .u64 (b:Int)] 94)):=(Below.refl _ _).alloc (Nat.le_refl _) _;obtain⟨_,ha,hb⟩:=ho;simp only at ha hb;simp only[conV];clear hv;go_enter Tryz.func139,Tryz.ntmps139;go_wp2_with fail;go_quiet(fail);go_wp2;exact bodyPost_ret (v:=.tuple #[.int .u64 (a:Int),.int .u64 (b:Int),.bool true]) (by simp[results,Tryz.results139,go_sem]) rfl ⟨rfl,by first|exact B.drew|exact below_drewN B _⟩
theorem normK_of_block{c:K}{lo hi:Nat}(ho:c.ok)(hv:validK c=true)(h:blockK c=some (lo,hi)):normK c=newRange lo hi:=by
 rcases K.valid_cases hv with rfl|⟨a,b,rfl,h1⟩|⟨a,b,rfl,h1⟩
 ·simp[blockK]at h;obtain⟨rfl,rfl⟩:=h;rw[newRange_block (k:=64) (by omega) (by omega) (by omega) (by rw[low_64]) (by rw[Nat.zero_and])];rfl
 ·have h2:(if isLow (inv a)then some (b,b+inv a)else none)=some (lo,hi):=h;by_cases h3:isLow (inv a)=true
  ·rw[if_pos h3]at h2;simp at h2;obtain⟨rfl,rfl⟩:=h2;rw[(mask_block ho.2.1 h1 h3).2.2];rfl
  rw[if_neg h3]at h2;exact absurd h2 (by simp)
 simp[blockK]at h;obtain⟨rfl,rfl⟩:=h;rfl
theorem normK_of_none{c:K}(ho:c.ok)(hv:validK c=true)(h:blockK c=none):normK c=c:=by
 rcases K.valid_cases hv with rfl|⟨a,b,rfl,h1⟩|⟨a,b,rfl,h1⟩
 ·simp[blockK]at h
 ·have h2:(if isLow (inv a)then some (b,b+inv a)else none)=none:=h;by_cases h3:isLow (inv a)=true
  ·rw[if_pos h3]at h2;exact absurd h2 (by simp)
  have:a≠0:=fun e=>h3 (by rw[e];decide)
  simp[normK,newMask,this]
 simp[blockK]at h
theorem below_set3{n:Nat}{w w':World}{g:Nat}(h:Below n w w')(hg:n<=g)(x' y' z':Value):Below n w (((w'.setCell ⟨g,0,none⟩ x').setCell ⟨g,1,none⟩ y').setCell ⟨g,2,none⟩ z'):=
 ((h.setCell hg _).setCell hg _).setCell hg _
theorem l3norm_any (c : K) (w : World) (ho : c.ok) (hv : validK c = true) :
    Calls Tryz.prog 113 #[conV c] w fun e w' => e = .returned (conV (normK c)) ∧ Below w.heap.size w w' := by
  have HC : Hid (∀ w, Calls Tryz.prog 139 #[conV c] w fun e w' => e = .returned (blkV c) ∧ Below w.heap.size w w') := fun w => l3block_any c w ho hv
  obtain ⟨N, eN⟩ : ∃ N, normK c = N := ⟨_, rfl⟩
  have HN0 : Hid (blockK c = none -> N = c) := fun h => by rw [<- eN]; exact normK_of_none ho hv h
  have HN1 : Hid (∀ lo hi, blockK c = some (lo, hi) -> (lo <= hi ∧ hi < 18446744073709551616) ∧ N = newRange lo hi) := fun lo hi h => ⟨block_lt ho hv h, by rw [<- eN]; exact normK_of_block ho hv h⟩
  rw [eN]
  clear eN hv
  obtain ⟨kind, a, b⟩ := c
  simp only [conV] at HC ⊢
  go_enter Tryz.func113, Tryz.ntmps113
  go_wp2_with fail
  have X := (BoxK.new w 94 (.int .i64 kind) (.int .u64 (a : Int)) (.int .u64 (b : Int))).alloc (.cells #[.int .i64 0, .int .u64 0, .int .u64 0] 94)
  have Y := BoxK.new (w.alloc (.cells #[.int .i64 kind, .int .u64 (a : Int), .int .u64 (b : Int)] 94)) 94 (.int .i64 0) (.int .u64 0) (.int .u64 0)
  have hsz : (w.alloc (.cells #[.int .i64 kind, .int .u64 (a : Int), .int .u64 (b : Int)] 94)).heap.size = w.heap.size + 1 := by simp
  have B0 : Below w.heap.size w ((w.alloc (.cells #[.int .i64 kind, .int .u64 (a : Int), .int .u64 (b : Int)] 94)).alloc (.cells #[.int .i64 0, .int .u64 0, .int .u64 0] 94)) := ((Below.refl _ _).alloc (Nat.le_refl _) _).alloc (by simp) _
  rw [hsz] at Y
  generalize (w.alloc (.cells #[.int .i64 kind, .int .u64 (a : Int), .int .u64 (b : Int)] 94)).alloc (.cells #[.int .i64 0, .int .u64 0, .int .u64 0] 94) = W at *
  clear hsz
  refine (HC.out _).mono ?_
  rintro e w1 ⟨rfl, hb1⟩
  obtain ⟨_, x0, x1, x2, _, _, _⟩ := X.keep hb1
  have Y1 := Y.keep hb1
  obtain ⟨yl, y0, y1, y2, g0, g1, g2⟩ := Y1
  have B1 := B0.trans (hb1.mono B0.size)
  clear X Y hb1 B0 HC
  cases hb : blockK ⟨kind, a, b⟩ with
  | none =>
    have HE : Hid (blkV ⟨kind, a, b⟩ = .tuple #[.int .u64 0, .int .u64 0, .bool false]) := by unfold Hid blkV; rw [hb]
    rw [HE.out]
    have eN : N = ⟨kind, a, b⟩ := HN0.out hb
    subst eN
    clear HN0 HN1 hb HE
    go_wp2
    exact bodyPost_ret (v := conV ⟨kind, a, b⟩) (by simp [results, Tryz.results113, go_sem, y0, y1, y2]) rfl ⟨rfl, below_set3 B1 (by omega) _ _ _⟩
  | some q =>
    obtain ⟨lo, hi⟩ := q
    have HE : Hid (blkV ⟨kind, a, b⟩ = .tuple #[.int .u64 (lo : Int), .int .u64 (hi : Int), .bool true]) := by unfold Hid blkV; rw [hb]
    rw [HE.out]
    obtain ⟨⟨hle, hh⟩, eN⟩ := HN1.out lo hi hb
    have HN : Hid (N = newRange lo hi) := eN
    clear HN0 HN1 hb HE eN
    have hle' : (lo : Int) <= (hi : Int) := by omega
    have hh' : (hi : Int) <= 18446744073709551615 := by omega
    go_wp2_with fail
    go_loop [6] (fun i => ∃ k : Nat, k <= 65 ∧ i = .int .i64 ((k : Int) - 1) ∧ Hid (∀ j, k <= j -> j <= 64 -> ¬ (hi - lo = low j ∧ lo &&& low j = 0))) (fun i => (intOf i + 1).toNat)
    case atStart => exact ⟨65, by omega, rfl, fun j h1 h2 => by omega⟩
    case round =>
      obtain ⟨k, hk, rfl, HJ⟩ := hrel
      cases k with
      | zero =>
        have HN2 : Hid (N = ⟨2, lo, hi⟩) := by
          unfold Hid
          rw [HN.out]; exact newRange_none hle hh fun j hj => HJ.out j (Nat.zero_le _) hj
        go_wp2
        rw [HN2.out]
        exact bodyPost_ret (v := conV ⟨2, lo, hi⟩) (by simp [results, Tryz.results113, go_sem, y0, y1, y2]) rfl ⟨rfl, below_set3 B1 (by omega) _ _ _⟩
      | succ q =>
        have hq : ((q + 1 : Nat) : Int) - 1 = (q : Int) := by omega
        rw [hq]
        have hq64 : q <= 64 := by omega
        have hq0 : (0 : Int) <= (q : Int) := by omega
        have hl := low_le hq64
        have HL : Hid (∀ w, Calls Tryz.prog 140 #[.int .i64 (q : Int)] w fun e w' => e = .returned (.int .u64 (low q : Nat)) ∧ w' = w) := fun w => l3low_any q w hq64
        have HB : Hid (bits .and .u64 (lo : Int) ((low q : Nat) : Int) = ((lo &&& low q : Nat) : Int)) := u64_and lo (low q) (by omega) (by omega)
        by_cases e1 : hi - lo = low q
        · have e1' : (hi : Int) - (lo : Int) = ((low q : Nat) : Int) := by omega
          by_cases e2 : lo &&& low q = 0
          · have e2' : bits .and .u64 (lo : Int) ((low q : Nat) : Int) = 0 := by rw [HB.out, e2]; rfl
            have HN2 : Hid (N = if q = 64 then ⟨0, 0, 0⟩ else ⟨1, inv (low q), lo⟩) := by
              unfold Hid
              rw [HN.out]; exact newRange_block hq64 hle hh e1 e2
            have HI : Hid (18446744073709551615 - ((low q : Nat) : Int) = ((inv (low q) : Nat) : Int)) := by unfold Hid inv; omega
            generalize inv (low q) = I at *
            clear HN HJ HB e1 e2 hq
            generalize low q = L at *
            by_cases e64 : q = 64
            · subst e64
              have HN3 : Hid (N = ⟨0, 0, 0⟩) := HN2.out
              clear HN2
              go_wp2_with fail
              refine (HL.out _).mono ?_
              rintro e w2 ⟨rfl, rfl⟩
              go_wp2
              rw [HN3.out]
              exact bodyPost_ret (v := conV ⟨0, 0, 0⟩) (by simp [results, Tryz.results113, go_sem, y0, y1, y2]) rfl ⟨rfl, below_set3 B1 (by omega) _ _ _⟩
            · have HN3 : Hid (N = ⟨1, I, lo⟩) := by
                unfold Hid
                rw [HN2.out, if_neg e64]
              have e64' : ¬ (q : Int) = 64 := by omega
              clear HN2
              go_wp2_with fail
              refine (HL.out _).mono ?_
              rintro e w2 ⟨rfl, rfl⟩
              go_wp2
              rw [HN3.out, HI.out]
              exact bodyPost_ret (v := conV ⟨1, I, lo⟩) (by simp [results, Tryz.results113, go_sem, y0, y1, y2]) rfl ⟨rfl, below_set3 B1 (by omega) _ _ _⟩
          · have e2' : ¬ bits .and .u64 (lo : Int) ((low q : Nat) : Int) = 0 := by rw [HB.out]; omega
            have HJ' : Hid (∀ j, q <= j -> j <= 64 -> ¬ (hi - lo = low j ∧ lo &&& low j = 0)) := fun j h1 h2 h3 => by
              by_cases hj : j = q
              · subst hj; exact e2 h3.2
              · exact HJ.out j (by omega) h2 h3
            clear HJ HB e1 e2 hq
            generalize low q = L at *
            go_wp2_with fail
            refine (HL.out _).mono ?_
            rintro e w2 ⟨rfl, rfl⟩
            go_wp2
            go_round
            case rel => exact ⟨q, by omega, by go_num, HJ'⟩
            case measure => simp [intOf]
        · have e1' : ¬ (hi : Int) - (lo : Int) = ((low q : Nat) : Int) := by omega
          have HJ' : Hid (∀ j, q <= j -> j <= 64 -> ¬ (hi - lo = low j ∧ lo &&& low j = 0)) := fun j h1 h2 h3 => by
            by_cases hj : j = q
            · subst hj; exact e1 h3.1
            · exact HJ.out j (by omega) h2 h3
          clear HJ HB e1 hq
          generalize low q = L at *
          go_wp2_with fail
          refine (HL.out _).mono ?_
          rintro e w2 ⟨rfl, rfl⟩
          go_wp2
          go_round
          case rel => exact ⟨q, by omega, by go_num, HJ'⟩
          case measure => simp [intOf]
def setV(c:K):Value:=
 if c.kind=1 then .iface 151 (.agg #[.int .u64 (c.a:Int),.int .u64 (c.b:Int)])
 else if c.kind=2 then .iface 147 (.agg #[.int .u64 (c.a:Int),.int .u64 (c.b:Int)])
 else .iface 149 (.agg #[])
theorem u64_xor(a b:Nat)(ha:a<18446744073709551616)(hb:b<18446744073709551616):bits .xor .u64 (a:Int) (b:Int)=((a^^^b:Nat):Int):=bits_xor_u64_nat a b ha hb
theorem u64_andNot(a b:Nat)(ha:a<18446744073709551616)(hb:b<18446744073709551616):bits .andNot .u64 (a:Int) (b:Int)=((a&&&inv b:Nat):Int):=by
 have hx:a&&&inv b<2^64:=Nat.and_lt_two_pow _ (inv_lt b);have h1:(BitVec.ofInt 64 (a:Int)).toNat=a:=by
  rw[BitVec.ofInt_natCast,BitVec.toNat_ofNat];exact Nat.mod_eq_of_lt (by omega)
 have h2:(BitVec.ofInt 64 (b:Int)).toNat=b:=by
  rw[BitVec.ofInt_natCast,BitVec.toNat_ofNat];exact Nat.mod_eq_of_lt (by omega)
 show IntKind.u64.wrap ((BitVec.ofInt 64 (a:Int)&&& ~~~BitVec.ofInt 64 (b:Int)).toNat:Int)=_;rw[BitVec.toNat_and,BitVec.toNat_not,h1,h2,IntKind.wrap_u64];have e:2^64-1-b=inv b:=by unfold inv;omega
 rw[e];omega
theorem u64_not(a:Nat)(ha:a<18446744073709551616):bits .xor .u64 IntKind.u64.max (a:Int)=((inv a:Nat):Int):=by
 have e:IntKind.u64.max=((18446744073709551615:Nat):Int):=by decide
 rw[e,u64_xor _ _ (by omega) ha];congr 1;apply Nat.eq_of_testBit_eq;intro i;rw[Nat.testBit_xor,bit_inv ha,<-low_64,bit_low];by_cases h:i<64
 ·simp[h]
 simp[h,bit_hi ha (show 64<=i by omega)]
theorem andNot_zero{a b:Nat}(ha:a<18446744073709551616)(hb:b<18446744073709551616):(b&&&inv a==0)=(a|||b==a):=by
 rw[Bool.eq_iff_iff,beq_iff_eq,beq_iff_eq];constructor
 ·intro h;rw[and_zero_iff]at h;apply Nat.eq_of_testBit_eq;intro i;rw[Nat.testBit_or];have:=h i;rw[bit_inv ha]at this;rcases Nat.lt_or_ge i 64 with h1|h1
  ·revert this
   cases a.testBit i<;>cases b.testBit i<;>simp[h1]
  rw[bit_hi hb h1,Bool.or_false]
 exact mask_free ha
theorem isValidCon_any(c:K)(w:World)(ho:c.ok):
 Calls Tryz.prog 101 #[conV c] w fun e w'=>e=.returned (.bool (validK c))∧Below w.heap.size w w':=by
 obtain⟨kind,a,b⟩:=c;obtain⟨⟨k0,k1⟩,ha,hb⟩:=ho;simp only at k0 k1 ha hb;simp only[conV];have B:Below w.heap.size w (w.alloc (.cells #[.int .i64 kind,.int .u64 (a:Int),.int .u64 (b:Int)] 94)):=(Below.refl _ _).alloc (Nat.le_refl _) _;obtain⟨V,hV⟩:∃V,validK ⟨kind,a,b⟩=V:=⟨_,rfl⟩;have HV:Hid (validK ⟨kind,a,b⟩=V):=hV;rw[hV];clear hV;by_cases h0:kind=0
 ·subst h0;by_cases ha0:a=0
  ·subst ha0;go_enter Tryz.func101,Tryz.ntmps101;go_wp2;go_ret;exact⟨by rw[<-HV.out,beq_cast0];simp[validK],B⟩
  have ha1:¬(a:Int)=0:=by omega
  go_enter Tryz.func101,Tryz.ntmps101;go_wp2;go_ret;exact⟨by rw[<-HV.out];simp[validK,ha0],B⟩
 by_cases h1:kind=1
 ·subst h1;have HB:Hid (bits .andNot .u64 (b:Int) (a:Int)=((b&&&inv a:Nat):Int)):=u64_andNot b a hb ha;go_enter Tryz.func101,Tryz.ntmps101;go_wp2;go_ret;refine⟨?_,B⟩;rw[<-HV.out,HB.out,beq_cast0,andNot_zero ha hb];simp[validK]
 by_cases h2:kind=2
 ·subst h2;by_cases hab:a<=b
  ·have hab':(a:Int)<=(b:Int):=by omega
   go_enter Tryz.func101,Tryz.ntmps101;go_wp2;go_ret;exact⟨by rw[<-HV.out];simp[validK,hab],B⟩
  have hab':¬(a:Int)<=(b:Int):=by omega
  go_enter Tryz.func101,Tryz.ntmps101;go_wp2;go_ret;exact⟨by rw[<-HV.out];simp[validK,hab],B⟩
 go_enter Tryz.func101,Tryz.ntmps101;go_wp2;go_ret;exact⟨by rw[<-HV.out];simp[validK,h0,h1,h2],B⟩
theorem isLowOnes_any(v:Nat)(w:World)(hv:v<18446744073709551616):
 Calls Tryz.prog 88 #[.int .u64 (v:Int)] w fun e w'=>e=.returned (.bool (isLow v))∧w'=w:=by
 have HB:Hid (bits .and .u64 (v:Int) (IntKind.u64.wrap ((v:Int)+1))=((v&&&((v+1)%18446744073709551616):Nat):Int)):=by
  have e:IntKind.u64.wrap ((v:Int)+1)=(((v+1)%18446744073709551616:Nat):Int):=by rw[IntKind.wrap_u64];omega
  unfold Hid;rw[e];exact u64_and v _ hv (by omega)
 go_enter Tryz.func88,Tryz.ntmps88;go_wp2;go_ret;refine⟨?_,rfl⟩;rw[HB.out,beq_cast0];rfl
theorem newMask_any(m v:Nat)(w:World)(hm:m<18446744073709551616)(hv:v<18446744073709551616):
 Calls Tryz.prog 52 #[.int .u64 (m:Int),.int .u64 (v:Int)] w fun e w'=>e=.returned (setV (newMask m v))∧w'=w:=by
 by_cases h0:m=0
 ·subst h0;go_enter Tryz.func52,Tryz.ntmps52;go_wp2;go_ret;exact⟨rfl,rfl⟩
 have h1:¬(m:Int)=0:=by omega
 have HE:Hid (setV (newMask m v)=.iface 151 (.agg #[.int .u64 (m:Int),.int .u64 (v:Int)])):=by unfold Hid newMask;rw[if_neg h0];rfl
 rw[HE.out];go_enter Tryz.func52,Tryz.ntmps52;go_wp2;go_ret;exact⟨rfl,rfl⟩
theorem newRange_any(l h:Nat)(w:World)(hl:l<18446744073709551616)(hh:h<18446744073709551616):
 Calls Tryz.prog 51 #[.int .u64 (l:Int),.int .u64 (h:Int)] w fun e w'=>e=.returned (setV (newRange l h))∧w'=w:=by
 have hx:=xor_lt hl hh;have HX:bits .xor .u64 (l:Int) (h:Int)=((l^^^h:Nat):Int):=u64_xor l h hl hh;have HL:Hid (∀w,Calls Tryz.prog 88 #[.int .u64 ((l^^^h:Nat):Int)] w fun e w'=>e=.returned (.bool (isLow (l^^^h)))∧w'=w):=fun w=>isLowOnes_any _ w hx
 have HM:Hid (∀w,Calls Tryz.prog 52 #[.int .u64 ((inv (l^^^h):Nat):Int),.int .u64 (l:Int)] w fun e w'=>e=.returned (setV (newMask (inv (l^^^h)) l))∧w'=w):=fun w=>newMask_any _ l w (inv_lt _) hl
 have HA:Hid (bits .and .u64 (l:Int) ((l^^^h:Nat):Int)=((l&&&(l^^^h):Nat):Int)):=u64_and l _ hl hx;have HI:Hid (bits .xor .u64 IntKind.u64.max ((l^^^h:Nat):Int)=((inv (l^^^h):Nat):Int)):=u64_not _ hx;by_cases e1:isLow (l^^^h)=true
 ·by_cases e2:l&&&(l^^^h)=0
  ·have HE:Hid (newRange l h=newMask (inv (l^^^h)) l):=by unfold Hid newRange;rw[if_pos ⟨e1,e2⟩]
   have e2':bits .and .u64 (l:Int) ((l^^^h:Nat):Int)=0:=by rw[HA.out,e2];rfl
   rw[HE.out];rw[e1]at HL;clear HE HA e1 e2;have e3:=HI.out;clear HI;generalize newMask (inv (l^^^h)) l=N at*;generalize inv (l^^^h)=I at*;generalize l^^^h=x at*;go_enter Tryz.func51,Tryz.ntmps51;go_wp2_with fail;refine(HL.out _).mono ?_;rintro e w1⟨rfl,rfl⟩;go_wp2_with fail;refine(HM.out _).mono ?_;rintro e w1⟨rfl,rfl⟩;go_wp2;go_ret;exact⟨rfl,rfl⟩
  have HE:Hid (setV (newRange l h)=.iface 147 (.agg #[.int .u64 (l:Int),.int .u64 (h:Int)])):=by unfold Hid newRange;rw[if_neg (fun q=>e2 q.2)];rfl
  have e2':¬bits .and .u64 (l:Int) ((l^^^h:Nat):Int)=0:=by rw[HA.out];omega
  rw[HE.out];rw[e1]at HL;clear HE HA e1 e2 HM HI;generalize l^^^h=x at*;go_enter Tryz.func51,Tryz.ntmps51;go_wp2_with fail;refine(HL.out _).mono ?_;rintro e w1⟨rfl,rfl⟩;go_wp2;go_ret;exact⟨rfl,rfl⟩
 have HE:Hid (setV (newRange l h)=.iface 147 (.agg #[.int .u64 (l:Int),.int .u64 (h:Int)])):=by unfold Hid newRange;rw[if_neg (fun q=>e1 q.1)];rfl
 rw[HE.out];rw[Bool.not_eq_true]at e1;rw[e1]at HL;clear HE HA e1 HM HI;generalize l^^^h=x at*;go_enter Tryz.func51,Tryz.ntmps51;go_wp2_with fail;refine(HL.out _).mono ?_;rintro e w1⟨rfl,rfl⟩;go_wp2;go_ret;exact⟨rfl,rfl⟩
theorem conditionOf_any(c:K)(w:World)(ho:c.ok):
 Calls Tryz.prog 102 #[conV c] w fun e w'=>e=.returned (setV (normK c))∧Below w.heap.size w w':=by
 obtain⟨kind,a,b⟩:=c;obtain⟨⟨k0,k1⟩,ha,hb⟩:=ho;simp only at k0 k1 ha hb;simp only[conV];have B:Below w.heap.size w (w.alloc (.cells #[.int .i64 kind,.int .u64 (a:Int),.int .u64 (b:Int)] 94)):=(Below.refl _ _).alloc (Nat.le_refl _) _;by_cases h1:kind=1
 ·subst h1;have HE:Hid (normK ⟨1,a,b⟩=newMask a b):=rfl;have HM:Hid (∀w,Calls Tryz.prog 52 #[.int .u64 (a:Int),.int .u64 (b:Int)] w fun e w'=>e=.returned (setV (newMask a b))∧w'=w):=fun w=>newMask_any a b w ha hb
  rw[HE.out];clear HE;generalize newMask a b=N at*;go_enter Tryz.func102,Tryz.ntmps102;go_wp2_with fail;refine(HM.out _).mono ?_;rintro e w1⟨rfl,rfl⟩;go_wp2;go_ret;exact⟨rfl,B⟩
 by_cases h2:kind=2
 ·subst h2;have HE:Hid (normK ⟨2,a,b⟩=newRange a b):=rfl;have HM:Hid (∀w,Calls Tryz.prog 51 #[.int .u64 (a:Int),.int .u64 (b:Int)] w fun e w'=>e=.returned (setV (newRange a b))∧w'=w):=fun w=>newRange_any a b w ha hb
  rw[HE.out];clear HE;generalize newRange a b=N at*;go_enter Tryz.func102,Tryz.ntmps102;go_wp2_with fail;refine(HM.out _).mono ?_;rintro e w1⟨rfl,rfl⟩;go_wp2;go_ret;exact⟨rfl,B⟩
 have HE:Hid (setV (normK ⟨kind,a,b⟩)=.iface 149 (.agg #[])):=by simp[Hid,normK,h1,h2,setV]
 rw[HE.out];go_enter Tryz.func102,Tryz.ntmps102;go_wp2;go_ret;exact⟨rfl,B⟩
end Go.Proofs.YtddemlfepjkgoaaGreat
