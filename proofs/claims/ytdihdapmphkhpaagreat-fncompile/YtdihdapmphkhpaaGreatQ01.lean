import Derived.Below
import Derived.Test.YtdihdapmphkhpaaGreatChecked
import Derived.WalkKit
import Derived.WalkSpells
import Derived.WalkLawsBesides
import Derived.Deep.OwnRows
import Derived.Deep.QuietTactic
import Derived.BigQuiet
import Derived.Deep.RegionWith
import Derived.Laws.BitsAllLaws
import Derived.Deep.DrawnRows
import Derived.Deep.RegionHeld3
import Derived.Laws.Bits64b
set_option linter.all false
set_option maxRecDepth 200000
set_option maxHeartbeats 16000000
namespace Go.Proofs.YtdihdapmphkhpaaGreat
open Go.RowKit Go.Deep
abbrev aa:=@List.getD_eq_getElem?_getD
abbrev ae:=@Nat.le_refl
abbrev af:=@Below.refl
abbrev ag:=@List.getElem?_eq_getElem
abbrev ah:=@World.grownBy.refl
abbrev aj:=@List.length_append
abbrev an:=@Nat.lt_of_lt_of_le
abbrev aq:=@List.length_cons
abbrev aw:=@List.getElem?_append_right
abbrev aA:=@World.ownsRow.kept
abbrev aB:=@List.mem_of_mem_take
abbrev aC:=@Nat.zero_add
abbrev aD:=@List.getElem?_append_left
abbrev aE:=@Below.heap_setCell
abbrev aF:=@List.append_assoc
abbrev aG:=@World.cell?_setCell_same
abbrev aH:=@Array.getElem?_modify
abbrev aI:=@List.getElem_mem
abbrev aJ:=@World.cell?_setCell_other
abbrev aK:=@List.length_set
abbrev aL:=@Bool.and_eq_true
abbrev aM:=@List.eq_nil_of_length_eq_zero
abbrev aN:=@World.cell?_of_block
abbrev aO:=@List.cons_append
abbrev aQ:=@List.mem_of_mem_drop
abbrev aS:=@IntKind.wrap_u64
abbrev aT:=@IntKind.wrap_i64
abbrev aU:=@List.length_nil
abbrev aV:=@List.mem_singleton
abbrev aW:=@Nat.le_trans
abbrev aX:=@List.length_map
abbrev aY:=@List.mem_cons_self
abbrev aZ:=@World.ownsRow_nil
abbrev ba:=@Int.le_refl
abbrev bf:=@Array.getElem?_eq_some_iff
abbrev bh:=@World.ownsRow.alloc
abbrev bj:=@List.mem_append
abbrev bo:=@List.mem_cons_of_mem
abbrev bp:=@List.nil_append
abbrev bs:=@Value.slice.injEq
abbrev bu:=@Nat.eq_of_testBit_eq
abbrev bw:=@List.getElem?_eq_none
abbrev bz:=@Option.some.injEq
abbrev bB:=@World.cell?_alloc_at
abbrev bC:=@List.all_eq_true
abbrev bD:=@List.mem_range
abbrev bE:=@World.ownsRow.cellAt
abbrev bF:=@List.mem_cons
abbrev bG:=@List.length_singleton
abbrev bH:=@List.getElem_of_mem
abbrev bI:=@Nat.testBit_and
abbrev bJ:=@Nat.le_of_lt
abbrev bK:=@List.length_drop
abbrev bL:=@List.map_append
abbrev bM:=@List.append_nil
abbrev bN:=@List.length_take
abbrev bO:=@World.ownsRow.lt
abbrev bP:=@List.getElem?_take
abbrev bQ:=@Int.emod_lt_of_pos
abbrev bR:=@Nat.mul_one
abbrev bS:=@World.rowIs.lt
abbrev bT:=@List.mem_map
abbrev bU:=@World.cell?_drew
abbrev bW:=@Nat.testBit_two_pow
abbrev bY:=@List.flatMap_append
abbrev bZ:=@World.frozen?_setCell
abbrev cd:=@Bool.and_false
abbrev cf:=@Int.emod_nonneg
abbrev ch:=@World.frozen?_of_block
abbrev ct:=@List.take_length
abbrev cw:=@List.drop_eq_getElem_cons
abbrev cA:=@Nat.add_zero
abbrev cB:=@Bool.eq_iff_iff
abbrev cC:=@List.range_succ
abbrev cD:=@List.mem_flatMap
abbrev cE:=@Nat.mul_le_mul_right
abbrev cF:=@Bool.and_true
abbrev cH:=@Int.tmod_eq_emod_of_nonneg
abbrev cI:=@Array.getElem?_eq_none
abbrev cJ:=@List.getElem?_map
abbrev cK:=@List.take_add_one
abbrev cL:=@Nat.mod_eq_of_lt
abbrev cM:=@List.not_mem_nil
abbrev cN:=@Nat.testBit_or
abbrev cO:=@Nat.testBit_zero
abbrev cQ:=@List.mem_or_eq_of_mem_set
abbrev cS:=@List.getElem?_eq_some_iff
abbrev cT:=@Nat.add_mul
abbrev cU:=@Nat.pow_lt_pow_right
abbrev cV:=@Nat.mul_comm
abbrev cW:=@List.pairwise_append
abbrev cX:=@Nat.add_assoc
abbrev cY:=@Nat.testBit_div_two_pow
abbrev cZ:=@List.length_pos_iff
abbrev dc:=@List.length_reverse
abbrev dd:=@Nat.one_mul
abbrev de:=@Nat.lt_or_ge
abbrev dg:=@Nat.testBit_two_pow_mul_add
abbrev dh:=@List.pairwise_cons
abbrev di:=@Nat.two_pow_pos
abbrev dj:=@Nat.testBit_xor
abbrev dm:=@World.cell?_alloc_old
abbrev dn:=@World.rowIs_alloc
abbrev dp:=@Nat.le_succ_of_le
abbrev dq:=@List.length_eraseIdx
abbrev dr:=@List.mem_of_getElem?
abbrev dt:=@List.pairwise_iff_getElem
abbrev du:=@Nat.sub_self
abbrev dv:=@World.rowIs.cell
abbrev dz:=@List.ext_getElem
abbrev dA:=@World.new_ne
abbrev dB:=@Option.bind_some
abbrev dC:=@List.drop_length
abbrev dD:=@List.map_congr_left
abbrev dE:=@List.reverse_append
abbrev dF:=@List.getD_cons_zero
abbrev dG:=@List.length_eq_zero_iff
abbrev dH:=@Nat.lt_of_le_of_lt
abbrev dI:=@World.rowIs.set
abbrev dJ:=@Nat.lt_or_gt_of_ne
abbrev dK:=@World.ownsRow.frozenAt
abbrev dL:=@List.getElem?_set
abbrev dM:=@Int.lt_trichotomy
abbrev dN:=@Nat.lt_trichotomy
abbrev dO:=@Nat.lt_trans
abbrev dP:=@Nat.ne_of_lt
abbrev dQ:=@Nat.zero_mul
abbrev dR:=@List.concat_eq_append
abbrev dS:=@Below.heap_alloc
abbrev dT:=@Nat.pow_le_pow_right
abbrev dU:=@Nat.and_le_right
abbrev dV:=@Int.toNat_of_nonneg
abbrev dW:=@Nat.and_mod_two_pow
abbrev dX:=@Bool.or_eq_true
abbrev dY:=@Nat.sub_zero
abbrev dZ:=@Nat.pow_succ
end Go.Proofs.YtdihdapmphkhpaaGreat
namespace Go.Proofs.YtdihdapmphkhpaaGreat
variable{F:Nat->Int}{n:Nat}
structure I where
 c:Int
 jt:Int
 jf:Int
 k:Int
def I.ok(x:I):Prop:=0<=x.c∧x.c<=65535∧0<=x.jt∧x.jt<=255∧0<=x.jf∧x.jf<=255∧0<=x.k∧x.k<=4294967295
def I.zero:I:=⟨0,0,0,0⟩
theorem I.lB:I.zero.ok:=by unfold I.ok I.zero;decide
def FH:List Int:=[0,1,32,96,97,2,3,4,12,20,28,36,44,52,60,68,76,84,92,164,172,100,108,116,124,132,7,135,5,21,29,37,45,53,61,69,77,6,22]
def qW(c:Int):Bool:=FH.contains c
def oQ(c:Int):Bool:=c==96||c==97||c==2||c==3
def pf(c:Int):Bool:=c==4||c==20||c==36||c==52||c==68||c==84||c==164||c==100||c==116||c==12||c==28||c==44||c==60||c==76||c==92||c==172||c==108||c==124||c==132
def ke(c:Int):Bool:=c==21||c==37||c==53||c==69||c==29||c==45||c==61||c==77
def pP(c:Int):Bool:=c==0||c==1||c==32||c==7||c==135||c==5||c==6||c==22||oQ c||pf c||ke c
theorem zh(c:Int):pP c=qW c:=by
 simp only[pP,oQ,pf,ke,qW,FH,List.contains_cons,List.contains_nil,Bool.or_false];ac_rfl
theorem I0(c:Int)(h:ke c=true):qW c=true:=by
 rw[<-zh];simp[pP,h]
def sE(n i c jt jf k:Int):Int:=
 if qW c=false then 2
 else if c=32∧(k%4≠0∨60<k)then 3
 else if oQ c=true∧16<=k then 4
 else if c=5∧n<=i+1+k then 5
 else if ke c=true∧(n<=i+1+jt∨n<=i+1+jf)then 5
 else if c=52∧k=0 then 6
 else if(c=100∨c=116)∧32<=k then 6
 else if i=n-1∧c≠6∧c≠22 then 7
 else 0
def nu(c jt jf k after:Int):Bool:=if ke c then(decide (after<=jt)||decide (after<=jf))else(c==5&&decide (after<=k))
def sT(c k:Int):Bool:=if c=52 then k==0 else if c=100∨c=116 then decide (32<=k)else false
def kf(c jt jf k after:Int):Int:=
 if pP c=false then 2
 else if c=32∧(k%4≠0∨60<k)then 3
 else if oQ c=true∧16<=k then 4
 else if nu c jt jf k after=true then 5
 else if sT c k=true then 6
 else if after=0∧c≠6∧c≠22 then 7
 else 0
theorem pX(n i c jt jf k:Int):kf c jt jf k (n-1-i)=sE n i c jt jf k:=by
 unfold kf sE;rw[zh];have h5:ke 5=false:=by decide
 have hj:nu c jt jf k (n-1-i)=true↔((c=5∧n<=i+1+k)∨(ke c=true∧(n<=i+1+jt∨n<=i+1+jf))):=by
  unfold nu;by_cases ht:ke c=true
  ·have hc:c≠5:=by intro e;rw[e,h5]at ht;cases ht
   simp[ht,hc];omega
  simp[ht];omega
 have hb:sT c k=true↔((c=52∧k=0)∨((c=100∨c=116)∧32<=k)):=by
  unfold sT;by_cases h1:c=52
  ·subst h1;simp
  by_cases h2:c=100∨c=116
  ·simp[h1,h2]
  simp[h1,h2]
 have he:(n-1-i=0∧c≠6∧c≠22)↔(i=n-1∧c≠6∧c≠22):=by omega
 by_cases g1:qW c=false
 ·simp only[if_pos g1]
 simp only[if_neg g1];by_cases g2:c=32∧(k%4≠0∨60<k)
 ·simp only[if_pos g2]
 simp only[if_neg g2];by_cases g3:oQ c=true∧16<=k
 ·simp only[if_pos g3]
 simp only[if_neg g3];by_cases g4:c=5∧n<=i+1+k
 ·rw[if_pos (hj.2 (.inl g4)),if_pos g4]
 by_cases g5:ke c=true∧(n<=i+1+jt∨n<=i+1+jf)
 ·rw[if_pos (hj.2 (.inr g5)),if_neg g4,if_pos g5]
 have hn:¬nu c jt jf k (n-1-i)=true:=fun e=>(hj.1 e).elim g4 g5
 rw[if_neg hn,if_neg g4,if_neg g5];by_cases g6:c=52∧k=0
 ·rw[if_pos (hb.2 (.inl g6)),if_pos g6]
 by_cases g7:(c=100∨c=116)∧32<=k
 ·rw[if_pos (hb.2 (.inr g7)),if_neg g6,if_pos g7]
 have hn2:¬sT c k=true:=fun e=>(hb.1 e).elim g6 g7
 rw[if_neg hn2,if_neg g6,if_neg g7];by_cases g8:i=n-1∧c≠6∧c≠22
 ·rw[if_pos (he.2 g8),if_pos g8]
 rw[if_neg (fun e=>g8 (he.1 e)),if_neg g8]
def mc(F:Nat->Int):Nat->Nat->Int×Int
 |0,_=>(0,0)
 |m+1,i=>if F i=0 then mc F m (i+1)else(F i,(i:Int))
def lE(p:List I)(i:Nat):Int:=sE p.length i (p.getD i I.zero).c (p.getD i I.zero).jt (p.getD i I.zero).jf (p.getD i I.zero).k
def jz(p:List I):Int×Int:=if p.length<1∨4096<p.length then(1,0)else mc (lE p) p.length 0
theorem zH{k:Nat}(h:k<n)(h0:F k=0):mc F (n-(k+1)) (k+1)=mc F (n-k) k:=by
 have e:n-k=(n-(k+1))+1:=by omega
 rw[e,mc,if_pos h0]
theorem EK{k:Nat}(h:k<n)(h0:F k≠0):mc F (n-k) k=(F k,(k:Int)):=by
 have e:n-k=(n-(k+1))+1:=by omega
 rw[e,mc,if_neg h0]
theorem Eg:mc F (n-n) n=(0,0):=by rw[du];rfl
theorem Ck{p:List I}(h:p.length<1∨4096<p.length):jz p=(1,0):=by unfold jz;rw[if_pos h]
theorem xh{p:List I}(h1:1<=p.length)(h2:p.length<=4096):jz p=mc (lE p) (p.length-0) 0:=by
 unfold jz;rw[if_neg (by omega),dY]
end Go.Proofs.YtdihdapmphkhpaaGreat
namespace Go.Proofs.YtdihdapmphkhpaaGreat
open Go.RowKit
variable{D n t:Nat}{p:List I}{w w':World}
theorem fL{k:IntKind}{a b:Int}(h:a=b):Ending.returned (.int k a)=.returned (.int k b):=by rw[h]
theorem nt{a b:Bool}(h:a=b):Ending.returned (.bool a)=.returned (.bool b):=by rw[h]
abbrev kD(c jt jf k:Int):Value:=.agg #[.int .u16 c,.int .u8 jt,.int .u8 jf,.int .u32 k]
theorem bcell{W w1:World}(hb:Below W.heap.size W w1):(∀b o,b<W.heap.size->w1.cell? ⟨b,o,none⟩=W.cell? ⟨b,o,none⟩)∧(∀b o,b<W.heap.size->w1.frozen? ⟨b,o,none⟩=W.frozen? ⟨b,o,none⟩):=
 ⟨fun b o h=>hb.cell (p:=⟨b,o,none⟩) h,fun b o h=>hb.frozen (p:=⟨b,o,none⟩) h⟩
def qw(w:World)(b o:Nat)(p:List I):Prop:=
 ∀i,i<p.length->w.cell? ⟨b,o+i*4,none⟩=some (.int .u16 (p.getD i I.zero).c)∧w.cell? ⟨b,o+i*4+1,none⟩=some (.int .u8 (p.getD i I.zero).jt)∧
  w.cell? ⟨b,o+i*4+2,none⟩=some (.int .u8 (p.getD i I.zero).jf)∧w.cell? ⟨b,o+i*4+3,none⟩=some (.int .u32 (p.getD i I.zero).k)
theorem AX:(Tryz.prog.info? 68).map (fun i=>(i.zero,i.size,i.bytes))=some (some (.agg #[.int .u16 0,.int .u8 0,.int .u8 0,.int .u32 0]),4,8):=by kernel_rfl
def ug(p:List I)(j:Nat):Value:=
 if j%4=0 then .int .u16 (p.getD (j/4) I.zero).c
 else if j%4=1 then .int .u8 (p.getD (j/4) I.zero).jt
 else if j%4=2 then .int .u8 (p.getD (j/4) I.zero).jf
 else .int .u32 (p.getD (j/4) I.zero).k
def Src(w:World)(a:Option Addr)(p:List I):Prop:=p=[]∨∃b o,a=some ⟨b,o,none⟩∧b<w.heap.size∧qw w b o p
theorem Src.below{a:Option Addr}(h:Src w a p)(hb:Below w.heap.size w w'):Src w' a p:=by
 rcases h with h|⟨b,o,ha,hlt,hc⟩
 ·exact .inl h
 refine .inr ⟨b,o,ha,an hlt hb.size,fun i hi=> ?_⟩;obtain⟨c0,c1,c2,c3⟩:=hc i hi;exact⟨(hb.cell (p:=⟨b,_,none⟩) hlt).trans c0,(hb.cell (p:=⟨b,_,none⟩) hlt).trans c1,(hb.cell (p:=⟨b,_,none⟩) hlt).trans c2,(hb.cell (p:=⟨b,_,none⟩) hlt).trans c3⟩
def wD(w:World)(D t n:Nat)(p:List I)(k:Nat):Prop:=∃f,w.rowIs D t (n*4) f∧∀j,j<k*4->f j=ug p j
theorem wD.own{k:Nat}(h:wD w D t n p k)(j:Nat)(hj:j<n*4):∃v,w.cell? ⟨D,j,none⟩=some v∧w.frozen? ⟨D,j,none⟩=false:=by
 obtain⟨f,hr,_⟩:=h;exact⟨_,hr.cell hj,hr.frozen j⟩
theorem wD.done(h:wD w D t n p n):w.rowIs D t (n*4) (ug p):=by
 obtain⟨f,hr,hf⟩:=h;exact hr.congr hf
theorem wD.ey{k:Nat}(h:wD w D t n p k)(hb:Below w.heap.size w w'):wD w' D t n p k:=by
 obtain⟨f,hr,hf⟩:=h;exact⟨f,hr.of_block (hb.block D hr.lt),hf⟩
theorem kn(b o m:Nat):(⟨b,o,none⟩:Addr).add m=⟨b,o+m,none⟩:=by
 unfold Addr.add;by_cases hm0:m=0
 ·subst hm0;simp
 simp[hm0]
def nO(w:World)(b o:Nat)(l:List Int):Prop:=∀i,i<l.length->w.cell? ⟨b,o+i,none⟩=some (.int .u8 (l.getD i 0))
def ng(w:World)(a:Option Addr)(l:List Int):Prop:=l=[]∨∃b o,a=some ⟨b,o,none⟩∧b<w.heap.size∧nO w b o l
theorem ng.below{a:Option Addr}{l:List Int}(h:ng w a l)(hb:Below w.heap.size w w'):ng w' a l:=by
 rcases h with h|⟨b,o,ha,hlt,hc⟩
 ·exact .inl h
 exact .inr ⟨b,o,ha,an hlt hb.size,fun i hi=>(hb.cell (p:=⟨b,_,none⟩) hlt).trans (hc i hi)⟩
theorem info5:(Tryz.prog.info? 5).map (fun i=>(i.zero,i.size,i.bytes))=some (some (.int .u8 0),1,1):=by kernel_rfl
abbrev owns(w:World)(base:Nat)(v:Value)(l:List Int):Prop:=w.ownsRow base 5 1 v l.length (l.map (Value.int .u8))
theorem GQ{base:Nat}{v:Value}{l:List Int}(h:owns w base v l):∃a cap,v=.slice a l.length cap∧ng w a l:=by
 obtain⟨_,h|⟨g,cap,cur,rfl,hb,hg,hn,hm,hs,hx⟩⟩:=h
 ·obtain⟨rfl,h0⟩:=h;have:l=[]:=aM h0;subst this;exact⟨none,0,rfl,.inl rfl⟩
 refine⟨_,_,rfl,.inr ⟨g,0,rfl,(bf.1 hg).1,fun i hi=> ?_⟩⟩;have e:(cur.toList.take (l.length*1))[i]? =some (Value.int .u8 (l.getD i 0)):=by
  rw[hx,cJ,ag hi,aa,ag hi];rfl
 rw[bP,if_pos (by omega)]at e;simp only[World.cell?,hg,aC];simpa using e
end Go.Proofs.YtdihdapmphkhpaaGreat
namespace Go.Proofs.YtdihdapmphkhpaaGreat
def eD:Int->Nat->List Int
 |_,0=>[]
 |v,n+1=>v%256::eD (v/256) n
theorem iw(v:Int)(n:Nat):(eD v n).length=n:=by
 induction n generalizing v with
 |zero=>rfl
 |succ n ih=>simp[eD,ih]
end Go.Proofs.YtdihdapmphkhpaaGreat
namespace Go.Proofs.YtdihdapmphkhpaaGreat
open Go.RowKit
theorem Gp{w:World}{base:Nat}{v:Value}{l m:List Int}{n:Nat}(hn:n=l.length+m.length)(h:w.ownsRow base 5 1 v n (l.map (Value.int .u8)++m.map (Value.int .u8))):owns w base v (l++m):=by
 subst hn;simpa[owns]using h
theorem xJ{w wr w1:World}{B:Nat}{v:Value}{l:List Int}(hB:Below B w wr)(hBs:B<=wr.heap.size)(hown:owns wr B v l)(hg:wr.grownBy w1 v.ownBlock):Below B w w1:=
 hB.grown hg hBs (fun k hk=>(hown.lt k hk).1)
theorem wC(l:List Int):∀u∈l.map (Value.int .u8),u.oneCell'=true:=ints_oneCell .u8 l
end Go.Proofs.YtdihdapmphkhpaaGreat
namespace Go.Proofs.YtdihdapmphkhpaaGreat
def eV(l:List Int):Prop:=∀x∈l,0<=x∧x<=255
theorem ez{l:List Int}(h:eV l)(i:Nat):0<=l.getD i 0∧l.getD i 0<=255:=by
 by_cases hi:i<l.length
 ·rw[aa,ag hi];exact h _ (aI hi)
 rw[aa,bw (by omega)];simp
theorem AV(i:Nat)(a b:Int)(h1:0<=a)(h2:a<2^i)(h3:0<=b)(h4:b%2^i=0)(h5:a<4294967296)(h6:b<4294967296):bits .or .u32 a b=a+b:=by
 rw[u32_or a b h1 h5 h3 h6,Nat.or_comm];have e:(b.toNat|||a.toNat)=b.toNat+a.toNat:=by
  refine nat_join i _ _ ?_ ?_
  ·have:((b.toNat%2^i:Nat):Int)=0:=by rw[Int.natCast_emod,dV h3,Int.natCast_pow];exact h4
   omega
  have:((a.toNat:Nat):Int)<((2^i:Nat):Int):=by rw[dV h1,Int.natCast_pow];exact h2
  omega
 rw[e];omega
theorem EL(x0 x1 x2 x3:Int)(h0:0<=x0∧x0<=255)(h1:0<=x1∧x1<=255)(h2:0<=x2∧x2<=255)(h3:0<=x3∧x3<=255):
 bits .or .u32 (bits .or .u32 (bits .or .u32 x0 (x1*256)) (x2*65536)) (x3*16777216)=x0+256*x1+65536*x2+16777216*x3:=by
 rw[AV 8 x0 (x1*256) h0.1 (by omega) (by omega) (by omega) (by omega) (by omega)];rw[AV 16 _ (x2*65536) (by omega) (by omega) (by omega) (by omega) (by omega) (by omega)];rw[AV 24 _ (x3*16777216) (by omega) (by omega) (by omega) (by omega) (by omega) (by omega)];omega
def tk(one two:Bool):Nat->Int->Int->Int
 |0,_,_=>0
 |n+1,a,b=>(if(a%2+b%2=1∧one=true)∨(a%2+b%2=2∧two=true)then 1 else 0)+2*tk one two n (a/2) (b/2)
theorem Is(one two:Bool)(n:Nat)(a b:Int):0<=tk one two n a b∧tk one two n a b<((2^n:Nat):Int):=by
 induction n generalizing a b with
 |zero=>simp[tk]
 |succ n ih=>
  have h:=ih (a/2) (b/2);simp only[tk,dZ];split<;>omega
theorem or01:∀x<2,∀y<2,(x|||y)=if x+y=1∨x+y=2 then 1 else 0:=by decide
theorem and01:∀x<2,∀y<2,(x&&&y)=if x+y=2 then 1 else 0:=by decide
theorem IZ(a b:Nat):a|||b=(if a%2+b%2=1∨a%2+b%2=2 then 1 else 0)+2*(a/2|||b/2):=by
 have h2:(a|||b)%2=(a%2)|||(b%2):=Nat.or_mod_two_pow (n:=1);rw[or01 _ (Nat.mod_lt _ (by omega)) _ (Nat.mod_lt _ (by omega))]at h2;rw[<-Nat.or_div_two,<-h2];omega
theorem yH(a b:Nat):a&&&b=(if a%2+b%2=2 then 1 else 0)+2*(a/2&&&b/2):=by
 have h2:(a&&&b)%2=(a%2)&&&(b%2):=dW (n:=1);rw[and01 _ (Nat.mod_lt _ (by omega)) _ (Nat.mod_lt _ (by omega))]at h2;rw[<-Nat.and_div_two,<-h2];omega
theorem I4(n:Nat)(a b:Nat)(ha:a<2^n)(hb:b<2^n):tk true true n a b=((a|||b:Nat):Int):=by
 induction n generalizing a b with
 |zero=>have:a=0:=by omega
        have:b=0:=by omega
        subst a b;rfl
 |succ n ih=>
  have h:=ih (a/2) (b/2) (by rw[dZ]at ha;omega) (by rw[dZ]at hb;omega);rw[IZ,tk];rw[show((a:Int)/2)=((a/2:Nat):Int)by omega,show((b:Int)/2)=((b/2:Nat):Int)by omega,h];simp only[and_true];split<;>split<;>omega
theorem Ak(n:Nat)(a b:Nat)(ha:a<2^n)(hb:b<2^n):tk false true n a b=((a&&&b:Nat):Int):=by
 induction n generalizing a b with
 |zero=>have:a=0:=by omega
        have:b=0:=by omega
        subst a b;rfl
 |succ n ih=>
  have h:=ih (a/2) (b/2) (by rw[dZ]at ha;omega) (by rw[dZ]at hb;omega);rw[yH,tk];rw[show((a:Int)/2)=((a/2:Nat):Int)by omega,show((b:Int)/2)=((b/2:Nat):Int)by omega,h];simp only[Bool.false_eq_true,and_false,false_or,and_true];split<;>split<;>omega
def isWord(a:Int):Prop:=0<=a∧a<=4294967295
theorem or_eq{a b:Int}(ha:isWord a)(hb:isWord b):tk true true 32 a b=bits .or .u32 a b:=by
 obtain⟨h1,h2⟩:=ha;obtain⟨h3,h4⟩:=hb;rw[u32_or a b h1 (by omega) h3 (by omega),<-I4 32 a.toNat b.toNat (by omega) (by omega),dV h1,dV h3]
theorem and_eq{a b:Int}(ha:isWord a)(hb:isWord b):tk false true 32 a b=bits .and .u32 a b:=by
 obtain⟨h1,h2⟩:=ha;obtain⟨h3,h4⟩:=hb;rw[u32_and a b h1 (by omega) h3 (by omega),<-Ak 32 a.toNat b.toNat (by omega) (by omega),dV h1,dV h3]
def pw(n:Nat):Int:=((2^n:Nat):Int)
theorem pw_pos(n:Nat):1<=pw n:=by unfold pw;have:=Nat.one_le_two_pow (n:=n);omega
def aluL(op a v:Int):Int:=
 if op=0 then(a+v)%4294967296 else if op=1 then(a-v)%4294967296 else if op=2 then a*v%4294967296 else if op=3 then a/v
 else if op=4 then tk true true 32 a v else if op=5 then tk false true 32 a v else if op=10 then tk true false 32 a v else if op=8 then-a%4294967296
 else if 32<=v then 0 else if op=6 then a*pw v.toNat%4294967296 else a/pw v.toNat
theorem DI(op a v:Int)(ha:isWord a)(hv:isWord v):isWord (aluL op a v):=by
 have b:=Is;have p32:((2^32:Nat):Int)=4294967296:=by decide
 obtain⟨a0,a1⟩:=ha;obtain⟨v0,v1⟩:=hv;unfold aluL isWord;split
 ·omega
 split
 ·omega
 split
 ·omega
 split
 ·by_cases h0:v=0
  ·subst h0;simp
  have h1:=Int.ediv_nonneg a0 v0;have h2:a/v<=a:=Int.ediv_le_self v a0;omega
 split
 ·have:=b true true 32 a v;rw[p32]at this;omega
 split
 ·have:=b false true 32 a v;rw[p32]at this;omega
 split
 ·have:=b true false 32 a v;rw[p32]at this;omega
 split
 ·omega
 split
 ·omega
 split
 ·omega
 have hp:=pw_pos v.toNat;have h1:=Int.ediv_nonneg a0 (show 0<=pw v.toNat by omega);have h2:a/pw v.toNat<=a:=Int.ediv_le_self _ a0;omega
def ij(op a v:Int):Bool:=if op=1 then a==v else if op=2 then decide (v<a)else if op=3 then decide (v<=a)else tk false true 32 a v !=0
def jJ(r:List Int)(k:Nat):Int:=r.getD k 0+256*r.getD (k+1) 0+65536*r.getD (k+2) 0+16777216*r.getD (k+3) 0
theorem uU{r:List Int}(h:eV r)(k:Nat):isWord (jJ r k):=by
 have b:=fun j=>ez h j
 have b0:=b k;have b1:=b (k+1);have b2:=b (k+2);have b3:=b (k+3);unfold jJ isWord;omega
structure S where
 a:Int
 x:Int
 m:Nat->Int
def S.ok(s:S):Prop:=isWord s.a∧isWord s.x∧∀j,isWord (s.m j)
def opV(i:I)(s:S):Int:=if i.c/8%2=1 then s.x else i.k
def gV(i:I)(s:S):Option Int:=
 if i.c=6 then some i.k else if i.c=22 then some s.a else if(i.c=52∨i.c=60)∧opV i s=0 then some 2147483648 else none
def iH(r:List Int)(i:I)(s:S):S:=
 if pf i.c=true then{s with a:=aluL (i.c/16) s.a (opV i s)}
 else if i.c=0 then{s with a:=i.k}
 else if i.c=1 then{s with x:=i.k}
 else if i.c=32 then{s with a:=jJ r i.k.toNat}
 else if i.c=96 then{s with a:=s.m i.k.toNat}
 else if i.c=97 then{s with x:=s.m i.k.toNat}
 else if i.c=2 then{s with m:=fun j=>if j=i.k.toNat then s.a else s.m j}
 else if i.c=3 then{s with m:=fun j=>if j=i.k.toNat then s.x else s.m j}
 else if i.c=7 then{s with x:=s.a}
 else if i.c=135 then{s with a:=s.x}
 else s
def gB(i:I)(s:S):Nat:=if i.c=5 then i.k.toNat else if ke i.c=true then(if ij (i.c/16) s.a (opV i s)=true then i.jt else i.jf).toNat else 0
def kv(r:List Int):Nat->List I->S->Int×Int
 |0,_,_=>(0,0)
 |_+1,[],_=>(0,0)
 |n+1,i::t,s=>match gV i s with
  |some v=>(v,1)
  |none=>((kv r n (t.drop (gB i s)) (iH r i s)).1,(kv r n (t.drop (gB i s)) (iH r i s)).2+1)
theorem zd{i:I}{s:S}(hi:i.ok)(hs:s.ok):isWord (opV i s):=by
 unfold opV;split
 ·exact hs.2.1
 exact⟨hi.2.2.2.2.2.2.1,hi.2.2.2.2.2.2.2⟩
theorem Fx{r:List Int}{i:I}{s:S}(hr:eV r)(hi:i.ok)(hs:s.ok):(iH r i s).ok:=by
 have hk:isWord i.k:=⟨hi.2.2.2.2.2.2.1,hi.2.2.2.2.2.2.2⟩;unfold iH;obtain⟨ha,hx,hm⟩:=hs;split
 ·exact⟨DI _ _ _ ha (zd hi ⟨ha,hx,hm⟩),hx,hm⟩
 split
 ·exact⟨hk,hx,hm⟩
 split
 ·exact⟨ha,hk,hm⟩
 split
 ·exact⟨uU hr _,hx,hm⟩
 split
 ·exact⟨hm _,hx,hm⟩
 split
 ·exact⟨ha,hm _,hm⟩
 split
 ·exact⟨ha,hx,fun j=>by simp only;split;exact ha;exact hm j⟩
 split
 ·exact⟨ha,hx,fun j=>by simp only;split;exact hx;exact hm j⟩
 split
 ·exact⟨ha,ha,hm⟩
 split
 ·exact⟨hx,hx,hm⟩
 exact⟨ha,hx,hm⟩
end Go.Proofs.YtdihdapmphkhpaaGreat
namespace Go.Proofs.YtdihdapmphkhpaaGreat
open Go.RowKit
variable{R cap j:Nat}{a:Option Addr}{l:List Int}{r:Option Nat}{w w1:World}
def rdF(a:Option Addr)(cap:Nat)(l:List Int)(j:Nat)(i:Nat):Value:=if i=0 then .slice a l.length cap else .int .i64 ((min j l.length:Nat):Int)
structure Rd(w:World)(R:Nat)(a:Option Addr)(cap:Nat)(l:List Int)(j:Nat):Prop where
 row:w.rowIs R 79 2 (rdF a cap l j)
 src:l=[]∨∃b o,a=some ⟨b,o,none⟩∧b<R∧nO w b o l
 bys:eV l
 len:l.length<=600
 cp:l.length<=cap
theorem Rd.lt{w:World}{R cap j:Nat}{a:Option Addr}{l:List Int}(h:Rd w R a cap l j):R<w.heap.size:=bS h.row
theorem Rd.ey(h:Rd w R a cap l j)(e:∀k,k<=R->w1.heap[k]? =w.heap[k]?):Rd w1 R a cap l j:=by
 refine⟨World.rowIs.of_block h.row (e R (ae _)),?_,h.bys,h.len,h.cp⟩;rcases h.src with h1|⟨b,o,h1,h2,h3⟩
 ·exact .inl h1
 exact .inr ⟨b,o,h1,h2,fun i hi=>(aN (w:=w) (e b (by omega))).trans (h3 i hi)⟩
theorem Rd.below(h:Rd w R a cap l j)(hb:Below w.heap.size w w1):Rd w1 R a cap l j:=
 h.ey (fun k hk=>hb.block k (dH hk h.lt))
theorem Rd.alloc{w:World}{R cap j:Nat}{a:Option Addr}{l:List Int}(h:Rd w R a cap l j)(o:Obj):Rd (w.alloc o) R a cap l j:=
 h.ey (fun k hk=>dS w o k (dH hk h.lt))
theorem Rd.drewN{w:World}{R cap j:Nat}{a:Option Addr}{l:List Int}(h:Rd w R a cap l j)(n:Nat):Rd (w.drewN n) R a cap l j:=
 h.ey (fun k hk=>rfl)
theorem Rd.grown{B:Nat}{row:Option Nat}(h:Rd w R a cap l j)(hg:w.grownBy w1 row)(hR:R<B)(hr:∀k,row=some k->B<=k):Rd w1 R a cap l j:=
 h.ey (fun k hk=>hg.block k (dH hk h.lt) (fun e=>by have:=hr k e.symm;omega))
theorem Rd.set{w:World}{R cap j:Nat}{a:Option Addr}{l:List Int}(h:Rd w R a cap l j)(v:Int)(j':Nat)(hv:v=((min j' l.length:Nat):Int)):Rd (w.setCell ⟨R,1,none⟩ (.int .i64 v)) R a cap l j':=by
 refine⟨(dI h.row 1 (.int .i64 v)).congr (fun i hi=> ?_),?_,h.bys,h.len,h.cp⟩
 ·unfold rdF;by_cases e:i=1
  ·subst e;simp[hv]
  have:i=0:=by omega
  subst this;simp
 rcases h.src with h1|⟨b,o,h1,h2,h3⟩
 ·exact .inl h1
 refine .inr ⟨b,o,h1,h2,fun i hi=>(aN (w:=w) ?_).trans (h3 i hi)⟩;exact aE w ⟨R,1,none⟩ _ b (by show b≠R;omega)
theorem Rd.past(h:Rd w R a cap l j)(hj:l.length<=j):Rd w R a cap l (j+1):=by
 refine⟨h.row.congr (fun i hi=> ?_),h.src,h.bys,h.len,h.cp⟩;unfold rdF;rw[Nat.min_eq_right hj,Nat.min_eq_right (by omega)]
theorem vf(h:w.grownBy w1 r)(n:Nat):w.grownBy (w1.drewN n) r:=⟨h.os,h.tape,h.output,h.size,h.block⟩
theorem fu(h:w.grownBy w1 r)(o:Obj):w.grownBy (w1.alloc o) r:=
 ⟨h.os,h.tape,h.output,by have:=h.size;simp;omega,fun k hk hne=>(dS w1 o k (by have:=h.size;omega)).trans (h.block k hk hne)⟩
theorem fG{wr:World}{D:Nat}(h:w.grownBy wr (some D))(j:Nat)(v:Value):w.grownBy (wr.setCell ⟨D,j,none⟩ v) (some D):=
 ⟨h.os,h.tape,h.output,by have:=h.size;simpa[World.setCell]using this,fun k hk hne=>(aE wr ⟨D,j,none⟩ v k (fun e=>hne (by rw[e]))).trans (h.block k hk hne)⟩
theorem fJ(h:Below w.heap.size w w1):w.grownBy w1 r:=⟨h.os,h.tape,h.output,h.size,fun k hk _=>h.block k hk⟩
theorem eU{w2:World}(h:w.grownBy w1 r)(k:w1.grownBy w2 r):w.grownBy w2 r:=
 ⟨k.os.trans h.os,k.tape.trans h.tape,k.output.trans h.output,aW h.size k.size,fun i hi hne=>(k.block i (an hi h.size) hne).trans (h.block i hi hne)⟩
theorem jx{wr:World}{row:Option Nat}(h:w.grownBy wr (some R))(hg:wr.grownBy w1 row)(hr:∀k,row=some k->w.heap.size<=k):w.grownBy w1 (some R):=
 ⟨hg.os.trans h.os,hg.tape.trans h.tape,hg.output.trans h.output,aW h.size hg.size,fun k hk hne=>(hg.block k (an hk h.size) (fun e=>by have:=hr k e.symm;omega)).trans (h.block k hk hne)⟩
theorem Hy(R b o cap:Nat)(l:List Int)(j:Nat)(w:World)(hR:Rd w R (some ⟨b,o,none⟩) cap l j)(hs:nO w b o l)(hj:j<l.length):
 Calls Tryz.prog 18 #[.pointer (some ⟨R,0,none⟩)] w fun e w'=>e=.returned (.int .i64 (l.getD j 0))∧Rd w' R (some ⟨b,o,none⟩) cap l (j+1)∧w.grownBy w' (some R):=by
 have HR:Hid (Rd w R (some ⟨b,o,none⟩) cap l j):=hR;have hc:=hs j hj;have hcp:=hR.cp;have hlen:=hR.len;have hb:=hR.bys;have e0:w.cell? ⟨R,0,none⟩=some (.slice (some ⟨b,o,none⟩) l.length cap):=dv hR.row (by omega);have e1:w.cell? ⟨R,1,none⟩=some (.int .i64 (j:Int)):=by rw[dv hR.row (by omega)];unfold rdF;rw[if_neg (by omega),Nat.min_eq_left (by omega)]
 have f1:w.frozen? ⟨R,1,none⟩=false:=World.rowIs.frozen hR.row 1;have hx:0<=l.getD j 0∧l.getD j 0<=255:=ez hb j;obtain⟨x,ex⟩:∃x,l.getD j 0=x:=⟨_,rfl⟩;rw[ex]at hc hx⊢;obtain⟨n,en⟩:∃n,l.length=n:=⟨_,rfl⟩;have HN:Hid (l.length=n):=en;rw[en]at hj hcp hlen e0;clear ex en hs hR hb;have hjn:(j:Int)<(n:Int):=by omega
 go_enter Tryz.func18,Tryz.ntmps18;go_wp2_with fail;go_quiet(fail);go_wp2_with fail;go_quiet(fail);go_wp2;go_ret;refine⟨rfl,(HR.out.drewN _).set _ (j+1) (by rw[HN.out,Nat.min_eq_left (by omega)];simp),?_⟩;exact fG (vf (ah _ _) _) _ _
theorem Fp(R cap:Nat)(a:Option Addr)(l:List Int)(j:Nat)(w:World)(hR:Rd w R a cap l j)(hj:l.length<=j):
 Calls Tryz.prog 18 #[.pointer (some ⟨R,0,none⟩)] w fun e w'=>e=.returned (.int .i64 (l.getD j 0))∧Rd w' R a cap l (j+1)∧w.grownBy w' (some R):=by
 have HR:Hid (Rd w R a cap l j):=hR;have e0:w.cell? ⟨R,0,none⟩=some (.slice a l.length cap):=dv hR.row (by omega);have e1:w.cell? ⟨R,1,none⟩=some (.int .i64 (l.length:Int)):=by rw[dv hR.row (by omega)];unfold rdF;rw[if_neg (by omega),Nat.min_eq_right (by omega)]
 have ex:l.getD j 0=0:=by rw[aa,bw hj];rfl
 have hlen:=hR.len;rw[ex];obtain⟨n,en⟩:∃n,l.length=n:=⟨_,rfl⟩;have HN:Hid (l.length=n):=en;rw[en]at hj hlen e0 e1;clear ex en hR;go_enter Tryz.func18,Tryz.ntmps18;go_wp2_with fail;go_quiet(fail);go_wp2;go_ret;exact⟨rfl,(HR.out.past (by rw[HN.out];exact hj)).drewN _,vf (ah _ _) _⟩
theorem lT(R cap:Nat)(a:Option Addr)(l:List Int)(j:Nat)(w:World)(hR:Rd w R a cap l j):
 Calls Tryz.prog 18 #[.pointer (some ⟨R,0,none⟩)] w fun e w'=>e=.returned (.int .i64 (l.getD j 0))∧Rd w' R a cap l (j+1)∧w.grownBy w' (some R):=by
 by_cases hj:j<l.length
 ·rcases hR.src with rfl|⟨b,o,rfl,h2,h3⟩
  ·simp at hj
  exact Hy R b o cap l j w hR h3 hj
 exact Fp R cap a l j w hR (by omega)
theorem nxH(R cap:Nat)(a:Option Addr)(l:List Int):Hid (∀t W,Rd W R a cap l t->Calls Tryz.prog 18 #[.pointer (some ⟨R,0,none⟩)] W fun e w'=>e=.returned (.int .i64 (l.getD t 0))∧Rd w' R a cap l (t+1)∧W.grownBy w' (some R)):=fun t W h=>lT R cap a l t W h
theorem nx1(R cap:Nat)(a:Option Addr)(l:List Int)(t k:Nat)(h:k=t+1):Hid (∀W,Rd W R a cap l t->Calls Tryz.prog 18 #[.pointer (some ⟨R,0,none⟩)] W fun e w'=>e=.returned (.int .i64 (l.getD t 0))∧Rd w' R a cap l k∧W.grownBy w' (some R)):=h▸fun W h=>lT R cap a l t W h
theorem nS(h:eV l)(n:Nat):eV (l.take n):=fun x hx=>h x (aB hx)
theorem FF(a:Option Addr)(cap:Nat)(l:List Int)(w:World)(hs:ng w a l)(hl:eV l)(n:Nat)(hn:(l.take 600).length=n)(hnl:n<=l.length)(hcap:n<=cap)(c:Array Value)
 (hc:c= #[.slice a (l.take 600).length cap,.int .i64 0]):Rd (w.alloc (.cells c 79)) w.heap.size a cap (l.take 600) 0:=by
 subst hc;refine⟨?_,?_,nS hl _,by rw[bN];omega,by omega⟩
 ·refine dn w #[.slice a (l.take 600).length cap,.int .i64 0] _ _ (fun i hi=> ?_);have h2:i<2:=hi;have:i=0∨i=1:=by omega
  rcases this with rfl|rfl
  ·rfl
  unfold rdF;simp
 rcases hs with rfl|⟨b,o,rfl,h2,h3⟩
 ·exact .inl rfl
 refine .inr ⟨b,o,rfl,h2,fun i hi=> ?_⟩;rw[hn]at hi;rw[aN (w:=w) (dS w _ b h2),h3 i (by omega)];have e:(l.take 600).getD i 0=l.getD i 0:=by
  rw[aa,aa,bP,if_pos];rw[bN]at hn;omega
 rw[e]
theorem Fa(a:Option Addr)(cap:Nat)(l:List Int)(w:World)(hs:ng w a l)(hl:eV l)(hcap:l.length<=cap)(hn:l.length<=1048576):
 Calls Tryz.prog 15 #[.slice a l.length cap] w fun e w'=>∃R cap',e=.returned (.pointer (some ⟨R,0,none⟩))∧w.heap.size<=R∧Rd w' R a cap' (l.take 600) 0∧Below w.heap.size w w':=by
 obtain⟨n,en⟩:∃n,l.length=n:=⟨_,rfl⟩;have HN:Hid (l.length=n):=en;rw[en]at hcap hn⊢;clear en;by_cases hbig:600<n
 ·have ht:(l.take 600).length=600:=by rw[bN,HN.out];omega
  have HT:Hid ((l.take 600).length=600):=ht;clear ht;go_enter Tryz.func15,Tryz.ntmps15;go_wp2;go_ret;refine⟨w.heap.size,cap,rfl,ae _,?_,?_⟩
  ·exact FF a cap l w hs hl 600 HT.out (by rw[HN.out];omega) (by omega) _ (by rw[HT.out])
  exact(af _ _).alloc (ae _) _
 have ht:(l.take 600).length=n:=by rw[bN,HN.out];omega
 have HT:Hid ((l.take 600).length=n):=ht;clear ht;go_enter Tryz.func15,Tryz.ntmps15;go_wp2;go_ret;refine⟨w.heap.size,cap,rfl,ae _,?_,?_⟩
 ·exact FF a cap l w hs hl n HT.out (by rw[HN.out];omega) (by omega) _ (by rw[HT.out])
 exact(af _ _).alloc (ae _) _
def kB(l:List Int)(j:Nat):Int:=
 if l.getD j 0<100 then l.getD j 0%20 else if l.getD j 0<130 then 2^(l.getD j 0%32).toNat else if l.getD j 0<160 then 4294967295-l.getD j 0%5
 else if l.getD j 0<190 then 2147483647+l.getD j 0%3 else(l.getD j 0*16777619+l.getD (j+1) 0*65537+l.getD (j+2) 0)%4294967296
def jK(l:List Int)(j:Nat):Nat:=if l.getD j 0<190 then j+1 else j+3
theorem nU(R cap:Nat)(a:Option Addr)(l:List Int)(j:Nat)(w:World)(hR:Rd w R a cap l j):
 Calls Tryz.prog 79 #[.pointer (some ⟨R,0,none⟩)] w fun e w'=>e=.returned (.int .u32 (kB l j))∧Rd w' R a cap l (jK l j)∧w.grownBy w' (some R):=by
 have hx:=ez hR.bys j;have hy:=ez hR.bys (j+1);have hz:=ez hR.bys (j+2);have HN1:∀W,Rd W R a cap l j->Calls Tryz.prog 18 #[.pointer (some ⟨R,0,none⟩)] W fun e w'=>e=.returned (.int .i64 (l.getD j 0))∧Rd w' R a cap l (j+1)∧W.grownBy w' (some R):=fun W h=>lT R cap a l j W h
 have HN2:∀W,Rd W R a cap l (j+1)->Calls Tryz.prog 18 #[.pointer (some ⟨R,0,none⟩)] W fun e w'=>e=.returned (.int .i64 (l.getD (j+1) 0))∧Rd w' R a cap l (j+2)∧W.grownBy w' (some R):=fun W h=>lT R cap a l (j+1) W h
 have HN3:∀W,Rd W R a cap l (j+2)->Calls Tryz.prog 18 #[.pointer (some ⟨R,0,none⟩)] W fun e w'=>e=.returned (.int .i64 (l.getD (j+2) 0))∧Rd w' R a cap l (j+3)∧W.grownBy w' (some R):=fun W h=>lT R cap a l (j+2) W h
 obtain⟨V,hV⟩:∃V,kB l j=V:=⟨_,rfl⟩;obtain⟨J,hJ⟩:∃J,jK l j=J:=⟨_,rfl⟩;rw[hV,hJ];unfold kB at hV;unfold jK at hJ;generalize l.getD j 0=x at*;generalize l.getD (j+1) 0=y at*;generalize l.getD (j+2) 0=z at*;have HV:Hid _:=hV;have HJ:Hid _:=hJ;clear hV hJ;go_enter Tryz.func79,Tryz.ntmps79;go_wp2_with fail;refine(HN1 _ hR).mono ?_;rintro _ w1⟨rfl,hR1,hg1⟩;by_cases c1:x<100
 ·have hV:V=x%20:=by rw[<-HV.out,if_pos c1]
  have hJ:J=j+1:=by rw[<-HJ.out,if_pos (by omega)]
  subst hV hJ;clear HV HJ HN2 HN3;go_wp2;go_ret;exact⟨rfl,hR1,hg1⟩
 by_cases c2:x<130
 ·have hV:V=2^(x%32).toNat:=by rw[<-HV.out,if_neg c1,if_pos c2]
  have hJ:J=j+1:=by rw[<-HJ.out,if_pos (by omega)]
  subst hV hJ;clear HV HJ HN2 HN3;go_wp2;go_ret;refine⟨fL ?_,hR1,hg1⟩;have hp:∀k:Nat,k<32->(2:Int)^k%4294967296=2^k:=by decide
  exact hp _ (by omega)
 by_cases c3:x<160
 ·have hV:V=4294967295-x%5:=by rw[<-HV.out,if_neg c1,if_neg c2,if_pos c3]
  have hJ:J=j+1:=by rw[<-HJ.out,if_pos (by omega)]
  subst hV hJ;clear HV HJ HN2 HN3;go_wp2;go_ret;exact⟨fL (by first|rfl|omega),hR1,hg1⟩
 by_cases c4:x<190
 ·have hV:V=2147483647+x%3:=by rw[<-HV.out,if_neg c1,if_neg c2,if_neg c3,if_pos c4]
  have hJ:J=j+1:=by rw[<-HJ.out,if_pos (by omega)]
  subst hV hJ;clear HV HJ HN2 HN3;go_wp2;go_ret;exact⟨fL (by first|rfl|omega),hR1,hg1⟩
 have hV:V=(x*16777619+y*65537+z)%4294967296:=by rw[<-HV.out,if_neg c1,if_neg c2,if_neg c3,if_neg c4]
 have hJ:J=j+3:=by rw[<-HJ.out,if_neg (by omega)]
 subst hV hJ;clear HV HJ;go_wp2_with fail;refine(HN2 _ hR1).mono ?_;rintro _ w2⟨rfl,hR2,hg2⟩;go_wp2_with fail;refine(HN3 _ hR2).mono ?_;rintro _ w3⟨rfl,hR3,hg3⟩;go_wp2;go_ret;refine⟨fL ?_,hR3,eU hg1 (eU hg2 hg3)⟩;omega
end Go.Proofs.YtdihdapmphkhpaaGreat
namespace Go.Proofs.YtdihdapmphkhpaaGreat
variable{a b h k l v x:Nat}
structure K where
 kind:Int
 a:Nat
 b:Nat
deriving DecidableEq
def K.zero:K:=⟨0,0,0⟩
def K.ok(c:K):Prop:=(-9223372036854775808<=c.kind∧c.kind<=9223372036854775807)∧c.a<18446744073709551616∧c.b<18446744073709551616
theorem K.lB:K.zero.ok:=⟨⟨by decide,by decide⟩,by decide,by decide⟩
def low(k:Nat):Nat:=2^k-1
def inv(x:Nat):Nat:=18446744073709551615-x
theorem Cy(k:Nat):low k<2^k:=by have:=di k;unfold low;omega
theorem iM(k:Nat):low k+1=2^k:=by have:=di k;unfold low;omega
theorem qZ:low 64=18446744073709551615:=by decide
theorem lU(h:k<=64):low k<=18446744073709551615:=by
 have:=dT (n:=2) (by omega) h;have e:2^64=18446744073709551616:=by decide
 unfold low;omega
theorem Df{i:Nat}(h:low i=low k):i=k:=by
 have h1:=iM i;have h2:=iM k;rw[h]at h1;exact(Nat.pow_right_inj (a:=2) (by omega)).1 (h1.symm.trans h2)
theorem jX(x:Nat):inv x<18446744073709551616:=by unfold inv;omega
theorem inv_inv(h:x<18446744073709551616):inv (inv x)=x:=by unfold inv;omega
theorem lD(k i:Nat):(low k).testBit i=decide (i<k):=Nat.testBit_two_pow_sub_one k i
theorem lI(h:x<18446744073709551616)(i:Nat):(inv x).testBit i=(decide (i<64)&& !x.testBit i):=by
 have e:inv x=2^64-(x+1):=by unfold inv;omega
 rw[e];exact Nat.testBit_two_pow_sub_succ (by omega) i
theorem lv(h:x<18446744073709551616){i:Nat}(hi:64<=i):x.testBit i=false:=by
 apply Nat.testBit_lt_two_pow;exact an (show x<2^64 by omega) (dT (by omega) hi)
theorem jH(x y:Nat):x&&&y=0↔∀i,¬(x.testBit i=true∧y.testBit i=true):=by
 constructor
 ·intro h i⟨h1,h2⟩;have e:(x&&&y).testBit i=true:=by rw[bI,h1,h2];rfl
  rw[h,Nat.zero_testBit]at e;exact absurd e (by decide)
 intro h;apply bu;intro i;rw[bI,Nat.zero_testBit];have:=h i;revert this
 cases x.testBit i<;>cases y.testBit i<;>simp
theorem lZ(x y:Nat):x&&&y=y↔∀i,y.testBit i=true->x.testBit i=true:=by
 constructor
 ·intro h i h1;rw[<-h,bI]at h1;revert h1
  cases x.testBit i<;>simp
 intro h;apply bu;intro i;rw[bI];have:=h i;revert this
 cases x.testBit i<;>cases y.testBit i<;>simp
def iA(x:Nat):Bool:=x&&&((x+1)%18446744073709551616)==0
theorem C0:∀n x:Nat,x<=n->x&&&(x+1)=0->∃k,x=low k
 |0,x,hx,_=>⟨0,(Nat.le_zero.1 hx).trans (by decide)⟩
 |n+1,x,hx,h=>by
  by_cases h0:x=0
  ·exact⟨0,by rw[h0];decide⟩
  by_cases h2:x%2=1
  ·obtain⟨k,hk⟩:=C0 n (x/2) (by omega) (by
   have e:(x&&&(x+1))/2=(x/2)&&&(x/2+1):=by
    rw[Nat.and_div_two]
    congr 1;omega
   rw[<-e,h]);refine⟨k+1,?_⟩;have h3:=iM k;have h4:=iM (k+1);have h5:2^(k+1)=2*2^k:=by rw[dZ];omega
   omega
  exfalso;have e:(x&&&(x+1))/2=(x/2)&&&(x/2):=by
   rw[Nat.and_div_two];congr 1;omega
  rw[h,Nat.and_self]at e;omega
theorem lP  (hx : x < 18446744073709551616) : iA x = true ↔ ∃ k, k <= 64 ∧ x = low k := by
  unfold iA
  rw [beq_iff_eq]
  constructor
  · intro h
    by_cases h1 : x = 18446744073709551615
    · exact ⟨64, by omega, by rw [h1, qZ]⟩
    · rw [cL (by omega)] at h
      obtain ⟨k, hk⟩ := C0 x x (ae _) h
      refine ⟨k, ?_, hk⟩
      rcases de 64 k with h2 | h2
      · exfalso
        have := dT (n := 2) (by omega) (show 65 <= k from h2)
        have e : 2 ^ 65 = 36893488147419103232 := by decide
        have := iM k
        omega
      · exact h2
  · rintro ⟨k, hk, rfl⟩
    by_cases h1 : k = 64
    · subst h1; rw [qZ]; decide
    · have h2 : low k + 1 < 18446744073709551616 := by
        have := cU (a := 2) (by omega) (show k < 64 by omega)
        have e : 2 ^ 64 = 18446744073709551616 := by decide
        rw [iM]; omega
      rw [cL h2, iM, jH]
      rintro i ⟨h3, h4⟩
      rw [lD] at h3
      rw [bW] at h4
      simp at h3 h4
      omega
theorem pU(h:a&&&low k=0):a+low k=a|||low k∧a^^^low k=a|||low k:=by
 have h1:a%2^k=0:=by rw[<-Nat.and_two_pow_sub_one_eq_mod];exact h
 refine⟨(nat_join k a (low k) h1 (Cy k)).symm,?_⟩;apply bu;intro i;have:=(jH _ _).1 h i;rw[dj,cN];revert this
 cases a.testBit i<;>cases(low k).testBit i<;>simp
theorem nV(a b:Nat):a^^^(a^^^b)=b:=by
 rw[<-Nat.xor_assoc,Nat.xor_self,Nat.zero_xor]
theorem pZ(h:a<=b):(b-a=low k∧a&&&low k=0)↔(a^^^b=low k∧a&&&(a^^^b)=0):=by
 constructor
 ·rintro⟨h1,h2⟩;have e:b=a^^^low k:=by rw[(pU h2).2,<-(pU h2).1];omega
  have e2:a^^^b=low k:=by rw[e,nV]
  exact⟨e2,by rw[e2];exact h2⟩
 rintro⟨h1,h2⟩;rw[h1]at h2;have e:b=a^^^low k:=by rw[<-h1,nV]
 rw[(pU h2).2,<-(pU h2).1]at e;exact⟨by omega,h2⟩
def fI(m v:Nat):K:=if m=0 then⟨0,0,0⟩else⟨1,m,v⟩
def eF(l h:Nat):K:=if iA (l^^^h)=true∧l&&&(l^^^h)=0 then fI (inv (l^^^h)) l else⟨2,l,h⟩
def eQ(c:K):K:=if c.kind=1 then fI c.a c.b else if c.kind=2 then eF c.a c.b else⟨0,0,0⟩
def eI(c:K):Bool:=(c.kind==0&&c.a==0&&c.b==0)||(c.kind==1&&c.a|||c.b==c.a)||(c.kind==2&&decide (c.a<=c.b))
def eX(c:K)(v:Nat):Bool:=if c.kind=1 then v&&&c.a==c.b else if c.kind=2 then decide (c.a<=v)&&decide (v<=c.b)else true
theorem mj(h:a<18446744073709551616)(h':b<18446744073709551616):a^^^b<18446744073709551616:=Nat.xor_lt_two_pow (n:=64) h h'
theorem sx(h:a<18446744073709551616):a&&&b<18446744073709551616:=dH Nat.and_le_left h
theorem zu(h:a<18446744073709551616)(h':b<18446744073709551616):a|||b<18446744073709551616:=Nat.or_lt_two_pow (n:=64) h h'
theorem lW(hk:k<=64)(hlh:l<=h)(hh:h<18446744073709551616)(e:h-l=low k)(e2:l&&&low k=0):
 eF l h=if k=64 then⟨0,0,0⟩else⟨1,inv (low k),l⟩:=by
 obtain⟨h1,h2⟩:=(pZ hlh).1 ⟨e,e2⟩;have h3:iA (l^^^h)=true:=(lP (mj (by omega) hh)).2 ⟨k,hk,h1⟩;unfold eF fI;rw[if_pos ⟨h3,h2⟩,h1];by_cases e64:k=64
 ·subst e64;rw[if_pos rfl,if_pos (by rw[qZ];rfl)]
 rw[if_neg e64,if_neg];intro e5;apply e64;have:=lU hk;apply Df;rw[qZ];unfold inv at e5;omega
theorem mT(hlh:l<=h)(hh:h<18446744073709551616)(e:∀k,k<=64->¬(h-l=low k∧l&&&low k=0)):eF l h=⟨2,l,h⟩:=by
 unfold eF;rw[if_neg];rintro⟨h1,h2⟩;obtain⟨k,hk,h3⟩:=(lP (mj (by omega) hh)).1 h1;exact e k hk ((pZ hlh).2 ⟨h3,h2⟩)
theorem kJ(h:a|||b=a):∀i,b.testBit i=true->a.testBit i=true:=by
 intro i hi;rw[<-h,cN,hi,Bool.or_true]
theorem ss(ha:a<18446744073709551616)(h:a|||b=a):b&&&inv a=0:=by
 rw[jH];rintro i⟨h1,h2⟩;rw[lI ha,kJ h i h1]at h2;simp at h2
theorem n9(ha:a<18446744073709551616)(h:a|||b=a)(h1:iA (inv a)=true):
 b+inv a=b|||inv a∧b+inv a<18446744073709551616∧eF b (b+inv a)=fI a b:=by
 obtain⟨k,hk,e⟩:=(lP (jX a)).1 h1;have h2:=ss ha h;have hb:b<18446744073709551616:=by
  have:= @Nat.right_le_or a b;omega
 have h3:=pU (by rw[<-e];exact h2:b&&&low k=0);have h4:b+inv a<18446744073709551616:=by rw[e,h3.1];exact zu hb (by rw[<-e];exact jX a)
 refine⟨by rw[e];exact h3.1,h4,?_⟩;obtain⟨h5,h6⟩:=(pZ (a:=b) (b:=b+inv a) (k:=k) (by omega)).1 ⟨by omega,by rw[<-e];exact h2⟩;unfold eF;rw[if_pos ⟨by rw[h5,<-e];exact h1,h6⟩,h5,<-e,inv_inv ha]
theorem DM(v k i:Nat):(v/2^k*2^k).testBit i=(decide (k<=i)&&v.testBit i):=by
 rw[Nat.testBit_mul_two_pow,cY];by_cases h:k<=i
 ·simp[h,Nat.sub_add_cancel h]
 simp[h]
theorem zM(hv:v<18446744073709551616)(hk:k<=64):v&&&inv (low k)=v/2^k*2^k:=by
 apply bu;intro i;have:=lU hk;rw[bI,lI (by omega),lD,DM];by_cases h:i<64
 ·by_cases h1:i<k
  ·simp[h,h1,show¬k<=i by omega]
  simp[h,h1,show k<=i by omega]
 simp[lv hv (show 64<=i by omega)]
theorem Ew(hv:v<18446744073709551616)(hk:k<=64)(ha:a&&&low k=0):(v&&&inv (low k)=a)↔(a<=v∧v<=a+low k):=by
 have h1:a%2^k=0:=by rw[<-Nat.and_two_pow_sub_one_eq_mod];exact ha
 rw[zM hv hk];have h2:=iM k;have hp:=di k;obtain⟨q,hq⟩:∃q,a=2^k*q:=(Nat.dvd_iff_mod_eq_zero.2 h1);generalize 2^k=p at*;constructor
 ·intro h;have h3:=Nat.div_mul_le_self v p;have h4:=Nat.lt_div_mul_add hp (a:=v);omega
 rintro⟨h3,h4⟩;have:v/p=q:=by
  apply Nat.div_eq_of_lt_le
  ·rw[cV];omega
  rw[cT,cV q p];omega
 rw[this,cV,<-hq]
theorem K.gp{c:K}(h:eI c=true):(c=⟨0,0,0⟩)∨(∃a b,c=⟨1,a,b⟩∧a|||b=a)∨(∃a b,c=⟨2,a,b⟩∧a<=b):=by
 obtain⟨k,a,b⟩:=c;simp only[eI,dX,aL,beq_iff_eq,decide_eq_true_eq]at h;rcases h with(⟨⟨rfl,rfl⟩,rfl⟩|⟨rfl,h⟩)|⟨rfl,h⟩
 ·exact .inl rfl
 ·exact .inr (.inl ⟨a,b,rfl,h⟩)
 exact .inr (.inr ⟨a,b,rfl,h⟩)
def fZ(c:K):Prop:=c=⟨0,0,0⟩∨(∃a b,c=⟨1,a,b⟩∧a≠0∧a<18446744073709551616∧a|||b=a)∨
 (∃l h,c=⟨2,l,h⟩∧l<=h∧h<18446744073709551616∧∀k,k<=64->¬(h-l=low k∧l&&&low k=0))
theorem pQ(ha:a<18446744073709551616)(h:a|||b=a):fZ (fI a b):=by
 unfold fI;by_cases h0:a=0
 ·rw[if_pos h0];exact .inl rfl
 rw[if_neg h0];exact .inr (.inl ⟨a,b,rfl,h0,ha,h⟩)
theorem vR(hl:l<18446744073709551616)(hk:k<=64)(h:l&&&low k=0):inv (low k)|||l=inv (low k):=by
 apply bu;intro i;have h0:=lU hk;have h1:=(jH _ _).1 h i;rw[cN,lI (by omega),lD];rw[lD]at h1;by_cases h2:i<64
 ·by_cases h3:i<k
  ·simp[h3]at h1;simp[h3,h1]
  simp[h2,h3]
 simp[lv hl (show 64<=i by omega)]
theorem om(hlh:l<=h)(hh:h<18446744073709551616):fZ (eF l h):=by
 by_cases e:∃k,k<=64∧h-l=low k∧l&&&low k=0
 ·obtain⟨k,hk,e1,e2⟩:=e;rw[lW hk hlh hh e1 e2];by_cases e64:k=64
  ·rw[if_pos e64];exact .inl rfl
  rw[if_neg e64];refine .inr (.inl ⟨_,_,rfl,?_,jX _,vR (by omega) hk e2⟩);intro e5;apply e64;have:=lU hk;apply Df;rw[qZ];unfold inv at e5;omega
 have e':∀k,k<=64->¬(h-l=low k∧l&&&low k=0):=fun k hk hx=>e ⟨k,hk,hx.1,hx.2⟩
 rw[mT hlh hh e'];exact .inr (.inr ⟨l,h,rfl,hlh,hh,e'⟩)
theorem yJ{c:K}(ho:c.ok)(hv:eI c=true):fZ (eQ c):=by
 rcases K.gp hv with rfl|⟨a,b,rfl,h⟩|⟨a,b,rfl,h⟩
 ·exact .inl rfl
 ·exact pQ ho.2.1 h
 exact om h ho.2.2
theorem fZ.ok{c:K}(h:fZ c):c.ok:=by
 rcases h with rfl|⟨a,b,rfl,h0,ha,h⟩|⟨a,b,rfl,h,hb,_⟩
 ·exact K.lB
 ·have:= @Nat.right_le_or a b;exact⟨⟨by simp,by simp⟩,ha,by simp only;omega⟩
 exact⟨⟨by simp,by simp⟩,by simp only;omega,hb⟩
theorem fZ.valid{c:K}(h:fZ c):eI c=true:=by
 rcases h with rfl|⟨a,b,rfl,h0,ha,h⟩|⟨a,b,rfl,h,hb,_⟩
 ·rfl
 ·simp[eI,h]
 simp[eI,h]
theorem fF:eX ⟨1,a,b⟩ v=(v&&&a==b):=rfl
theorem fN:eX ⟨2,a,b⟩ v=(decide (a<=v)&&decide (v<=b)):=rfl
theorem xz:eX ⟨0,0,0⟩ v=true:=rfl
theorem kL(h:a|||b=a):eX (fI a b) v=eX ⟨1,a,b⟩ v:=by
 unfold fI;by_cases h0:a=0
 ·subst h0;have:b=0:=by rw[Nat.zero_or]at h;exact h
  subst this;rw[if_pos rfl,xz,fF,Nat.and_zero];rfl
 rw[if_neg h0]
theorem lY(hlh:l<=h)(hh:h<18446744073709551616)(hv:v<18446744073709551616):eX (eF l h) v=eX ⟨2,l,h⟩ v:=by
 by_cases e:∃k,k<=64∧h-l=low k∧l&&&low k=0
 ·obtain⟨k,hk,e1,e2⟩:=e;have e3:eX (eF l h) v=(v&&&inv (low k)==l):=by
   obtain⟨h1,h2⟩:=(pZ hlh).1 ⟨e1,e2⟩;have h3:iA (l^^^h)=true:=(lP (mj (by omega) hh)).2 ⟨k,hk,h1⟩;unfold eF;rw[if_pos ⟨h3,h2⟩,h1,kL (vR (by omega) hk e2),fF]
  rw[e3,fN];have h4:=Ew hv hk e2;rw[show l+low k=h by omega]at h4;rw[cB,beq_iff_eq,h4];simp
 rw[mT hlh hh fun k hk hx=>e ⟨k,hk,hx.1,hx.2⟩]
theorem tC{c:K}(ho:c.ok)(hv:eI c=true)(h:v<18446744073709551616):eX (eQ c) v=eX c v:=by
 rcases K.gp hv with rfl|⟨a,b,rfl,h1⟩|⟨a,b,rfl,h1⟩
 ·rfl
 ·exact kL h1
 exact lY h1 ho.2.2 h
def jY(a b:K):Prop:=∀v,v<18446744073709551616->eX a v=true->eX b v=true
def jd(c:K):Nat:=if c.kind=1 then c.b else if c.kind=2 then c.a else 0
def gD(c:K):Nat:=if c.kind=1 then c.b|||inv c.a else if c.kind=2 then c.b else 18446744073709551615
theorem gx:v&&&a=b↔∀i,(v.testBit i&&a.testBit i)=b.testBit i:=by
 constructor
 ·rintro rfl i;rw[bI]
 intro h;apply bu;intro i;rw[bI,h]
theorem qH{y:Nat}(h:∀i,x.testBit i=true->y.testBit i=true):x<=y:=by
 have e:x|||y=y:=by
  apply bu;intro i;have:=h i;rw[cN];revert this
  cases x.testBit i<;>cases y.testBit i<;>simp
 rw[<-e];exact Nat.left_le_or
theorem oU(ha:a<18446744073709551616)(h:a|||b=a):
 eX ⟨1,a,b⟩ b=true∧eX ⟨1,a,b⟩ (b|||inv a)=true∧∀v,v<18446744073709551616->eX ⟨1,a,b⟩ v=true->b<=v∧v<=b|||inv a:=by
 have hb:=kJ h;refine⟨?_,?_,fun v hv h1=> ?_⟩
 ·rw[fF,beq_iff_eq,gx];intro i;have:=hb i;revert this
  cases a.testBit i<;>cases b.testBit i<;>simp
 ·rw[fF,beq_iff_eq,gx];intro i;have:=hb i;rw[cN,lI ha];revert this
  cases a.testBit i<;>cases b.testBit i<;>simp
 rw[fF,beq_iff_eq,gx]at h1;constructor
 ·apply qH;intro i hi;have:=h1 i;rw[hi]at this;revert this
  cases v.testBit i<;>simp
 apply qH;intro i hi;have h2:=h1 i;rw[hi]at h2;rw[cN,lI ha,<-h2];have:i<64:=by
  rcases de i 64 with h3|h3
  ·exact h3
  rw[lv hv h3]at hi;exact absurd hi (by decide)
 simp[this]
theorem sY{c:K}(h:fZ c):jd c<18446744073709551616∧gD c<18446744073709551616∧eX c (jd c)=true∧eX c (gD c)=true∧∀v,v<18446744073709551616->eX c v=true->jd c<=v∧v<=gD c:=by
 have ho:=h.ok;rcases h with rfl|⟨a,b,rfl,h0,ha,h⟩|⟨a,b,rfl,h,hb,h2⟩
 ·exact⟨by decide,by decide,rfl,rfl,fun v hv _=>⟨by simp[jd],by simp[gD];omega⟩⟩
 ·exact⟨ho.2.2,zu ho.2.2 (jX _),oU ha h⟩
 refine⟨ho.2.1,hb,?_,?_,fun v hv h1=> ?_⟩
 ·simp[fN,jd,h]
 ·simp[fN,gD,h]
 simpa[fN,jd,gD]using h1
end Go.Proofs.YtdihdapmphkhpaaGreat
