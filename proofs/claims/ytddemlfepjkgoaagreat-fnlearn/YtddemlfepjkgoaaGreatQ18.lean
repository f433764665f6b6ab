import Derived.Sort.QuietIn
import Derived.Test.YtddemlfepjkgoaaGreatQ13
import Derived.Test.YtddemlfepjkgoaaGreatQ17
set_option linter.all false
set_option maxRecDepth 200000
set_option maxHeartbeats 16000000
namespace Go.Proofs.YtddemlfepjkgoaaGreat
open Go.RowKit Go.Deep
theorem l4rules_any(t:List C)(a:Option Addr)(cap:Nat)(ex sp f:Int)(w:World)(hs:CSrc w a t)(hc:∀c∈t,okLa c.args)(hn:t.length<=1000)(hf:0<=f∧f<=2):
 Calls Tryz.prog 44 #[.slice a t.length cap,.agg #[.int .i64 ex,.int .i64 sp,.int .i64 f]] w fun e w'=>∃rs,IsRules (t.map C.args) ex sp f rs∧RulP rs w e w':=by
 by_cases h:(t.length:Int)<=ex
 ·refine(l4rules_few t a cap ex sp f w hs hc hn h).mono ?_;intro e w' hp;exact⟨_,by unfold IsRules;rw[List.length_map,if_pos h],hp⟩
 exact l4rules_many t a cap ex sp f w hs hc hn h hf
def knobsB(ex sp f:Int):Bool:=decide (0<=ex∧ex<=200∧0<=sp∧sp<=200∧0<=f∧f<=2)
theorem l4knobsOK_any(ex sp f:Int)(w:World):Calls Tryz.prog 17 #[.agg #[.int .i64 ex,.int .i64 sp,.int .i64 f]] w fun e w'=>e=.returned (.bool (knobsB ex sp f))∧Below w.heap.size w w':=by
 have B:Below w.heap.size w (w.alloc (.cells #[.int .i64 ex,.int .i64 sp,.int .i64 f] 25)):=(Below.refl _ _).alloc (Nat.le_refl _) _;obtain⟨K,hK⟩:∃K,knobsB ex sp f=K:=⟨_,rfl⟩;rw[hK];have HN:Hid (¬(0<=ex∧ex<=200∧0<=sp∧sp<=200∧0<=f∧f<=2)->K=false):=fun h=>hK▸decide_eq_false h
 have HY:Hid (0<=ex->ex<=200->0<=sp->sp<=200->0<=f->f<=2->K=true):=fun a b c d e g=>hK▸decide_eq_true ⟨a,b,c,d,e,g⟩
 clear hK;by_cases h1:0<=ex
 ·by_cases h2:ex<=200
  ·by_cases h3:0<=sp
   ·by_cases h4:sp<=200
    ·by_cases h5:0<=f
     ·by_cases h6:f<=2
      ·obtain rfl:=HY.out h1 h2 h3 h4 h5 h6;clear HN HY;go_enter Tryz.func17,Tryz.ntmps17;go_wp2;go_ret;exact⟨by first|rfl|simp,B⟩
      obtain rfl:=HN.out (fun g=>h6 g.2.2.2.2.2);clear HN HY;go_enter Tryz.func17,Tryz.ntmps17;go_wp2;go_ret;exact⟨by first|rfl|simp,B⟩
     obtain rfl:=HN.out (fun g=>h5 g.2.2.2.2.1);clear HN HY;go_enter Tryz.func17,Tryz.ntmps17;go_wp2;go_ret;exact⟨by first|rfl|simp,B⟩
    obtain rfl:=HN.out (fun g=>h4 g.2.2.2.1);clear HN HY;go_enter Tryz.func17,Tryz.ntmps17;go_wp2;go_ret;exact⟨by first|rfl|simp,B⟩
   obtain rfl:=HN.out (fun g=>h3 g.2.2.1);clear HN HY;go_enter Tryz.func17,Tryz.ntmps17;go_wp2;go_ret;exact⟨by first|rfl|simp,B⟩
  obtain rfl:=HN.out (fun g=>h2 g.2.1);clear HN HY;go_enter Tryz.func17,Tryz.ntmps17;go_wp2;go_ret;exact⟨by first|rfl|simp,B⟩
 obtain rfl:=HN.out (fun g=>h1 g.1);clear HN HY;go_enter Tryz.func17,Tryz.ntmps17;go_wp2;go_ret;exact⟨by first|rfl|simp,B⟩
def callsB(cs:List C):Bool:=decide (cs.length<=1000∧∀c∈cs,c.args.length=6)
theorem l2callsOK_any (cs : List C) (a : Option Addr) (cap : Nat) (w : World) (hs : CSrc w a cs) (hn : cs.length <= 1048576) (hm : ∀ c ∈ cs, c.args.length <= 1048576) :
    Calls Tryz.prog 18 #[.slice a cs.length cap] w fun e w' => e = .returned (.bool (callsB cs)) ∧ Below w.heap.size w w' := by
  obtain ⟨K, hK⟩ : ∃ K, callsB cs = K := ⟨_, rfl⟩
  rw [hK]
  have HN1 : Hid (¬ cs.length <= 1000 -> K = false) := fun h => hK ▸ decide_eq_false (fun g => h g.1)
  have HN2 : Hid (∀ k, k < cs.length -> (cs.getD k C.zero).args.length ≠ 6 -> K = false) := fun k hk h => hK ▸ decide_eq_false (fun g => h (g.2 _ (callL_mem hk)))
  have HY : Hid (cs.length <= 1000 -> (∀ k, k < cs.length -> (cs.getD k C.zero).args.length = 6) -> K = true) := fun h h' => hK ▸ decide_eq_true ⟨h, fun c hc => by
    obtain ⟨i, hi, rfl⟩ := List.getElem_of_mem hc
    have := h' i hi
    rwa [List.getD_eq_getElem?_getD, List.getElem?_eq_getElem hi] at this⟩
  have HC : Hid (∀ i, i < cs.length -> ∃ b o a' c', a = some ⟨b, o, none⟩ ∧ w.cell? ⟨b, o + i * 3 + 2, none⟩ = some (.slice a' (cs.getD i C.zero).args.length c')) := fun i hi => by
    obtain ⟨b, o, h1, _, _, _, a', c', h2, _⟩ := hs.at i hi
    exact ⟨b, o, a', c', h1, h2⟩
  have HLn : Hid (∀ i, i < cs.length -> (cs.getD i C.zero).args.length <= 1048576) := fun i hi => hm _ (callL_mem hi)
  obtain ⟨fl, hfl⟩ : ∃ fl : Nat -> Nat, ∀ i, (cs.getD i C.zero).args.length = fl i := ⟨_, fun _ => rfl⟩
  simp only [hfl] at HN2 HY HC HLn
  clear hfl hs hm hK
  generalize cs.length = n at *
  have B0 : Below w.heap.size w w := Below.refl _ _
  by_cases h1 : n <= 1000
  · have h1' : ¬ (1000 : Int) < (n : Int) := by omega
    have HY' : Hid ((∀ k, k < n -> fl k = 6) -> K = true) := HY.out h1
    clear HN1 HY
    go_enter Tryz.func18, Tryz.ntmps18
    go_wp2_with fail
    go_loopw [3] (fun i wr => ∃ k : Nat, k <= n ∧ i = .int .i64 k ∧ wr = w ∧ Hid (∀ j, j < k -> fl j = 6)) (fun i _ => n - (intOf i).toNat)
    case atStart => exact ⟨0, by omega, rfl, rfl, fun j hj => by omega⟩
    case round =>
      obtain ⟨k, hk, rfl, hw, HJ⟩ := hrel
      subst hw
      by_cases hkn : k < n
      · have hkn' : (k : Int) < (n : Int) := by omega
        obtain ⟨b, o, a', c', rfl, c2⟩ := HC.out k hkn
        have hl := HLn.out k hkn
        by_cases h6 : fl k = 6
        · have HJ2 : Hid (∀ j, j < k + 1 -> fl j = 6) := fun j hj => by
            by_cases e : j = k
            · rw [e]; exact h6
            · exact HJ.out j (by omega)
          rw [h6] at c2
          clear HJ HC HN2 HY' HLn h6
          go_wp2
          go_roundw
          case rel => exact ⟨k + 1, by omega, by go_num, by first | rfl | trivial, HJ2⟩
          case measure => simp [intOf]; omega
        · obtain rfl := HN2.out k hkn h6
          have h6' : ((fl k : Int) != 6) = true := by rw [bne_iff_ne]; omega
          clear HJ HC HN2 HY' HLn
          go_wp2
          go_ret
          exact ⟨rfl, B0⟩
      · have hk' : k = n := by omega
        subst hk'
        obtain rfl := HY'.out HJ.out
        clear HJ HC HN2 HY' HLn
        go_wp2
        go_ret
        exact ⟨rfl, B0⟩
  · obtain rfl := HN1.out h1
    have h1' : (1000 : Int) < (n : Int) := by omega
    clear HN1 HN2 HY HC HLn
    go_enter Tryz.func18, Tryz.ntmps18
    go_wp2
    go_ret
    exact ⟨rfl, B0⟩
theorem isFormL_any(f:Int)(w:World):Calls Tryz.prog 45 #[.int .i64 f] w fun e w'=>e=.returned (.bool (decide (0<=f∧f<=2)))∧w'=w:=by
 obtain⟨K,hK⟩:∃K,decide (0<=f∧f<=2)=K:=⟨_,rfl⟩;rw[hK];have HY:Hid (0<=f->f<=2->K=true):=fun h1 h2=>hK▸decide_eq_true ⟨h1,h2⟩
 have HN:Hid (¬(0<=f∧f<=2)->K=false):=fun h=>hK▸decide_eq_false h
 clear hK;by_cases h0:f=0
 ·subst h0;obtain rfl:=HY.out (by omega) (by omega);clear HY HN;go_enter Tryz.func45,Tryz.ntmps45;go_wp2;go_ret;exact⟨rfl,rfl⟩
 have g0:(f==0)=false:=by simpa using h0
 by_cases h1:f=1
 ·subst h1;obtain rfl:=HY.out (by omega) (by omega);clear HY HN h0 g0;go_enter Tryz.func45,Tryz.ntmps45;go_wp2;go_ret;exact⟨rfl,rfl⟩
 have g1:(f==1)=false:=by simpa using h1
 by_cases h2:f=2
 ·subst h2;obtain rfl:=HY.out (by omega) (by omega);clear HY HN h0 g0 h1 g1;go_enter Tryz.func45,Tryz.ntmps45;go_wp2;go_ret;exact⟨rfl,rfl⟩
 have g2:(f==2)=false:=by simpa using h2
 obtain rfl:=HN.out (by omega);clear HY HN;go_enter Tryz.func45,Tryz.ntmps45;go_wp2;go_ret;exact⟨by first|rfl|simp,rfl⟩
theorem areValidKnobs_any(ex sp f:Int)(w:World):Calls Tryz.prog 20 #[.agg #[.int .i64 ex,.int .i64 sp,.int .i64 f]] w fun e w'=>e=.returned (.bool (knobsB ex sp f))∧Below w.heap.size w w':=by
 have B:Below w.heap.size w (w.alloc (.cells #[.int .i64 ex,.int .i64 sp,.int .i64 f] 25)):=(Below.refl _ _).alloc (Nat.le_refl _) _;obtain⟨K,hK⟩:∃K,knobsB ex sp f=K:=⟨_,rfl⟩;rw[hK];have HN:Hid (¬(0<=ex∧ex<=200∧0<=sp∧sp<=200)->K=false):=fun h=>hK▸decide_eq_false (fun g=>h ⟨g.1,g.2.1,g.2.2.1,g.2.2.2.1⟩)
 have HY:Hid (0<=ex->ex<=200->0<=sp->sp<=200->decide (0<=f∧f<=2)=K):=fun a b c d=>by
  rw[<-hK];unfold knobsB;simp[a,b,c,d]
 have HF:Hid (∀w1,Calls Tryz.prog 45 #[.int .i64 f] w1 fun e w'=>e=.returned (.bool (decide (0<=f∧f<=2)))∧w'=w1):=isFormL_any f;clear hK;by_cases h1:0<=ex
 ·by_cases h2:ex<=200
  ·by_cases h3:0<=sp
   ·by_cases h4:sp<=200
    ·have hKf:=HY.out h1 h2 h3 h4;have HF2:Hid (∀w1,Calls Tryz.prog 45 #[.int .i64 f] w1 fun e w'=>e=.returned (.bool K)∧w'=w1):=by rw[<-hKf];exact HF.out
     clear HN HY HF hKf;go_enter Tryz.func20,Tryz.ntmps20;go_wp2_with fail;refine(HF2.out _).mono ?_;rintro _ w1⟨rfl,rfl⟩;go_wp2;go_ret;exact⟨by first|rfl|simp,B⟩
    obtain rfl:=HN.out (fun g=>h4 g.2.2.2);clear HN HY HF;go_enter Tryz.func20,Tryz.ntmps20;go_wp2;go_ret;exact⟨by first|rfl|simp,B⟩
   obtain rfl:=HN.out (fun g=>h3 g.2.2.1);clear HN HY HF;go_enter Tryz.func20,Tryz.ntmps20;go_wp2;go_ret;exact⟨by first|rfl|simp,B⟩
  obtain rfl:=HN.out (fun g=>h2 g.2.1);clear HN HY HF;go_enter Tryz.func20,Tryz.ntmps20;go_wp2;go_ret;exact⟨by first|rfl|simp,B⟩
 obtain rfl:=HN.out (fun g=>h1 g.1);clear HN HY HF;go_enter Tryz.func20,Tryz.ntmps20;go_wp2;go_ret;exact⟨by first|rfl|simp,B⟩
theorem isValidCall_any(ar nr:Int)(a:Option Addr)(n cap:Nat)(w:World)(hn:n<=1048576):Calls Tryz.prog 22 #[.agg #[.int .u32 ar,.int .u32 nr,.slice a n cap]] w fun e w'=>e=.returned (.bool (decide (n=6)))∧Below w.heap.size w w':=by
 have B:Below w.heap.size w (w.alloc (.cells #[.int .u32 ar,.int .u32 nr,.slice a n cap] 39)):=(Below.refl _ _).alloc (Nat.le_refl _) _;by_cases h:n=6
 ·subst h;go_enter Tryz.func22,Tryz.ntmps22;go_wp2;go_ret;exact⟨by first|rfl|simp,B⟩
 have g:((n:Int)==6)=false:=by rw[beq_eq_false_iff_ne];omega
 rw[decide_eq_false h];go_enter Tryz.func22,Tryz.ntmps22;go_wp2;go_ret;exact⟨by first|rfl|simp,B⟩
theorem everyCall_any(cs:List C)(a:Option Addr)(cap:Nat)(w:World)(hs:CSrc w a cs)(hn:cs.length<=1048576)(hm:∀c∈cs,c.args.length<=1048576):
 Calls Tryz.prog 21 #[.slice a cs.length cap,.func (.func 22) #[] #[]] w fun e w'=>e=.returned (.bool (decide (∀c∈cs,c.args.length=6)))∧Below w.heap.size w w':=by
 obtain⟨V,hV⟩:∃V,decide (∀c∈cs,c.args.length=6)=V:=⟨_,rfl⟩;rw[hV];have HF:Hid (∀i,i<cs.length->(cs.getD i C.zero).args.length≠6->V=false):=fun i hi h=>hV▸decide_eq_false (fun g=>h (g _ (callL_mem hi)))
 have HY:Hid ((∀i,i<cs.length->(cs.getD i C.zero).args.length=6)->V=true):=fun h=>hV▸decide_eq_true (fun c hc=>by
  obtain⟨i,hi,rfl⟩:=List.getElem_of_mem hc
  have:=h i hi
  rwa [List.getD_eq_getElem?_getD,List.getElem?_eq_getElem hi]at this)
 have HP:Hid (∀wr,Below w.heap.size w wr->∀i,i<cs.length->∃b o a' c',a=some ⟨b,o,none⟩∧wr.cell? ⟨b,o+i*3,none⟩=some (.int .u32 (cs.getD i C.zero).arch)∧wr.cell? ⟨b,o+i*3+1,none⟩=some (.int .u32 (cs.getD i C.zero).nr)∧wr.cell? ⟨b,o+i*3+2,none⟩=some (.slice a' (cs.getD i C.zero).args.length c')):=fun wr hb i hi=>by
  obtain⟨b,o,h1,_,h2,h3,a',c',h4,_⟩:=(hs.below hb).at i hi;exact⟨b,o,a',c',h1,h2,h3,h4⟩
 have HLn:Hid (∀i,i<cs.length->(cs.getD i C.zero).args.length<=1048576):=fun i hi=>hm _ (callL_mem hi)
 obtain⟨fl,hfl⟩:∃fl:Nat->Nat,∀i,(cs.getD i C.zero).args.length=fl i:=⟨_,fun _=>rfl⟩;simp only[hfl]at HF HY HP HLn;obtain⟨fc,hfc⟩:∃fc:Nat->C,∀i,cs.getD i C.zero=fc i:=⟨_,fun _=>rfl⟩;simp only[hfc]at HP;have HC:Hid (∀ar nr a n cap w,n<=1048576->Calls Tryz.prog 22 #[.agg #[.int .u32 ar,.int .u32 nr,.slice a n cap]] w fun e w'=>e=.returned (.bool (decide (n=6)))∧Below w.heap.size w w'):=isValidCall_any;clear hV hs hm hfl hfc;generalize cs.length=n at*;go_enter Tryz.func21,Tryz.ntmps21;go_wp2_with fail;go_loopw [9](fun i wr=>∃k:Nat,k<=n∧i=.int .i64 k∧Hid (∀j,j<k->fl j=6)∧Below w.heap.size w wr)(fun i _=>n-(intOf i).toNat)
 case atStart=>exact⟨0,by omega,rfl,fun j hj=>by omega,Below.refl _ _⟩
 case round=>
  obtain⟨k,hk,rfl,HJ,B⟩:=hrel;rename World=>wr
  by_cases hkn:k<n
  ·obtain⟨b,o,a',c',rfl,c0,c1,c2⟩:=HP.out wr B k hkn;have hl:=HLn.out k hkn;have HF1:Hid (fl k≠6->V=false):=HF.out k hkn;have HJ1:Hid (fl k=6->∀j,j<k+1->fl j=6):=fun h j hj=>by
    by_cases hjk:j=k
    ·subst hjk;exact h
    exact HJ.out j (by omega)
   have hkn':(k:Int)<(n:Int):=by omega
   generalize(fc k).arch=ar at*;generalize(fc k).nr=nr at*;generalize fl k=m at*;have B0:Below w.heap.size w (wr.alloc (.cells #[.int .u32 ar,.int .u32 nr,.slice a' m c'] 39)):=B.alloc B.size _;clear HF HP HJ HLn;go_wp2_with fail;refine(HC.out _ _ _ _ _ _ hl).mono ?_;rintro _ w1⟨rfl,hb1⟩;have B1:=below_step hb1 B0;clear hb1 c0 c1 c2 B0;by_cases h6:m=6
   ·have HJ2:Hid _:=HJ1.out h6;rw[decide_eq_true h6];go_wp2;go_roundw
    case rel=>exact⟨k+1,by omega,by go_num,HJ2,B1⟩
    case measure=>simp[intOf];omega
   obtain rfl:=HF1.out h6;rw[decide_eq_false h6];go_wp2;go_ret;exact⟨rfl,B1⟩
  have hk':k=n:=by omega
  subst hk';obtain rfl:=HY.out HJ.out;clear HF HP HJ HLn HC;go_wp2;go_ret;exact⟨rfl,B⟩
def PA(w:World)(b o:Nat)(x:La):Prop:=∀q,q<6->w.cell? ⟨b,o+q,none⟩=some (.int .u64 (x.getD q 0))
theorem PA.stays:Stays PA:=fun w w' b o x hlt hb h q hq=>(hb.cell (p:=⟨b,_,none⟩) hlt).trans (h q hq)
theorem six_cells(w:World)(x:La)(t:TypeId){j:Nat}(hj:j<6):(w.alloc (.cells #[.int .u64 (x.getD 0 0),.int .u64 (x.getD 1 0),.int .u64 (x.getD 2 0),.int .u64 (x.getD 3 0),.int .u64 (x.getD 4 0),.int .u64 (x.getD 5 0)] t)).cell? ⟨w.heap.size,j,none⟩=some (.int .u64 (x.getD j 0)):=by
 rcases(by omega:j=0∨j=1∨j=2∨j=3∨j=4∨j=5)with rfl|rfl|rfl|rfl|rfl|rfl<;>simp
theorem take_col{l:List La}{k:Nat}(h:k<l.length)(j:Nat):(l.take (k+1)).map (fun a=>a.getD j 0)=(l.take k).map (fun a=>a.getD j 0)++[(l.getD k []).getD j 0]:=by
 have e:l.getD k []=l[k]:=by rw[List.getD_eq_getElem?_getD,List.getElem?_eq_getElem h];rfl
 rw[e,List.take_add_one,List.map_append,List.getElem?_eq_getElem h];rfl
theorem valuesAt_any(l:List La)(a:Option Addr)(cap j:Nat)(w:World)(hs:LSrc 6 PA w a l)(hj:j<6)(hn:l.length<=1000):
 Calls Tryz.prog 64 #[.slice a l.length cap,.int .i64 (j:Int)] w fun e w'=>∃v,e=.returned v∧ownsU w' w.heap.size v (l.map fun x=>x.getD j 0)∧Below w.heap.size w w':=by
 obtain⟨i0,hi,hz0,hz1,hz2⟩:=info_parts info61;have HP:Hid (∀wr,Below w.heap.size w wr->∀i,i<l.length->∃b o,a=some ⟨b,o,none⟩∧PA wr b (o+i*6) (l.getD i [])):=fun wr hB i hi=>by
  obtain⟨b,o,h1,_,h2⟩:=(hs.below PA.stays hB).at hi [];exact⟨b,o,h1,h2⟩
 have HT:Hid (∀k,k<l.length->(l.take (k+1)).map (fun a=>a.getD j 0)=(l.take k).map (fun a=>a.getD j 0)++[(l.getD k []).getD j 0]):=fun k hk=>take_col hk j
 have HE:Hid ((l.take l.length).map (fun a=>a.getD j 0)=l.map fun x=>x.getD j 0):=by unfold Hid;rw[List.take_length]
 have HL:Hid (∀k,((l.take k).map (fun a=>a.getD j 0)).length<=1000):=fun k=>by rw[List.length_map,List.length_take];omega
 have H0:(l.take 0).map (fun a=>a.getD j 0)=[]:=rfl;generalize(l.map fun x=>x.getD j 0)=RES at*;obtain⟨A,hA⟩:∃A:Nat->List Int,∀k,(l.take k).map (fun a=>a.getD j 0)=A k:=⟨_,fun _=>rfl⟩;simp only[hA]at HT HE HL H0;clear hA hs;obtain⟨fx,hfx⟩:∃fx:Nat->La,∀i,l.getD i []=fx i:=⟨_,fun _=>rfl⟩;simp only[hfx]at HP HT;clear hfx;generalize l.length=n at*;have hj6:(j:Int)<6:=by omega
 go_enter Tryz.func64,Tryz.ntmps64;go_wp2_with fail;go_loopw [5,10](fun s' i wr=>∃(k:Nat)(s:Value),s=s'∧k<=n∧i=.int .i64 k∧ownsU wr w.heap.size s (A k)∧Below w.heap.size w wr)(fun _ i _=>n-(intOf i).toNat)
 case atStart=>exact⟨0,_,rfl,by omega,rfl,by rw[H0];exact World.ownsRow_nil _ _ _ _,Below.refl _ _⟩
 case round=>
  clear H0;obtain⟨k,s,hss,hk,rfl,O,B⟩:=hrel;subst hss;rename World=>wr
  obtain⟨au,cu,rfl,_⟩:=ownsU_src O;by_cases hkn:k<n
  ·obtain⟨b,o,rfl,hx⟩:=HP.out wr B k hkn;have hkn':(k:Int)<(n:Int):=by omega
   have HS:=HT.out k hkn;have hl:=HL.out k;have d0:=hx 0 (by omega);rw[Nat.add_zero]at d0;have d1:=hx 1 (by omega);have d2:=hx 2 (by omega);have d3:=hx 3 (by omega);have d4:=hx 4 (by omega);have d5:=hx 5 (by omega);have hX:=six_cells wr (fx k) 71 hj;have B2:Below wr.heap.size wr (wr.alloc (.cells #[.int .u64 ((fx k).getD 0 0),.int .u64 ((fx k).getD 1 0),.int .u64 ((fx k).getD 2 0),.int .u64 ((fx k).getD 3 0),.int .u64 ((fx k).getD 4 0),.int .u64 ((fx k).getD 5 0)] 71)):=(Below.refl _ _).alloc (Nat.le_refl _) _;have hbm:(A k).length+1<=maxLen:=by unfold maxLen;omega
   have hbd:((A k).length+1)*8<=140737488355328:=by omega
   have HS':Hid _:=HS;clear HP HT HL HE hx HS;generalize(fx k).getD j 0=y at*;generalize(fx k).getD 0 0=x0 at*;generalize(fx k).getD 1 0=x1 at*;generalize(fx k).getD 2 0=x2 at*;generalize(fx k).getD 3 0=x3 at*;generalize(fx k).getD 4 0=x4 at*;generalize(fx k).getD 5 0=x5 at*;go_upto_region 5 with fail
   have O2:=ownsU_below O B2;have B3:=B.trans (B2.mono B.size);clear O B B2 d0 d1 d2 d3 d4 d5;generalize hW2:wr.alloc (.cells #[.int .u64 x0,.int .u64 x1,.int .u64 x2,.int .u64 x3,.int .u64 x4,.int .u64 x5] 71)=W2 at*;clear hW2;generalize wr.heap.size=G at*;have hbs:w.heap.size<=(W2.alloc (.cells #[.int .u64 y] 69)).heap.size:=by have:=B3.size;simp;omega
   go_wp2_with(at_builtin;refine wpList_append_own _ rfl (.tmp 14) (.tmp 18) 37 rfl w.heap.size 69 i0 (.int .u64 0) 1 8 Tryz.underlying37 hi hz0 hz1 hz2 rfl (by decide) (.slice au (A k).length cu) (A k).length ((A k).map (Value.int .u64)) rfl (World.ownsRow.alloc O2 _) ⟨W2.heap.size,0,none⟩ 1 1 [.int .u64 y] rfl rfl (World.news_of_block (t:=69) (fr:=(0,0)) (heap_alloc_new W2 _)) (by simp[Value.oneCell']) hbm hbd hbs ?_);intro v9 w9 ow gr _;have o9:ownsU w9 w.heap.size v9 (A (k+1)):=by rw[HS'.out,ownsU,List.length_append,List.map_append];exact ow
   have B9:Below w.heap.size w w9:=(B3.alloc B3.size _).grown gr hbs (fun q hq=>(World.ownsRow.lt O2 q hq).1);clear ow gr O2 B3 hX HS';go_wp2;go_roundw
   case rel=>exact⟨k+1,_,rfl,by omega,by go_num,o9,B9⟩
   case measure=>simp[intOf];omega
  have hk':k=n:=by omega
  subst hk';have O9:ownsU wr w.heap.size (.slice au (A k).length cu) RES:=by rw[<-HE.out];exact O
  clear HP HT HL HE;go_wp2;go_ret;exact⟨_,rfl,O9,B⟩
end Go.Proofs.YtddemlfepjkgoaaGreat
namespace Go.Proofs.YtddemlfepjkgoaaGreat
open Go.RowKit Go.Shelf
set_option linter.unusedSimpArgs false
attribute [local go_sem]Oper.semAt_some
theorem chunk1_in(n:Nat)(hn:1<=n)(l Bs Bn n₀ b o len cap:Nat)(h1:len<=1000)(hcap:len<=cap)(hBs:Bs<n₀)(hBn:Bn<n₀)(J Jx:List Nat->World->Prop)
 (hY:∀pre x W,J pre W->pre.length<len->YieldAt Fence.wide (n-1) Tryz.prog l #[chV b o x] W fun e W'=>
  (e=.returned (.bool true)∧J (pre++[x]) W'∧KpS n₀ W W')∨(e=.returned (.bool false)∧Jx (pre++[x]) W'))
 (W:World)(hJ:AbidesFrom W.heap.size J)(c0:W.cell? ⟨Bs,0,none⟩=some (.slice (some ⟨b,o,none⟩) len cap))(c1:W.cell? ⟨Bn,0,none⟩=some (.int .i64 1))(h0:J [] W):
 CallsIn Fence.wide n Tryz.prog 94 #[.func (.yield l) #[] #[],.pointer (some ⟨Bs,0,none⟩),.pointer (some ⟨Bn,0,none⟩)] W fun e W'=>(∃v,e=.returned v)∧
  ((∃ys,ys=List.range len∧J ys W')∨(∃pre,True∧Jx pre W')):=by
 have HC:Hid (∀wr,Below n₀ W wr->wr.cell? ⟨Bs,0,none⟩=some (.slice (some ⟨b,o,none⟩) len cap)∧wr.cell? ⟨Bn,0,none⟩=some (.int .i64 1)):=fun wr h=>⟨(h.cell (p:=⟨Bs,0,none⟩) hBs).trans c0,(h.cell (p:=⟨Bn,0,none⟩) hBn).trans c1⟩
 clear c0 c1
 have HD:Hid (∀s A nq,J s A->J s (A.drewN nq)):=fun s A nq h=>hJ s A _ none h ⟨rfl,rfl,rfl,Nat.le_refl _,fun _ _ _=>rfl⟩ (fun r e=>by cases e)
 refine callsIn_of_wp Tryz.func94 rfl trivial ?_ rfl
 simp only[Tryz.ntmps94,List.size_toArray,List.length_cons,List.length_nil,Nat.reduceAdd,Nat.reduceSub,Array.replicate_succ,Array.replicate_zero,List.push_toArray,List.append_toArray,List.nil_append,List.cons_append]
 gi_wp2
 gi_loopw [4](fun i wr=>∃k:Nat,k<=len∧i=.int .i64 k∧J (List.range k) wr∧Below n₀ W wr)(fun i _=>len-(intOf i).toNat)
 case atStart=>exact⟨0,Nat.zero_le _,rfl,h0,Below.refl _ _⟩
 case round=>
  obtain⟨k,hk,rfl,hJs,hB⟩:=hrel
  obtain⟨c0,c1⟩:=HC.out wr hB
  by_cases hlt:k<len
  ·have hlt':(k:Int)<(len:Int):=by omega
   have hk1:k<=len:=by omega
   have hk2:(k:Int)<=(len:Int):=by omega
   have hk3:k<=cap:=by omega
   have hk4:(k:Int)<=(cap:Int):=by omega
   gi_wp2
   gi_quiet(fail)
   have hmin:min (1:Int) ((len-k:Nat):Int)=1:=by omega
   simp only[hmin]
   have hJ2:=HD.out _ _ nq hJs
   have hB2:Below n₀ W (wr.drewN nq):=⟨hB.os,hB.tape,hB.output,hB.size,hB.block⟩
   clear hB hJs c0 c1
   generalize wr.drewN nq=W2 at*
   obtain⟨c0,c1⟩:=HC.out W2 hB2
   obtain⟨fn,tmps,assign,body,hy,hR⟩:=hY _ k W2 hJ2 (by simp;exact hlt)
   dsimp only[chV]at hy
   have hs1:k+1<=len:=by omega
   have hs2:k+1<=cap:=by omega
   have hs3:((k:Int)+1)<=(cap:Int):=by omega
   have hs4:k+1-k=1:=by omega
   clear hY
   gi_wp2
   refine hR.mono ?_
   rintro e W3(⟨rfl,hJ4,hk4⟩|⟨rfl,hJx4⟩)
   ·have hB3:=hB2.trans hk4.1
    obtain⟨c0',c1'⟩:=HC.out W3 hB3
    gi_wp2
    go_roundw
    case rel=>exact⟨k+1,by omega,by go_num,by rw[List.range_succ];exact hJ4,hB3⟩
    case measure=>simp[intOf];omega
   ·gi_wp2
    refine bodyPost_ret (results_none rfl _ _ _) rfl ?_
    exact⟨⟨_,rfl⟩,.inr ⟨_,trivial,hJx4⟩⟩
  ·obtain rfl:k=len:=by omega
   have hlt':¬(k:Int)<(k:Int):=by omega
   clear HC HD
   gi_wp2
   go_end0
   exact⟨⟨_,rfl⟩,.inl hJs⟩
theorem chunk_stops(n:Nat)(hn:1<=n)(Bs Bn n₀ b o len cap:Nat)(h1:len<=1000)(hcap:len<=cap)(hBs:Bs<n₀)(hBn:Bn<n₀)(w:World)(hBs':Bs<w.heap.size)(hBn':Bn<w.heap.size)(c0:w.cell? ⟨Bs,0,none⟩=some (.slice (some ⟨b,o,none⟩) len cap))(c1:w.cell? ⟨Bn,0,none⟩=some (.int .i64 1)):
 SeqStopsK Fence.wide n Tryz.prog 94 #[.pointer (some ⟨Bs,0,none⟩),.pointer (some ⟨Bn,0,none⟩)] (fun x:Nat=> #[chV b o x]) (KpS n₀) (fun ys=>ys=List.range len) (fun _=>True) len w:=fun l J Jx W hW hJ _ hY h0=>
 chunk1_in n hn l Bs Bn n₀ b o len cap h1 hcap hBs hBn J Jx hY W hJ ((hW.cell (p:=⟨Bs,0,none⟩) hBs').trans c0) ((hW.cell (p:=⟨Bn,0,none⟩) hBn').trans c1) h0
theorem chunk_any(a:Option Addr)(len cap:Nat)(w:World):
 Calls Tryz.prog 66 #[.slice a len cap,.int .i64 1] w fun e w'=>e=.returned (.func (.func 94) #[] #[.pointer (some ⟨w.heap.size,0,none⟩),.pointer (some ⟨w.heap.size+1,0,none⟩)])∧w'=(w.alloc (.cells #[.slice a len cap] 66)).alloc (.cells #[.int .i64 1] 3):=by
 go_enter Tryz.func66,Tryz.ntmps66;go_wp2;go_ret;exact⟨rfl,rfl⟩
def PG(w:World)(b o:Nat)(g:List La):Prop:=∃a cap,w.cell? ⟨b,o,none⟩=some (.slice a g.length cap)∧LSrc 6 PA w a g
theorem PG.stays:Stays PG:=fun w w' b o g hlt hb⟨a,cap,h1,h2⟩=>⟨a,cap,(hb.cell (p:=⟨b,o,none⟩) hlt).trans h1,h2.below PA.stays hb⟩
def GrpP(gs:List (List La))(w:World)(e:Ending)(w':World):Prop:=∃a cap,e=.returned (.slice a gs.length cap)∧LSrc 1 PG w' a gs∧Below w.heap.size w w'
theorem chunk_map(b o:Nat):∀l:List Nat,l.flatMap (cLq b o)=l.map (chV b o)
 |[]=>rfl
 |a::r=>by rw[List.flatMap_cons,chunk_map b o r];rfl
theorem chunks_src{t:List La}{b o:Nat}{w w':World}{v:Value}(hs:LSrc 6 PA w (some ⟨b,o,none⟩) t)(hB:Below w.heap.size w w'){B:Nat}(hv:w'.ownsRow B 66 1 v (List.range t.length).length ((List.range t.length).flatMap (cLq b o))):∃a cap,v=.slice a (t.map fun x=>[x]).length cap∧LSrc 1 PG w' a (t.map fun x=>[x]):=by
 have hl:(List.range t.length).length=t.length:=List.length_range;rw[hl]at hv;obtain⟨av,cv,rfl⟩:=form_nil hv;refine⟨av,cv,by rw[List.length_map],?_⟩;rcases hs with rfl|⟨b',o',e,hlt,hA⟩
 ·exact .inl rfl
 cases e;obtain⟨_,⟨h1,h2⟩|⟨g,cap,cur,h1,h2,h3,h4,h5,h6,h7⟩⟩:=hv
 ·left;simpa using h2
 cases h1;refine .inr ⟨g,0,rfl,(Array.getElem?_eq_some_iff.1 h3).1,fun i hi=> ?_⟩;rw[List.length_map]at hi;have hc:w'.cell? ⟨g,0+i*1,none⟩=some (chV b o i):=by
  rw[cell_of_row w' g _ cur _ _ h3,Nat.zero_add,Nat.mul_one,<-Array.getElem?_toList,<-List.getElem?_take_of_lt (show i<t.length*1 by omega),h7];rw[chunk_map,List.getElem?_map,List.getElem?_range hi];rfl
 rw[List.getElem_map];refine⟨_,_,hc,.inr ⟨b,o+i*6,rfl,by have:=hB.size;omega,fun j hj=> ?_⟩⟩;obtain rfl:j=0:=by simp at hj;omega
 rw[Nat.zero_mul,Nat.add_zero];exact PA.stays w w' b _ _ hlt hB (hA i hi)
end Go.Proofs.YtddemlfepjkgoaaGreat
