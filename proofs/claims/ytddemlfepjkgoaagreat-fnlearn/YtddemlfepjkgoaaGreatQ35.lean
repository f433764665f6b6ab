import Derived.Test.YtddemlfepjkgoaaGreatQ19
set_option linter.all false
set_option maxRecDepth 200000
set_option maxHeartbeats 16000000
namespace Go.Proofs.YtddemlfepjkgoaaGreat
open Go.RowKit
theorem everyCon_any(r:List K)(a:Option Addr)(cap:Nat)(w:World)(hs:LSrc 3 PK w a r)(ho:okR r)(hn:r.length<=16777216):
 Calls Tryz.prog 100 #[.slice a r.length cap,.func (.func 101) #[] #[]] w fun e w'=>e=.returned (.bool (r.all validK))∧Below w.heap.size w w':=by
 have HC:Hid (∀i w,Calls Tryz.prog 101 #[conV (r.getD i K.zero)] w fun e w'=>e=.returned (.bool (validK (r.getD i K.zero)))∧Below w.heap.size w w'):=fun i w=>isValidCon_any _ w (okR_at ho i)
 have HY:Hid ((∀i,i<r.length->validK (r.getD i K.zero)=true)->r.all validK=true):=fun h=>(all_getD K.zero validK r).2 h
 have HF:Hid (∀i,i<r.length->validK (r.getD i K.zero)=false->r.all validK=false):=fun i hi h=>all_no hi h
 have HP:Hid (∀wr,Below w.heap.size w wr->∀i,i<r.length->∃b o,a=some ⟨b,o,none⟩∧b<wr.heap.size∧PK wr b (o+i*3) (r.getD i K.zero)):=fun wr hB i hi=>(hs.below PK.stays hB).at hi K.zero
 obtain⟨V,hV⟩:∃V,r.all validK=V:=⟨_,rfl⟩;rw[hV]at HY HF⊢;clear hV hs ho;generalize r.length=n at*;go_enter Tryz.func100,Tryz.ntmps100;go_wp2_with fail;go_loopw [9](fun i wr=>∃k:Nat,k<=n∧i=.int .i64 k∧Hid (∀j,j<k->validK (r.getD j K.zero)=true)∧Below w.heap.size w wr)(fun i _=>n-(intOf i).toNat)
 case atStart=>exact⟨0,by omega,rfl,fun j hj=>by omega,Below.refl _ _⟩
 case round=>
  obtain⟨k,hk,rfl,HJ,B⟩:=hrel;by_cases hkn:k<n
  ·obtain⟨b,o,rfl,hlt,c0,c1,c2⟩:=HP.out wr B k hkn;have HC1:Hid (∀w,Calls Tryz.prog 101 #[conV (r.getD k K.zero)] w fun e w'=>e=.returned (.bool (validK (r.getD k K.zero)))∧Below w.heap.size w w'):=HC.out k;have HF1:Hid (validK (r.getD k K.zero)=false->V=false):=HF.out k hkn;have HJ1:Hid (validK (r.getD k K.zero)=true->∀j,j<k+1->validK (r.getD j K.zero)=true):=fun h j hj=>by
    by_cases hjk:j=k
    ·subst hjk;exact h
    exact HJ.out j (by omega)
   have hkn':(k:Int)<(n:Int):=by omega
   generalize r.getD k K.zero=c at*;obtain⟨ck,ca,cb⟩:=c;simp only at c0 c1 c2;simp only[conV]at HC1;generalize validK ⟨ck,ca,cb⟩=Q at*;have B0:Below w.heap.size w (wr.alloc (.cells #[.int .i64 ck,.int .u64 (ca:Int),.int .u64 (cb:Int)] 94)):=B.alloc B.size _;clear HC HF HP HJ;go_wp2_with fail;refine(HC1.out _).mono ?_;rintro _ w1⟨rfl,hb1⟩;have B1:=below_step hb1 B0;clear hb1 c0 c1 c2 B0
   cases Q with
   |false=>
    have hVf:V=false:=HF1.out (by first|rfl|trivial);subst hVf;go_wp2;go_ret;exact⟨rfl,B1⟩
   |true=>
    have HJ2:Hid (∀j,j<k+1->validK (r.getD j K.zero)=true):=HJ1.out (by first|rfl|trivial);go_wp2;go_roundw
    case rel=>exact⟨k+1,by omega,by go_num,HJ2,B1⟩
    case measure=>simp[intOf];omega
  have hk':k=n:=by omega
  subst hk';have hVt:V=true:=HY.out HJ.out;subst hVt;go_wp2;go_ret;exact⟨rfl,B⟩
theorem isValidRule_any(r:List K)(a:Option Addr)(cap:Nat)(w:World)(hs:LSrc 3 PK w a r)(ho:okR r)(hn:r.length<=16777216):
 Calls Tryz.prog 71 #[.agg #[.slice a r.length cap]] w fun e w'=>e=.returned (.bool (validR r))∧Below w.heap.size w w':=by
 have HE:Hid (∀w1,Below w.heap.size w w1->Calls Tryz.prog 100 #[.slice a r.length cap,.func (.func 101) #[] #[]] w1 fun e w'=>e=.returned (.bool (r.all validK))∧Below w1.heap.size w1 w'):=fun w1 hb=>everyCon_any r a cap w1 (hs.below PK.stays hb) ho hn
 have B:Below w.heap.size w (w.alloc (.cells #[.slice a r.length cap] 116)):=(Below.refl _ _).alloc (Nat.le_refl _) _;have HV:Hid (validR r=(r.length==6&&r.all validK)):=rfl;rw[HV.out];clear hs ho HV;generalize r.all validK=Q at*;generalize r.length=n at*;by_cases h6:n=6
 ·subst h6;go_enter Tryz.func71,Tryz.ntmps71;go_wp2_with fail;refine(HE.out _ B).mono ?_;rintro _ w1⟨rfl,hb1⟩;have B1:=below_step hb1 B;go_wp2;go_ret;exact⟨by simp,B1⟩
 have e6:((n:Int)==6)=false:=by rw[beq_eq_false_iff_ne];omega
 have e6':(n==6)=false:=by rw[beq_eq_false_iff_ne];exact h6
 rw[e6',Bool.false_and];clear HE h6 e6';go_enter Tryz.func71,Tryz.ntmps71;go_wp2;go_ret;exact⟨by simp,B⟩
theorem everyRule_any(l:List (List K))(a:Option Addr)(cap:Nat)(w:World)(hs:LSrc 1 PR w a l)(ho:okRs l)(hn:l.length<=16777216)(hm:∀r∈l,r.length<=16777216):
 Calls Tryz.prog 70 #[.slice a l.length cap,.func (.func 71) #[] #[]] w fun e w'=>e=.returned (.bool (l.all validR))∧Below w.heap.size w w':=by
 have HSm:Hid (∀i,(l.getD i []).length<=16777216):=fun i=>by
  by_cases hi:i<l.length
  ·exact hm _ (rule_mem hi)
  rw[List.getD_eq_getElem?_getD,List.getElem?_eq_none (by omega)];simp
 have HC:Hid (∀i a cap w,LSrc 3 PK w a (l.getD i [])->Calls Tryz.prog 71 #[.agg #[.slice a (l.getD i []).length cap]] w fun e w'=>e=.returned (.bool (validR (l.getD i [])))∧Below w.heap.size w w'):=fun i a cap w h=>isValidRule_any _ a cap w h (okRs_at ho i) (HSm.out i)
 have HY:Hid ((∀i,i<l.length->validR (l.getD i [])=true)->l.all validR=true):=fun h=>(all_getD [] validR l).2 h
 have HF:Hid (∀i,i<l.length->validR (l.getD i [])=false->l.all validR=false):=fun i hi h=>all_no hi h
 have HP:Hid (∀wr,Below w.heap.size w wr->∀i,i<l.length->∃b o,a=some ⟨b,o,none⟩∧b<wr.heap.size∧PR wr b (o+i*1) (l.getD i [])):=fun wr hB i hi=>(hs.below PR.stays hB).at hi []
 obtain⟨V,hV⟩:∃V,l.all validR=V:=⟨_,rfl⟩;rw[hV]at HY HF⊢;clear hV hs ho hm;generalize l.length=n at*;go_enter Tryz.func70,Tryz.ntmps70;go_wp2_with fail;go_loopw [9](fun i wr=>∃k:Nat,k<=n∧i=.int .i64 k∧Hid (∀j,j<k->validR (l.getD j [])=true)∧Below w.heap.size w wr)(fun i _=>n-(intOf i).toNat)
 case atStart=>exact⟨0,by omega,rfl,fun j hj=>by omega,Below.refl _ _⟩
 case round=>
  obtain⟨k,hk,rfl,HJ,B⟩:=hrel;by_cases hkn:k<n
  ·obtain⟨b,o,rfl,hlt,a2,cap2,r0,hsr⟩:=HP.out wr B k hkn;have B0:Below wr.heap.size wr (wr.alloc (.cells #[.slice a2 (l.getD k []).length cap2] 116)):=(Below.refl _ _).alloc (Nat.le_refl _) _;have HC1:Hid (Calls Tryz.prog 71 #[.agg #[.slice a2 (l.getD k []).length cap2]] (wr.alloc (.cells #[.slice a2 (l.getD k []).length cap2] 116)) fun e w'=>e=.returned (.bool (validR (l.getD k [])))∧Below (wr.alloc (.cells #[.slice a2 (l.getD k []).length cap2] 116)).heap.size (wr.alloc (.cells #[.slice a2 (l.getD k []).length cap2] 116)) w'):=HC.out k a2 cap2 _ (hsr.below PK.stays B0);have HF1:Hid (validR (l.getD k [])=false->V=false):=HF.out k hkn;have HJ1:Hid (validR (l.getD k [])=true->∀j,j<k+1->validR (l.getD j [])=true):=fun h j hj=>by
    by_cases hjk:j=k
    ·subst hjk;exact h
    exact HJ.out j (by omega)
   have hkn':(k:Int)<(n:Int):=by omega
   rw[Nat.mul_one]at r0;have hsm:=HSm.out k;generalize validR (l.getD k [])=Q at*;generalize(l.getD k []).length=len2 at*;have B2:=below_step B0 B;clear HC HF HP HJ hsr B0;go_wp2_with fail;refine(HC1.out).mono ?_;rintro _ w1⟨rfl,hb1⟩;have B1:=below_step hb1 B2;clear hb1 r0 B2
   cases Q with
   |false=>
    have hVf:V=false:=HF1.out (by first|rfl|trivial);subst hVf;go_wp2;go_ret;exact⟨rfl,B1⟩
   |true=>
    have HJ2:Hid (∀j,j<k+1->validR (l.getD j [])=true):=HJ1.out (by first|rfl|trivial);go_wp2;go_roundw
    case rel=>exact⟨k+1,by omega,by go_num,HJ2,B1⟩
    case measure=>simp[intOf];omega
  have hk':k=n:=by omega
  subst hk';have hVt:V=true:=HY.out HJ.out;subst hVt;go_wp2;go_ret;exact⟨rfl,B⟩
theorem isValidEntry_any(e:E)(a:Option Addr)(cap:Nat)(w:World)(hs:LSrc 1 PR w a e.rules)(ho:okRs e.rules)(hn:e.rules.length<=16777216)(hm:∀r∈e.rules,r.length<=16777216):
 Calls Tryz.prog 34 #[.agg #[.int .u32 e.arch,.int .u32 e.nr,.slice a e.rules.length cap]] w fun x w'=>x=.returned (.bool (validE e))∧Below w.heap.size w w':=by
 have HE:Hid (∀w1,Below w.heap.size w w1->Calls Tryz.prog 70 #[.slice a e.rules.length cap,.func (.func 71) #[] #[]] w1 fun x w'=>x=.returned (.bool (e.rules.all validR))∧Below w1.heap.size w1 w'):=fun w1 hb=>everyRule_any e.rules a cap w1 (hs.below PR.stays hb) ho hn hm
 have HV:Hid (validE e=(decide (1<=e.rules.length)&&decide (e.rules.length<=200)&&e.rules.all validR)):=rfl;rw[HV.out];obtain⟨arch,nr,rules⟩:=e;simp only at*;have B:Below w.heap.size w (w.alloc (.cells #[.int .u32 arch,.int .u32 nr,.slice a rules.length cap] 78)):=(Below.refl _ _).alloc (Nat.le_refl _) _;clear hs ho hm HV;generalize rules.all validR=Q at*;generalize rules.length=n at*;by_cases h1:1<=n
 ·have h1':(1:Int)<=(n:Int):=by omega
  by_cases h2:n<=200
  ·have h2':(n:Int)<=200:=by omega
   have e1:(decide (1<=n)&&decide (n<=200)&&Q)=Q:=by simp[h1,h2]
   rw[e1];clear e1 h1 h2;go_enter Tryz.func34,Tryz.ntmps34;go_wp2_with fail;refine(HE.out _ B).mono ?_;rintro _ w1⟨rfl,hb1⟩;have B1:=below_step hb1 B;go_wp2;go_ret;exact⟨rfl,B1⟩
  have h2':¬(n:Int)<=200:=by omega
  have e1:(decide (1<=n)&&decide (n<=200)&&Q)=false:=by simp[h2]
  rw[e1];clear e1 h1 h2 HE;go_enter Tryz.func34,Tryz.ntmps34;go_wp2;go_ret;exact⟨rfl,B⟩
 have h1':¬(1:Int)<=(n:Int):=by omega
 have e1:(decide (1<=n)&&decide (n<=200)&&Q)=false:=by simp[h1]
 rw[e1];clear e1 h1 HE;go_enter Tryz.func34,Tryz.ntmps34;go_wp2;go_ret;exact⟨rfl,B⟩
def or2(x y:Int):Int:=if x≠0 then x else y
def get2(x y:Int)(j:Nat):Int:=if j=0 then x else y
theorem cmpOr2_any (g : Nat) (x y : Int) (w : World) (c : ∀ j, j < 2 -> w.cell? ⟨g, j, none⟩ = some (.int .i64 (get2 x y j))) :
    Calls Tryz.prog 58 #[.slice (some ⟨g, 0, none⟩) 2 2] w fun e w' => e = .returned (.int .i64 (or2 x y)) ∧ w' = w := by
  have HC : Hid (∀ j, j < 2 -> w.cell? ⟨g, j, none⟩ = some (.int .i64 (get2 x y j))) := c
  have H1 : Hid (∀ j, j < 2 -> (∀ i, i < j -> get2 x y i = 0) -> get2 x y j ≠ 0 -> or2 x y = get2 x y j) := by
    intro j hj h0 h1
    have : j = 0 ∨ j = 1 := by omega
    rcases this with rfl | rfl
    · simp only [get2, if_true] at h1 ⊢; unfold or2; rw [if_pos h1]
    · have a0 := h0 0 (by omega)
      simp [get2] at h1 a0 ⊢; unfold or2; rw [if_neg (by omega)]
  have H2 : Hid ((∀ i, i < 2 -> get2 x y i = 0) -> or2 x y = 0) := by
    intro h0
    have a0 := h0 0 (by omega)
    have a1 := h0 1 (by omega)
    simp [get2] at a0 a1; unfold or2; rw [if_neg (by omega), a1]
  generalize or2 x y = R at *
  generalize get2 x y = G at *
  clear c
  go_enter Tryz.func58, Tryz.ntmps58
  go_wp2_with fail
  go_loopw [8] (fun i wr => ∃ j : Nat, j <= 2 ∧ i = .int .i64 j ∧ wr = w ∧ Hid (∀ i, i < j -> G i = 0)) (fun i _ => 2 - (intOf i).toNat)
  case atStart => exact ⟨0, by omega, rfl, rfl, fun i hi => by omega⟩
  case round =>
    obtain ⟨j, hj, rfl, rfl, HJ⟩ := hrel
    by_cases hlt : j < 2
    · have c0 := HC.out j hlt
      by_cases hq : G j = 0
      · have HJ2 : Hid (∀ i, i < j + 1 -> G i = 0) := by
          intro i hi
          by_cases e : i = j
          · rw [e]; exact hq
          · exact HJ.out i (by omega)
        rw [hq] at c0
        clear HC H1 H2 HJ hq
        go_wp2
        go_roundw
        case rel => exact ⟨j + 1, by omega, by go_num, trivial, HJ2⟩
        case measure => simp [intOf]; omega
      · have E : Hid (R = G j) := H1.out j hlt HJ.out hq
        have hq' : (G j != 0) = true := by simpa using hq
        clear HC H1 H2 HJ
        generalize G j = q at *
        go_wp2
        go_ret
        exact ⟨ret_int E.out.symm, rfl⟩
    · have E : Hid (R = 0) := H2.out (fun i hi => HJ.out i (by omega))
      clear HC H1 H2 HJ
      go_wp2
      go_ret
      exact ⟨ret_int E.out.symm, rfl⟩
theorem cell_alloc_keep{W:World}{a:Addr}{v:Value}(o:Obj)(h:W.cell? a=some v):(W.alloc o).cell? a=some v:=by
 rw[World.cell?_alloc_lt _ _ _ (cell_ltK h)];exact h
theorem bef_or2(a b:E):befE a b=decide (or2 (ordI a.arch b.arch) (ordI a.nr b.nr)<0):=by
 unfold befE or2;rcases Int.lt_trichotomy a.arch b.arch with h|h|h
 ·rw[ordI_neg h];simp[h]
 ·rw[ordI_same h];rcases Int.lt_trichotomy a.nr b.nr with h2|h2|h2
  ·rw[ordI_neg h2];simp[h,h2]
  ·rw[ordI_same h2];simp[h,h2]
  rw[ordI_pos h2];simp[h];omega
 rw[ordI_pos h];simp;omega
theorem comesBefore_any(arch nr arch' nr':Int)(a a':Option Addr)(n cap n' cap':Nat)(w:World)(h1:0<=arch∧arch<=4294967295)(h2:0<=nr∧nr<=4294967295)(h3:0<=arch'∧arch'<=4294967295)(h4:0<=nr'∧nr'<=4294967295):
 Calls Tryz.prog 33 #[.agg #[.int .u32 arch,.int .u32 nr,.slice a n cap],.agg #[.int .u32 arch',.int .u32 nr',.slice a' n' cap']] w fun e w'=>e=.returned (.bool (decide (or2 (ordI arch arch') (ordI nr nr')<0)))∧Below w.heap.size w w':=by
 have HA:Hid (∀x y w,(0<=x∧x<=4294967295)->(0<=y∧y<=4294967295)->Calls Tryz.prog 59 #[.int .u32 x,.int .u32 y] w fun e w'=>e=.returned (.int .i64 (ordI x y))∧w'=w):=fun x y w hx hy=>cmp32_any x y w hx hy
 obtain⟨R,hR⟩:∃R,or2 (ordI arch arch') (ordI nr nr')=R:=⟨_,rfl⟩
 have HR:Hid (or2 (ordI arch arch') (ordI nr nr')=R):=hR
 rw[hR]
 clear hR
 go_enter Tryz.func33,Tryz.ntmps33
 go_wp2_with fail
 have X:=(BoxK.new w 78 (.int .u32 arch) (.int .u32 nr) (.slice a n cap)).alloc (.cells #[.int .u32 arch',.int .u32 nr',.slice a' n' cap'] 78)
 have Y:=BoxK.new (w.alloc (.cells #[.int .u32 arch,.int .u32 nr,.slice a n cap] 78)) 78 (.int .u32 arch') (.int .u32 nr') (.slice a' n' cap')
 have hsz:(w.alloc (.cells #[.int .u32 arch,.int .u32 nr,.slice a n cap] 78)).heap.size=w.heap.size+1:=by simp
 have B0:Below w.heap.size w ((w.alloc (.cells #[.int .u32 arch,.int .u32 nr,.slice a n cap] 78)).alloc (.cells #[.int .u32 arch',.int .u32 nr',.slice a' n' cap'] 78)):=((Below.refl _ _).alloc (Nat.le_refl _) _).alloc (by simp) _
 rw[hsz]at Y
 generalize((w.alloc (.cells #[.int .u32 arch,.int .u32 nr,.slice a n cap] 78)).alloc (.cells #[.int .u32 arch',.int .u32 nr',.slice a' n' cap'] 78))=W at*
 clear hsz
 obtain⟨_,x0,x1,x2,_,_,_⟩:=X
 obtain⟨_,y0,y1,y2,_,_,_⟩:=Y
 have HS0:Below W.heap.size W W.drew:=(Below.refl _ _).drew
 have HOr:Hid (∀w1:World,Calls Tryz.prog 58 #[.slice (some ⟨w1.heap.size,0,none⟩) 2 2] (w1.alloc (.cells #[.int .i64 (ordI arch arch'),.int .i64 (ordI nr nr')] 3)).drew fun e w'=>e=.returned (.int .i64 R)∧w'=(w1.alloc (.cells #[.int .i64 (ordI arch arch'),.int .i64 (ordI nr nr')] 3)).drew):=by
  intro w1
  rw[<-HR.out]
  refine cmpOr2_any w1.heap.size _ _ _ (fun j hj=> ?_)
  have:j=0∨j=1:=by omega
  rcases this with rfl|rfl<;>simp[get2]
 go_region_held3(fun w'=>Below W.heap.size W w'∧w'.cell? ⟨w.heap.size,0,none⟩=some (.int .u32 arch)∧w'.cell? ⟨w.heap.size,1,none⟩=some (.int .u32 nr)∧w'.cell? ⟨w.heap.size+1,0,none⟩=some (.int .u32 arch')∧w'.cell? ⟨w.heap.size+1,1,none⟩=some (.int .u32 nr'))
  (refine⟨?_,?_,?_,?_,?_⟩<;>first|assumption|exact Below.alloc (by assumption) (Below.size (by assumption)) _|exact cell_alloc_keep _ (by assumption)|(simp[*];done))
  (first
   |(go_at_call 59;refine(HA.out _ _ _ (by assumption) (by assumption)).mono ?_;rintro e w'⟨rfl,rfl⟩)
   |(go_at_call 58;refine(HOr.out _).mono ?_;rintro e w'⟨rfl,rfl⟩))
 have B1:Below w.heap.size w ((W.alloc (.cells #[.int .i64 (ordI arch arch'),.int .i64 (ordI nr nr')] 3)).drew):=(B0.alloc B0.size _).drew
 go_wp2
 go_ret
 exact⟨rfl,B1⟩
theorem implValidP_any(p:List E)(a:Option Addr)(cap:Nat)(w:World)(hs:LSrc 3 PE w a p)(ho:okP p)(hn:p.length<=16777216)(hm:∀e∈p,e.rules.length<=16777216)(hm2:∀e∈p,∀r∈e.rules,r.length<=16777216):
 Calls Tryz.prog 7 #[.agg #[.slice a p.length cap]] w fun e w'=>e=.returned (.bool (validP p))∧Below w.heap.size w w':=by
 have B:Below w.heap.size w (w.alloc (.cells #[.slice a p.length cap] 30)):=(Below.refl _ _).alloc (Nat.le_refl _) _
 have HP:Hid (∀wr,Below w.heap.size w wr->∀i,i<p.length->∃b o,a=some ⟨b,o,none⟩∧b<wr.heap.size∧PE wr b (o+i*3) (p.getD i E.zero)):=fun wr hB i hi=>(hs.below PE.stays hB).at hi E.zero
 have HNo:Hid (∀i,i<p.length->stepOk p i=false->validP p=false):=fun i hi h=>validP_no hi h
 have HYes:Hid ((∀i,i<p.length->stepOk p i=true)->validP p=decide (totalR p<=1000)):=fun h=>validP_yes h
 have HOk0:Hid (∀i,okRs (p.getD i E.zero).rules):=fun i=>(okP_at ho i).2.2
 have HSm0:Hid (∀i,i<p.length->(p.getD i E.zero).rules.length<=16777216∧∀r∈(p.getD i E.zero).rules,r.length<=16777216):=fun i hi=>⟨hm _ (entry_mem hi),hm2 _ (entry_mem hi)⟩
 have HSt:Hid (∀i,stepOk p i=((i==0||befE (p.getD (i-1) E.zero) (p.getD i E.zero))&&validE (p.getD i E.zero))):=fun i=>rfl
 have HBd:Hid (∀i,(0<=(p.getD i E.zero).arch∧(p.getD i E.zero).arch<=4294967295)∧(0<=(p.getD i E.zero).nr∧(p.getD i E.zero).nr<=4294967295)):=fun i=>⟨(okP_at ho i).1,(okP_at ho i).2.1⟩
 have HT:Hid (∀i,i<p.length->totalR (p.take (i+1))=totalR (p.take i)+(p.getD i E.zero).rules.length):=fun i hi=>totalR_take hi
 have HA:Hid (totalR (p.take p.length)=totalR p):=by show _=_;rw[List.take_length]
 have HL:Hid (∀i,i<p.length->totalR (p.take i)+(p.getD i E.zero).rules.length<=281474976710656):=fun i hi=>by
  rw[<-totalR_take hi]
  have:=totalR_le (p:=p.take (i+1)) (fun e he=>hm e (List.mem_of_mem_take he))
  have h2:(p.take (i+1)).length<=p.length:=by simp;omega
  omega
 have HTl:Hid (totalR p<=281474976710656):=by have:=totalR_le hm;unfold Hid;omega
 have x0:=box1 w 30 (.slice a p.length cap)
 obtain⟨V,hV⟩:∃V,validP p=V:=⟨_,rfl⟩
 rw[hV]at HNo HYes⊢
 clear hV hs hm hm2 ho
 generalize totalR p=tt at*
 generalize p.length=n at*
 go_enter Tryz.func7,Tryz.ntmps7
 go_wp2_with fail
 go_loopw [3,9](fun q i wr=>∃k:Nat,k<=n∧i=.int .i64 k∧q=.int .i64 (totalR (p.take k):Nat)∧Hid (∀j,j<k->stepOk p j=true)∧wr.cell? ⟨w.heap.size,0,none⟩=some (.slice a n cap)∧Below w.heap.size w wr)(fun _ i _=>n-(intOf i).toNat)
 case atStart=>exact⟨0,by omega,rfl,by simp[totalR],fun j hj=>by omega,x0,B⟩
 case round=>
  clear B x0
  obtain⟨k,hk,rfl,rfl,HJ0,x0,B⟩:=hrel
  rename World=>W0
  by_cases hkn:k<n
  ·have hkn':(k:Int)<(n:Int):=by omega
   have HStep1:Hid (stepOk p k=true->∀j,j<k+1->stepOk p j=true):=fun h j hj=>by
    by_cases hjk:j=k
    ·subst hjk;exact h
    ·exact HJ0.out j (by omega)
   have HNo1:Hid (stepOk p k=false->V=false):=HNo.out k hkn
   have hl:=HL.out k hkn
   have HT1:Hid (totalR (p.take (k+1))=totalR (p.take k)+(p.getD k E.zero).rules.length):=HT.out k hkn
   have HStk:=HSt.out k
   obtain⟨hsm1,hsm2⟩:=HSm0.out k hkn
   have hokk:=HOk0.out k
   obtain⟨b,o,rfl,hlt,c0,c1,ar,capr,c2,hsr⟩:=HP.out W0 B k hkn
   obtain⟨hb1,hb2⟩:=HBd.out k
   generalize totalR (p.take k)=T0 at*
   generalize p.getD k E.zero=e at*
   obtain⟨arch,nr,rules⟩:=e
   simp only at c0 c1 c2 hsr hb1 hb2 hsm1 hsm2 hokk HT1 hl
   have HIV:Hid (∀w1,Below W0.heap.size W0 w1->Calls Tryz.prog 34 #[.agg #[.int .u32 arch,.int .u32 nr,.slice ar rules.length capr]] w1 fun x w'=>x=.returned (.bool (validE ⟨arch,nr,rules⟩))∧Below w1.heap.size w1 w'):=fun w1 hb=>isValidEntry_any ⟨arch,nr,rules⟩ ar capr w1 (hsr.below PR.stays hb) hokk hsm1 hsm2
   clear hsr hokk hsm2
   generalize hQ:validE ⟨arch,nr,rules⟩=Q at*
   generalize rules.length=m at*
   have BE:Below W0.heap.size W0 (W0.alloc (.cells #[.int .u32 arch,.int .u32 nr,.slice ar m capr] 78)):=(Below.refl _ _).alloc (Nat.le_refl _) _
   have Xe:=(BoxK.new W0 78 (.int .u32 arch) (.int .u32 nr) (.slice ar m capr))
   have y0:=cell_step BE x0
   have hnx:=World.new_ne W0 _ x0
   by_cases hk0:k=0
   ·have hz:decide ((0:Int)<(k:Int))=false:=decide_eq_false (by omega)
    have hkb:(k==0)=true:=by rw[beq_iff_eq];exact hk0
    rw[hkb,Bool.true_or,Bool.true_and]at HStk
    have hzn:decide (0<k)=false:=decide_eq_false (by omega)
    clear hz hk0 hkb HP HNo HYes HOk0 HSm0 HSt HBd HT HA HL HTl HJ0
    go_wp2_with fail
    have hzm:decide (0<k)=false:=hzn
    have HBq:Hid (∀q,Below W0.heap.size W0 ((W0.alloc (.cells #[.int .u32 arch,.int .u32 nr,.slice ar m capr] 78)).drewN q)):=fun q=>below_drewN BE q
    have HXq:Hid (∀q,BoxK ((W0.alloc (.cells #[.int .u32 arch,.int .u32 nr,.slice ar m capr] 78)).drewN q) W0.heap.size (.int .u32 arch) (.int .u32 nr) (.slice ar m capr)):=fun q=>Xe.keep (below_drewN (Below.refl _ _) q)
    have Hxq:Hid (∀q,((W0.alloc (.cells #[.int .u32 arch,.int .u32 nr,.slice ar m capr] 78)).drewN q).cell? ⟨w.heap.size,0,none⟩=some (.slice (some ⟨b,o,none⟩) n cap)):=fun q=>cell_step (below_drewN (Below.refl _ _) q) y0
    clear BE Xe y0
    go_quiet(fail)
    go_wp2_with fail
    refine(HIV.out _ (HBq.out _)).mono ?_
    rintro _ w6⟨rfl,hb6⟩
    have X6:=(HXq.out _).keep hb6
    have x6:=cell_step hb6 (Hxq.out _)
    have B6:=below_step (below_step hb6 (HBq.out _)) B
    clear hb6 HBq HXq Hxq HIV
    cases Q with
    |false=>
     have hVf:V=false:=HNo1.out HStk
     subst hVf
     go_wp2
     go_ret
     exact⟨rfl,B6⟩
    |true=>
     have HG:Hid (∀j,j<k+1->stepOk p j=true):=HStep1.out HStk
     obtain⟨_,e0,e1,e2,_,_,_⟩:=X6
     go_wp2
     go_roundw
     case rel=>exact⟨k+1,by omega,by go_num,by rw[HT1.out];simp,HG,x6,B6⟩
     case measure=>simp[intOf];omega
   ·have hz:decide ((0:Int)<(k:Int))=true:=decide_eq_true (by omega)
    have hz':(0:Int)<(k:Int):=by omega
    have hw1:IntKind.i64.wrap ((k:Int)-1)=((k-1:Nat):Int):=by simp[IntKind.wrap,IntKind.bits,IntKind.signed];omega
    have hk1:((k-1:Nat):Int)<(n:Int):=by omega
    have hk2:k-1<n:=by omega
    have hkb:(k==0)=false:=by rw[beq_eq_false_iff_ne];exact hk0
    rw[hkb,Bool.false_or]at HStk
    obtain⟨b',o',hbo,_,d0,d1,ar',capr',d2,_⟩:=HP.out W0 B (k-1) (by omega)
    cases hbo
    obtain⟨hb3,hb4⟩:=HBd.out (k-1)
    generalize p.getD (k-1) E.zero=d at*
    obtain⟨arch',nr',rules'⟩:=d
    simp only at d0 d1 d2 hb3 hb4
    generalize rules'.length=m' at*
    have HBf:Hid (befE ⟨arch',nr',rules'⟩ ⟨arch,nr,rules⟩=decide (or2 (ordI arch' arch) (ordI nr' nr)<0)):=bef_or2 _ _
    rw[HBf.out]at HStk
    have HCB:Hid (∀w1,Calls Tryz.prog 33 #[.agg #[.int .u32 arch',.int .u32 nr',.slice ar' m' capr'],.agg #[.int .u32 arch,.int .u32 nr,.slice ar m capr]] w1 fun e w'=>e=.returned (.bool (decide (or2 (ordI arch' arch) (ordI nr' nr)<0)))∧Below w1.heap.size w1 w'):=fun w1=>comesBefore_any arch' nr' arch nr ar' ar m' capr' m capr w1 hb3 hb4 hb1 hb2
    generalize decide (or2 (ordI arch' arch) (ordI nr' nr)<0)=P at*
    have SK:Hid (∀wa wb,Below wa.heap.size wa wb->(Below W0.heap.size W0 wa∧wa.cell? ⟨w.heap.size,0,none⟩=some (.slice (some ⟨b,o,none⟩) n cap)∧wa.cell? ⟨b,o+(k-1)*3,none⟩=some (.int .u32 arch')∧wa.cell? ⟨b,o+(k-1)*3+1,none⟩=some (.int .u32 nr')∧wa.cell? ⟨b,o+(k-1)*3+2,none⟩=some (.slice ar' m' capr')∧wa.cell? ⟨W0.heap.size,0,none⟩=some (.int .u32 arch)∧wa.cell? ⟨W0.heap.size,1,none⟩=some (.int .u32 nr)∧wa.cell? ⟨W0.heap.size,2,none⟩=some (.slice ar m capr))->(Below W0.heap.size W0 wb∧wb.cell? ⟨w.heap.size,0,none⟩=some (.slice (some ⟨b,o,none⟩) n cap)∧wb.cell? ⟨b,o+(k-1)*3,none⟩=some (.int .u32 arch')∧wb.cell? ⟨b,o+(k-1)*3+1,none⟩=some (.int .u32 nr')∧wb.cell? ⟨b,o+(k-1)*3+2,none⟩=some (.slice ar' m' capr')∧wb.cell? ⟨W0.heap.size,0,none⟩=some (.int .u32 arch)∧wb.cell? ⟨W0.heap.size,1,none⟩=some (.int .u32 nr)∧wb.cell? ⟨W0.heap.size,2,none⟩=some (.slice ar m capr))):=fun wa wb hb⟨s,s0,s1,s2,s3,s4,s5,s6⟩=>
     ⟨below_step hb s,cell_step hb s0,cell_step hb s1,cell_step hb s2,cell_step hb s3,cell_step hb s4,cell_step hb s5,cell_step hb s6⟩
    have hS0:Below W0.heap.size W0 (W0.alloc (.cells #[.int .u32 arch,.int .u32 nr,.slice ar m capr] 78)).drew∧(W0.alloc (.cells #[.int .u32 arch,.int .u32 nr,.slice ar m capr] 78)).drew.cell? ⟨w.heap.size,0,none⟩=some (.slice (some ⟨b,o,none⟩) n cap)∧(W0.alloc (.cells #[.int .u32 arch,.int .u32 nr,.slice ar m capr] 78)).drew.cell? ⟨b,o+(k-1)*3,none⟩=some (.int .u32 arch')∧(W0.alloc (.cells #[.int .u32 arch,.int .u32 nr,.slice ar m capr] 78)).drew.cell? ⟨b,o+(k-1)*3+1,none⟩=some (.int .u32 nr')∧(W0.alloc (.cells #[.int .u32 arch,.int .u32 nr,.slice ar m capr] 78)).drew.cell? ⟨b,o+(k-1)*3+2,none⟩=some (.slice ar' m' capr')∧(W0.alloc (.cells #[.int .u32 arch,.int .u32 nr,.slice ar m capr] 78)).drew.cell? ⟨W0.heap.size,0,none⟩=some (.int .u32 arch)∧(W0.alloc (.cells #[.int .u32 arch,.int .u32 nr,.slice ar m capr] 78)).drew.cell? ⟨W0.heap.size,1,none⟩=some (.int .u32 nr)∧(W0.alloc (.cells #[.int .u32 arch,.int .u32 nr,.slice ar m capr] 78)).drew.cell? ⟨W0.heap.size,2,none⟩=some (.slice ar m capr):=by
     obtain⟨_,f0,f1,f2,_,_,_⟩:=Xe
     have hd:Below (W0.alloc (.cells #[.int .u32 arch,.int .u32 nr,.slice ar m capr] 78)).heap.size (W0.alloc (.cells #[.int .u32 arch,.int .u32 nr,.slice ar m capr] 78)) (W0.alloc (.cells #[.int .u32 arch,.int .u32 nr,.slice ar m capr] 78)).drew:=(Below.refl _ _).drew
     exact SK.out _ _ hd ⟨BE,y0,cell_step BE d0,cell_step BE d1,cell_step BE d2,f0,f1,f2⟩
    have hkp:0<k:=by omega
    clear hz hz' hk0 hkb HP HNo HYes HOk0 HSm0 HSt HBd HT HA HL HTl HJ0 HBf d0 d1 d2 Xe
    go_wp2_with fail
    have hzm:decide (0<k)=true:=decide_eq_true hkp
    go_region_held3(fun w'=>Below W0.heap.size W0 w'∧w'.cell? ⟨w.heap.size,0,none⟩=some (.slice (some ⟨b,o,none⟩) n cap)∧w'.cell? ⟨b,o+(k-1)*3,none⟩=some (.int .u32 arch')∧w'.cell? ⟨b,o+(k-1)*3+1,none⟩=some (.int .u32 nr')∧w'.cell? ⟨b,o+(k-1)*3+2,none⟩=some (.slice ar' m' capr')∧w'.cell? ⟨W0.heap.size,0,none⟩=some (.int .u32 arch)∧w'.cell? ⟨W0.heap.size,1,none⟩=some (.int .u32 nr)∧w'.cell? ⟨W0.heap.size,2,none⟩=some (.slice ar m capr))
     (assumption)
     ((go_at_call 33;refine(HCB.out _).mono ?_;rintro e wq⟨rfl,hbq⟩;have hS1:=SK.out _ _ hbq (by assumption)))
    cases P with
    |false=>
     have hVf:V=false:=HNo1.out (by rw[HStk];simp)
     subst hVf
     have B6:=below_step hS1.1 B
     go_wp2
     go_ret
     exact⟨rfl,B6⟩
    |true=>
     rw[Bool.true_and]at HStk
     obtain⟨Bq,xq,_,_,_,e0,e1,e2⟩:=hS1
     clear hS0 SK HCB
     go_wp2_with fail
     refine(HIV.out _ Bq).mono ?_
     rintro _ w6⟨rfl,hb6⟩
     have f0:=cell_step hb6 e0
     have f1:=cell_step hb6 e1
     have f2:=cell_step hb6 e2
     have x6:=cell_step hb6 xq
     have B6:=below_step (below_step hb6 Bq) B
     clear hb6 xq Bq e0 e1 e2 HIV
     cases Q with
     |false=>
      have hVf:V=false:=HNo1.out HStk
      subst hVf
      go_wp2
      go_ret
      exact⟨rfl,B6⟩
     |true=>
      have HG:Hid (∀j,j<k+1->stepOk p j=true):=HStep1.out HStk
      go_wp2
      go_roundw
      case rel=>exact⟨k+1,by omega,by go_num,by rw[HT1.out];simp,HG,x6,B6⟩
      case measure=>simp[intOf];omega
  ·have hk':k=n:=by omega
   subst hk'
   have hV:=HYes.out HJ0.out
   subst hV
   have htl:=HTl.out
   have hA:=HA.out
   rw[hA]
   clear HYes HNo HP
   go_wp2
   go_ret
   refine⟨?_,B⟩
   simp;omega
end Go.Proofs.YtddemlfepjkgoaaGreat
